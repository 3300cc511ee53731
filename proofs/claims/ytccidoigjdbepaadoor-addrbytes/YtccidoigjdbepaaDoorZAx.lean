
/- Out of the texts AxA, AxB, AxC. -/
import Derived.Test.YtccidoigjdbepaaDoorMkL
import Derived.Test.YtccidoigjdbepaaDoorZClc
import Derived.Test.YtccidoigjdbepaaDoorClO
import Derived.Test.YtccidoigjdbepaaDoorZHd
/- AxA -/
namespace Go.Proofs.YtccidoigjdbepaaDoor
open Go.RowKit Dec Lin Qd
set_option maxRecDepth 100000
set_option linter.unusedVariables false

/-- An address's text. -/
def txA (v : Int) (l : List UInt8) : List UInt8 := if okA v l then (if v = 6 then Cl.cT l else qT (l.getD 0 0) (l.getD 1 0) (l.getD 2 0) (l.getD 3 0)) else []
theorem four_form (l : List UInt8) (hl : l.length = 16) (h : okA 4 l = true) : ∃ a b c d, l = [a, b, c, d] ++ zb 12 := by
  unfold okA at h
  simp at h
  have e := List.take_append_drop 4 l
  rw [h] at e
  have h4 : (l.take 4).length = 4 := by simp; omega
  obtain ⟨a, b, c, d, h4⟩ := list_four _ h4
  exact ⟨a, b, c, d, by rw [← h4]; exact e.symm⟩
theorem okA6 (l : List UInt8) : okA 6 l = true := by simp [okA]
theorem sizeA6 (l : List UInt8) : sizeA 6 l = 16 := by unfold sizeA; rw [if_pos (okA6 l)]; rfl
theorem txA_no (v : Int) (l : List UInt8) (h : okA v l = false) : txA v l = [] := by unfold txA; rw [if_neg (by rw [h]; decide)]
theorem txA_6 (l : List UInt8) : txA 6 l = Cl.cT l := by unfold txA; rw [if_pos (okA6 l), if_pos rfl]
theorem txA_4 (a b c d : UInt8) : txA 4 ([a, b, c, d] ++ zb 12) = qT a b c d := by unfold txA; rw [if_pos (ok4 a b c d), if_neg (by decide)]; rfl
theorem txA_len (v : Int) (l : List UInt8) (hl : l.length = 16) : (txA v l).length ≤ 100 := by
  cases h : okA v l with
  | false => rw [txA_no v l h]; simp
  | true =>
    rcases okA_v v l h with rfl | rfl
    · obtain ⟨a, b, c, d, rfl⟩ := four_form l hl h
      rw [txA_4]
      have := ds_len a
      have := ds_len b
      have := ds_len c
      have := ds_len d
      simp [qT]
      omega
    · rw [txA_6]
      exact (Cl.ctext l hl).1

set_option maxHeartbeats 1000000 in
theorem text_no (v : Int) (l : List UInt8) (hl : l.length = 16) (hok : okA v l = false) (w : World) :
    Calls Tryd.prog 14 #[.agg (adv v l)] w fun e w' => e = .returned (.string ⟨#[]⟩) ∧ Below w.heap.size w w' := by
  have hs : sizeA v l = 0 := by unfold sizeA; rw [if_neg (by rw [hok]; decide)]
  have HS := size_any v l hl
  rw [hs] at HS
  have H1 := Lib.hid (fun W => HS W)
  have k0 : Blk (w.alloc (.cells (adv v l) 24)) w.heap.size 24 (adv v l) := blk_new _ _ _
  have hb0 : Below w.heap.size w (w.alloc (.cells (adv v l) 24)) := (Below.refl _ _).alloc (Nat.le_refl _) _
  have hz := Adr_size v l hl
  clear hs HS hok hl
  generalize adv v l = X at *
  go_enter Tryd.func14, Tryd.ntmps14
  go_wp2_with (first
    | (refine wpList_loadBlk (g := w.heap.size) (t := 24) (cs := X) ?hw 24 (.tmp 1) ?ho ?hx ?hA _ Tryd.underlying24 rfl ?hi ?_
       case hw => rfl
       case ho => with_reducible rfl
       case hx => rfl
       case hA => exact k0
       case hi => exact hz)
    | fail)
  refine (H1.out _).mono ?_; rintro e w1 ⟨rfl, hb1⟩
  have b1 := Below.on hb0 hb0.size (by exact hb1)
  go_wp2
  go_ret
  exact ⟨rfl, b1⟩
set_option maxHeartbeats 1000000 in
theorem text6_any (l : List UInt8) (hl : l.length = 16) (w : World) :
    Calls Tryd.prog 14 #[.agg (adv 6 l)] w fun e w' => e = .returned (sv (Cl.cT l)) ∧ Below w.heap.size w w' := by
  have HS := size_any 6 l hl
  rw [sizeA6] at HS
  have H1 := Lib.hid (fun W => HS W)
  have H2 := Lib.hid (Cl.ctext l hl).2.1
  have k0 : Blk (w.alloc (.cells (adv 6 l) 24)) w.heap.size 24 (adv 6 l) := blk_new _ _ _
  have hb0 : Below w.heap.size w (w.alloc (.cells (adv 6 l) 24)) := (Below.refl _ _).alloc (Nat.le_refl _) _
  have hz := Adr_size 6 l hl
  have hr := fun (W : World) (g : Nat) (h : Blk W g 24 (adv 6 l)) => show W.rangeAt g 1 (l.map bv).toArray.toList from by have := h.advRange 16 (by omega); rw [List.take_of_length_le (by omega)] at this; exact this
  have HR := Lib.hid hr
  have hi16 : (Tryd.prog.info? 22).map (·.size) = some ((l.map bv).toArray).size := by rw [show ((l.map bv).toArray).size = 16 by simp [hl]]; exact Tryd.infoA16
  clear HS hr
  generalize adv 6 l = X at *
  generalize Cl.cT l = T at *
  go_enter Tryd.func14, Tryd.ntmps14
  go_wp2_with (first
    | (refine wpList_loadBlk (g := w.heap.size) (t := 24) (cs := X) ?hw 24 (.tmp 1) ?ho ?hx ?hA _ Tryd.underlying24 rfl ?hi ?_
       case hw => rfl
       case ho => with_reducible rfl
       case hx => rfl
       case hA => exact k0
       case hi => exact hz)
    | fail)
  refine (H1.out _).mono ?_; rintro e w1 ⟨rfl, hb1⟩
  have b1 := Below.on hb0 hb0.size (by exact hb1)
  have k1 := k0.on (by exact hb1)
  have r1 := HR.out _ _ k1
  go_wp2_with (first
    | (refine wpList_loadPart (g := w.heap.size) ?hw 22 (.tmp 14) ?ho (1) ?hx (l.map bv).toArray _ r1 Tryd.underlying22 rfl ?hi ?_
       case hw => rfl
       case ho => with_reducible rfl
       case hx => rfl
       case hi => exact hi16)
    | fail)
  refine (H2.out _).mono ?_; rintro e w2 ⟨rfl, hb2⟩
  have b2 := Below.on b1 b1.size hb2
  go_wp2
  go_ret
  exact ⟨rfl, b2⟩
theorem text_any (v : Int) (l : List UInt8) (hl : l.length = 16) (w : World) (htab : Tab w) :
    Calls Tryd.prog 14 #[.agg (adv v l)] w fun e w' => e = .returned (sv (txA v l)) ∧ Below w.heap.size w w' := by
  cases h : okA v l with
  | false => rw [txA_no v l h]; exact text_no v l hl h w
  | true =>
    rcases okA_v v l h with rfl | rfl
    · obtain ⟨a, b, c, d, rfl⟩ := four_form l hl h
      rw [txA_4]
      exact text4_any a b c d w htab
    · rw [txA_6]
      exact text6_any l hl w

set_option maxHeartbeats 1000000 in
theorem refText_no (v : Int) (l : List UInt8) (hl : l.length = 16) (hok : okA v l = false) (w : World) :
    Calls Tryd.prog 18 #[.agg (adv v l)] w fun e w' => e = .returned (.string ⟨#[]⟩) ∧ Below w.heap.size w w' := by
  have HS := refRight_any v l hl
  rw [hok] at HS
  have H1 := Lib.hid (fun W => HS W)
  have k0 : Blk (w.alloc (.cells (adv v l) 24)) w.heap.size 24 (adv v l) := blk_new _ _ _
  have hb0 : Below w.heap.size w (w.alloc (.cells (adv v l) 24)) := (Below.refl _ _).alloc (Nat.le_refl _) _
  have hz := Adr_size v l hl
  clear HS hok hl
  generalize adv v l = X at *
  go_enter Tryd.func18, Tryd.ntmps18
  go_wp2_with (first
    | (refine wpList_loadBlk (g := w.heap.size) (t := 24) (cs := X) ?hw 24 (.tmp 1) ?ho ?hx ?hA _ Tryd.underlying24 rfl ?hi ?_
       case hw => rfl
       case ho => with_reducible rfl
       case hx => rfl
       case hA => exact k0
       case hi => exact hz)
    | fail)
  refine (H1.out _).mono ?_; rintro e w1 ⟨rfl, hb1⟩
  have b1 := Below.on hb0 hb0.size (by exact hb1)
  go_wp2
  go_ret
  exact ⟨rfl, b1⟩
set_option maxHeartbeats 1000000 in
theorem refText6_any (l : List UInt8) (hl : l.length = 16) (w : World) :
    Calls Tryd.prog 18 #[.agg (adv 6 l)] w fun e w' => e = .returned (sv (Cl.cT l)) ∧ Below w.heap.size w w' := by
  have HS := refRight_any 6 l hl
  rw [okA6] at HS
  have H1 := Lib.hid (fun W => HS W)
  have H2 := Lib.hid (Cl.ctext l hl).2.2
  have k0 : Blk (w.alloc (.cells (adv 6 l) 24)) w.heap.size 24 (adv 6 l) := blk_new _ _ _
  have hb0 : Below w.heap.size w (w.alloc (.cells (adv 6 l) 24)) := (Below.refl _ _).alloc (Nat.le_refl _) _
  have hz := Adr_size 6 l hl
  have hr := fun (W : World) (g : Nat) (h : Blk W g 24 (adv 6 l)) => show W.rangeAt g 1 (l.map bv).toArray.toList from by have := h.advRange 16 (by omega); rw [List.take_of_length_le (by omega)] at this; exact this
  have HR := Lib.hid hr
  have HV := Lib.hid (fun (W : World) (g : Nat) (h : Blk W g 24 (adv 6 l)) => h.adv0)
  have hi16 : (Tryd.prog.info? 22).map (·.size) = some ((l.map bv).toArray).size := by rw [show ((l.map bv).toArray).size = 16 by simp [hl]]; exact Tryd.infoA16
  clear HS hr
  generalize adv 6 l = X at *
  generalize Cl.cT l = T at *
  go_enter Tryd.func18, Tryd.ntmps18
  go_wp2_with (first
    | (refine wpList_loadBlk (g := w.heap.size) (t := 24) (cs := X) ?hw 24 (.tmp 1) ?ho ?hx ?hA _ Tryd.underlying24 rfl ?hi ?_
       case hw => rfl
       case ho => with_reducible rfl
       case hx => rfl
       case hA => exact k0
       case hi => exact hz)
    | fail)
  refine (H1.out _).mono ?_; rintro e w1 ⟨rfl, hb1⟩
  have b1 := Below.on hb0 hb0.size (by exact hb1)
  have k1 := k0.on (by exact hb1)
  have r1 := HR.out _ _ k1
  have c1 := HV.out _ _ k1
  go_wp2_with (first
    | (refine wpList_loadPart (g := w.heap.size) ?hw 22 (.tmp 9) ?ho (1) ?hx (l.map bv).toArray _ r1 Tryd.underlying22 rfl ?hi ?_
       case hw => rfl
       case ho => with_reducible rfl
       case hx => rfl
       case hi => exact hi16)
    | fail)
  refine (H2.out _).mono ?_; rintro e w2 ⟨rfl, hb2⟩
  have b2 := Below.on b1 b1.size hb2
  go_wp2
  go_ret
  exact ⟨rfl, b2⟩
set_option maxHeartbeats 1000000 in
theorem refText4_any (a b c d : UInt8) (w : World) :
    Calls Tryd.prog 18 #[.agg (adv 4 ([a, b, c, d] ++ zb 12))] w fun e w' => e = .returned (sv (qT a b c d)) ∧ Below w.heap.size w w' := by
  have hl : ([a, b, c, d] ++ zb 12).length = 16 := rfl
  have hok := ok4 a b c d
  have HS := refRight_any 4 ([a, b, c, d] ++ zb 12) hl
  rw [hok] at HS
  have H1 := Lib.hid (fun W => HS W)
  have H2 := Lib.hid (fun W => refqtext_any a b c d W)
  have k0 : Blk (w.alloc (.cells (adv 4 ([a, b, c, d] ++ zb 12)) 24)) w.heap.size 24 (adv 4 ([a, b, c, d] ++ zb 12)) := blk_new _ _ _
  have hb0 : Below w.heap.size w (w.alloc (.cells (adv 4 ([a, b, c, d] ++ zb 12)) 24)) := (Below.refl _ _).alloc (Nat.le_refl _) _
  have hz := Adr_size 4 _ hl
  have HC := Lib.hid (fun (W : World) (g : Nat) (t : TypeId) (h : Blk W g t (adv 4 ([a, b, c, d] ++ zb 12))) => show W.cell? ⟨g, 0, none⟩ = some (.int .i64 4) ∧ W.cell? ⟨g, 1, none⟩ = some (bv a) ∧ W.cell? ⟨g, 2, none⟩ = some (bv b) ∧ W.cell? ⟨g, 3, none⟩ = some (bv c) ∧ W.cell? ⟨g, 4, none⟩ = some (bv d) from
    ⟨h.adv0, load1 h 0 a rfl, load1 h 1 b rfl, load1 h 2 c rfl, load1 h 3 d rfl⟩)
  clear HS hok hl
  generalize adv 4 ([a, b, c, d] ++ zb 12) = X at *
  generalize qT a b c d = T at *
  go_enter Tryd.func18, Tryd.ntmps18
  go_wp2_with (first
    | (refine wpList_loadBlk (g := w.heap.size) (t := 24) (cs := X) ?hw 24 (.tmp 1) ?ho ?hx ?hA _ Tryd.underlying24 rfl ?hi ?_
       case hw => rfl
       case ho => with_reducible rfl
       case hx => rfl
       case hA => exact k0
       case hi => exact hz)
    | fail)
  refine (H1.out _).mono ?_; rintro e w1 ⟨rfl, hb1⟩
  have b1 := Below.on hb0 hb0.size (by exact hb1)
  have k1 := k0.on (by exact hb1)
  obtain ⟨c9, c0, c1, c2, c3⟩ := HC.out _ _ _ k1
  go_wp2_with fail
  refine (H2.out _).mono ?_; rintro e w2 ⟨rfl, hb2⟩
  have b2 := Below.on b1 b1.size hb2
  go_wp2
  go_ret
  exact ⟨rfl, b2⟩
theorem refText_any (v : Int) (l : List UInt8) (hl : l.length = 16) (w : World) :
    Calls Tryd.prog 18 #[.agg (adv v l)] w fun e w' => e = .returned (sv (txA v l)) ∧ Below w.heap.size w w' := by
  cases h : okA v l with
  | false => rw [txA_no v l h]; exact refText_no v l hl h w
  | true =>
    rcases okA_v v l h with rfl | rfl
    · obtain ⟨a, b, c, d, rfl⟩ := four_form l hl h
      rw [txA_4]
      exact refText4_any a b c d w
    · rw [txA_6]
      exact refText6_any l hl w
end Go.Proofs.YtccidoigjdbepaaDoor

/- AxB -/
namespace Go.Proofs.YtccidoigjdbepaaDoor
open Go.RowKit Dec Lin Qd
set_option maxRecDepth 100000
set_option linter.unusedVariables false

/-- What a text comes to as an address: the error, the family, the bytes. -/
noncomputable def aE (l : List UInt8) : Nat := if (58 : UInt8) ∈ l then Cl.pE l else qE l
noncomputable def aV (l : List UInt8) : Int := if aE l = 0 then (if (58 : UInt8) ∈ l then 6 else 4) else 0
noncomputable def aL (l : List UInt8) : List UInt8 := if aE l = 0 then (if (58 : UInt8) ∈ l then Cl.pB l else qB l ++ zb 12) else zb 16
theorem pE_two (l : List UInt8) : (Cl.pE l = 0 ∧ Cl.pS l = true) ∨ (Cl.pE l = 5 ∧ Cl.pS l = false) := by
  unfold Cl.pE Cl.pS
  cases Cl.pG l with
  | none => exact .inr ⟨rfl, rfl⟩
  | some G => exact .inl ⟨rfl, rfl⟩
theorem a6_ok (l : List UInt8) (h : (58 : UInt8) ∈ l) (h0 : Cl.pE l = 0) : aE l = 0 ∧ aV l = 6 ∧ aL l = Cl.pB l := by
  have e : aE l = 0 := by unfold aE; rw [if_pos h]; exact h0
  unfold aV aL
  rw [if_pos e, if_pos e, if_pos h, if_pos h]
  exact ⟨e, rfl, rfl⟩
theorem a6_no (l : List UInt8) (h : (58 : UInt8) ∈ l) (h0 : Cl.pE l = 5) : aE l = 5 ∧ aV l = 0 ∧ aL l = zb 16 := by
  have e : aE l = 5 := by unfold aE; rw [if_pos h]; exact h0
  unfold aV aL
  rw [if_neg (by omega), if_neg (by omega)]
  exact ⟨e, rfl, rfl⟩
theorem a4_ok (l : List UInt8) (h : (58 : UInt8) ∉ l) (h0 : qE l = 0) : aE l = 0 ∧ aV l = 4 ∧ aL l = qB l ++ zb 12 := by
  have e : aE l = 0 := by unfold aE; rw [if_neg h]; exact h0
  unfold aV aL
  rw [if_pos e, if_pos e, if_neg h, if_neg h]
  exact ⟨e, rfl, rfl⟩
theorem a4_no (l : List UInt8) (h : (58 : UInt8) ∉ l) (h0 : qE l ≠ 0) : aE l = qE l ∧ aV l = 0 ∧ aL l = zb 16 := by
  have e : aE l = qE l := by unfold aE; rw [if_neg h]
  unfold aV aL
  rw [if_neg (by omega), if_neg (by omega)]
  exact ⟨e, rfl, rfl⟩
theorem aL_len (l : List UInt8) : (aL l).length = 16 := by
  unfold aL
  split
  · split
    · exact Cl.pB_len l
    · rw [Cl.qB_qb]; rfl
  · rfl
theorem parts_two (l : List UInt8) : ((58 : UInt8) ∈ l ∧ 1 < (parts 58 l).length) ∨ ((58 : UInt8) ∉ l ∧ (parts 58 l).length = 1) := by
  rcases cut_cases 58 l with h | ⟨a, b, rfl, h⟩
  · exact .inr ⟨h, by rw [parts_no 58 l h]; rfl⟩
  · refine .inl ⟨by simp, ?_⟩
    rw [parts_yes 58 a b h]
    obtain ⟨x, r, e⟩ := parts_ne 58 b
    rw [e]
    simp

set_option maxHeartbeats 1000000 in
theorem aparse_any (l : List UInt8) (hn : l.length ≤ 1000000) (w : World) (hm : Cl.HasM w) :
    Calls Tryd.prog 23 #[sv l] w fun e w' => e = .returned (.tuple #[.agg (adv (aV l) (aL l)), .int .i64 (aE l : Int)]) ∧ Below w.heap.size w w' := by
  have HM := Lib.hid hm
  have hpos := hm.pos
  clear hm
  have hz := (zero_of_info Tryd.zeroAddr).1
  have hne : ¬ adv 0 (zb 16) = #[] := by simp [adv]
  have zo := adv_one 0 (zb 16)
  have zi : (Tryd.prog.info? 24).map (·.size) = some (adv 0 (zb 16)).size := Tryd.infoAddr
  have kr : Blk (w.alloc (.cells (adv 0 (zb 16)) 24)) w.heap.size 24 (adv 0 (zb 16)) := blk_new _ _ _
  have b0 : Below w.heap.size w (w.alloc (.cells (adv 0 (zb 16)) 24)) := (Below.refl _ _).alloc (Nat.le_refl _) _
  rcases cut_cases 58 l with h58 | ⟨x, y, hl, hx⟩
  · have HC := Lib.hid (fun W => cut_no l 58 W h58)
    have HQ := Lib.hid (fun W => Cl.quad_any l hn W)
    have HF := Lib.hid (fun W => four_any [Cl.qb l 0, Cl.qb l 1, Cl.qb l 2, Cl.qb l 3] rfl W)
    have hE : (qE l = 0 ∧ aE l = 0 ∧ aV l = 4 ∧ aL l = [Cl.qb l 0, Cl.qb l 1, Cl.qb l 2, Cl.qb l 3] ++ zb 12) ∨ (((qE l : Int) != 0) = true ∧ aE l = qE l ∧ aV l = 0 ∧ aL l = zb 16) := by
      by_cases h : qE l = 0
      · have := a4_ok l h58 h
        rw [Cl.qB_qb] at this
        exact .inl ⟨h, this⟩
      · exact .inr ⟨by rw [bne_iff_ne]; omega, a4_no l h58 h⟩
    have zs : (Tryd.prog.info? 24).map (·.size) = some (adv 4 ([Cl.qb l 0, Cl.qb l 1, Cl.qb l 2, Cl.qb l 3] ++ zb 12)).size := by rw [adv_size _ _ rfl]; exact Tryd.infoAddr
    have z17 : (adv 0 (zb 16)).size = (adv 4 ([Cl.qb l 0, Cl.qb l 1, Cl.qb l 2, Cl.qb l 3] ++ zb 12)).size := rfl
    have o1 := adv_one 4 ([Cl.qb l 0, Cl.qb l 1, Cl.qb l 2, Cl.qb l 3] ++ zb 12)
    generalize hZ : adv 0 (zb 16) = Z at *
    generalize aE l = AE at *
    generalize aV l = AV at *
    generalize aL l = AL at *
    generalize qE l = E at *
    generalize Cl.qb l 0 = q0 at *
    generalize Cl.qb l 1 = q1 at *
    generalize Cl.qb l 2 = q2 at *
    generalize Cl.qb l 3 = q3 at *
    unfold sv at HC HQ ⊢
    generalize ByteArray.mk ⟨l⟩ = s at *
    clear h58
    rcases hE with ⟨rfl, rfl, rfl, rfl⟩ | ⟨hE, rfl, rfl, rfl⟩
    · generalize adv 4 ([q0, q1, q2, q3] ++ zb 12) = Y at *
      go_enter Tryd.func23, Tryd.ntmps23
      go_wp2_with fail
      refine (HC.out _).mono ?_; rintro e w1 ⟨rfl, hw1⟩
      subst hw1
      go_wp2_with fail
      refine (HQ.out _).mono ?_; rintro e w2 ⟨rfl, hb2⟩
      have k2 := (kr.on (by exact hb2)).alloc (.cells #[bv q0, bv q1, bv q2, bv q3] 37)
      have b2 := Below.on b0 b0.size (by exact hb2)
      have b2 := b2.alloc b2.size (.cells #[bv q0, bv q1, bv q2, bv q3] 37)
      clear hb2 kr b0
      go_wp2_with fail
      refine (HF.out _).mono ?_; rintro e w3 ⟨rfl, hb3⟩
      have k3 := k2.on (by exact hb3)
      have b3 := Below.on b2 b2.size (by exact hb3)
      clear hb3 k2 b2
      go_wp2_with (first
        | (refine wpList_storeBlk (g := w.heap.size) (t := 24) (cs := Y) ?hw 24 (.tmp 2) (.tmp 38) ?ho ?hx2 ?hy2 Z k3 ?hi ?hs ?h1 ?_
           case ho => with_reducible rfl
           case hw => rfl
           case hx2 => rfl
           case hy2 => rfl
           case hi => exact zs
           case hs => exact z17
           case h1 => exact o1
           intro w9 k9 hg9
           have b9 : Below w.heap.size w w9 := (b3).grown hg9 (b3).size (fun j hj => by injection hj with hj; omega))
        | fail)
      refine bodyPost_blk2 rfl _ rfl k9 Tryd.underlying24 rfl zs rfl ⟨rfl, b9⟩
    · go_enter Tryd.func23, Tryd.ntmps23
      go_wp2_with fail
      refine (HC.out _).mono ?_; rintro e w1 ⟨rfl, hw1⟩
      subst hw1
      go_wp2_with fail
      refine (HQ.out _).mono ?_; rintro e w2 ⟨rfl, hb2⟩
      have k2 := (kr.on (by exact hb2)).alloc (.cells #[bv q0, bv q1, bv q2, bv q3] 37)
      have b2 := Below.on b0 b0.size (by exact hb2)
      have b2 := b2.alloc b2.size (.cells #[bv q0, bv q1, bv q2, bv q3] 37)
      clear hb2 kr b0
      go_wp2_with (first
        | (refine wpList_storeBlk (g := w.heap.size) (t := 24) (cs := Z) ?hw 24 (.tmp 2) (.tmp 35) ?ho ?hx2 ?hy2 Z k2 ?hi ?hs ?h1 ?_
           case ho => with_reducible rfl
           case hw => rfl
           case hx2 => rfl
           case hy2 => rfl
           case hi => exact zi
           case hs => rfl
           case h1 => exact zo
           intro w9 k9 hg9
           have b9 : Below w.heap.size w w9 := (b2).grown hg9 (b2).size (fun j hj => by injection hj with hj; omega))
        | fail)
      refine bodyPost_blk2 rfl _ rfl k9 Tryd.underlying24 rfl zi rfl ⟨by rw [hZ]; rfl, b9⟩
  · have h58 : (58 : UInt8) ∈ l := by rw [hl]; simp
    have HC := Lib.hid (fun W => (by have := cut_yes x y 58 W hx (by rw [← hl]; omega); rw [← hl] at this; exact this : Calls Tryd.prog 60 #[sv l, .int .u8 ((58 : UInt8).toNat : Int)] W fun e w' => e = .returned (.tuple #[sv x, sv y, .bool true]) ∧ Below W.heap.size W w'))
    have HQ := Lib.hid (fun W h => Cl.cparse_any l hn W h)
    have hBl := Cl.pB_len l
    have HF := Lib.hid (fun W => addrSix_any (Cl.pB l) hBl W)
    have hE : (Cl.pE l = 0 ∧ aE l = 0 ∧ aV l = 6 ∧ Cl.pB l = aL l) ∨ (Cl.pE l = 5 ∧ aE l = 5 ∧ aV l = 0 ∧ aL l = zb 16) := by
      rcases pE_two l with ⟨h, _⟩ | ⟨h, _⟩
      · exact .inl ⟨h, (a6_ok l h58 h).1, (a6_ok l h58 h).2.1, (a6_ok l h58 h).2.2.symm⟩
      · exact .inr ⟨h, a6_no l h58 h⟩
    have zs := Adr_size 6 _ hBl
    have z17 : (adv 0 (zb 16)).size = (adv 6 (Cl.pB l)).size := by rw [adv_size 6 _ hBl]; rfl
    have o1 := adv_one 6 (Cl.pB l)
    generalize hZ : adv 0 (zb 16) = Z at *
    generalize aE l = AE at *
    generalize aV l = AV at *
    generalize aL l = AL at *
    generalize Cl.pE l = E at *
    generalize Cl.pB l = B at *
    unfold sv at HC HQ ⊢
    generalize ByteArray.mk ⟨l⟩ = s at *
    generalize ByteArray.mk ⟨x⟩ = sx at *
    generalize ByteArray.mk ⟨y⟩ = sy at *
    clear h58 hl hx
    rcases hE with ⟨rfl, rfl, rfl, rfl⟩ | ⟨rfl, rfl, rfl, rfl⟩
    · generalize hY : adv 6 B = Y at *
      go_enter Tryd.func23, Tryd.ntmps23
      go_wp2_with fail
      refine (HC.out _).mono ?_; rintro e w1 ⟨rfl, hb1⟩
      have k1 := kr.on (by exact hb1)
      have b1 := Below.on b0 b0.size (by exact hb1)
      clear hb1 kr b0
      go_wp2_with fail
      refine (HQ.out _ (HM.out.on b1 hpos)).mono ?_; rintro e w2 ⟨rfl, hb2⟩
      have k2 := (k1.on (by exact hb2)).alloc (.cells (B.map bv).toArray 22)
      have b2 := Below.on b1 b1.size (by exact hb2)
      have b2 := b2.alloc b2.size (.cells (B.map bv).toArray 22)
      have j2 := arr_new w2 22 B
      clear hb2 k1 b1
      go_wp2_with (first
        | (refine wpList_allocStore (cs := (B.map bv).toArray) rfl rfl 22 ?ho (.tmp 7) (.tmp 21) ?ho2 Cl.Tryd.zero16 rfl ?hx ?hy ?hn ?h1 ?_
           case ho => with_reducible rfl
           case ho2 => with_reducible rfl
           case hx => rfl
           case hy => rfl
           case hn => simp [hBl]
           case h1 => exact one_bytes B)
        | (refine wpList_loadArr (g := w2.heap.size) (t := 22) (l := B) rfl 22 5 (.tmp 7) ?ho ?hx j2 hBl Tryd.underlying22 Tryd.infoA16 ?_
           case ho => with_reducible rfl
           case hx => rfl)
        | fail)
      refine (HF.out _).mono ?_; rintro e w3 ⟨rfl, hb3⟩
      have k3 := k2.on (by exact hb3)
      have b3 := Below.on b2 b2.size (by exact hb3)
      clear hb3 k2 b2
      go_wp2_with (first
        | (refine wpList_storeBlk (g := w.heap.size) (t := 24) (cs := Y) ?hw 24 (.tmp 2) (.tmp 27) ?ho ?hx2 ?hy2 Z k3 ?hi ?hs ?h1 ?_
           case ho => with_reducible rfl
           case hw => rfl
           case hx2 => rfl
           case hy2 => rfl
           case hi => exact zs
           case hs => exact z17
           case h1 => exact o1
           intro w9 k9 hg9
           have b9 : Below w.heap.size w w9 := (b3).grown hg9 (b3).size (fun j hj => by injection hj with hj; omega))
        | fail)
      refine bodyPost_blk2 rfl _ rfl k9 Tryd.underlying24 rfl zs rfl ⟨rfl, b9⟩
    · go_enter Tryd.func23, Tryd.ntmps23
      go_wp2_with fail
      refine (HC.out _).mono ?_; rintro e w1 ⟨rfl, hb1⟩
      have k1 := kr.on (by exact hb1)
      have b1 := Below.on b0 b0.size (by exact hb1)
      clear hb1 kr b0
      go_wp2_with fail
      refine (HQ.out _ (HM.out.on b1 hpos)).mono ?_; rintro e w2 ⟨rfl, hb2⟩
      have k2 := (k1.on (by exact hb2)).alloc (.cells (B.map bv).toArray 22)
      have b2 := Below.on b1 b1.size (by exact hb2)
      have b2 := b2.alloc b2.size (.cells (B.map bv).toArray 22)
      clear hb2 k1 b1
      go_wp2_with (first
        | (refine wpList_allocStore (cs := (B.map bv).toArray) rfl rfl 22 ?ho (.tmp 7) (.tmp 21) ?ho2 Cl.Tryd.zero16 rfl ?hx ?hy ?hn ?h1 ?_
           case ho => with_reducible rfl
           case ho2 => with_reducible rfl
           case hx => rfl
           case hy => rfl
           case hn => simp [hBl]
           case h1 => exact one_bytes B)
        | (refine wpList_storeBlk (g := w.heap.size) (t := 24) (cs := Z) ?hw 24 (.tmp 2) (.tmp 25) ?ho ?hx2 ?hy2 Z k2 ?hi ?hs ?h1 ?_
           case ho => with_reducible rfl
           case hw => rfl
           case hx2 => rfl
           case hy2 => rfl
           case hi => exact zi
           case hs => rfl
           case h1 => exact zo
           intro w9 k9 hg9
           have b9 : Below w.heap.size w w9 := (b2).grown hg9 (b2).size (fun j hj => by injection hj with hj; omega))
        | fail)
      refine bodyPost_blk2 rfl _ rfl k9 Tryd.underlying24 rfl zi rfl ⟨by rw [hZ]; rfl, b9⟩

set_option maxHeartbeats 1000000 in
theorem refaparse_any (l : List UInt8) (hn : l.length ≤ 1000000) (w : World) :
    Calls Tryd.prog 26 #[sv l] w fun e w' => e = .returned (.tuple #[.agg (adv (aV l) (aL l)), .int .i64 (aE l : Int)]) ∧ Below w.heap.size w w' := by
  have hz := (zero_of_info Tryd.zeroAddr).1
  have hne : ¬ adv 0 (zb 16) = #[] := by simp [adv]
  have zo := adv_one 0 (zb 16)
  have zi : (Tryd.prog.info? 24).map (·.size) = some (adv 0 (zb 16)).size := Tryd.infoAddr
  have kr : Blk (w.alloc (.cells (adv 0 (zb 16)) 24)) w.heap.size 24 (adv 0 (zb 16)) := blk_new _ _ _
  have b0 : Below w.heap.size w (w.alloc (.cells (adv 0 (zb 16)) 24)) := (Below.refl _ _).alloc (Nat.le_refl _) _
  have HP := Lib.hid (fun W => Cl.refParts58 l W hn)
  rcases parts_two l with ⟨h58, hP⟩ | ⟨h58, hP⟩
  · have HQ := Lib.hid (fun W => Cl.refcparse_any l hn W)
    have hBl := Cl.pB_len l
    have hE : (Cl.pS l = true ∧ aE l = 0 ∧ aV l = 6 ∧ Cl.pB l = aL l) ∨ (Cl.pS l = false ∧ aE l = 5 ∧ aV l = 0 ∧ aL l = zb 16) := by
      rcases pE_two l with ⟨h, h'⟩ | ⟨h, h'⟩
      · exact .inl ⟨h', (a6_ok l h58 h).1, (a6_ok l h58 h).2.1, (a6_ok l h58 h).2.2.symm⟩
      · exact .inr ⟨h', a6_no l h58 h⟩
    have zs := Adr_size 6 _ hBl
    have z17 : (adv 0 (zb 16)).size = (adv 6 (Cl.pB l)).size := by rw [adv_size 6 _ hBl]; rfl
    have o1 := adv_one 6 (Cl.pB l)
    obtain ⟨b0', b1', b2', b3', b4', b5', b6', b7', b8', b9', b10', b11', b12', b13', b14', b15', e16⟩ := list16 _ hBl
    have HX := Lib.hid (show ([b0', b1', b2', b3', b4', b5', b6', b7', b8', b9', b10', b11', b12', b13', b14', b15'].map bv).toArray = ((Cl.pB l).map bv).toArray by rw [e16])
    have HY := Lib.hid (show adv 6 [b0', b1', b2', b3', b4', b5', b6', b7', b8', b9', b10', b11', b12', b13', b14', b15'] = adv 6 (Cl.pB l) by rw [e16])
    clear e16
    generalize (parts 58 l).length = N at *
    have hPI : (1 : Int) < (N : Int) := by omega
    generalize hZ : adv 0 (zb 16) = Z at *
    generalize aE l = AE at *
    generalize aV l = AV at *
    generalize aL l = AL at *
    generalize Cl.pS l = E at *
    generalize Cl.pB l = B at *
    unfold sv at HP HQ ⊢
    generalize ByteArray.mk ⟨l⟩ = s at *
    clear h58
    rcases hE with ⟨rfl, rfl, rfl, rfl⟩ | ⟨rfl, rfl, rfl, rfl⟩
    · generalize hY : adv 6 B = Y at *
      go_enter Tryd.func26, Tryd.ntmps26
      go_wp2_with fail
      refine (HP.out _).mono ?_; rintro e w1 ⟨⟨v, rfl, ho⟩, hb1⟩
      obtain ⟨A0, c0, rfl, _, _, _⟩ := GOwn.sh ho
      have k1 := kr.on (by exact hb1)
      have b1 := Below.on b0 b0.size (by exact hb1)
      clear hb1 kr b0 ho
      go_wp2_with fail
      refine (HQ.out _).mono ?_; rintro e w2 ⟨rfl, hb2⟩
      have k2 := (k1.on (by exact hb2)).alloc (.cells (B.map bv).toArray 22)
      have b2 := Below.on b1 b1.size (by exact hb2)
      have b2 := b2.alloc b2.size (.cells (B.map bv).toArray 22)
      have j2 := arr_new w2 22 B
      clear hb2 k1 b1
      have eav : av B = .agg (B.map bv).toArray := rfl
      go_wp2_with (first
        | (refine wpList_allocStore (cs := (B.map bv).toArray) rfl rfl 22 ?ho (.tmp 4) (.tmp 17) ?ho2 Cl.Tryd.zero16 rfl ?hx ?hy ?hn ?h1 ?_
           case ho => with_reducible rfl
           case ho2 => with_reducible rfl
           case hx => rfl
           case hy => rfl
           case hn => simp [hBl]
           case h1 => exact one_bytes B)
        | (refine wpList_loadArr (g := w2.heap.size) (t := 22) (l := B) rfl 22 5 (.tmp 4) ?ho ?hx j2 hBl Tryd.underlying22 Tryd.infoA16 ?_
           case ho => with_reducible rfl
           case hx => rfl)
        | (refine wpList_build rfl 24 ?fs ?ho (.agg Y) ?hr ?_
           case ho => with_reducible rfl
           case hr =>
             intro W
             have e1 := HX.out
             have e2 := HY.out
             try unfold av
             rw [← e1, ← e2]
             change _ = _
             kernel_rfl)
        | (refine wpList_storeBlk (g := w.heap.size) (t := 24) (cs := Y) ?hw 24 (.tmp 2) (.tmp 23) ?ho ?hx2 ?hy2 Z k2 ?hi ?hs ?h1 ?_
           case ho => with_reducible rfl
           case hw => rfl
           case hx2 => rfl
           case hy2 => rfl
           case hi => exact zs
           case hs => exact z17
           case h1 => exact o1
           intro w9 k9 hg9
           have b9 : Below w.heap.size w w9 := (b2).grown hg9 (b2).size (fun j hj => by injection hj with hj; omega))
        | fail)
      refine bodyPost_blk2 rfl _ rfl k9 Tryd.underlying24 rfl zs rfl ⟨rfl, b9⟩
    · go_enter Tryd.func26, Tryd.ntmps26
      go_wp2_with fail
      refine (HP.out _).mono ?_; rintro e w1 ⟨⟨v, rfl, ho⟩, hb1⟩
      obtain ⟨A0, c0, rfl, _, _, _⟩ := GOwn.sh ho
      have k1 := kr.on (by exact hb1)
      have b1 := Below.on b0 b0.size (by exact hb1)
      clear hb1 kr b0 ho
      go_wp2_with fail
      refine (HQ.out _).mono ?_; rintro e w2 ⟨rfl, hb2⟩
      have k2 := (k1.on (by exact hb2)).alloc (.cells (B.map bv).toArray 22)
      have b2 := Below.on b1 b1.size (by exact hb2)
      have b2 := b2.alloc b2.size (.cells (B.map bv).toArray 22)
      clear hb2 k1 b1
      go_wp2_with (first
        | (refine wpList_allocStore (cs := (B.map bv).toArray) rfl rfl 22 ?ho (.tmp 4) (.tmp 17) ?ho2 Cl.Tryd.zero16 rfl ?hx ?hy ?hn ?h1 ?_
           case ho => with_reducible rfl
           case ho2 => with_reducible rfl
           case hx => rfl
           case hy => rfl
           case hn => simp [hBl]
           case h1 => exact one_bytes B)
        | (refine wpList_storeBlk (g := w.heap.size) (t := 24) (cs := Z) ?hw 24 (.tmp 2) (.tmp 21) ?ho ?hx2 ?hy2 Z k2 ?hi ?hs ?h1 ?_
           case ho => with_reducible rfl
           case hw => rfl
           case hx2 => rfl
           case hy2 => rfl
           case hi => exact zi
           case hs => rfl
           case h1 => exact zo
           intro w9 k9 hg9
           have b9 : Below w.heap.size w w9 := (b2).grown hg9 (b2).size (fun j hj => by injection hj with hj; omega))
        | fail)
      refine bodyPost_blk2 rfl _ rfl k9 Tryd.underlying24 rfl zi rfl ⟨by rw [hZ]; rfl, b9⟩
  · have HQ := Lib.hid (fun W => Cl.refquad_any l hn W)
    have hE : (qE l = 0 ∧ aE l = 0 ∧ aV l = 4 ∧ aL l = [Cl.qb l 0, Cl.qb l 1, Cl.qb l 2, Cl.qb l 3] ++ zb 12) ∨ (((qE l : Int) != 0) = true ∧ aE l = qE l ∧ aV l = 0 ∧ aL l = zb 16) := by
      by_cases h : qE l = 0
      · have := a4_ok l h58 h
        rw [Cl.qB_qb] at this
        exact .inl ⟨h, this⟩
      · exact .inr ⟨by rw [bne_iff_ne]; omega, a4_no l h58 h⟩
    have zs : (Tryd.prog.info? 24).map (·.size) = some (adv 4 ([Cl.qb l 0, Cl.qb l 1, Cl.qb l 2, Cl.qb l 3] ++ zb 12)).size := by rw [adv_size _ _ rfl]; exact Tryd.infoAddr
    have z17 : (adv 0 (zb 16)).size = (adv 4 ([Cl.qb l 0, Cl.qb l 1, Cl.qb l 2, Cl.qb l 3] ++ zb 12)).size := rfl
    have o1 := adv_one 4 ([Cl.qb l 0, Cl.qb l 1, Cl.qb l 2, Cl.qb l 3] ++ zb 12)
    have y17 : (adv 4 ([Cl.qb l 0, Cl.qb l 1, Cl.qb l 2, Cl.qb l 3] ++ zb 12)).size = 17 := adv_size _ _ rfl
    have HO := Lib.hid (fun (W : World) (g c : Nat) (h : Shows W W.heap.size (some ⟨g, 0, none⟩) 4 [Cl.qb l 0, Cl.qb l 1, Cl.qb l 2, Cl.qb l 3]) => refOf4 g 0 c [Cl.qb l 0, Cl.qb l 1, Cl.qb l 2, Cl.qb l 3] W h)
    generalize (parts 58 l).length = N at *
    subst hP
    generalize hZ : adv 0 (zb 16) = Z at *
    generalize aE l = AE at *
    generalize aV l = AV at *
    generalize aL l = AL at *
    generalize qE l = E at *
    generalize Cl.qb l 0 = q0 at *
    generalize Cl.qb l 1 = q1 at *
    generalize Cl.qb l 2 = q2 at *
    generalize Cl.qb l 3 = q3 at *
    unfold sv at HP HQ ⊢
    generalize ByteArray.mk ⟨l⟩ = s at *
    clear h58
    rcases hE with ⟨rfl, rfl, rfl, rfl⟩ | ⟨hE, rfl, rfl, rfl⟩
    · generalize adv 4 ([q0, q1, q2, q3] ++ zb 12) = Y at *
      go_enter Tryd.func26, Tryd.ntmps26
      go_wp2_with fail
      refine (HP.out _).mono ?_; rintro e w1 ⟨⟨v, rfl, ho⟩, hb1⟩
      obtain ⟨A0, c0, rfl, _, _, _⟩ := GOwn.sh ho
      have k1 := kr.on (by exact hb1)
      have b1 := Below.on b0 b0.size (by exact hb1)
      clear hb1 kr b0 ho
      go_wp2_with fail
      refine (HQ.out _).mono ?_; rintro e w2 ⟨rfl, hb2⟩
      have k2 := (k1.on (by exact hb2)).alloc (.cells #[bv q0, bv q1, bv q2, bv q3] 37)
      have b2 := Below.on b1 b1.size (by exact hb2)
      have b2 := b2.alloc b2.size (.cells #[bv q0, bv q1, bv q2, bv q3] 37)
      clear hb2 k1 b1
      have s2 := shows_new (w2.alloc (.cells #[bv q0, bv q1, bv q2, bv q3] 37)) #[bv q0, bv q1, bv q2, bv q3] [q0, q1, q2, q3] rfl
      rw [show (w2.alloc (.cells #[bv q0, bv q1, bv q2, bv q3] 37)).heap.size = w2.heap.size + 1 by simp] at s2
      have k2 := k2.alloc (.cells #[bv q0, bv q1, bv q2, bv q3] 5)
      have b2 := b2.alloc b2.size (.cells #[bv q0, bv q1, bv q2, bv q3] 5)
      go_wp2_with fail
      refine (HO.out _ _ _ (by exact s2)).mono ?_; rintro e w3 ⟨rfl, hb3⟩
      have k3 := (k2.on (by exact hb3)).alloc (.cells Y 24)
      have j3 : Blk (w3.alloc (.cells Y 24)) w3.heap.size 24 Y := blk_new _ _ _
      have b3 := Below.on b2 b2.size (by exact hb3)
      have b3 := b3.alloc b3.size (.cells Y 24)
      clear hb3 k2 b2 s2
      go_wp2_with (first
        | (refine wpList_allocStore (cs := Y) rfl rfl 24 ?ho (.tmp 8) (.tmp 44) ?ho2 Tryd.zeroAddr rfl ?hx ?hy ?hn ?h1 ?_
           case ho => with_reducible rfl
           case ho2 => with_reducible rfl
           case hx => rfl
           case hy => rfl
           case hn => exact y17
           case h1 => exact o1)
        | (refine wpList_loadBlk (g := w3.heap.size) (t := 24) (cs := Y) ?hw 24 (.tmp 8) ?ho ?hx ?hA _ Tryd.underlying24 rfl ?hi ?_
           case hw => rfl
           case ho => with_reducible rfl
           case hx => rfl
           case hA => exact j3
           case hi => exact zs)
        | (refine wpList_storeBlk (g := w.heap.size) (t := 24) (cs := Y) ?hw 24 (.tmp 2) (.tmp 46) ?ho ?hx2 ?hy2 Z k3 ?hi ?hs ?h1 ?_
           case ho => with_reducible rfl
           case hw => rfl
           case hx2 => rfl
           case hy2 => rfl
           case hi => exact zs
           case hs => exact z17
           case h1 => exact o1
           intro w9 k9 hg9
           have b9 : Below w.heap.size w w9 := (b3).grown hg9 (b3).size (fun j hj => by injection hj with hj; omega))
        | fail)
      refine bodyPost_blk2 rfl _ rfl k9 Tryd.underlying24 rfl zs rfl ⟨rfl, b9⟩
    · go_enter Tryd.func26, Tryd.ntmps26
      go_wp2_with fail
      refine (HP.out _).mono ?_; rintro e w1 ⟨⟨v, rfl, ho⟩, hb1⟩
      obtain ⟨A0, c0, rfl, _, _, _⟩ := GOwn.sh ho
      have k1 := kr.on (by exact hb1)
      have b1 := Below.on b0 b0.size (by exact hb1)
      clear hb1 kr b0 ho
      go_wp2_with fail
      refine (HQ.out _).mono ?_; rintro e w2 ⟨rfl, hb2⟩
      have k2 := (k1.on (by exact hb2)).alloc (.cells #[bv q0, bv q1, bv q2, bv q3] 37)
      have b2 := Below.on b1 b1.size (by exact hb2)
      have b2 := b2.alloc b2.size (.cells #[bv q0, bv q1, bv q2, bv q3] 37)
      clear hb2 k1 b1
      go_wp2_with (first
        | (refine wpList_storeBlk (g := w.heap.size) (t := 24) (cs := Z) ?hw 24 (.tmp 2) (.tmp 31) ?ho ?hx2 ?hy2 Z k2 ?hi ?hs ?h1 ?_
           case ho => with_reducible rfl
           case hw => rfl
           case hx2 => rfl
           case hy2 => rfl
           case hi => exact zi
           case hs => rfl
           case h1 => exact zo
           intro w9 k9 hg9
           have b9 : Below w.heap.size w w9 := (b2).grown hg9 (b2).size (fun j hj => by injection hj with hj; omega))
        | fail)
      refine bodyPost_blk2 rfl _ rfl k9 Tryd.underlying24 rfl zi rfl ⟨by rw [hZ]; rfl, b9⟩
end Go.Proofs.YtccidoigjdbepaaDoor

/- AxC -/
namespace Go.Proofs.YtccidoigjdbepaaDoor
open Go.RowKit Dec Lin Qd
set_option maxRecDepth 100000
set_option linter.unusedVariables false

theorem Tryd.infoA4 : (Tryd.prog.info? 37).map (·.size) = some 4 := by kernel_rfl

set_option maxHeartbeats 1000000 in
theorem of4_any (b off c : Nat) (l : List UInt8) (w : World) (hs : Shows w w.heap.size (some ⟨b, off, none⟩) 4 l) :
    Calls Tryd.prog 22 #[.slice (some ⟨b, off, none⟩) 4 c] w fun e w' => e = .returned (.tuple #[.agg (adv 4 (l ++ zb 12)), .int .i64 0]) ∧ Below w.heap.size w w' := by
  have hz := (zero_of_info Tryd.zeroAddr).1
  have hne : ¬ adv 0 (zb 16) = #[] := by simp [adv]
  have hl := hs.len
  have HF := Lib.hid (fun W => four_any l hl W)
  have hY : (adv 4 (l ++ zb 12)).size = 17 := adv_size _ _ (by simp [hl, zb])
  have zs : (Tryd.prog.info? 24).map (·.size) = some (adv 4 (l ++ zb 12)).size := by rw [hY]; exact Tryd.infoAddr
  have z17 : (adv 0 (zb 16)).size = (adv 4 (l ++ zb 12)).size := by rw [hY]; rfl
  have o1 := adv_one 4 (l ++ zb 12)
  have kr : Blk (w.alloc (.cells (adv 0 (zb 16)) 24)) w.heap.size 24 (adv 0 (zb 16)) := blk_new _ _ _
  have b0 : Below w.heap.size w (w.alloc (.cells (adv 0 (zb 16)) 24)) := (Below.refl _ _).alloc (Nat.le_refl _) _
  have r0 : (w.alloc (.cells (adv 0 (zb 16)) 24)).rangeAt b off (l.map bv).toArray.toList := (hs.alloc (Nat.le_refl _) _).range
  have hi4 : (Tryd.prog.info? 37).map (·.size) = some ((l.map bv).toArray).size := by rw [show ((l.map bv).toArray).size = 4 by simp [hl]]; exact Tryd.infoA4
  have hat : ∀ W, (Instr.arrayAt 37 (.slice (some ⟨b, off, none⟩) 4 c)).run Tryd.prog W = .ok (.pointer (some ⟨b, off, none⟩)) W := fun W => run_s2a W 37 5 4 ⟨b, off, none⟩ 4 c Tryd.underlying37 (Nat.le_refl _)
  clear hs
  generalize adv 4 (l ++ zb 12) = Y at *
  generalize adv 0 (zb 16) = Z at *
  go_enter Tryd.func22, Tryd.ntmps22
  go_wp2_with (first
    | (refine wpList_loadPart (g := b) ?hw 37 (.tmp 9) ?ho (off) ?hx (l.map bv).toArray _ r0 Tryd.underlying37 rfl ?hi ?_
       case hw => rfl
       case ho => with_reducible rfl
       case hx => rfl
       case hi => exact hi4)
    | fail)
  refine (HF.out _).mono ?_; rintro e w3 ⟨rfl, hb3⟩
  have k3 := kr.on (by exact hb3)
  have b3 := Below.on b0 b0.size (by exact hb3)
  go_wp2_with (first
    | (refine wpList_storeBlk (g := w.heap.size) (t := 24) (cs := Y) ?hw 24 (.tmp 2) (.tmp 11) ?ho ?hx2 ?hy2 Z k3 ?hi ?hs ?h1 ?_
       case ho => with_reducible rfl
       case hw => rfl
       case hx2 => rfl
       case hy2 => rfl
       case hi => exact zs
       case hs => exact z17
       case h1 => exact o1
       intro w9 k9 hg9
       have b9 : Below w.heap.size w w9 := (b3).grown hg9 (b3).size (fun j hj => by injection hj with hj; omega))
    | fail)
  refine bodyPost_blk2 rfl _ rfl k9 Tryd.underlying24 rfl zs rfl ⟨rfl, b9⟩

set_option maxHeartbeats 1000000 in
theorem of16_any (b off c : Nat) (l : List UInt8) (w : World) (hs : Shows w w.heap.size (some ⟨b, off, none⟩) 16 l) :
    Calls Tryd.prog 22 #[.slice (some ⟨b, off, none⟩) 16 c] w fun e w' => e = .returned (.tuple #[.agg (adv 6 (l)), .int .i64 0]) ∧ Below w.heap.size w w' := by
  have hz := (zero_of_info Tryd.zeroAddr).1
  have hne : ¬ adv 0 (zb 16) = #[] := by simp [adv]
  have hl := hs.len
  have HF := Lib.hid (fun W => addrSix_any l hl W)
  have hY : (adv 6 (l)).size = 17 := adv_size _ _ (hl)
  have zs : (Tryd.prog.info? 24).map (·.size) = some (adv 6 (l)).size := by rw [hY]; exact Tryd.infoAddr
  have z17 : (adv 0 (zb 16)).size = (adv 6 (l)).size := by rw [hY]; rfl
  have o1 := adv_one 6 (l)
  have kr : Blk (w.alloc (.cells (adv 0 (zb 16)) 24)) w.heap.size 24 (adv 0 (zb 16)) := blk_new _ _ _
  have b0 : Below w.heap.size w (w.alloc (.cells (adv 0 (zb 16)) 24)) := (Below.refl _ _).alloc (Nat.le_refl _) _
  have r0 : (w.alloc (.cells (adv 0 (zb 16)) 24)).rangeAt b off (l.map bv).toArray.toList := (hs.alloc (Nat.le_refl _) _).range
  have hi4 : (Tryd.prog.info? 22).map (·.size) = some ((l.map bv).toArray).size := by rw [show ((l.map bv).toArray).size = 16 by simp [hl]]; exact Tryd.infoA16
  have hat : ∀ W, (Instr.arrayAt 22 (.slice (some ⟨b, off, none⟩) 16 c)).run Tryd.prog W = .ok (.pointer (some ⟨b, off, none⟩)) W := fun W => run_s2a W 22 5 16 ⟨b, off, none⟩ 16 c Tryd.underlying22 (Nat.le_refl _)
  clear hs
  generalize adv 6 (l) = Y at *
  generalize adv 0 (zb 16) = Z at *
  go_enter Tryd.func22, Tryd.ntmps22
  go_wp2_with (first
    | (refine wpList_loadPart (g := b) ?hw 22 (.tmp 15) ?ho (off) ?hx (l.map bv).toArray _ r0 Tryd.underlying22 rfl ?hi ?_
       case hw => rfl
       case ho => with_reducible rfl
       case hx => rfl
       case hi => exact hi4)
    | fail)
  refine (HF.out _).mono ?_; rintro e w3 ⟨rfl, hb3⟩
  have k3 := kr.on (by exact hb3)
  have b3 := Below.on b0 b0.size (by exact hb3)
  go_wp2_with (first
    | (refine wpList_storeBlk (g := w.heap.size) (t := 24) (cs := Y) ?hw 24 (.tmp 2) (.tmp 17) ?ho ?hx2 ?hy2 Z k3 ?hi ?hs ?h1 ?_
       case ho => with_reducible rfl
       case hw => rfl
       case hx2 => rfl
       case hy2 => rfl
       case hi => exact zs
       case hs => exact z17
       case h1 => exact o1
       intro w9 k9 hg9
       have b9 : Below w.heap.size w w9 := (b3).grown hg9 (b3).size (fun j hj => by injection hj with hj; omega))
    | fail)
  refine bodyPost_blk2 rfl _ rfl k9 Tryd.underlying24 rfl zs rfl ⟨rfl, b9⟩

set_option maxHeartbeats 1000000 in
theorem of_no (A : Option Addr) (n c : Nat) (w : World) (h4 : n ≠ 4) (h16 : n ≠ 16) :
    Calls Tryd.prog 22 #[.slice A n c] w fun e w' => e = .returned (.tuple #[.agg (adv 0 (zb 16)), .int .i64 5]) ∧ Below w.heap.size w w' := by
  have hz := (zero_of_info Tryd.zeroAddr).1
  have hne : ¬ adv 0 (zb 16) = #[] := by simp [adv]
  have zo := adv_one 0 (zb 16)
  have zi : (Tryd.prog.info? 24).map (·.size) = some (adv 0 (zb 16)).size := Tryd.infoAddr
  have kr : Blk (w.alloc (.cells (adv 0 (zb 16)) 24)) w.heap.size 24 (adv 0 (zb 16)) := blk_new _ _ _
  have b0 : Below w.heap.size w (w.alloc (.cells (adv 0 (zb 16)) 24)) := (Below.refl _ _).alloc (Nat.le_refl _) _
  have e4 : ((n : Int) == 4) = false := by simp; omega
  have e16 : ((n : Int) == 16) = false := by simp; omega
  generalize adv 0 (zb 16) = Z at *
  go_enter Tryd.func22, Tryd.ntmps22
  go_wp2_with (first
    | (refine wpList_storeBlk (g := w.heap.size) (t := 24) (cs := Z) ?hw 24 (.tmp 2) (.tmp 18) ?ho ?hx2 ?hy2 Z kr ?hi ?hs ?h1 ?_
       case ho => with_reducible rfl
       case hw => rfl
       case hx2 => rfl
       case hy2 => rfl
       case hi => exact zi
       case hs => rfl
       case h1 => exact zo
       intro w9 k9 hg9
       have b9 : Below w.heap.size w w9 := (b0).grown hg9 (b0).size (fun j hj => by injection hj with hj; omega))
    | fail)
  refine bodyPost_blk2 rfl _ rfl k9 Tryd.underlying24 rfl zi rfl ⟨rfl, b9⟩
set_option maxHeartbeats 1000000 in
theorem refOf_no (A : Option Addr) (n c : Nat) (w : World) (h4 : n ≠ 4) (h16 : n ≠ 16) :
    Calls Tryd.prog 27 #[.slice A n c] w fun e w' => e = .returned (.tuple #[.agg (adv 0 (zb 16)), .bool false]) ∧ Below w.heap.size w w' := by
  have hz := (zero_of_info Tryd.zeroAddr).1
  have hne : ¬ adv 0 (zb 16) = #[] := by simp [adv]
  have zo := adv_one 0 (zb 16)
  have zi : (Tryd.prog.info? 24).map (·.size) = some (adv 0 (zb 16)).size := Tryd.infoAddr
  have kr : Blk ((w.alloc (.cells (adv 0 (zb 16)) 24)).alloc (.cells (adv 0 (zb 16)) 24)) w.heap.size 24 (adv 0 (zb 16)) := (blk_new _ _ _).alloc _
  have k1 : Blk ((w.alloc (.cells (adv 0 (zb 16)) 24)).alloc (.cells (adv 0 (zb 16)) 24)) (w.heap.size + 1) 24 (adv 0 (zb 16)) := blk_new' _ _ _ _ (by simp)
  have b0 : Below w.heap.size w ((w.alloc (.cells (adv 0 (zb 16)) 24)).alloc (.cells (adv 0 (zb 16)) 24)) := ((Below.refl _ _).alloc (Nat.le_refl _) _).alloc (by simp) _
  have e4 : ((n : Int) != 4) = true := by rw [bne_iff_ne]; omega
  have e16 : ((n : Int) != 16) = true := by rw [bne_iff_ne]; omega
  generalize adv 0 (zb 16) = Z at *
  go_enter Tryd.func27, Tryd.ntmps27
  go_wp2_with (first
    | (refine wpList_loadBlk (g := w.heap.size + 1) (t := 24) (cs := Z) ?hw 24 (.tmp 4) ?ho ?hx ?hA _ Tryd.underlying24 rfl ?hi ?_
       case hw => rfl
       case ho => with_reducible rfl
       case hx => rfl
       case hA => exact k1
       case hi => exact zi)
    | (refine wpList_storeBlk (g := w.heap.size) (t := 24) (cs := Z) ?hw 24 (.tmp 2) (.tmp 14) ?ho ?hx2 ?hy2 Z kr ?hi ?hs ?h1 ?_
       case ho => with_reducible rfl
       case hw => rfl
       case hx2 => rfl
       case hy2 => rfl
       case hi => exact zi
       case hs => rfl
       case h1 => exact zo
       intro w9 k9 hg9
       have b9 : Below w.heap.size w w9 := (b0).grown hg9 (b0).size (fun j hj => by injection hj with hj; omega))
    | fail)
  refine bodyPost_blk2 rfl _ rfl k9 Tryd.underlying24 rfl zi rfl ⟨rfl, b9⟩
/-- What any bytes come to. -/
theorem of_both (A : Option Addr) (n c : Nat) (l : List UInt8) (w0 : World) (hs : Shows w0 w0.heap.size A n l) : ∃ (V : Int) (L : List UInt8) (E : Nat) (S : Bool), L.length = 16 ∧ ((E = 0 ∧ S = true) ∨ (E = 5 ∧ S = false)) ∧
    (∀ w : World, Below w0.heap.size w0 w → Calls Tryd.prog 22 #[.slice A n c] w fun e w' => e = .returned (.tuple #[.agg (adv V L), .int .i64 (E : Int)]) ∧ Below w.heap.size w w') ∧
    (∀ w : World, Below w0.heap.size w0 w → Calls Tryd.prog 27 #[.slice A n c] w fun e w' => e = .returned (.tuple #[.agg (adv V L), .bool S]) ∧ Below w.heap.size w w') := by
  have hl := hs.len
  by_cases h4 : n = 4
  · subst h4
    obtain ⟨b, off, rfl, _⟩ := hs.2 (by omega)
    exact ⟨4, l ++ zb 12, 0, true, by simp [hl, zb], .inl ⟨rfl, rfl⟩, fun w hb => of4_any b off c l w ((hs.below hb).up hb.size), fun w hb => refOf4 b off c l w ((hs.below hb).up hb.size)⟩
  · by_cases h16 : n = 16
    · subst h16
      obtain ⟨b, off, rfl, _⟩ := hs.2 (by omega)
      refine ⟨6, l, 0, true, hl, .inl ⟨rfl, rfl⟩, fun w hb => of16_any b off c l w ((hs.below hb).up hb.size), fun w hb => ?_⟩
      have := refOf16 b off c l w ((hs.below hb).up hb.size)
      rwa [show l ++ zb 0 = l by simp [zb]] at this
    · exact ⟨0, zb 16, 5, false, rfl, .inr ⟨rfl, rfl⟩, fun w _ => of_no A n c w h4 h16, fun w _ => refOf_no A n c w h4 h16⟩
end Go.Proofs.YtccidoigjdbepaaDoor
