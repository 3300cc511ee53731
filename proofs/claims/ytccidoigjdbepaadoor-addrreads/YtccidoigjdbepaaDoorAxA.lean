
/- Layer 10. Contracts: addr.Text, crawlwayref10.Text at any address. -/
import Derived.Test.YtccidoigjdbepaaDoorMkL
import Derived.Test.YtccidoigjdbepaaDoorClR
namespace Go.Proofs.YtccidoigjdbepaaDoor
open Go.RowKit Dec Lin Qd
set_option maxRecDepth 100000
set_option linter.unusedVariables false

/-- An address's text. -/
def txA (v : Int) (l : List UInt8) : List UInt8 := if okA v l then (if v = 6 then Cl.cT l else qT (l.getD 0 0) (l.getD 1 0) (l.getD 2 0) (l.getD 3 0)) else []
theorem four_form (l : List UInt8) (hl : l.length = 16) (h : okA 4 l = true) : ∃ a b c d, l = [a, b, c, d] ++ zb 12 := by
  unfold okA at h
  simp at h
  have e := List.take_append_drop 4 l
  rw [h] at e
  have h4 : (l.take 4).length = 4 := by simp; omega
  obtain ⟨a, b, c, d, h4⟩ := list_four _ h4
  exact ⟨a, b, c, d, by rw [← h4]; exact e.symm⟩
theorem okA6 (l : List UInt8) : okA 6 l = true := by simp [okA]
theorem sizeA6 (l : List UInt8) : sizeA 6 l = 16 := by unfold sizeA; rw [if_pos (okA6 l)]; rfl
theorem txA_no (v : Int) (l : List UInt8) (h : okA v l = false) : txA v l = [] := by unfold txA; rw [if_neg (by rw [h]; decide)]
theorem txA_6 (l : List UInt8) : txA 6 l = Cl.cT l := by unfold txA; rw [if_pos (okA6 l), if_pos rfl]
theorem txA_4 (a b c d : UInt8) : txA 4 ([a, b, c, d] ++ zb 12) = qT a b c d := by unfold txA; rw [if_pos (ok4 a b c d), if_neg (by decide)]; rfl
theorem txA_len (v : Int) (l : List UInt8) (hl : l.length = 16) : (txA v l).length ≤ 100 := by
  cases h : okA v l with
  | false => rw [txA_no v l h]; simp
  | true =>
    rcases okA_v v l h with rfl | rfl
    · obtain ⟨a, b, c, d, rfl⟩ := four_form l hl h
      rw [txA_4]
      have := ds_len a
      have := ds_len b
      have := ds_len c
      have := ds_len d
      simp [qT]
      omega
    · rw [txA_6]
      exact (Cl.ctext l hl).1

set_option maxHeartbeats 1000000 in
theorem text_no (v : Int) (l : List UInt8) (hl : l.length = 16) (hok : okA v l = false) (w : World) :
    Calls Tryd.prog 14 #[.agg (adv v l)] w fun e w' => e = .returned (.string ⟨#[]⟩) ∧ Below w.heap.size w w' := by
  have hs : sizeA v l = 0 := by unfold sizeA; rw [if_neg (by rw [hok]; decide)]
  have HS := size_any v l hl
  rw [hs] at HS
  have H1 := Lib.hid (fun W => HS W)
  have k0 : Blk (w.alloc (.cells (adv v l) 24)) w.heap.size 24 (adv v l) := blk_new _ _ _
  have hb0 : Below w.heap.size w (w.alloc (.cells (adv v l) 24)) := (Below.refl _ _).alloc (Nat.le_refl _) _
  have hz := Adr_size v l hl
  clear hs HS hok hl
  generalize adv v l = X at *
  go_enter Tryd.func14, Tryd.ntmps14
  go_wp2_with (first
    | (refine wpList_loadBlk (g := w.heap.size) (t := 24) (cs := X) ?hw 24 (.tmp 1) ?ho ?hx ?hA _ Tryd.underlying24 rfl ?hi ?_
       case hw => rfl
       case ho => with_reducible rfl
       case hx => rfl
       case hA => exact k0
       case hi => exact hz)
    | fail)
  refine (H1.out _).mono ?_; rintro e w1 ⟨rfl, hb1⟩
  have b1 := Below.on hb0 hb0.size (by exact hb1)
  go_wp2
  go_ret
  exact ⟨rfl, b1⟩
set_option maxHeartbeats 1000000 in
theorem text6_any (l : List UInt8) (hl : l.length = 16) (w : World) :
    Calls Tryd.prog 14 #[.agg (adv 6 l)] w fun e w' => e = .returned (sv (Cl.cT l)) ∧ Below w.heap.size w w' := by
  have HS := size_any 6 l hl
  rw [sizeA6] at HS
  have H1 := Lib.hid (fun W => HS W)
  have H2 := Lib.hid (Cl.ctext l hl).2.1
  have k0 : Blk (w.alloc (.cells (adv 6 l) 24)) w.heap.size 24 (adv 6 l) := blk_new _ _ _
  have hb0 : Below w.heap.size w (w.alloc (.cells (adv 6 l) 24)) := (Below.refl _ _).alloc (Nat.le_refl _) _
  have hz := Adr_size 6 l hl
  have hr := fun (W : World) (g : Nat) (h : Blk W g 24 (adv 6 l)) => show W.rangeAt g 1 (l.map bv).toArray.toList from by have := h.advRange 16 (by omega); rw [List.take_of_length_le (by omega)] at this; exact this
  have HR := Lib.hid hr
  have hi16 : (Tryd.prog.info? 22).map (·.size) = some ((l.map bv).toArray).size := by rw [show ((l.map bv).toArray).size = 16 by simp [hl]]; exact Tryd.infoA16
  clear HS hr
  generalize adv 6 l = X at *
  generalize Cl.cT l = T at *
  go_enter Tryd.func14, Tryd.ntmps14
  go_wp2_with (first
    | (refine wpList_loadBlk (g := w.heap.size) (t := 24) (cs := X) ?hw 24 (.tmp 1) ?ho ?hx ?hA _ Tryd.underlying24 rfl ?hi ?_
       case hw => rfl
       case ho => with_reducible rfl
       case hx => rfl
       case hA => exact k0
       case hi => exact hz)
    | fail)
  refine (H1.out _).mono ?_; rintro e w1 ⟨rfl, hb1⟩
  have b1 := Below.on hb0 hb0.size (by exact hb1)
  have k1 := k0.on (by exact hb1)
  have r1 := HR.out _ _ k1
  go_wp2_with (first
    | (refine wpList_loadPart (g := w.heap.size) ?hw 22 (.tmp 14) ?ho (1) ?hx (l.map bv).toArray _ r1 Tryd.underlying22 rfl ?hi ?_
       case hw => rfl
       case ho => with_reducible rfl
       case hx => rfl
       case hi => exact hi16)
    | fail)
  refine (H2.out _).mono ?_; rintro e w2 ⟨rfl, hb2⟩
  have b2 := Below.on b1 b1.size hb2
  go_wp2
  go_ret
  exact ⟨rfl, b2⟩
theorem text_any (v : Int) (l : List UInt8) (hl : l.length = 16) (w : World) (htab : Tab w) :
    Calls Tryd.prog 14 #[.agg (adv v l)] w fun e w' => e = .returned (sv (txA v l)) ∧ Below w.heap.size w w' := by
  cases h : okA v l with
  | false => rw [txA_no v l h]; exact text_no v l hl h w
  | true =>
    rcases okA_v v l h with rfl | rfl
    · obtain ⟨a, b, c, d, rfl⟩ := four_form l hl h
      rw [txA_4]
      exact text4_any a b c d w htab
    · rw [txA_6]
      exact text6_any l hl w

set_option maxHeartbeats 1000000 in
theorem refText_no (v : Int) (l : List UInt8) (hl : l.length = 16) (hok : okA v l = false) (w : World) :
    Calls Tryd.prog 18 #[.agg (adv v l)] w fun e w' => e = .returned (.string ⟨#[]⟩) ∧ Below w.heap.size w w' := by
  have HS := refRight_any v l hl
  rw [hok] at HS
  have H1 := Lib.hid (fun W => HS W)
  have k0 : Blk (w.alloc (.cells (adv v l) 24)) w.heap.size 24 (adv v l) := blk_new _ _ _
  have hb0 : Below w.heap.size w (w.alloc (.cells (adv v l) 24)) := (Below.refl _ _).alloc (Nat.le_refl _) _
  have hz := Adr_size v l hl
  clear HS hok hl
  generalize adv v l = X at *
  go_enter Tryd.func18, Tryd.ntmps18
  go_wp2_with (first
    | (refine wpList_loadBlk (g := w.heap.size) (t := 24) (cs := X) ?hw 24 (.tmp 1) ?ho ?hx ?hA _ Tryd.underlying24 rfl ?hi ?_
       case hw => rfl
       case ho => with_reducible rfl
       case hx => rfl
       case hA => exact k0
       case hi => exact hz)
    | fail)
  refine (H1.out _).mono ?_; rintro e w1 ⟨rfl, hb1⟩
  have b1 := Below.on hb0 hb0.size (by exact hb1)
  go_wp2
  go_ret
  exact ⟨rfl, b1⟩
set_option maxHeartbeats 1000000 in
theorem refText6_any (l : List UInt8) (hl : l.length = 16) (w : World) :
    Calls Tryd.prog 18 #[.agg (adv 6 l)] w fun e w' => e = .returned (sv (Cl.cT l)) ∧ Below w.heap.size w w' := by
  have HS := refRight_any 6 l hl
  rw [okA6] at HS
  have H1 := Lib.hid (fun W => HS W)
  have H2 := Lib.hid (Cl.ctext l hl).2.2
  have k0 : Blk (w.alloc (.cells (adv 6 l) 24)) w.heap.size 24 (adv 6 l) := blk_new _ _ _
  have hb0 : Below w.heap.size w (w.alloc (.cells (adv 6 l) 24)) := (Below.refl _ _).alloc (Nat.le_refl _) _
  have hz := Adr_size 6 l hl
  have hr := fun (W : World) (g : Nat) (h : Blk W g 24 (adv 6 l)) => show W.rangeAt g 1 (l.map bv).toArray.toList from by have := h.advRange 16 (by omega); rw [List.take_of_length_le (by omega)] at this; exact this
  have HR := Lib.hid hr
  have HV := Lib.hid (fun (W : World) (g : Nat) (h : Blk W g 24 (adv 6 l)) => h.adv0)
  have hi16 : (Tryd.prog.info? 22).map (·.size) = some ((l.map bv).toArray).size := by rw [show ((l.map bv).toArray).size = 16 by simp [hl]]; exact Tryd.infoA16
  clear HS hr
  generalize adv 6 l = X at *
  generalize Cl.cT l = T at *
  go_enter Tryd.func18, Tryd.ntmps18
  go_wp2_with (first
    | (refine wpList_loadBlk (g := w.heap.size) (t := 24) (cs := X) ?hw 24 (.tmp 1) ?ho ?hx ?hA _ Tryd.underlying24 rfl ?hi ?_
       case hw => rfl
       case ho => with_reducible rfl
       case hx => rfl
       case hA => exact k0
       case hi => exact hz)
    | fail)
  refine (H1.out _).mono ?_; rintro e w1 ⟨rfl, hb1⟩
  have b1 := Below.on hb0 hb0.size (by exact hb1)
  have k1 := k0.on (by exact hb1)
  have r1 := HR.out _ _ k1
  have c1 := HV.out _ _ k1
  go_wp2_with (first
    | (refine wpList_loadPart (g := w.heap.size) ?hw 22 (.tmp 9) ?ho (1) ?hx (l.map bv).toArray _ r1 Tryd.underlying22 rfl ?hi ?_
       case hw => rfl
       case ho => with_reducible rfl
       case hx => rfl
       case hi => exact hi16)
    | fail)
  refine (H2.out _).mono ?_; rintro e w2 ⟨rfl, hb2⟩
  have b2 := Below.on b1 b1.size hb2
  go_wp2
  go_ret
  exact ⟨rfl, b2⟩
set_option maxHeartbeats 1000000 in
theorem refText4_any (a b c d : UInt8) (w : World) :
    Calls Tryd.prog 18 #[.agg (adv 4 ([a, b, c, d] ++ zb 12))] w fun e w' => e = .returned (sv (qT a b c d)) ∧ Below w.heap.size w w' := by
  have hl : ([a, b, c, d] ++ zb 12).length = 16 := rfl
  have hok := ok4 a b c d
  have HS := refRight_any 4 ([a, b, c, d] ++ zb 12) hl
  rw [hok] at HS
  have H1 := Lib.hid (fun W => HS W)
  have H2 := Lib.hid (fun W => refqtext_any a b c d W)
  have k0 : Blk (w.alloc (.cells (adv 4 ([a, b, c, d] ++ zb 12)) 24)) w.heap.size 24 (adv 4 ([a, b, c, d] ++ zb 12)) := blk_new _ _ _
  have hb0 : Below w.heap.size w (w.alloc (.cells (adv 4 ([a, b, c, d] ++ zb 12)) 24)) := (Below.refl _ _).alloc (Nat.le_refl _) _
  have hz := Adr_size 4 _ hl
  have HC := Lib.hid (fun (W : World) (g : Nat) (t : TypeId) (h : Blk W g t (adv 4 ([a, b, c, d] ++ zb 12))) => show W.cell? ⟨g, 0, none⟩ = some (.int .i64 4) ∧ W.cell? ⟨g, 1, none⟩ = some (bv a) ∧ W.cell? ⟨g, 2, none⟩ = some (bv b) ∧ W.cell? ⟨g, 3, none⟩ = some (bv c) ∧ W.cell? ⟨g, 4, none⟩ = some (bv d) from
    ⟨h.adv0, load1 h 0 a rfl, load1 h 1 b rfl, load1 h 2 c rfl, load1 h 3 d rfl⟩)
  clear HS hok hl
  generalize adv 4 ([a, b, c, d] ++ zb 12) = X at *
  generalize qT a b c d = T at *
  go_enter Tryd.func18, Tryd.ntmps18
  go_wp2_with (first
    | (refine wpList_loadBlk (g := w.heap.size) (t := 24) (cs := X) ?hw 24 (.tmp 1) ?ho ?hx ?hA _ Tryd.underlying24 rfl ?hi ?_
       case hw => rfl
       case ho => with_reducible rfl
       case hx => rfl
       case hA => exact k0
       case hi => exact hz)
    | fail)
  refine (H1.out _).mono ?_; rintro e w1 ⟨rfl, hb1⟩
  have b1 := Below.on hb0 hb0.size (by exact hb1)
  have k1 := k0.on (by exact hb1)
  obtain ⟨c9, c0, c1, c2, c3⟩ := HC.out _ _ _ k1
  go_wp2_with fail
  refine (H2.out _).mono ?_; rintro e w2 ⟨rfl, hb2⟩
  have b2 := Below.on b1 b1.size hb2
  go_wp2
  go_ret
  exact ⟨rfl, b2⟩
theorem refText_any (v : Int) (l : List UInt8) (hl : l.length = 16) (w : World) :
    Calls Tryd.prog 18 #[.agg (adv v l)] w fun e w' => e = .returned (sv (txA v l)) ∧ Below w.heap.size w w' := by
  cases h : okA v l with
  | false => rw [txA_no v l h]; exact refText_no v l hl h w
  | true =>
    rcases okA_v v l h with rfl | rfl
    · obtain ⟨a, b, c, d, rfl⟩ := four_form l hl h
      rw [txA_4]
      exact refText4_any a b c d w
    · rw [txA_6]
      exact refText6_any l hl w
end Go.Proofs.YtccidoigjdbepaaDoor
