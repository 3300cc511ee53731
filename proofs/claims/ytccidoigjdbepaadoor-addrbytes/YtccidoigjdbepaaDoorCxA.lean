
/- Layer 11. Contracts: cidr.Of, crawlwayref11.Of. -/
import Derived.Test.YtccidoigjdbepaaDoorMkL
import Derived.Test.YtccidoigjdbepaaDoorChA
import Derived.Test.YtccidoigjdbepaaDoorZHd
namespace Go.Proofs.YtccidoigjdbepaaDoor
open Go.RowKit
set_option maxRecDepth 100000
set_option linter.unusedVariables false

/-- A prefix's cells; no prefix. -/
def pf (p : Pfx) : Array Value := (pfxC p).toArray
def zP : Pfx := ⟨0, zb 16, 0⟩
theorem Tryd.zeroPfx : (Tryd.prog.info? 45).map (fun i => (i.zero, i.size)) = some (some (.agg (pf zP)), 18) := by kernel_rfl
theorem pf_size (p : Pfx) (h : p.l.length = 16) : (pf p).size = 18 := by simp [pf, pfxC_len p h]
theorem pf_one (p : Pfx) : ((pf p).all fun x => x.oneCell') = true := by
  have h := adv_one p.v p.l
  unfold pf pfxC
  rw [Array.all_eq_true'] at h ⊢
  intro x hx
  simp only [List.mem_toArray, List.mem_append, Array.mem_toList_iff, List.mem_singleton] at hx
  rcases hx with hx | rfl
  · exact h x hx
  · rfl
/-- What the prefix of an address's first bits is, or why there is none. -/
noncomputable def ofE (v : Int) (l : List UInt8) (n : Int) : Nat := if okA v l = true then (if n < 0 ∨ (8 * sizeA v l : Int) < n then 6 else 0) else 1
noncomputable def ofP (v : Int) (l : List UInt8) (n : Int) : Pfx := if ofE v l n = 0 then ⟨v, mL n.toNat l, n⟩ else zP
theorem of_case (v : Int) (l : List UInt8) (n : Int) : (okA v l = false ∧ ofE v l n = 1 ∧ ofP v l n = zP) ∨ (okA v l = true ∧ n < 0 ∧ ofE v l n = 6 ∧ ofP v l n = zP) ∨ (okA v l = true ∧ 0 ≤ n ∧ (8 * sizeA v l : Int) < n ∧ ofE v l n = 6 ∧ ofP v l n = zP) ∨ (okA v l = true ∧ 0 ≤ n ∧ ¬ (8 * sizeA v l : Int) < n ∧ ofE v l n = 0 ∧ ofP v l n = ⟨v, mL n.toNat l, n⟩) := by
  unfold ofP
  cases hok : okA v l with
  | false =>
    have e : ofE v l n = 1 := by unfold ofE; rw [if_neg (by rw [hok]; decide)]
    exact .inl ⟨rfl, e, if_neg (by omega)⟩
  | true =>
    right
    by_cases h0 : n < 0
    · have e : ofE v l n = 6 := by unfold ofE; rw [if_pos hok, if_pos (.inl h0)]
      exact .inl ⟨rfl, h0, e, if_neg (by omega)⟩
    · by_cases h1 : (8 * sizeA v l : Int) < n
      · have e : ofE v l n = 6 := by unfold ofE; rw [if_pos hok, if_pos (.inr h1)]
        exact .inr (.inl ⟨rfl, by omega, h1, e, if_neg (by omega)⟩)
      · have e : ofE v l n = 0 := by unfold ofE; rw [if_pos hok, if_neg (by omega)]
        exact .inr (.inr ⟨rfl, by omega, h1, e, if_pos e⟩)
theorem ofP_len (v : Int) (l : List UInt8) (n : Int) (hl : l.length = 16) : (ofP v l n).l.length = 16 := by
  rcases of_case v l n with ⟨_, _, h⟩ | ⟨_, _, _, h⟩ | ⟨_, _, _, _, h⟩ | ⟨_, _, _, _, h⟩
  · rw [h]; rfl
  · rw [h]; rfl
  · rw [h]; rfl
  · rw [h]; show (mL _ l).length = 16; rw [mL_len, hl]

set_option maxHeartbeats 2000000 in
theorem cof_any (v : Int) (l : List UInt8) (n : Int) (hl : l.length = 16) (hn1 : -9223372036854775808 ≤ n) (hn2 : n ≤ 9223372036854775807) (w : World) :
    Calls Tryd.prog 28 #[.agg (adv v l), .int .i64 n] w fun e w' => e = .returned (.tuple #[.agg (pf (ofP v l n)), .int .i64 (ofE v l n : Int)]) ∧ Below w.heap.size w w' := by
  have hz := (zero_of_info Tryd.zeroPfx).1
  have hne : ¬ pf zP = #[] := by simp [pf, pfxC]
  have zo := pf_one zP
  have zi : (Tryd.prog.info? 45).map (·.size) = some (pf zP).size := Tryd.infoPfx
  have hz1 := Adr_size v l hl
  have H1 := Lib.hid (fun W => right_any v l hl W)
  have H2 := Lib.hid (fun W => widthA_any v l hl W)
  have hml : (mL n.toNat l).length = 16 := by rw [mL_len, hl]
  have zs : (Tryd.prog.info? 45).map (·.size) = some (pf ⟨v, mL n.toNat l, n⟩).size := by rw [pf_size ⟨v, mL n.toNat l, n⟩ hml]; exact Tryd.infoPfx
  have z18 : (pf zP).size = (pf ⟨v, mL n.toNat l, n⟩).size := (pf_size zP rfl).trans (pf_size ⟨v, mL n.toNat l, n⟩ hml).symm
  have o1 := pf_one ⟨v, mL n.toNat l, n⟩
  have hsz := sizeA_le v l
  have kr : Blk ((w.alloc (.cells (adv v l) 24)).alloc (.cells (pf zP) 45)) (w.heap.size + 1) 45 (pf zP) := blk_new' _ _ _ _ (by simp)
  have k0 : Blk ((w.alloc (.cells (adv v l) 24)).alloc (.cells (pf zP) 45)) w.heap.size 24 (adv v l) := (blk_new _ _ _).alloc _
  have b0 : Below w.heap.size w ((w.alloc (.cells (adv v l) 24)).alloc (.cells (pf zP) 45)) := ((Below.refl _ _).alloc (Nat.le_refl _) _).alloc (by simp) _
  have hcase : (okA v l = false ∧ ofE v l n = 1 ∧ ofP v l n = zP) ∨ (okA v l = true ∧ n < 0 ∧ ofE v l n = 6 ∧ ofP v l n = zP) ∨ (okA v l = true ∧ 0 ≤ n ∧ (8 * sizeA v l : Int) < n ∧ ofE v l n = 6 ∧ ofP v l n = zP) ∨ (okA v l = true ∧ 0 ≤ n ∧ ¬ (8 * sizeA v l : Int) < n ∧ ofE v l n = 0 ∧ ofP v l n = ⟨v, mL n.toNat l, n⟩) := of_case v l n
  rcases hcase with ⟨hok, hE, hP⟩ | ⟨hok, h0, hE, hP⟩ | ⟨hok, h0, h1, hE, hP⟩ | ⟨hok, h0, h1, hE, hP⟩
  · rw [hE, hP]
    rw [hok] at H1
    clear hE hP hok
    generalize hZ : pf zP = Z at *
    generalize adv v l = X at *
    go_enter Tryd.func28, Tryd.ntmps28
    go_wp2_with (first
      | (refine wpList_loadBlk (g := w.heap.size) (t := 24) (cs := X) ?hw 24 (.tmp 2) ?ho ?hx ?hA _ Tryd.underlying24 rfl ?hi ?_
         case hw => rfl
         case ho => with_reducible rfl
         case hx => rfl
         case hA => exact k0
         case hi => exact hz1)
      | fail)
    refine (H1.out _).mono ?_; rintro e w1 ⟨rfl, hb1⟩
    have k1 := k0.on (by exact hb1)
    have r1 := kr.on (by exact hb1)
    have b1 := Below.on b0 b0.size (by exact hb1)
    clear hb1 k0 kr b0
    go_wp2_with (first
      | (refine wpList_storeBlk (g := w.heap.size + 1) (t := 45) (cs := Z) ?hw 45 (.tmp 4) (.tmp 9) ?ho ?hx2 ?hy2 Z r1 ?hi ?hs ?h1 ?_
         case ho => with_reducible rfl
         case hw => rfl
         case hx2 => rfl
         case hy2 => rfl
         case hi => exact zi
         case hs => rfl
         case h1 => exact zo
         intro w9 k9 hg9
         have b9 : Below w.heap.size w w9 := (b1).grown hg9 (b1).size (fun j hj => by injection hj with hj; omega))
      | fail)
    refine bodyPost_blk2 rfl _ rfl k9 Tryd.underlying45 rfl zi rfl ⟨rfl, b9⟩
  · rw [hE, hP]
    rw [hok] at H1
    have d0 : decide (n < 0) = true := decide_eq_true h0
    clear hE hP hok
    generalize hZ : pf zP = Z at *
    generalize adv v l = X at *
    go_enter Tryd.func28, Tryd.ntmps28
    go_wp2_with (first
      | (refine wpList_loadBlk (g := w.heap.size) (t := 24) (cs := X) ?hw 24 (.tmp 2) ?ho ?hx ?hA _ Tryd.underlying24 rfl ?hi ?_
         case hw => rfl
         case ho => with_reducible rfl
         case hx => rfl
         case hA => exact k0
         case hi => exact hz1)
      | fail)
    refine (H1.out _).mono ?_; rintro e w1 ⟨rfl, hb1⟩
    have k1 := k0.on (by exact hb1)
    have r1 := kr.on (by exact hb1)
    have b1 := Below.on b0 b0.size (by exact hb1)
    clear hb1 k0 kr b0
    go_wp2_with (first
      | (refine wpList_storeBlk (g := w.heap.size + 1) (t := 45) (cs := Z) ?hw 45 (.tmp 4) (.tmp 18) ?ho ?hx2 ?hy2 Z r1 ?hi ?hs ?h1 ?_
         case ho => with_reducible rfl
         case hw => rfl
         case hx2 => rfl
         case hy2 => rfl
         case hi => exact zi
         case hs => rfl
         case h1 => exact zo
         intro w9 k9 hg9
         have b9 : Below w.heap.size w w9 := (b1).grown hg9 (b1).size (fun j hj => by injection hj with hj; omega))
      | fail)
    refine bodyPost_blk2 rfl _ rfl k9 Tryd.underlying45 rfl zi rfl ⟨rfl, b9⟩
  · rw [hE, hP]
    rw [hok] at H1
    have h0' : ¬ n < 0 := by omega
    have d0 : decide (n < 0) = false := decide_eq_false h0'
    have d1 : decide ((8 * sizeA v l : Int) < n) = true := decide_eq_true h1
    clear hE hP hok
    generalize hZ : pf zP = Z at *
    generalize adv v l = X at *
    generalize sizeA v l = m at *
    go_enter Tryd.func28, Tryd.ntmps28
    go_wp2_with (first
      | (refine wpList_loadBlk (g := w.heap.size) (t := 24) (cs := X) ?hw 24 (.tmp 2) ?ho ?hx ?hA _ Tryd.underlying24 rfl ?hi ?_
         case hw => rfl
         case ho => with_reducible rfl
         case hx => rfl
         case hA => exact k0
         case hi => exact hz1)
      | fail)
    refine (H1.out _).mono ?_; rintro e w1 ⟨rfl, hb1⟩
    have k1 := k0.on (by exact hb1)
    have r1 := kr.on (by exact hb1)
    have b1 := Below.on b0 b0.size (by exact hb1)
    clear hb1 k0 kr b0
    go_wp2_with (first
      | (refine wpList_loadBlk (g := w.heap.size) (t := 24) (cs := X) ?hw 24 (.tmp 2) ?ho ?hx ?hA _ Tryd.underlying24 rfl ?hi ?_
         case hw => rfl
         case ho => with_reducible rfl
         case hx => rfl
         case hA => exact k1
         case hi => exact hz1)
      | fail)
    refine (H2.out _).mono ?_; rintro e w2 ⟨rfl, hb2⟩
    have k2 := k1.on (by exact hb2)
    have r2 := r1.on (by exact hb2)
    have b2 := Below.on b1 b1.size (by exact hb2)
    clear hb2 k1 r1 b1
    go_wp2_with (first
      | (refine wpList_storeBlk (g := w.heap.size + 1) (t := 45) (cs := Z) ?hw 45 (.tmp 4) (.tmp 18) ?ho ?hx2 ?hy2 Z r2 ?hi ?hs ?h1 ?_
         case ho => with_reducible rfl
         case hw => rfl
         case hx2 => rfl
         case hy2 => rfl
         case hi => exact zi
         case hs => rfl
         case h1 => exact zo
         intro w9 k9 hg9
         have b9 : Below w.heap.size w w9 := (b2).grown hg9 (b2).size (fun j hj => by injection hj with hj; omega))
      | fail)
    refine bodyPost_blk2 rfl _ rfl k9 Tryd.underlying45 rfl zi rfl ⟨rfl, b9⟩
  · have H3 := Lib.hid (fun W => mask_ok v n l hl hok hn1 hn2 W)
    rw [hE, hP]
    rw [hok] at H1
    have h0' : ¬ n < 0 := by omega
    have d0 : decide (n < 0) = false := decide_eq_false h0'
    have d1 : decide ((8 * sizeA v l : Int) < n) = false := decide_eq_false h1
    obtain ⟨b0', b1', b2', b3', b4', b5', b6', b7', b8', b9', b10', b11', b12', b13', b14', b15', e16⟩ := list16 _ hml
    have HX := Lib.hid (show adv v [b0', b1', b2', b3', b4', b5', b6', b7', b8', b9', b10', b11', b12', b13', b14', b15'] = adv v (mL n.toNat l) by rw [e16])
    have HY := Lib.hid (show pf ⟨v, [b0', b1', b2', b3', b4', b5', b6', b7', b8', b9', b10', b11', b12', b13', b14', b15'], n⟩ = pf ⟨v, mL n.toNat l, n⟩ by rw [e16])
    clear hE hP hok e16
    generalize hZ : pf zP = Z at *
    generalize pf ⟨v, mL n.toNat l, n⟩ = Y at *
    generalize adv v (mL n.toNat l) = M at *
    generalize adv v l = X at *
    generalize sizeA v l = m at *
    go_enter Tryd.func28, Tryd.ntmps28
    go_wp2_with (first
      | (refine wpList_loadBlk (g := w.heap.size) (t := 24) (cs := X) ?hw 24 (.tmp 2) ?ho ?hx ?hA _ Tryd.underlying24 rfl ?hi ?_
         case hw => rfl
         case ho => with_reducible rfl
         case hx => rfl
         case hA => exact k0
         case hi => exact hz1)
      | fail)
    refine (H1.out _).mono ?_; rintro e w1 ⟨rfl, hb1⟩
    have k1 := k0.on (by exact hb1)
    have r1 := kr.on (by exact hb1)
    have b1 := Below.on b0 b0.size (by exact hb1)
    clear hb1 k0 kr b0
    go_wp2_with (first
      | (refine wpList_loadBlk (g := w.heap.size) (t := 24) (cs := X) ?hw 24 (.tmp 2) ?ho ?hx ?hA _ Tryd.underlying24 rfl ?hi ?_
         case hw => rfl
         case ho => with_reducible rfl
         case hx => rfl
         case hA => exact k1
         case hi => exact hz1)
      | fail)
    refine (H2.out _).mono ?_; rintro e w2 ⟨rfl, hb2⟩
    have k2 := k1.on (by exact hb2)
    have r2 := r1.on (by exact hb2)
    have b2 := Below.on b1 b1.size (by exact hb2)
    clear hb2 k1 r1 b1
    go_wp2_with (first
      | (refine wpList_loadBlk (g := w.heap.size) (t := 24) (cs := X) ?hw 24 (.tmp 2) ?ho ?hx ?hA _ Tryd.underlying24 rfl ?hi ?_
         case hw => rfl
         case ho => with_reducible rfl
         case hx => rfl
         case hA => exact k2
         case hi => exact hz1)
      | fail)
    refine (H3.out _).mono ?_; rintro e w3 ⟨rfl, hb3⟩
    have r3 := r2.on (by exact hb3)
    have b3 := Below.on b2 b2.size (by exact hb3)
    clear hb3 k2 r2 b2
    go_wp2_with (first
      | (refine wpList_build rfl 45 ?fs ?ho (.agg Y) ?hr ?_
         case ho => with_reducible rfl
         case hr =>
           intro W
           have e1 := HX.out
           have e2 := HY.out
           rw [← e1, ← e2]
           change _ = _
           kernel_rfl)
      | (refine wpList_storeBlk (g := w.heap.size + 1) (t := 45) (cs := Y) ?hw 45 (.tmp 4) (.tmp 23) ?ho ?hx2 ?hy2 Z r3 ?hi ?hs ?h1 ?_
         case ho => with_reducible rfl
         case hw => rfl
         case hx2 => rfl
         case hy2 => rfl
         case hi => exact zs
         case hs => exact z18
         case h1 => exact o1
         intro w9 k9 hg9
         have b9 : Below w.heap.size w w9 := (b3).grown hg9 (b3).size (fun j hj => by injection hj with hj; omega))
      | fail)
    refine bodyPost_blk2 rfl _ rfl k9 Tryd.underlying45 rfl zs rfl ⟨rfl, b9⟩

set_option maxHeartbeats 2000000 in
theorem refcof_any (v : Int) (l : List UInt8) (n : Int) (hl : l.length = 16) (hn1 : -9223372036854775808 ≤ n) (hn2 : n ≤ 9223372036854775807) (w : World) :
    Calls Tryd.prog 29 #[.agg (adv v l), .int .i64 n] w fun e w' => e = .returned (.tuple #[.agg (pf (ofP v l n)), .int .i64 (ofE v l n : Int)]) ∧ Below w.heap.size w w' := by
  have hz := (zero_of_info Tryd.zeroPfx).1
  have hne : ¬ pf zP = #[] := by simp [pf, pfxC]
  have zo := pf_one zP
  have zi : (Tryd.prog.info? 45).map (·.size) = some (pf zP).size := Tryd.infoPfx
  have hz1 := Adr_size v l hl
  have H1 := Lib.hid (fun W => refRight_any v l hl W)
  have H2 := Lib.hid (fun W => refWidthA_any v l hl W)
  have hml : (mL n.toNat l).length = 16 := by rw [mL_len, hl]
  have zs : (Tryd.prog.info? 45).map (·.size) = some (pf ⟨v, mL n.toNat l, n⟩).size := by rw [pf_size ⟨v, mL n.toNat l, n⟩ hml]; exact Tryd.infoPfx
  have z18 : (pf zP).size = (pf ⟨v, mL n.toNat l, n⟩).size := (pf_size zP rfl).trans (pf_size ⟨v, mL n.toNat l, n⟩ hml).symm
  have o1 := pf_one ⟨v, mL n.toNat l, n⟩
  have hsz := sizeA_le v l
  have kr : Blk ((w.alloc (.cells (adv v l) 24)).alloc (.cells (pf zP) 45)) (w.heap.size + 1) 45 (pf zP) := blk_new' _ _ _ _ (by simp)
  have k0 : Blk ((w.alloc (.cells (adv v l) 24)).alloc (.cells (pf zP) 45)) w.heap.size 24 (adv v l) := (blk_new _ _ _).alloc _
  have b0 : Below w.heap.size w ((w.alloc (.cells (adv v l) 24)).alloc (.cells (pf zP) 45)) := ((Below.refl _ _).alloc (Nat.le_refl _) _).alloc (by simp) _
  have hcase : (okA v l = false ∧ ofE v l n = 1 ∧ ofP v l n = zP) ∨ (okA v l = true ∧ n < 0 ∧ ofE v l n = 6 ∧ ofP v l n = zP) ∨ (okA v l = true ∧ 0 ≤ n ∧ (8 * sizeA v l : Int) < n ∧ ofE v l n = 6 ∧ ofP v l n = zP) ∨ (okA v l = true ∧ 0 ≤ n ∧ ¬ (8 * sizeA v l : Int) < n ∧ ofE v l n = 0 ∧ ofP v l n = ⟨v, mL n.toNat l, n⟩) := of_case v l n
  rcases hcase with ⟨hok, hE, hP⟩ | ⟨hok, h0, hE, hP⟩ | ⟨hok, h0, h1, hE, hP⟩ | ⟨hok, h0, h1, hE, hP⟩
  · rw [hE, hP]
    rw [hok] at H1
    clear hE hP hok
    generalize hZ : pf zP = Z at *
    generalize adv v l = X at *
    go_enter Tryd.func29, Tryd.ntmps29
    go_wp2_with (first
      | (refine wpList_loadBlk (g := w.heap.size) (t := 24) (cs := X) ?hw 24 (.tmp 2) ?ho ?hx ?hA _ Tryd.underlying24 rfl ?hi ?_
         case hw => rfl
         case ho => with_reducible rfl
         case hx => rfl
         case hA => exact k0
         case hi => exact hz1)
      | fail)
    refine (H1.out _).mono ?_; rintro e w1 ⟨rfl, hb1⟩
    have k1 := k0.on (by exact hb1)
    have r1 := kr.on (by exact hb1)
    have b1 := Below.on b0 b0.size (by exact hb1)
    clear hb1 k0 kr b0
    go_wp2_with (first
      | (refine wpList_storeBlk (g := w.heap.size + 1) (t := 45) (cs := Z) ?hw 45 (.tmp 4) (.tmp 9) ?ho ?hx2 ?hy2 Z r1 ?hi ?hs ?h1 ?_
         case ho => with_reducible rfl
         case hw => rfl
         case hx2 => rfl
         case hy2 => rfl
         case hi => exact zi
         case hs => rfl
         case h1 => exact zo
         intro w9 k9 hg9
         have b9 : Below w.heap.size w w9 := (b1).grown hg9 (b1).size (fun j hj => by injection hj with hj; omega))
      | fail)
    refine bodyPost_blk2 rfl _ rfl k9 Tryd.underlying45 rfl zi rfl ⟨rfl, b9⟩
  · rw [hE, hP]
    rw [hok] at H1
    have d0 : decide (n < 0) = true := decide_eq_true h0
    clear hE hP hok
    generalize hZ : pf zP = Z at *
    generalize adv v l = X at *
    go_enter Tryd.func29, Tryd.ntmps29
    go_wp2_with (first
      | (refine wpList_loadBlk (g := w.heap.size) (t := 24) (cs := X) ?hw 24 (.tmp 2) ?ho ?hx ?hA _ Tryd.underlying24 rfl ?hi ?_
         case hw => rfl
         case ho => with_reducible rfl
         case hx => rfl
         case hA => exact k0
         case hi => exact hz1)
      | fail)
    refine (H1.out _).mono ?_; rintro e w1 ⟨rfl, hb1⟩
    have k1 := k0.on (by exact hb1)
    have r1 := kr.on (by exact hb1)
    have b1 := Below.on b0 b0.size (by exact hb1)
    clear hb1 k0 kr b0
    go_wp2_with (first
      | (refine wpList_storeBlk (g := w.heap.size + 1) (t := 45) (cs := Z) ?hw 45 (.tmp 4) (.tmp 18) ?ho ?hx2 ?hy2 Z r1 ?hi ?hs ?h1 ?_
         case ho => with_reducible rfl
         case hw => rfl
         case hx2 => rfl
         case hy2 => rfl
         case hi => exact zi
         case hs => rfl
         case h1 => exact zo
         intro w9 k9 hg9
         have b9 : Below w.heap.size w w9 := (b1).grown hg9 (b1).size (fun j hj => by injection hj with hj; omega))
      | fail)
    refine bodyPost_blk2 rfl _ rfl k9 Tryd.underlying45 rfl zi rfl ⟨rfl, b9⟩
  · rw [hE, hP]
    rw [hok] at H1
    have h0' : ¬ n < 0 := by omega
    have d0 : decide (n < 0) = false := decide_eq_false h0'
    have d1 : decide ((8 * sizeA v l : Int) < n) = true := decide_eq_true h1
    clear hE hP hok
    generalize hZ : pf zP = Z at *
    generalize adv v l = X at *
    generalize sizeA v l = m at *
    go_enter Tryd.func29, Tryd.ntmps29
    go_wp2_with (first
      | (refine wpList_loadBlk (g := w.heap.size) (t := 24) (cs := X) ?hw 24 (.tmp 2) ?ho ?hx ?hA _ Tryd.underlying24 rfl ?hi ?_
         case hw => rfl
         case ho => with_reducible rfl
         case hx => rfl
         case hA => exact k0
         case hi => exact hz1)
      | fail)
    refine (H1.out _).mono ?_; rintro e w1 ⟨rfl, hb1⟩
    have k1 := k0.on (by exact hb1)
    have r1 := kr.on (by exact hb1)
    have b1 := Below.on b0 b0.size (by exact hb1)
    clear hb1 k0 kr b0
    go_wp2_with (first
      | (refine wpList_loadBlk (g := w.heap.size) (t := 24) (cs := X) ?hw 24 (.tmp 2) ?ho ?hx ?hA _ Tryd.underlying24 rfl ?hi ?_
         case hw => rfl
         case ho => with_reducible rfl
         case hx => rfl
         case hA => exact k1
         case hi => exact hz1)
      | fail)
    refine (H2.out _).mono ?_; rintro e w2 ⟨rfl, hb2⟩
    have k2 := k1.on (by exact hb2)
    have r2 := r1.on (by exact hb2)
    have b2 := Below.on b1 b1.size (by exact hb2)
    clear hb2 k1 r1 b1
    go_wp2_with (first
      | (refine wpList_storeBlk (g := w.heap.size + 1) (t := 45) (cs := Z) ?hw 45 (.tmp 4) (.tmp 18) ?ho ?hx2 ?hy2 Z r2 ?hi ?hs ?h1 ?_
         case ho => with_reducible rfl
         case hw => rfl
         case hx2 => rfl
         case hy2 => rfl
         case hi => exact zi
         case hs => rfl
         case h1 => exact zo
         intro w9 k9 hg9
         have b9 : Below w.heap.size w w9 := (b2).grown hg9 (b2).size (fun j hj => by injection hj with hj; omega))
      | fail)
    refine bodyPost_blk2 rfl _ rfl k9 Tryd.underlying45 rfl zi rfl ⟨rfl, b9⟩
  · have H3 := Lib.hid (fun W => refMask_ok v n l hl hok hn1 hn2 W)
    rw [hE, hP]
    rw [hok] at H1
    have h0' : ¬ n < 0 := by omega
    have d0 : decide (n < 0) = false := decide_eq_false h0'
    have d1 : decide ((8 * sizeA v l : Int) < n) = false := decide_eq_false h1
    obtain ⟨b0', b1', b2', b3', b4', b5', b6', b7', b8', b9', b10', b11', b12', b13', b14', b15', e16⟩ := list16 _ hml
    have HX := Lib.hid (show adv v [b0', b1', b2', b3', b4', b5', b6', b7', b8', b9', b10', b11', b12', b13', b14', b15'] = adv v (mL n.toNat l) by rw [e16])
    have HY := Lib.hid (show pf ⟨v, [b0', b1', b2', b3', b4', b5', b6', b7', b8', b9', b10', b11', b12', b13', b14', b15'], n⟩ = pf ⟨v, mL n.toNat l, n⟩ by rw [e16])
    clear hE hP hok e16
    generalize hZ : pf zP = Z at *
    generalize pf ⟨v, mL n.toNat l, n⟩ = Y at *
    generalize adv v (mL n.toNat l) = M at *
    generalize adv v l = X at *
    generalize sizeA v l = m at *
    go_enter Tryd.func29, Tryd.ntmps29
    go_wp2_with (first
      | (refine wpList_loadBlk (g := w.heap.size) (t := 24) (cs := X) ?hw 24 (.tmp 2) ?ho ?hx ?hA _ Tryd.underlying24 rfl ?hi ?_
         case hw => rfl
         case ho => with_reducible rfl
         case hx => rfl
         case hA => exact k0
         case hi => exact hz1)
      | fail)
    refine (H1.out _).mono ?_; rintro e w1 ⟨rfl, hb1⟩
    have k1 := k0.on (by exact hb1)
    have r1 := kr.on (by exact hb1)
    have b1 := Below.on b0 b0.size (by exact hb1)
    clear hb1 k0 kr b0
    go_wp2_with (first
      | (refine wpList_loadBlk (g := w.heap.size) (t := 24) (cs := X) ?hw 24 (.tmp 2) ?ho ?hx ?hA _ Tryd.underlying24 rfl ?hi ?_
         case hw => rfl
         case ho => with_reducible rfl
         case hx => rfl
         case hA => exact k1
         case hi => exact hz1)
      | fail)
    refine (H2.out _).mono ?_; rintro e w2 ⟨rfl, hb2⟩
    have k2 := k1.on (by exact hb2)
    have r2 := r1.on (by exact hb2)
    have b2 := Below.on b1 b1.size (by exact hb2)
    clear hb2 k1 r1 b1
    go_wp2_with (first
      | (refine wpList_loadBlk (g := w.heap.size) (t := 24) (cs := X) ?hw 24 (.tmp 2) ?ho ?hx ?hA _ Tryd.underlying24 rfl ?hi ?_
         case hw => rfl
         case ho => with_reducible rfl
         case hx => rfl
         case hA => exact k2
         case hi => exact hz1)
      | fail)
    refine (H3.out _).mono ?_; rintro e w3 ⟨rfl, hb3⟩
    have r3 := r2.on (by exact hb3)
    have b3 := Below.on b2 b2.size (by exact hb3)
    clear hb3 k2 r2 b2
    go_wp2_with (first
      | (refine wpList_build rfl 45 ?fs ?ho (.agg Y) ?hr ?_
         case ho => with_reducible rfl
         case hr =>
           intro W
           have e1 := HX.out
           have e2 := HY.out
           rw [← e1, ← e2]
           change _ = _
           kernel_rfl)
      | (refine wpList_storeBlk (g := w.heap.size + 1) (t := 45) (cs := Y) ?hw 45 (.tmp 4) (.tmp 23) ?ho ?hx2 ?hy2 Z r3 ?hi ?hs ?h1 ?_
         case ho => with_reducible rfl
         case hw => rfl
         case hx2 => rfl
         case hy2 => rfl
         case hi => exact zs
         case hs => exact z18
         case h1 => exact o1
         intro w9 k9 hg9
         have b9 : Below w.heap.size w w9 := (b3).grown hg9 (b3).size (fun j hj => by injection hj with hj; omega))
      | fail)
    refine bodyPost_blk2 rfl _ rfl k9 Tryd.underlying45 rfl zs rfl ⟨rfl, b9⟩
end Go.Proofs.YtccidoigjdbepaaDoor
