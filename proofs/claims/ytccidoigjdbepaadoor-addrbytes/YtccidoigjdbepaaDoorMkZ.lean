
/- Out of the texts MkB, MkC, MkD, MkE, MkF, MkG, MkH (tools/merge.py). -/
import Derived.Test.YtccidoigjdbepaaDoorMkA
import Derived.Test.YtccidoigjdbepaaDoorZAdr
import Derived.Test.YtccidoigjdbepaaDoorZQd
import Derived.Test.YtccidoigjdbepaaDoorRfA
/- MkB -/
namespace Go.Proofs.YtccidoigjdbepaaDoor
open Go.RowKit
set_option maxRecDepth 100000
set_option linter.unusedSimpArgs false
set_option linter.unusedVariables false

/-- A bit of bytes. -/
def bitB (r : Nat) (c : UInt8) : Nat := c.toNat / 2 ^ (7 - r) % 2
def bitL (l : List UInt8) (i : Nat) : Nat := bitB (i % 8) (l.getD (i / 8) 0)
/-- A bit of an address; -1: there is none. -/
def bitA (v : Int) (l : List UInt8) (i : Int) : Int := if i < 0 ∨ (8 * sizeA v l : Int) ≤ i then -1 else (bitL l i.toNat : Int)

set_option maxHeartbeats 1000000 in
theorem digit_any (v : Int) (l : List UInt8) (hl : l.length = 16) (i : Nat) (hi : i < 128) (w : World) :
    Calls Tryd.prog 91 #[.agg (adv v l), .int .i64 (i : Int)] w fun e w' => e = .returned (.int .i64 (bitL l i : Int)) ∧ Below w.heap.size w w' := by
  obtain ⟨q, hq⟩ : ∃ q : Nat, i / 8 = q := ⟨_, rfl⟩
  obtain ⟨r, hr⟩ : ∃ r : Nat, i % 8 = r := ⟨_, rfl⟩
  have hq1 : (i : Int) / 8 = (q : Int) := by omega
  have hq2 : (i : Int).tdiv 8 = (q : Int) := by rw [Int.tdiv_eq_ediv_of_nonneg (by omega)]; omega
  have hr1 : (i : Int) % 8 = (r : Int) := by omega
  have hr2 : (i : Int).tmod 8 = (r : Int) := by rw [Int.tmod_eq_emod_of_nonneg (by omega)]; omega
  have hq16 : q < 16 := by omega
  have hr8 : r < 8 := by omega
  obtain ⟨c, hc⟩ : ∃ c, l[q]? = some c := ⟨l[q]'(by omega), List.getElem?_eq_getElem _⟩
  have hb : bitL l i = bitB r c := by
    unfold bitL
    rw [hq, hr, List.getD_eq_getElem?_getD, hc]; rfl
  rw [hb]
  have k0 : Blk (w.alloc (.cells (adv v l) 24)) w.heap.size 24 (adv v l) := blk_new _ _ _
  have hcell : (w.alloc (.cells (adv v l) 24)).cell? ⟨w.heap.size, 1 + q, none⟩ = some (bv c) := by
    rw [cell_in k0]; exact adv_b v l q c hc
  have hcb := c.toNat_lt
  have hB := Lib.hid (show bitB r c = c.toNat / 2 ^ (7 - r) % 2 from rfl)
  clear hb hc k0 hq hr
  have hw64 : wrap64 (c.toNat : Int) = (c.toNat : Int) := IntWalk.wrap64_in _ (by omega)
  obtain ⟨C, hC⟩ : ∃ C : Nat, c.toNat = C := ⟨_, rfl⟩
  rw [hC] at hcb hw64 hB
  go_enter Tryd.func91, Tryd.ntmps91
  go_wp2
  go_loopw [5, 6] (fun x u wr => ∃ k : Nat, r ≤ k ∧ k ≤ 7 ∧ u = .int .i64 (k : Int) ∧ x = .int .i64 ((C / 2 ^ (7 - k) : Nat) : Int) ∧ Below w.heap.size w wr) (fun _ u _ => (intOf u).toNat)
  case atStart => exact ⟨7, by omega, Nat.le_refl _, rfl, by rw [Nat.sub_self, Nat.pow_zero, Nat.div_one], (Below.refl _ _).alloc (Nat.le_refl _) _⟩
  case round =>
    obtain ⟨k, hk1, hk2, rfl, rfl, hbel⟩ := hrel
    have hD2 : C / 2 ^ (7 - k) < 256 := Nat.lt_of_le_of_lt (Nat.div_le_self _ _) hcb
    by_cases hlt : r < k
    · have HD := Lib.hid (show C / 2 ^ (7 - (k - 1)) = C / 2 ^ (7 - k) / 2 by
        rw [Nat.div_div_eq_div_mul, ← Nat.pow_succ]; congr 2; omega)
      generalize C / 2 ^ (7 - k) = D at *
      obtain ⟨E, hE⟩ : ∃ E : Nat, D / 2 = E := ⟨_, rfl⟩
      rw [hE] at HD
      have h1 : (D : Int) / 2 = (E : Int) := by omega
      have h2 : (D : Int).tdiv 2 = (E : Int) := by rw [Int.tdiv_eq_ediv_of_nonneg (by omega)]; omega
      have hE2 : E < 256 := by omega
      clear hE
      go_wp2
      go_roundw
      case rel => exact ⟨k - 1, by omega, by omega, by go_num, by rw [HD.out], hbel⟩
      case measure => simp [intOf] <;> omega
    · obtain rfl : k = r := by omega
      have HD := Lib.hid (hB.out)
      generalize C / 2 ^ (7 - k) = D at *
      obtain ⟨E, hE⟩ : ∃ E : Nat, D % 2 = E := ⟨_, rfl⟩
      rw [hE] at HD
      have h1 : (D : Int) % 2 = (E : Int) := by omega
      have h2 : (D : Int).tmod 2 = (E : Int) := by rw [Int.tmod_eq_emod_of_nonneg (by omega)]; omega
      have hE2 : E < 256 := by omega
      clear hE
      go_wp2
      go_ret
      exact ⟨by rw [HD.out]; rfl, hbel⟩

theorem widthA_any (v : Int) (l : List UInt8) (hl : l.length = 16) (w : World) :
    Calls Tryd.prog 19 #[.agg (adv v l)] w fun e w' => e = .returned (.int .i64 (8 * sizeA v l : Int)) ∧ Below w.heap.size w w' := by
  have k0 : Blk (w.alloc (.cells (adv v l) 24)) w.heap.size 24 (adv v l) := blk_new _ _ _
  have hb0 : Below w.heap.size w (w.alloc (.cells (adv v l) 24)) := (Below.refl _ _).alloc (Nat.le_refl _) _
  have hz := Adr_size v l hl
  have HS := Lib.hid (fun W => size_any v l hl W)
  have hm := sizeA_le v l
  generalize sizeA v l = m at *
  go_enter Tryd.func19, Tryd.ntmps19
  go_wp2_with (first
    | (refine wpList_loadBlk (g := w.heap.size) (t := 24) (cs := adv v l) rfl 24 (.tmp 1) ?ho ?hx ?hA _ Tryd.underlying24 rfl ?hi ?_
       case ho => with_reducible rfl
       case hx => rfl
       case hA => exact k0
       case hi => exact hz)
    | fail)
  refine (HS.out _).mono ?_; rintro e w1 ⟨rfl, hb1⟩
  have b1 := Below.on hb0 hb0.size (by exact hb1)
  go_wp2
  go_ret
  exact ⟨rfl, b1⟩
theorem refWidthA_any (v : Int) (l : List UInt8) (hl : l.length = 16) (w : World) :
    Calls Tryd.prog 20 #[.agg (adv v l)] w fun e w' => e = .returned (.int .i64 (8 * sizeA v l : Int)) ∧ Below w.heap.size w w' := by
  have h := refWidth_any v l hl w
  rw [show ((8 * sizeA v l : Nat) : Int) = 8 * (sizeA v l : Int) by simp] at h
  exact h

theorem load1 {w : World} {g : Nat} {t : TypeId} {v : Int} {l : List UInt8} (h : Blk w g t (adv v l)) (q : Nat) (c : UInt8) (hc : l[q]? = some c) : w.cell? ⟨g, 1 + q, none⟩ = some (bv c) := by
  rw [cell_in h]; exact adv_b v l q c hc

theorem shr_bit : ∀ r : Fin 8, ∀ b : Fin 256, bits .and .u8 ((b.val : Int) / 2 ^ (7 - r.val)) 1 = ((b.val / 2 ^ (7 - r.val) % 2 : Nat) : Int) := by decide +kernel
theorem and_bit (r : Nat) (hr : r < 8) (c : UInt8) : bits .and .u8 ((c.toNat : Int) / 2 ^ (7 - r)) 1 = (bitB r c : Int) :=
  shr_bit ⟨r, hr⟩ ⟨c.toNat, c.toNat_lt⟩

end Go.Proofs.YtccidoigjdbepaaDoor

/- MkC -/
namespace Go.Proofs.YtccidoigjdbepaaDoor
open Go.RowKit
set_option maxRecDepth 100000
set_option linter.unusedSimpArgs false
set_option linter.unusedVariables false

theorem mB_bit : ∀ r : Fin 8, ∀ b : Fin 256, b.val / 2 ^ (8 - (r.val + 1)) * 2 ^ (8 - (r.val + 1)) = b.val / 2 ^ (8 - r.val) * 2 ^ (8 - r.val) + b.val / 2 ^ (7 - r.val) % 2 * 2 ^ (7 - r.val) := by decide +kernel
theorem mB_step (r : Nat) (hr : r < 8) (c : UInt8) : (mB (r + 1) c).toNat = (mB r c).toNat + bitB r c * 2 ^ (7 - r) := by
  rw [mB_nat _ (by omega), mB_nat _ (by omega)]
  exact mB_bit ⟨r, hr⟩ ⟨c.toNat, c.toNat_lt⟩

/-- One bit more. -/
theorem mL_step (l : List UInt8) (i : Nat) (c : UInt8) (hc : l[i / 8]? = some c) : mL (i + 1) l = (mL i l).set (i / 8) (mB (i % 8 + 1) c) ∧ (mL i l)[i / 8]? = some (mB (i % 8) c) := by
  have h1 : (mL i l)[i / 8]? = some (mB (i % 8) c) := by
    rw [mL_at i (i / 8) l c hc]
    have : kpt i (i / 8) = i % 8 := by unfold kpt; omega
    rw [this]
  refine ⟨?_, h1⟩
  apply List.ext_getElem?
  intro j
  have hlen := mL_len i l
  rw [List.getElem?_set]
  by_cases hj : i / 8 = j
  · subst hj
    have hlt : i / 8 < (mL i l).length := by rw [hlen]; exact (List.getElem?_eq_some_iff.1 hc).1
    rw [if_pos rfl, if_pos hlt, mL_at (i + 1) (i / 8) l c hc]
    have : kpt (i + 1) (i / 8) = i % 8 + 1 := by unfold kpt; omega
    rw [this]
  · rw [if_neg hj]
    cases h : l[j]? with
    | none =>
      rw [List.getElem?_eq_none_iff] at h
      rw [List.getElem?_eq_none (by rw [mL_len]; exact h), List.getElem?_eq_none (by rw [mL_len]; exact h)]
    | some b =>
      rw [mL_at (i + 1) j l b h, mL_at i j l b h]
      have : kpt (i + 1) j = kpt i j := by unfold kpt; omega
      rw [this]
theorem mL_zero (l : List UInt8) : mL 0 l = List.replicate l.length 0 := by
  apply List.ext_getElem?
  intro j
  cases h : l[j]? with
  | none =>
    rw [List.getElem?_eq_none_iff] at h
    rw [List.getElem?_eq_none (by rw [mL_len]; exact h), List.getElem?_eq_none (by simpa using h)]
  | some b =>
    have hj := (List.getElem?_eq_some_iff.1 h).1
    rw [mL_at 0 j l b h]
    have : kpt 0 j = 0 := by unfold kpt; omega
    rw [this, mB_0, List.getElem?_replicate, if_pos hj]
/-- Bits behind an address's last one don't count. -/
theorem mL_most (v : Int) (l : List UInt8) (hl : l.length = 16) (hok : okA v l = true) (n : Nat) : mL (min n (8 * sizeA v l)) l = mL n l := by
  have hs : sizeA v l = if v = 4 then 4 else 16 := by unfold sizeA; rw [if_pos hok]
  apply List.ext_getElem?
  intro j
  cases h : l[j]? with
  | none =>
    rw [List.getElem?_eq_none_iff] at h
    rw [List.getElem?_eq_none (by rw [mL_len]; exact h), List.getElem?_eq_none (by rw [mL_len]; exact h)]
  | some b =>
    have hj := (List.getElem?_eq_some_iff.1 h).1
    rw [mL_at _ j l b h, mL_at _ j l b h]
    by_cases h4 : v = 4
    · subst h4
      rw [if_pos rfl] at hs
      by_cases hj4 : j < 4
      · have : kpt (min n (8 * sizeA 4 l)) j = kpt n j := by rw [hs]; unfold kpt; omega
        rw [this]
      · have hd : l.drop 4 = zb 12 := by
          unfold okA at hok
          simpa using hok
        have h2 : (l.drop 4)[j - 4]? = some b := by rw [List.getElem?_drop, show 4 + (j - 4) = j by omega]; exact h
        rw [hd, zb, List.getElem?_replicate] at h2
        split at h2
        · injection h2 with h2
          rw [← h2, mB_z _ (kpt_le _ _), mB_z _ (kpt_le _ _)]
        · cases h2
    · rw [if_neg h4] at hs
      have : kpt (min n (8 * sizeA v l)) j = kpt n j := by rw [hs]; unfold kpt; omega
      rw [this]

end Go.Proofs.YtccidoigjdbepaaDoor

/- MkD -/
namespace Go.Proofs.YtccidoigjdbepaaDoor
open Go.RowKit
set_option maxRecDepth 100000
set_option linter.unusedSimpArgs false
set_option linter.unusedVariables false

theorem refMask_no (v bits : Int) (l : List UInt8) (hl : l.length = 16) (hok : okA v l = false) (w : World) :
    Calls Tryd.prog 66 #[.agg (adv v l), .int .i64 bits] w fun e w' => e = .returned (.agg (adv 0 (zb 16))) ∧ Below w.heap.size w w' := by
  have hz0 := (zero_of_info Tryd.zeroAddr).1
  have hzne : ¬ adv 0 (zb 16) = #[] := by unfold adv; simp
  have k0 : Blk (w.alloc (.cells (adv v l) 24)) w.heap.size 24 (adv v l) := blk_new _ _ _
  have j1 : Blk ((w.alloc (.cells (adv v l) 24)).alloc (.cells (adv 0 (zb 16)) 24)) (w.heap.size + 1) 24 (adv 0 (zb 16)) := blk_new' _ _ _ _ (by simp)
  have hb0 : Below w.heap.size w ((w.alloc (.cells (adv v l) 24)).alloc (.cells (adv 0 (zb 16)) 24)) := ((Below.refl _ _).alloc (Nat.le_refl _) _).alloc (by simp) _
  have hz := Adr_size v l hl
  have hz2 := Adr_size 0 (zb 16) (zb_len 16)
  have HR := Lib.hid (fun W => refRight_any v l hl W)
  rw [hok] at HR
  generalize hZ : adv 0 (zb 16) = Z at *
  have k0' := k0.alloc (.cells Z 24)
  go_enter Tryd.func66, Tryd.ntmps66
  go_wp2_with (first
    | (refine wpList_loadBlk (g := w.heap.size) (t := 24) (cs := adv v l) rfl 24 (.tmp 2) ?ho ?hx ?hA _ Tryd.underlying24 rfl ?hi ?_
       case ho => with_reducible rfl
       case hx => rfl
       case hA => exact k0'
       case hi => exact hz)
    | fail)
  refine (HR.out _).mono ?_; rintro e w1 ⟨rfl, hb1⟩
  have j2 := j1.on (by exact hb1)
  have b1 := Below.on hb0 hb0.size (by exact hb1)
  have one := adv_one 0 (zb 16)
  rw [hZ] at one
  go_wp2_with (first
    | (refine wpList_storeBlk (g := w.heap.size + 1) (t := 24) (cs := Z) ?hw 24 (.tmp 4) (.tmp 13) ?ho ?hx2 ?hy2 Z j2 ?hi rfl ?h1 ?_
       case ho => with_reducible rfl
       case hw => rfl
       case hx2 => rfl
       case hy2 => rfl
       case hi => exact hz2
       case h1 => exact one
       intro w5 k5 hg5
       have b5 : Below w.heap.size w w5 := b1.grown hg5 b1.size (fun j hj => by injection hj with hj; omega))
    | fail)
  refine bodyPost_blk rfl _ rfl k5 Tryd.underlying24 rfl hz2 rfl ⟨rfl, b5⟩

theorem set_same (L : List UInt8) (q : Nat) (x : UInt8) (h : L[q]? = some x) : L.set q x = L := by
  obtain ⟨hq, rfl⟩ := List.getElem?_eq_some_iff.1 h
  exact List.set_getElem_self hq
theorem half_pow (r : Nat) (h : r < 8) : 128 / 2 ^ r = 2 ^ (7 - r) := by
  have : ∀ r : Fin 8, 128 / 2 ^ r.val = 2 ^ (7 - r.val) := by decide
  exact this ⟨r, h⟩
theorem pow_le (r : Nat) (h : r < 8) : 2 ^ (7 - r) ≤ 128 := by
  have : ∀ r : Fin 8, 2 ^ (7 - r.val) ≤ 128 := by decide
  exact this ⟨r, h⟩

set_option maxHeartbeats 4000000 in
theorem refMask_ok (v bits : Int) (l : List UInt8) (hl : l.length = 16) (hok : okA v l = true) (hb1 : -9223372036854775808 ≤ bits) (hb2 : bits ≤ 9223372036854775807) (w : World) :
    Calls Tryd.prog 66 #[.agg (adv v l), .int .i64 bits] w fun e w' => e = .returned (.agg (adv v (mL bits.toNat l))) ∧ Below w.heap.size w w' := by
  have hz0 := (zero_of_info Tryd.zeroAddr).1
  have hzne : ¬ adv 0 (zb 16) = #[] := by unfold adv; simp
  have k0 : Blk (w.alloc (.cells (adv v l) 24)) w.heap.size 24 (adv v l) := blk_new _ _ _
  have j1 : Blk ((w.alloc (.cells (adv v l) 24)).alloc (.cells (adv 0 (zb 16)) 24)) (w.heap.size + 1) 24 (adv 0 (zb 16)) := blk_new' _ _ _ _ (by simp)
  have hb0 : Below w.heap.size w ((w.alloc (.cells (adv v l) 24)).alloc (.cells (adv 0 (zb 16)) 24)) := ((Below.refl _ _).alloc (Nat.le_refl _) _).alloc (by simp) _
  have hz := Adr_size v l hl
  have HR := Lib.hid (fun W => refRight_any v l hl W)
  rw [hok] at HR
  have k0' := k0.alloc (.cells (adv 0 (zb 16)) 24)
  have HW := Lib.hid (fun W => refWidthA_any v l hl W)
  have hm := sizeA_le v l
  have HMo := Lib.hid (mL_most v l hl hok bits.toNat)
  have HDg := Lib.hid (fun i hi W => digit_any v l hl i hi W)
  obtain ⟨m, hmm⟩ : ∃ m : Nat, sizeA v l = m := ⟨_, rfl⟩
  rw [hmm] at HW hm HMo
  obtain ⟨X, hX⟩ : ∃ X : Nat, min bits.toNat (8 * m) = X := ⟨_, rfl⟩
  rw [hX] at HMo
  clear hmm
  go_enter Tryd.func66, Tryd.ntmps66
  go_wp2_with (first
    | (refine wpList_loadBlk (g := w.heap.size) (t := 24) (cs := adv v l) rfl 24 (.tmp 2) ?ho ?hx ?hA _ Tryd.underlying24 rfl ?hi ?_
       case ho => with_reducible rfl
       case hx => rfl
       case hA => exact k0'
       case hi => exact hz)
    | fail)
  refine (HR.out _).mono ?_; rintro e w1 ⟨rfl, hb1'⟩
  have j2 := j1.on (by exact hb1')
  have k1 := k0'.on (by exact hb1')
  have b1 := Below.on hb0 hb0.size (by exact hb1')
  have c1 := k1.adv0
  have hg1 : w.heap.size + 2 ≤ w1.heap.size := by have := hb1'.size; simp at this; omega
  clear k0 k0' j1 hb0 hb1'
  have k2 := k1.alloc (.cells (adv v (zb 16)) 24)
  go_wp2_with (first
    | (refine wpList_allocStore (cs := adv v (zb 16)) rfl rfl 24 ?ho (.tmp 5) (.tmp 16) ?ho2 Tryd.zeroAddr ?hz ?hx ?hy ?hn ?h1 ?_
       case ho => with_reducible rfl
       case ho2 => rfl
       case hz => rfl
       case hx => rfl
       case hy => rfl
       case hn => rfl
       case h1 => exact adv_one _ _)
    | (refine wpList_loadBlk (g := w.heap.size) (t := 24) (cs := adv v l) rfl 24 (.tmp 2) ?ho ?hx ?hA _ Tryd.underlying24 rfl ?hi ?_
       case ho => with_reducible rfl
       case hx => rfl
       case hA => exact k2
       case hi => exact hz)
    | fail)
  refine (HW.out _).mono ?_; rintro e w2 ⟨rfl, hb2'⟩
  have b1' := b1.alloc b1.size (.cells (adv v (zb 16)) 24)
  have b2 := Below.on b1' b1'.size (by exact hb2')
  have k3 := k2.on (by exact hb2')
  have j3 := (j2.alloc (.cells (adv v (zb 16)) 24)).on (by exact hb2')
  have g3 := (blk_new w1 24 (adv v (zb 16))).on (by exact hb2')
  clear k1 k2 j2 b1 b1' hb2' c1
  generalize w1.heap.size = G at *
  have hX8 : X ≤ 128 := by omega
  have HX := Lib.hid hX
  have hmI : (8 : Int) * (m : Int) ≤ 128 := by omega
  clear hX
  go_wp2
  go_loopw [7, 8, 9] (fun u _ _ wr => ∃ i : Nat, i ≤ X ∧ u = .int .i64 (i : Int) ∧ Blk wr G 24 (adv v (mL i l)) ∧ Blk wr w.heap.size 24 (adv v l) ∧ Blk wr (w.heap.size + 1) 24 (adv 0 (zb 16)) ∧ Below w.heap.size w wr) (fun u _ _ _ => X - (intOf u).toNat)
  case atStart => exact ⟨0, Nat.zero_le _, rfl, by rw [mL_zero, hl]; exact g3, k3, j3, b2⟩
  case round =>
    clear g3 k3 j3 b2
    obtain ⟨i, hi, rfl, hgb, hkb, hjb, hbel⟩ := hrel
    have hbs := hbel.size
    by_cases hlt : i < X
    · have hx := HX.out
      have hi1 : (i : Int) < 8 * (m : Int) := by omega
      have hi2 : (i : Int) < bits := by omega
      have hi128 : i < 128 := by omega
      clear hx
      obtain ⟨q, hq⟩ : ∃ q : Nat, i / 8 = q := ⟨_, rfl⟩
      obtain ⟨r, hr⟩ : ∃ r : Nat, i % 8 = r := ⟨_, rfl⟩
      have hq1 : (i : Int) / 8 = (q : Int) := by omega
      have hq2 : (i : Int).tdiv 8 = (q : Int) := by rw [Int.tdiv_eq_ediv_of_nonneg (by omega)]; omega
      have hr1 : (i : Int) % 8 = (r : Int) := by omega
      have hr2 : (i : Int).tmod 8 = (r : Int) := by rw [Int.tmod_eq_emod_of_nonneg (by omega)]; omega
      have hq16 : q < 16 := by omega
      have hr8 : r < 8 := by omega
      obtain ⟨c, hc⟩ : ∃ c, l[q]? = some c := ⟨l[q]'(by omega), List.getElem?_eq_getElem _⟩
      have hbit : bitL l i = bitB r c := by
        unfold bitL
        rw [hq, hr, List.getD_eq_getElem?_getD, hc]; rfl
      obtain ⟨s1, s2⟩ := mL_step l i c (by rw [hq]; exact hc)
      rw [hq, hr] at s1
      rw [hq, hr] at s2
      have hst := mB_step r hr8 c
      have hD := HDg.out i hi128
      rw [hbit] at hD
      have HD := Lib.hid hD
      have hB2 : bitB r c < 2 := by unfold bitB; omega
      have S1 := Lib.hid s1
      have S2 := Lib.hid s2
      clear hbit hD s1 s2 hq hr hc
      by_cases hB : bitB r c = 1
      · rw [hB] at HD hst
        rw [Nat.one_mul] at hst
        have Hst := Lib.hid hst
        clear hst hB hB2
        go_wp2_with (first
          | (refine wpList_loadBlk (g := w.heap.size) (t := 24) (cs := adv v l) rfl 24 (.tmp 2) ?ho ?hx ?hA _ Tryd.underlying24 rfl ?hi ?_
             case ho => with_reducible rfl
             case hx => rfl
             case hA => exact hkb
             case hi => exact hz)
          | fail)
        refine (HD.out _).mono ?_; rintro e w4 ⟨rfl, hb4⟩
        have b4 := Below.on hbel hbs hb4
        have g4 := hgb.on hb4
        have k4 := hkb.on hb4
        have j4 := hjb.on hb4
        clear hbel hgb hkb hjb hb4
        go_wp2
        go_loopw [8, 9] (fun x u wr' => ∃ k : Nat, k ≤ r ∧ u = .int .i64 (k : Int) ∧ x = .int .i64 ((128 / 2 ^ k : Nat) : Int) ∧ wr' = w4) (fun _ u _ => r - (intOf u).toNat)
        case atStart => exact ⟨0, Nat.zero_le _, rfl, rfl, rfl⟩
        case round =>
          obtain ⟨k, hk, rfl, rfl, hww⟩ := hrel
          have hww' := hww.symm
          clear hww
          subst hww'
          by_cases hkr : k < r
          · have hP := half_pow k (by omega)
            have HP2 := Lib.hid (show 128 / 2 ^ (k + 1) = 128 / 2 ^ k / 2 by rw [Nat.div_div_eq_div_mul, ← Nat.pow_succ])
            have hPl : 128 / 2 ^ k ≤ 128 := Nat.div_le_self _ _
            generalize 128 / 2 ^ k = P at *
            obtain ⟨E, hE⟩ : ∃ E : Nat, P / 2 = E := ⟨_, rfl⟩
            rw [hE] at HP2
            have h1 : (P : Int) / 2 = (E : Int) := by omega
            have h2 : (P : Int).tdiv 2 = (E : Int) := by rw [Int.tdiv_eq_ediv_of_nonneg (by omega)]; omega
            have hE2 : E ≤ 64 := by omega
            clear hE hP
            go_wp2
            go_roundw
            case rel => exact ⟨k + 1, by omega, by go_num, by rw [HP2.out], trivial⟩
            case measure => simp [intOf] <;> omega
          · obtain rfl : k = r := by omega
            have hP := half_pow k hr8
            have hPl := pow_le k hr8
            rw [hP]
            have Hst2 := Lib.hid Hst.out
            generalize 2 ^ (7 - k) = P at *
            have hA := (mB (k + 1) c).toNat_lt
            have hcell := load1 g4 q _ S2.out
            have hfr := g4.frz (1 + q)
            have HG := Lib.hid (show Blk (w4.setCell ⟨G, 1 + q, none⟩ (bv (mB (k + 1) c))) G 24 (adv v (mL (i + 1) l)) by
              have := g4.setCell (1 + q) (bv (mB (k + 1) c))
              rw [adv_put, ← S1.out] at this
              exact this)
            have HK := Lib.hid (k4.other ⟨G, 1 + q, none⟩ (bv (mB (k + 1) c)) (by simp; omega))
            have HJ := Lib.hid (j4.other ⟨G, 1 + q, none⟩ (bv (mB (k + 1) c)) (by simp; omega))
            have HBl := Lib.hid (b4.setCell (p := ⟨G, 1 + q, none⟩) (by show w.heap.size ≤ G; omega) (bv (mB (k + 1) c)))
            have hsum : ((mB k c).toNat : Int) + (P : Int) = ((mB (k + 1) c).toNat : Int) := by rw [Hst2.out]; simp
            have hP256 : (P : Int) % 256 = (P : Int) := by omega
            have hY256 : ((mB (k + 1) c).toNat : Int) % 256 = ((mB (k + 1) c).toNat : Int) := by omega
            clear g4 k4 j4 b4
            unfold bv at HG HK HJ HBl
            generalize hYY : (mB (k + 1) c).toNat = Y at *
            generalize mB k c = XB at *
            go_wp2
            go_roundw
            case rel => exact ⟨i + 1, by omega, by go_num, HG.out, HK.out, HJ.out, HBl.out⟩
            case measure => simp [intOf] <;> omega
      · have hB0 : bitB r c = 0 := by omega
        rw [hB0] at HD hst
        rw [Nat.zero_mul, Nat.add_zero] at hst
        have hsame : mL (i + 1) l = mL i l := by
          rw [S1.out, UInt8.toNat_inj.1 hst]
          exact set_same _ _ _ S2.out
        have HSm := Lib.hid hsame
        clear hst hB hB2 hsame hB0
        go_wp2_with (first
          | (refine wpList_loadBlk (g := w.heap.size) (t := 24) (cs := adv v l) rfl 24 (.tmp 2) ?ho ?hx ?hA _ Tryd.underlying24 rfl ?hi ?_
             case ho => with_reducible rfl
             case hx => rfl
             case hA => exact hkb
             case hi => exact hz)
          | fail)
        refine (HD.out _).mono ?_; rintro e w4 ⟨rfl, hb4⟩
        have b4 := Below.on hbel hbs hb4
        have g4 := hgb.on hb4
        have k4 := hkb.on hb4
        have j4 := hjb.on hb4
        go_wp2
        go_roundw
        case rel => exact ⟨i + 1, by omega, by go_num, by rw [HSm.out]; exact g4, k4, j4, b4⟩
        case measure => simp [intOf] <;> omega
    · obtain rfl : i = X := by omega
      rw [HMo.out] at hgb
      have hx := HX.out
      have hend : ¬ ((i : Int) < 8 * (m : Int)) ∨ ((i : Int) < 8 * (m : Int) ∧ ¬ ((i : Int) < bits)) := by omega
      clear hx
      have hlM : (mL bits.toNat l).length = 16 := by rw [mL_len, hl]
      have hzm := Adr_size v (mL bits.toNat l) hlM
      have one := adv_one v (mL bits.toNat l)
      have hzs : (adv 0 (zb 16)).size = (adv v (mL bits.toNat l)).size := by rw [adv_size _ _ (zb_len 16), adv_size _ _ hlM]
      clear hlM HMo HX
      generalize hY : adv v (mL bits.toNat l) = Y at *
      rcases hend with h1 | ⟨h1, h2⟩
      all_goals
        go_wp2_with (first
          | (refine wpList_loadBlk (g := G) (t := 24) (cs := Y) rfl 24 (.tmp 5) ?ho ?hx ?hA _ Tryd.underlying24 rfl ?hi ?_
             case ho => with_reducible rfl
             case hx => rfl
             case hA => exact hgb
             case hi => exact hzm)
          | (refine wpList_storeBlk (g := w.heap.size + 1) (t := 24) (cs := Y) ?hw 24 (.tmp 4) (.tmp 53) ?ho ?hx2 ?hy2 (adv 0 (zb 16)) hjb ?hi ?hs ?h1 ?_
             case ho => with_reducible rfl
             case hw => rfl
             case hx2 => rfl
             case hy2 => rfl
             case hi => exact hzm
             case hs => exact hzs
             case h1 => exact one
             intro w5 k5 hg5
             have b5 : Below w.heap.size w w5 := hbel.grown hg5 hbel.size (fun j hj => by injection hj with hj; omega))
          | fail)
        refine bodyPost_blk rfl _ rfl k5 Tryd.underlying24 rfl hzm rfl ⟨rfl, b5⟩

end Go.Proofs.YtccidoigjdbepaaDoor

/- MkE -/
namespace Go.Proofs.YtccidoigjdbepaaDoor
open Go.RowKit
set_option maxRecDepth 100000
set_option linter.unusedSimpArgs false
set_option linter.unusedVariables false

/-- The bits that are the same, byte by byte. -/
def sB (a b : UInt8) : UInt8 := UInt8.ofNat (255 - (a.toNat ^^^ b.toNat))
def sameL (l l' : List UInt8) : List UInt8 := List.zipWith sB l l'
theorem sameL_len (l l' : List UInt8) (hl : l.length = 16) (hl' : l'.length = 16) : (sameL l l').length = 16 := by simp [sameL, hl, hl']
theorem sameL_at (l l' : List UInt8) (k : Nat) (a b : UInt8) (h : l[k]? = some a) (h' : l'[k]? = some b) : (sameL l l')[k]? = some (sB a b) := by
  unfold sameL
  rw [List.getElem?_zipWith, h, h']
/-- How many first bits are the same. -/
def Comm (m : Nat) (l l' : List UInt8) (r : Nat) : Prop := IsLead ((sameL l l').take m) r
theorem comm_some (m : Nat) (l l' : List UInt8) : ∃ r, Comm m l l' r := lead_some _

set_option maxHeartbeats 1000000 in
theorem common_no (v v' : Int) (l l' : List UInt8) (hl : l.length = 16) (hl' : l'.length = 16) (h : okA v l = false ∨ okA v' l' = false ∨ v ≠ v') (w : World) :
    Calls Tryd.prog 59 #[.agg (adv v l), .agg (adv v' l')] w fun e w' => e = .returned (.int .i64 (-1)) ∧ Below w.heap.size w w' := by
  have k0 : Blk ((w.alloc (.cells (adv v l) 24)).alloc (.cells (adv v' l') 24)) w.heap.size 24 (adv v l) := (blk_new _ _ _).alloc _
  have j0 : Blk ((w.alloc (.cells (adv v l) 24)).alloc (.cells (adv v' l') 24)) (w.heap.size + 1) 24 (adv v' l') := blk_new' _ _ _ _ (by simp)
  have b0 : Below w.heap.size w ((w.alloc (.cells (adv v l) 24)).alloc (.cells (adv v' l') 24)) := ((Below.refl _ _).alloc (Nat.le_refl _) _).alloc (by simp) _
  have hz := Adr_size v l hl
  have hz' := Adr_size v' l' hl'
  have H1 := Lib.hid (fun W => right_any v l hl W)
  have H2 := Lib.hid (fun W => right_any v' l' hl' W)
  cases h1 : okA v l
  · rw [h1] at H1
    go_enter Tryd.func59, Tryd.ntmps59
    go_wp2_with (first
      | (refine wpList_loadBlk (g := w.heap.size) (t := 24) (cs := adv v l) rfl 24 (.tmp 2) ?ho ?hx ?hA _ Tryd.underlying24 rfl ?hi ?_
         case ho => with_reducible rfl
         case hx => rfl
         case hA => exact k0
         case hi => exact hz)
      | fail)
    refine (H1.out _).mono ?_; rintro e w1 ⟨rfl, hb1⟩
    have b1 := Below.on b0 b0.size (by exact hb1)
    go_wp2
    go_ret
    exact ⟨rfl, b1⟩
  · rw [h1] at H1
    go_enter Tryd.func59, Tryd.ntmps59
    go_wp2_with (first
      | (refine wpList_loadBlk (g := w.heap.size) (t := 24) (cs := adv v l) rfl 24 (.tmp 2) ?ho ?hx ?hA _ Tryd.underlying24 rfl ?hi ?_
         case ho => with_reducible rfl
         case hx => rfl
         case hA => exact k0
         case hi => exact hz)
      | fail)
    refine (H1.out _).mono ?_; rintro e w1 ⟨rfl, hb1⟩
    have b1 := Below.on b0 b0.size (by exact hb1)
    have k1 := k0.on (by exact hb1)
    have j1 := j0.on (by exact hb1)
    clear k0 j0 b0 hb1
    go_wp2_with (first
      | (refine wpList_loadBlk (g := w.heap.size + 1) (t := 24) (cs := adv v' l') rfl 24 (.tmp 3) ?ho ?hx ?hA _ Tryd.underlying24 rfl ?hi ?_
         case ho => with_reducible rfl
         case hx => rfl
         case hA => exact j1
         case hi => exact hz')
      | fail)
    refine (H2.out _).mono ?_; rintro e w2 ⟨rfl, hb2⟩
    have b2 := Below.on b1 b1.size (by exact hb2)
    have c2 := (k1.on (by exact hb2)).adv0
    have d2 := (j1.on (by exact hb2)).adv0
    cases h2 : okA v' l'
    · go_wp2
      go_ret
      exact ⟨rfl, b2⟩
    · have h3 : v ≠ v' := by
        rcases h with h | h | h
        · rw [h1] at h; cases h
        · rw [h2] at h; cases h
        · exact h
      have h3b : (v != v') = true := by rw [bne_iff_ne]; exact h3
      go_wp2
      go_ret
      exact ⟨rfl, b2⟩

theorem xor_same : ∀ a : Fin 256, ∀ b : Fin 256, bits .xor .u8 (a.val : Int) (b.val : Int) = ((a.val ^^^ b.val : Nat) : Int) := by
  intro a b
  have hx : a.val ^^^ b.val < 2 ^ 8 := Nat.xor_lt_two_pow a.isLt b.isLt
  show IntKind.u8.wrap ((BitVec.ofInt 8 (a.val : Int) ^^^ BitVec.ofInt 8 (b.val : Int)).toNat : Int) = _
  rw [BitVec.toNat_xor, BitVec.toNat_ofInt, BitVec.toNat_ofInt]
  have e1 : ((a.val : Int) % ((2 ^ 8 : Nat) : Int)).toNat = a.val := by have := a.isLt; omega
  have e2 : ((b.val : Int) % ((2 ^ 8 : Nat) : Int)).toNat = b.val := by have := b.isLt; omega
  rw [e1, e2]
  simp [IntKind.wrap, IntKind.bits, IntKind.signed]
  omega
theorem xor_bytes (a b : UInt8) : bits .xor .u8 (a.toNat : Int) (b.toNat : Int) = ((a.toNat ^^^ b.toNat : Nat) : Int) := xor_same ⟨a.toNat, a.toNat_lt⟩ ⟨b.toNat, b.toNat_lt⟩
theorem cpl_all : ∀ n : Fin 256, bits .xor .u8 (if IntKind.u8.signed = true then -1 else IntKind.u8.max) (n.val : Int) = ((255 - n.val : Nat) : Int) := by decide +kernel
theorem cpl_bytes (a b : UInt8) : bits .xor .u8 (if IntKind.u8.signed = true then -1 else IntKind.u8.max) ((a.toNat ^^^ b.toNat : Nat) : Int) = ((sB a b).toNat : Int) := by
  have hx : a.toNat ^^^ b.toNat < 256 := Nat.xor_lt_two_pow (n := 8) a.toNat_lt b.toNat_lt
  rw [cpl_all ⟨_, hx⟩]
  have : (sB a b).toNat = 255 - (a.toNat ^^^ b.toNat) := by unfold sB; simp; omega
  rw [this]
theorem xor_lt (a b : UInt8) : a.toNat ^^^ b.toNat < 256 := Nat.xor_lt_two_pow (n := 8) a.toNat_lt b.toNat_lt

set_option maxHeartbeats 2000000 in
theorem common_yes (v : Int) (l l' : List UInt8) (hl : l.length = 16) (hl' : l'.length = 16) (h1 : okA v l = true) (h2 : okA v l' = true) (r : Nat) (hr : Comm (sizeA v l) l l' r) (w : World) :
    Calls Tryd.prog 59 #[.agg (adv v l), .agg (adv v l')] w fun e w' => e = .returned (.int .i64 (r : Int)) ∧ Below w.heap.size w w' := by
  have k0 : Blk ((w.alloc (.cells (adv v l) 24)).alloc (.cells (adv v l') 24)) w.heap.size 24 (adv v l) := (blk_new _ _ _).alloc _
  have j0 : Blk ((w.alloc (.cells (adv v l) 24)).alloc (.cells (adv v l') 24)) (w.heap.size + 1) 24 (adv v l') := blk_new' _ _ _ _ (by simp)
  have b0 : Below w.heap.size w ((w.alloc (.cells (adv v l) 24)).alloc (.cells (adv v l') 24)) := ((Below.refl _ _).alloc (Nat.le_refl _) _).alloc (by simp) _
  have hz := Adr_size v l hl
  have hz' := Adr_size v l' hl'
  have H1 := Lib.hid (fun W => right_any v l hl W)
  have H2 := Lib.hid (fun W => right_any v l' hl' W)
  have H3 := Lib.hid (fun W => size_any v l hl W)
  rw [h1] at H1
  rw [h2] at H2
  have hm := sizeA_le v l
  have HS := Lib.hid (fun k a b ha hb => sameL_at l l' k a b ha hb)
  have hSl := sameL_len l l' hl hl'
  have Hr := Lib.hid (show IsLead ((sameL l l').take (sizeA v l)) r from hr)
  clear hr
  generalize sizeA v l = m at *
  generalize sameL l l' = SL at *
  go_enter Tryd.func59, Tryd.ntmps59
  go_wp2_with (first
    | (refine wpList_loadBlk (g := w.heap.size) (t := 24) (cs := adv v l) rfl 24 (.tmp 2) ?ho ?hx ?hA _ Tryd.underlying24 rfl ?hi ?_
       case ho => with_reducible rfl
       case hx => rfl
       case hA => exact k0
       case hi => exact hz)
    | fail)
  refine (H1.out _).mono ?_; rintro e w1 ⟨rfl, hb1⟩
  have b1 := Below.on b0 b0.size (by exact hb1)
  have k1 := k0.on (by exact hb1)
  have j1 := j0.on (by exact hb1)
  clear k0 j0 b0 hb1
  go_wp2_with (first
    | (refine wpList_loadBlk (g := w.heap.size + 1) (t := 24) (cs := adv v l') rfl 24 (.tmp 3) ?ho ?hx ?hA _ Tryd.underlying24 rfl ?hi ?_
       case ho => with_reducible rfl
       case hx => rfl
       case hA => exact j1
       case hi => exact hz')
    | fail)
  refine (H2.out _).mono ?_; rintro e w2 ⟨rfl, hb2⟩
  have b2 := Below.on b1 b1.size (by exact hb2)
  have k2 := k1.on (by exact hb2)
  have j2 := j1.on (by exact hb2)
  have c2 := k2.adv0
  have d2 := j2.adv0
  clear k1 j1 b1 hb2
  go_wp2_with (first
    | (refine wpList_loadBlk (g := w.heap.size) (t := 24) (cs := adv v l) rfl 24 (.tmp 2) ?ho ?hx ?hA _ Tryd.underlying24 rfl ?hi ?_
       case ho => with_reducible rfl
       case hx => rfl
       case hA => exact k2
       case hi => exact hz)
    | fail)
  refine (H3.out _).mono ?_; rintro e w3 ⟨rfl, hb3⟩
  have b3 := Below.on b2 b2.size (by exact hb3)
  have k3 := k2.on (by exact hb3)
  have j3 := j2.on (by exact hb3)
  clear k2 j2 b2 hb3 c2 d2
  go_wp2_with (first
    | (at_make; refine wpList_mk _ rfl _ _ rfl w3.heap.size m _ _ rfl rfl rfl rfl (by omega) (Nat.le_refl _) ?_; intro w4 hown hgrow)
    | fail)
  have hW4 : Below w3.heap.size w3 w4 := ⟨hgrow.os, hgrow.tape, hgrow.output, hgrow.size, fun k hk => hgrow.block k hk (by simp)⟩
  have b4 := Below.on b3 b3.size hW4
  have k4 := k3.on hW4
  have j4 := j3.on hW4
  have hG : w.heap.size + 2 ≤ w3.heap.size := by have := j3.lt; omega
  have hown' : Own w4 w3.heap.size (.slice (some ⟨w3.heap.size, 0, none⟩) m m) m ((SL.take m).take 0 ++ List.replicate (m - 0) 0) := hown
  have hML : (SL.take m).length = m := by rw [List.length_take]; omega
  have Hr2 := Lib.hid (Hr.out)
  have HS2 := Lib.hid (fun (k : Nat) (x : UInt8) (hk : k < m) (h : SL[k]? = some x) => show (SL.take m)[k]? = some x by rw [List.getElem?_take_of_lt hk]; exact h)
  clear Hr
  generalize SL.take m = M at *
  have HML := Lib.hid hML
  clear hML hown hgrow hW4 b3 k3 j3
  generalize w3.heap.size = G at *
  go_loopw [27] (fun i wr => ∃ k : Nat, k ≤ m ∧ i = .int .i64 (k : Int) ∧ Own wr G (.slice (some ⟨G, 0, none⟩) m m) m (M.take k ++ List.replicate (m - k) 0) ∧ Blk wr w.heap.size 24 (adv v l) ∧ Blk wr (w.heap.size + 1) 24 (adv v l') ∧ Below w.heap.size w wr) (fun i _ => m - (intOf i).toNat)
  case atStart => exact ⟨0, Nat.zero_le _, rfl, hown', k4, j4, b4⟩
  case round =>
    clear hown' k4 j4 b4
    obtain ⟨k, hk, rfl, hown, hkb, hjb, hbel⟩ := hrel
    have hbs := hbel.size
    by_cases hlt : k < m
    · obtain ⟨a, ha⟩ : ∃ a, l[k]? = some a := ⟨l[k]'(by omega), List.getElem?_eq_getElem _⟩
      obtain ⟨b, hb⟩ : ∃ b, l'[k]? = some b := ⟨l'[k]'(by omega), List.getElem?_eq_getElem _⟩
      have ca := load1 hkb k a ha
      have cb := load1 hjb k b hb
      obtain ⟨old, hc, _⟩ := hown.at hlt
      have hf := World.ownsRow.frozenAt hown k
      have hput := hown.put k (sB a b)
      rw [fill_next M m k _ HML.out (HS2.out k _ hlt (HS.out k a b ha hb))] at hput
      have HK := Lib.hid (hkb.other ⟨G, k, none⟩ (bv (sB a b)) (by simp; omega))
      have HJ := Lib.hid (hjb.other ⟨G, k, none⟩ (bv (sB a b)) (by simp; omega))
      have HBl := Lib.hid (hbel.setCell (p := ⟨G, k, none⟩) (by show w.heap.size ≤ G; omega) (bv (sB a b)))
      have Hp := Lib.hid hput
      have hx := xor_bytes a b
      have hxl := xor_lt a b
      have hcp := cpl_bytes a b
      unfold bv at HK HJ HBl Hp
      generalize a.toNat ^^^ b.toNat = X at *
      generalize sB a b = Y at *
      clear hput hown hkb hjb hbel ha hb
      go_wp2
      go_region
      go_wp2
      go_roundw
      case rel => exact ⟨k + 1, by omega, by go_num, Hp.out.1, HK.out, HJ.out, HBl.out.drew⟩
      case measure => simp [intOf] <;> omega
    · obtain rfl : k = m := by omega
      have hfull : M.take k ++ List.replicate (k - k) 0 = M := by rw [Nat.sub_self, List.take_of_length_le (Nat.le_of_eq HML.out)]; simp
      rw [hfull] at hown
      have hsh := hown.shown
      go_wp2_with fail
      refine (ones_any _ _ _ r M _ (by omega) hsh Hr2.out).mono ?_; rintro e w5 ⟨rfl, rfl⟩
      go_wp2
      go_ret
      exact ⟨rfl, hbel⟩

end Go.Proofs.YtccidoigjdbepaaDoor

/- MkF -/
namespace Go.Proofs.YtccidoigjdbepaaDoor
open Go.RowKit
set_option maxRecDepth 100000
set_option linter.unusedSimpArgs false
set_option linter.unusedVariables false

theorem cpl_bit : ∀ s : Fin 8, ∀ x : Fin 256, ((255 - x.val) / 2 ^ s.val % 2 = 1) ↔ ¬ (x.val / 2 ^ s.val % 2 = 1) := by decide +kernel
theorem sB_bit (s : Nat) (hs : s < 8) (a b : UInt8) : (sB a b).toNat / 2 ^ s % 2 = 1 ↔ a.toNat / 2 ^ s % 2 = b.toNat / 2 ^ s % 2 := by
  have hx : a.toNat ^^^ b.toNat < 256 := xor_lt a b
  have e : (sB a b).toNat = 255 - (a.toNat ^^^ b.toNat) := by unfold sB; simp; omega
  rw [e]
  have h1 := cpl_bit ⟨s, hs⟩ ⟨_, hx⟩
  simp only at h1
  rw [h1]
  have h2 : decide ((a.toNat ^^^ b.toNat) / 2 ^ s % 2 = 1) = ((decide (a.toNat / 2 ^ s % 2 = 1)) ^^ (decide (b.toNat / 2 ^ s % 2 = 1))) := by
    rw [← Nat.testBit_eq_decide_div_mod_eq, ← Nat.testBit_eq_decide_div_mod_eq, ← Nat.testBit_eq_decide_div_mod_eq, Nat.testBit_xor]
  have ha : a.toNat / 2 ^ s % 2 < 2 := Nat.mod_lt _ (by omega)
  have hb : b.toNat / 2 ^ s % 2 < 2 := Nat.mod_lt _ (by omega)
  generalize a.toNat / 2 ^ s % 2 = A at *
  generalize b.toNat / 2 ^ s % 2 = B at *
  have hA : A = 0 ∨ A = 1 := by omega
  have hB : B = 0 ∨ B = 1 := by omega
  rcases hA with rfl | rfl <;> rcases hB with rfl | rfl <;> simp at h2 <;> simp <;> omega

theorem comm_bit (m : Nat) (l l' : List UInt8) (hl : l.length = 16) (hl' : l'.length = 16) (hm : m ≤ 16) (j : Nat) (hj : j < 8 * m) : bitAt ((sameL l l').take m) j = 1 ↔ bitL l j = bitL l' j := by
  obtain ⟨a, ha⟩ : ∃ a, l[j / 8]? = some a := ⟨l[j / 8]'(by omega), List.getElem?_eq_getElem _⟩
  obtain ⟨b, hb⟩ : ∃ b, l'[j / 8]? = some b := ⟨l'[j / 8]'(by omega), List.getElem?_eq_getElem _⟩
  have hs := sameL_at l l' (j / 8) a b ha hb
  unfold bitAt bitL bitB
  rw [List.getElem?_take_of_lt (by omega), hs, List.getD_eq_getElem?_getD, ha, List.getD_eq_getElem?_getD, hb]
  exact sB_bit (7 - j % 8) (by omega) a b
theorem bitAt_lt (l : List UInt8) (j : Nat) : bitAt l j < 2 := Nat.mod_lt _ (by omega)
theorem comm_facts (m : Nat) (l l' : List UInt8) (hl : l.length = 16) (hl' : l'.length = 16) (hm : m ≤ 16) (r : Nat) (h : Comm m l l' r) :
    r ≤ 8 * m ∧ (∀ j < r, bitL l j = bitL l' j) ∧ (r < 8 * m → bitL l r ≠ bitL l' r) := by
  obtain ⟨h1, h2, h3⟩ := h
  have hlen : ((sameL l l').take m).length = m := by rw [List.length_take, sameL_len l l' hl hl']; omega
  rw [hlen] at h1 h3
  refine ⟨h1, fun j hj => (comm_bit m l l' hl hl' hm j (by omega)).1 (h2 j hj), fun hr e => ?_⟩
  have h4 := (comm_bit m l l' hl hl' hm r hr).2 e
  rw [h3 hr] at h4
  cases h4
theorem bitL_lt (l : List UInt8) (j : Nat) : bitL l j < 2 := Nat.mod_lt _ (by omega)

set_option maxHeartbeats 1000000 in
theorem refCommon_yes (v : Int) (l l' : List UInt8) (hl : l.length = 16) (hl' : l'.length = 16) (h1 : okA v l = true) (h2 : okA v l' = true) (r : Nat) (hr : Comm (sizeA v l) l l' r) (w : World) :
    Calls Tryd.prog 67 #[.agg (adv v l), .agg (adv v l')] w fun e w' => e = .returned (.int .i64 (r : Int)) ∧ Below w.heap.size w w' := by
  have k0 : Blk ((w.alloc (.cells (adv v l) 24)).alloc (.cells (adv v l') 24)) w.heap.size 24 (adv v l) := (blk_new _ _ _).alloc _
  have j0 : Blk ((w.alloc (.cells (adv v l) 24)).alloc (.cells (adv v l') 24)) (w.heap.size + 1) 24 (adv v l') := blk_new' _ _ _ _ (by simp)
  have b0 : Below w.heap.size w ((w.alloc (.cells (adv v l) 24)).alloc (.cells (adv v l') 24)) := ((Below.refl _ _).alloc (Nat.le_refl _) _).alloc (by simp) _
  have hz := Adr_size v l hl
  have hz' := Adr_size v l' hl'
  have H1 := Lib.hid (fun W => refRight_any v l hl W)
  have H2 := Lib.hid (fun W => refRight_any v l' hl' W)
  have H3 := Lib.hid (fun W => refWidthA_any v l hl W)
  rw [h1] at H1
  rw [h2] at H2
  have hm := sizeA_le v l
  obtain ⟨f1, f2, f3⟩ := comm_facts _ l l' hl hl' hm r hr
  have F2 := Lib.hid f2
  have F3 := Lib.hid f3
  have D1 := Lib.hid (fun i hi W => digit_any v l hl i hi W)
  have D2 := Lib.hid (fun i hi W => digit_any v l' hl' i hi W)
  have HB1 := Lib.hid (fun j => bitL_lt l j)
  have HB2 := Lib.hid (fun j => bitL_lt l' j)
  clear f2 f3 hr
  have HV1 := Lib.hid (fun (W : World) (g : Nat) (t : TypeId) (h : Blk W g t (adv v l)) => h.adv0)
  have HV2 := Lib.hid (fun (W : World) (g : Nat) (t : TypeId) (h : Blk W g t (adv v l')) => h.adv0)
  generalize sizeA v l = m at *
  obtain ⟨M, hM⟩ : ∃ M : Nat, 8 * m = M := ⟨_, rfl⟩
  rw [show (8 * (m : Int)) = (M : Int) by omega] at H3
  rw [hM] at f1 F3
  have hM128 : M ≤ 128 := by omega
  clear hM
  generalize adv v l = X at *
  generalize adv v l' = X' at *
  go_enter Tryd.func67, Tryd.ntmps67
  go_wp2_with (first
    | (refine wpList_loadBlk (g := w.heap.size) (t := 24) (cs := X) rfl 24 (.tmp 2) ?ho ?hx ?hA _ Tryd.underlying24 rfl ?hi ?_
       case ho => with_reducible rfl
       case hx => rfl
       case hA => exact k0
       case hi => exact hz)
    | fail)
  refine (H1.out _).mono ?_; rintro e w1 ⟨rfl, hb1⟩
  have b1 := Below.on b0 b0.size (by exact hb1)
  have k1 := k0.on (by exact hb1)
  have j1 := j0.on (by exact hb1)
  clear k0 j0 b0 hb1
  go_wp2_with (first
    | (refine wpList_loadBlk (g := w.heap.size + 1) (t := 24) (cs := X') rfl 24 (.tmp 3) ?ho ?hx ?hA _ Tryd.underlying24 rfl ?hi ?_
       case ho => with_reducible rfl
       case hx => rfl
       case hA => exact j1
       case hi => exact hz')
    | fail)
  refine (H2.out _).mono ?_; rintro e w2 ⟨rfl, hb2⟩
  have b2 := Below.on b1 b1.size (by exact hb2)
  have k2 := k1.on (by exact hb2)
  have j2 := j1.on (by exact hb2)
  have c2 := HV1.out _ _ _ k2
  have d2 := HV2.out _ _ _ j2
  clear k1 j1 b1 hb2
  go_wp2_with (first
    | (refine wpList_loadBlk (g := w.heap.size) (t := 24) (cs := X) rfl 24 (.tmp 2) ?ho ?hx ?hA _ Tryd.underlying24 rfl ?hi ?_
       case ho => with_reducible rfl
       case hx => rfl
       case hA => exact k2
       case hi => exact hz)
    | fail)
  refine (H3.out _).mono ?_; rintro e w3 ⟨rfl, hb3⟩
  have b3 := Below.on b2 b2.size (by exact hb3)
  have k3 := k2.on (by exact hb3)
  have j3 := j2.on (by exact hb3)
  clear k2 j2 b2 hb3 c2 d2
  go_wp2
  go_loopw [5] (fun i wr => ∃ k : Nat, k ≤ r ∧ i = .int .i64 (k : Int) ∧ Blk wr w.heap.size 24 X ∧ Blk wr (w.heap.size + 1) 24 X' ∧ Below w.heap.size w wr) (fun i _ => r - (intOf i).toNat)
  case atStart => exact ⟨0, Nat.zero_le _, rfl, k3, j3, b3⟩
  case round =>
    clear k3 j3 b3
    obtain ⟨k, hk, rfl, hkb, hjb, hbel⟩ := hrel
    have hbs := hbel.size
    by_cases hend : k = M
    · obtain rfl : k = r := by omega
      subst hend
      have hI : ¬ ((k : Int) < (k : Int)) := by omega
      go_wp2
      go_quiet (fail)
      go_wp2
      go_ret
      exact ⟨rfl, below_draw hbel _⟩
    · have hI : (k : Int) < (M : Int) := by omega
      have E1 := Lib.hid (D1.out k (by omega))
      have E2 := Lib.hid (D2.out k (by omega))
      have hx1 := HB1.out k
      have hx2 := HB2.out k
      have hcase : ∃ B : Bool, (((bitL l k : Nat) : Int) == ((bitL l' k : Nat) : Int)) = B ∧ ((k < r ∧ B = true) ∨ (k = r ∧ B = false)) := by
        by_cases hkr : k < r
        · exact ⟨true, by rw [F2.out k hkr]; simp, .inl ⟨hkr, rfl⟩⟩
        · have he : k = r := by omega
          have := F3.out (by omega)
          rw [← he] at this
          exact ⟨false, by rw [beq_eq_false_iff_ne]; omega, .inr ⟨he, rfl⟩⟩
      obtain ⟨B, hB, hB2⟩ := hcase
      have HB := Lib.hid hB2
      clear hB2
      generalize bitL l k = P at *
      generalize bitL l' k = Q at *
      go_wp2_with fail
      have hup : ∀ W : World, Below wr.heap.size wr W → Below w.heap.size w W := fun W hW => Below.on hbel hbs hW
      generalize hg1 : w.heap.size = g1 at *
      refine wp_region_below wr.heap.size (by kernel_rfl) (by kernel_rfl) ?_
      repeat (first
        | go_big_quiet_skip
        | (go_big_quiet_want
           first
             | (refine qb_load (g := g1) (t := 24) (cs := X) 24 (.tmp 2) ?ho ?hx ?hA _ Tryd.underlying24 rfl hz ?_
                case ho => with_reducible rfl
                case hx => rfl
                case hA => exact fun w' hw' => hkb.on hw'
                go_big_quiet_on
                simp only [Act.put, List.setIfInBounds_toArray, List.set_cons_succ, List.set_cons_zero])
             | (refine qb_load (g := g1 + 1) (t := 24) (cs := X') 24 (.tmp 3) ?ho ?hx ?hA _ Tryd.underlying24 rfl hz' ?_
                case ho => with_reducible rfl
                case hx => rfl
                case hA => exact fun w' hw' => hjb.on hw'
                go_big_quiet_on
                simp only [Act.put, List.setIfInBounds_toArray, List.set_cons_succ, List.set_cons_zero])
             | (go_big_quiet_op
                first
                  | go_big_quiet_on
                  | (with_reducible refine ⟨_, fun _ _ => rfl, ?_⟩; go_big_quiet_on)
                  | (apply Exists.intro
                     refine ⟨fun w' hw' => ?_, ?_⟩
                     · (go_at_call 91; with_reducible refine (E1.out _).mono ?_; exact fun _ _ h => ⟨h.1, Below.on hw' hw'.size h.2⟩)
                     go_big_quiet_on)
                  | (apply Exists.intro
                     refine ⟨fun w' hw' => ?_, ?_⟩
                     · (go_at_call 91; with_reducible refine (E2.out _).mono ?_; exact fun _ _ h => ⟨h.1, Below.on hw' hw'.size h.2⟩)
                     go_big_quiet_on))))
      refine wpQuiet_nil ?_
      intro w4 hw4
      have b4 := hup w4 hw4
      have k4 := hkb.on hw4
      have j4 := hjb.on hw4
      rcases HB.out with ⟨hkr, hBt⟩ | ⟨hkr, hBf⟩
      · subst hBt
        go_wp2
        go_roundw
        case rel =>
          exact ⟨k + 1, by omega, by omega⟩
        case measure => simp [intOf] <;> omega
      · subst hBf hkr
        go_wp2
        go_ret
        exact ⟨rfl, b4⟩

set_option maxHeartbeats 1000000 in
theorem refCommon_no (v v' : Int) (l l' : List UInt8) (hl : l.length = 16) (hl' : l'.length = 16) (h : okA v l = false ∨ okA v' l' = false ∨ v ≠ v') (w : World) :
    Calls Tryd.prog 67 #[.agg (adv v l), .agg (adv v' l')] w fun e w' => e = .returned (.int .i64 (-1)) ∧ Below w.heap.size w w' := by
  have k0 : Blk ((w.alloc (.cells (adv v l) 24)).alloc (.cells (adv v' l') 24)) w.heap.size 24 (adv v l) := (blk_new _ _ _).alloc _
  have j0 : Blk ((w.alloc (.cells (adv v l) 24)).alloc (.cells (adv v' l') 24)) (w.heap.size + 1) 24 (adv v' l') := blk_new' _ _ _ _ (by simp)
  have b0 : Below w.heap.size w ((w.alloc (.cells (adv v l) 24)).alloc (.cells (adv v' l') 24)) := ((Below.refl _ _).alloc (Nat.le_refl _) _).alloc (by simp) _
  have hz := Adr_size v l hl
  have hz' := Adr_size v' l' hl'
  have H1 := Lib.hid (fun W => refRight_any v l hl W)
  have H2 := Lib.hid (fun W => refRight_any v' l' hl' W)
  cases h1 : okA v l
  · rw [h1] at H1
    go_enter Tryd.func67, Tryd.ntmps67
    go_wp2_with (first
      | (refine wpList_loadBlk (g := w.heap.size) (t := 24) (cs := adv v l) rfl 24 (.tmp 2) ?ho ?hx ?hA _ Tryd.underlying24 rfl ?hi ?_
         case ho => with_reducible rfl
         case hx => rfl
         case hA => exact k0
         case hi => exact hz)
      | fail)
    refine (H1.out _).mono ?_; rintro e w1 ⟨rfl, hb1⟩
    have b1 := Below.on b0 b0.size (by exact hb1)
    go_wp2
    go_ret
    exact ⟨rfl, b1⟩
  · rw [h1] at H1
    go_enter Tryd.func67, Tryd.ntmps67
    go_wp2_with (first
      | (refine wpList_loadBlk (g := w.heap.size) (t := 24) (cs := adv v l) rfl 24 (.tmp 2) ?ho ?hx ?hA _ Tryd.underlying24 rfl ?hi ?_
         case ho => with_reducible rfl
         case hx => rfl
         case hA => exact k0
         case hi => exact hz)
      | fail)
    refine (H1.out _).mono ?_; rintro e w1 ⟨rfl, hb1⟩
    have b1 := Below.on b0 b0.size (by exact hb1)
    have k1 := k0.on (by exact hb1)
    have j1 := j0.on (by exact hb1)
    clear k0 j0 b0 hb1
    go_wp2_with (first
      | (refine wpList_loadBlk (g := w.heap.size + 1) (t := 24) (cs := adv v' l') rfl 24 (.tmp 3) ?ho ?hx ?hA _ Tryd.underlying24 rfl ?hi ?_
         case ho => with_reducible rfl
         case hx => rfl
         case hA => exact j1
         case hi => exact hz')
      | fail)
    refine (H2.out _).mono ?_; rintro e w2 ⟨rfl, hb2⟩
    have b2 := Below.on b1 b1.size (by exact hb2)
    have c2 := (k1.on (by exact hb2)).adv0
    have d2 := (j1.on (by exact hb2)).adv0
    cases h2 : okA v' l'
    · go_wp2
      go_ret
      exact ⟨rfl, b2⟩
    · have h3 : v ≠ v' := by
        rcases h with h | h | h
        · rw [h1] at h; cases h
        · rw [h2] at h; cases h
        · exact h
      have h3b : (v != v') = true := by rw [bne_iff_ne]; exact h3
      go_wp2
      go_ret
      exact ⟨rfl, b2⟩


end Go.Proofs.YtccidoigjdbepaaDoor

/- MkG -/
namespace Go.Proofs.YtccidoigjdbepaaDoor
open Go.RowKit Dec Qd
set_option maxRecDepth 100000
set_option linter.unusedSimpArgs false
set_option linter.unusedVariables false

theorem ok4 (a b c d : UInt8) : okA 4 ([a, b, c, d] ++ zb 12) = true := by
  unfold okA
  simp

theorem arrayAt4 (g : Nat) (W : World) : (Instr.arrayAt 37 (.slice (some ⟨g, 1, none⟩) 4 16)).run Tryd.prog W = .ok (.pointer (some ⟨g, 1, none⟩)) W := by
  simp [Instr.arrayAt, run_underlying Tryd.underlying37]
set_option maxHeartbeats 1000000 in
theorem text4_any (a b c d : UInt8) (w : World) (htab : Tab w) :
    Calls Tryd.prog 14 #[.agg (adv 4 ([a, b, c, d] ++ zb 12))] w fun e w' => e = .returned (sv (qT a b c d)) ∧ Below w.heap.size w w' := by
  have hl : ([a, b, c, d] ++ zb 12).length = 16 := rfl
  have hok := ok4 a b c d
  have hs : sizeA 4 ([a, b, c, d] ++ zb 12) = 4 := by unfold sizeA; rw [if_pos hok]; rfl
  have HS := size_any 4 ([a, b, c, d] ++ zb 12) hl
  rw [hs] at HS
  have H1 := Lib.hid (fun W => HS W)
  have H2 := Lib.hid (fun W h => qtext_any a b c d W h)
  have Htab := Lib.hid htab
  have k0 : Blk (w.alloc (.cells (adv 4 ([a, b, c, d] ++ zb 12)) 24)) w.heap.size 24 (adv 4 ([a, b, c, d] ++ zb 12)) := blk_new _ _ _
  have hb0 : Below w.heap.size w (w.alloc (.cells (adv 4 ([a, b, c, d] ++ zb 12)) 24)) := (Below.refl _ _).alloc (Nat.le_refl _) _
  have hz := Adr_size 4 _ hl
  have HC := Lib.hid (fun (W : World) (g : Nat) (t : TypeId) (h : Blk W g t (adv 4 ([a, b, c, d] ++ zb 12))) => show W.cell? ⟨g, 1, none⟩ = some (bv a) ∧ W.cell? ⟨g, 2, none⟩ = some (bv b) ∧ W.cell? ⟨g, 3, none⟩ = some (bv c) ∧ W.cell? ⟨g, 4, none⟩ = some (bv d) from
    ⟨load1 h 0 a rfl, load1 h 1 b rfl, load1 h 2 c rfl, load1 h 3 d rfl⟩)
  clear hs HS hok hl htab
  generalize adv 4 ([a, b, c, d] ++ zb 12) = X at *
  generalize qT a b c d = T at *
  go_enter Tryd.func14, Tryd.ntmps14
  go_wp2_with (first
    | (refine wpList_loadBlk (g := w.heap.size) (t := 24) (cs := X) rfl 24 (.tmp 1) ?ho ?hx ?hA _ Tryd.underlying24 rfl ?hi ?_
       case ho => with_reducible rfl
       case hx => rfl
       case hA => exact k0
       case hi => exact hz)
    | fail)
  refine (H1.out _).mono ?_; rintro e w1 ⟨rfl, hb1⟩
  have b1 := Below.on hb0 hb0.size (by exact hb1)
  have k1 := k0.on (by exact hb1)
  obtain ⟨c0, c1, c2, c3⟩ := HC.out _ _ _ k1
  have hat := arrayAt4 w.heap.size
  go_wp2_with fail
  refine (H2.out _ (Htab.out.on b1)).mono ?_; rintro e w2 ⟨rfl, hb2⟩
  have b2 := Below.on b1 b1.size hb2
  go_wp2
  go_ret
  exact ⟨rfl, b2⟩

theorem mask9 : mL 9 ([10, 1, 2, 3] ++ zb 12) = [10, 0, 0, 0] ++ zb 12 := by decide
theorem lit_mask (w : World) : Calls Tryd.prog 58 #[.agg (adv 4 ([10, 1, 2, 3] ++ zb 12)), .int .i64 9] w fun e w' => e = .returned (.agg (adv 4 ([10, 0, 0, 0] ++ zb 12))) ∧ Below w.heap.size w w' := by
  have h := mask_ok 4 9 ([10, 1, 2, 3] ++ zb 12) rfl (ok4 10 1 2 3) (by omega) (by omega) w
  rw [show (9 : Int).toNat = 9 from rfl, mask9] at h
  exact h
theorem comm30 : Comm 4 ([10, 0, 0, 1] ++ zb 12) ([10, 0, 0, 2] ++ zb 12) 30 := by
  refine ⟨by decide, ?_, by decide⟩
  have : ∀ j : Fin 30, bitAt ((sameL ([10, 0, 0, 1] ++ zb 12) ([10, 0, 0, 2] ++ zb 12)).take 4) j.val = 1 := by decide
  exact fun j hj => this ⟨j, hj⟩
theorem lit_common (w : World) : Calls Tryd.prog 59 #[.agg (adv 4 ([10, 0, 0, 1] ++ zb 12)), .agg (adv 4 ([10, 0, 0, 2] ++ zb 12))] w fun e w' => e = .returned (.int .i64 30) ∧ Below w.heap.size w w' :=
  common_yes 4 _ _ rfl rfl (ok4 10 0 0 1) (ok4 10 0 0 2) 30 (by
    have hs : sizeA 4 ([10, 0, 0, 1] ++ zb 12) = 4 := by unfold sizeA; rw [if_pos (ok4 10 0 0 1)]; rfl
    rw [hs]; exact comm30) w
theorem ds2 : ds 2 = [50] := dec_small 2 (by omega)
theorem ds3 : ds 3 = [51] := dec_small 3 (by omega)
theorem lit_atext (w : World) (htab : Tab w) : Calls Tryd.prog 14 #[.agg (adv 4 ([10, 1, 2, 3] ++ zb 12))] w fun e w' => e = .returned (.string ⟨#[49, 48, 46, 49, 46, 50, 46, 51]⟩) ∧ Below w.heap.size w w' := by
  have h := text4_any 10 1 2 3 w htab
  rw [show qT 10 1 2 3 = [49, 48, 46, 49, 46, 50, 46, 51] by rw [qT, ds10, ds1, ds2, ds3]; rfl] at h
  exact h

set_option maxHeartbeats 2000000 in
theorem alive10 (w : World) (htab : Tab w) : Calls Tryd.prog 21 #[] w fun e w' => e = .returned (.bool true) ∧ Below w.heap.size w w' := by
  have Htab := Lib.hid htab
  clear htab
  have hz0 := (zero_of_info Tryd.zeroAddr).1
  have hzne : ¬ adv 0 (zb 16) = #[] := by unfold adv; simp
  have HM := Lib.hid (fun W => lit_mask W)
  have HC := Lib.hid (fun W => lit_common W)
  have HT := Lib.hid (fun W h => lit_atext W h)
  have F1 := Lib.hid (fun W => four_any [10, 1, 2, 3] rfl W)
  have F2 := Lib.hid (fun W => four_any [10, 0, 0, 0] rfl W)
  have F3 := Lib.hid (fun W => four_any [10, 0, 0, 1] rfl W)
  have F4 := Lib.hid (fun W => four_any [10, 0, 0, 2] rfl W)
  have HE := adr_eq 4 4 ([10, 0, 0, 0] ++ zb 12) ([10, 0, 0, 0] ++ zb 12) rfl rfl
  rw [show ((4 : Int) == 4 && ([10, 0, 0, 0] ++ zb 12 : List UInt8) == [10, 0, 0, 0] ++ zb 12) = true by simp] at HE
  have hz1 := Adr_size 4 ([10, 1, 2, 3] ++ zb 12) rfl
  have one1 := adv_one 4 ([10, 1, 2, 3] ++ zb 12)
  have sz1 := adv_size 4 ([10, 1, 2, 3] ++ zb 12) rfl
  have HEh := Lib.hid HE
  generalize adv 4 ([10, 1, 2, 3] ++ zb 12) = X1 at *
  generalize adv 4 ([10, 0, 0, 0] ++ zb 12) = X2 at *
  generalize adv 4 ([10, 0, 0, 1] ++ zb 12) = X3 at *
  generalize adv 4 ([10, 0, 0, 2] ++ zb 12) = X4 at *
  clear HE
  go_enter Tryd.func21, Tryd.ntmps21
  go_wp2_with fail
  refine (F1.out _).mono ?_; rintro e w1 ⟨rfl, hb1⟩
  go_wp2_with (first
    | (refine wpList_allocStore (cs := X1) rfl rfl 24 ?ho (.tmp 1) (.tmp 3) ?ho2 Tryd.zeroAddr ?hz ?hx ?hy ?hn ?h1 ?_
       case ho => with_reducible rfl
       case ho2 => rfl
       case hz => rfl
       case hx => rfl
       case hy => rfl
       case hn => exact sz1
       case h1 => exact one1
       have k1 : Blk (w1.alloc (.cells X1 24)) w1.heap.size 24 X1 := blk_new _ _ _
       have b1 : Below w.heap.size w (w1.alloc (.cells X1 24)) := hb1.alloc hb1.size _)
    | (refine wpList_loadBlk (g := w1.heap.size) (t := 24) (cs := X1) rfl 24 (.tmp 1) ?ho ?hx ?hA _ Tryd.underlying24 rfl ?hi ?_
       case ho => with_reducible rfl
       case hx => rfl
       case hA => exact k1
       case hi => exact hz1)
    | fail)
  refine (HM.out _).mono ?_; rintro e w2 ⟨rfl, hb2⟩
  have b2 := Below.on b1 b1.size (by exact hb2)
  have k2 := k1.on (by exact hb2)
  have heq := HEh.out
  clear k1 b1 hb2 hb1
  go_wp2_with fail
  refine (F2.out _).mono ?_; rintro e w3 ⟨rfl, hb3⟩
  have b3 := Below.on b2 b2.size (by exact hb3)
  have k3 := k2.on (by exact hb3)
  clear k2 b2 hb3
  go_wp2_with fail
  refine (F3.out _).mono ?_; rintro e w4 ⟨rfl, hb4⟩
  have b4 := Below.on b3 b3.size (by exact hb4)
  have k4 := k3.on (by exact hb4)
  clear k3 b3 hb4
  go_wp2_with fail
  refine (F4.out _).mono ?_; rintro e w5 ⟨rfl, hb5⟩
  have b5 := Below.on b4 b4.size (by exact hb5)
  have k5 := k4.on (by exact hb5)
  clear k4 b4 hb5
  go_wp2_with fail
  refine (HC.out _).mono ?_; rintro e w6 ⟨rfl, hb6⟩
  have b6 := Below.on b5 b5.size (by exact hb6)
  have k6 := k5.on (by exact hb6)
  clear k5 b5 hb6
  go_wp2_with (first
    | (refine wpList_loadBlk (g := w1.heap.size) (t := 24) (cs := X1) rfl 24 (.tmp 1) ?ho ?hx ?hA _ Tryd.underlying24 rfl ?hi ?_
       case ho => with_reducible rfl
       case hx => rfl
       case hA => exact k6
       case hi => exact hz1)
    | fail)
  refine (HT.out _ (Htab.out.on b6)).mono ?_; rintro e w7 ⟨rfl, hb7⟩
  have b7 := Below.on b6 b6.size (by exact hb7)
  go_wp2
  go_ret
  exact ⟨rfl, b7⟩

end Go.Proofs.YtccidoigjdbepaaDoor

/- MkH -/
namespace Go.Proofs.YtccidoigjdbepaaDoor
open Go.RowKit Dec Qd
set_option maxRecDepth 100000
set_option linter.unusedSimpArgs false
set_option linter.unusedVariables false

theorem okA_v (v : Int) (l : List UInt8) (h : okA v l = true) : v = 4 ∨ v = 6 := by
  unfold okA at h
  rcases Bool.or_eq_true_iff.1 h with h | h
  · right; simpa using h
  · left
    have := (Bool.and_eq_true_iff.1 h).1
    simpa using this
theorem unsB_ok (v : Int) (l : List UInt8) (h : okA v l = true) : unsB v l = (l == zb 16) := by
  rcases okA_v v l h with rfl | rfl <;> simp [unsB, zb]
theorem unsB_no (v : Int) (l : List UInt8) (h : okA v l = false) : unsB v l = false := by
  cases hu : unsB v l
  · rfl
  · exfalso
    unfold unsB at hu
    have : okA v l = true := by
      rcases Bool.or_eq_true_iff.1 hu with h1 | h1
      · obtain ⟨a, b⟩ := Bool.and_eq_true_iff.1 h1
        have ha : v = 4 := by simpa using a
        have hb : l = zb 4 ++ zb 12 := by simpa using b
        subst ha hb
        decide
      · obtain ⟨a, b⟩ := Bool.and_eq_true_iff.1 h1
        have ha : v = 6 := by simpa using a
        subst ha
        unfold okA; rfl
    rw [this] at h; cases h

end Go.Proofs.YtccidoigjdbepaaDoor
