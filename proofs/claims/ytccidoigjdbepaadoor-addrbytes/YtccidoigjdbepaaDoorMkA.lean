
/- Contract: addr.Mask. -/
import Derived.Test.YtccidoigjdbepaaDoorMkN
import Derived.Deep.MidRow
import Derived.Deep.RegionWith
namespace Go.Proofs.YtccidoigjdbepaaDoor
open Go.RowKit
set_option maxRecDepth 100000
set_option linter.unusedSimpArgs false
set_option linter.unusedVariables false

theorem adv_put (v : Int) (l : List UInt8) (k : Nat) (x : UInt8) : (adv v l).setIfInBounds (1 + k) (bv x) = adv v (l.set k x) := by
  unfold adv
  rw [List.setIfInBounds_toArray, Nat.add_comm 1 k, List.set_cons_succ, List.map_set]

theorem cell_in {w : World} {g : Nat} {t : TypeId} {cs : Array Value} (h : Blk w g t cs) (j : Nat) : w.cell? ⟨g, j, none⟩ = cs[j]? := Lib.cell_of_heap h j
/-- The byte that keeps k bits. -/
def keepS : Nat → Int
  | 0 => 0 | 1 => 128 | 2 => 192 | 3 => 224 | 4 => 240 | 5 => 248 | 6 => 252 | 7 => 254 | _ => 255
theorem and_keep : ∀ k : Fin 9, ∀ b : Fin 256, bits .and .u8 (b.val : Int) (keepS k.val) = ((b.val / 2 ^ (8 - k.val) * 2 ^ (8 - k.val) : Nat) : Int) := by decide +kernel
theorem and_mB (k : Nat) (hk : k ≤ 8) (c : UInt8) : bits .and .u8 (c.toNat : Int) (keepS k) = ((mB k c).toNat : Int) := by
  rw [mB_nat k hk]
  exact and_keep ⟨k, by omega⟩ ⟨c.toNat, c.toNat_lt⟩

theorem and_keep2 : ∀ k : Fin 9, ∀ b : Fin 256, bits .and .u8 (b.val : Int) ((255 : Int) * 2 ^ (8 - k.val) % 256) = ((b.val / 2 ^ (8 - k.val) * 2 ^ (8 - k.val) : Nat) : Int) := by decide +kernel
theorem and_mB2 (k : Nat) (hk : k ≤ 8) (c : UInt8) : bits .and .u8 (c.toNat : Int) ((255 : Int) * 2 ^ (8 - k) % 256) = ((mB k c).toNat : Int) := by
  rw [mB_nat k hk]
  exact and_keep2 ⟨k, by omega⟩ ⟨c.toNat, c.toNat_lt⟩

theorem mask_no (v bits : Int) (l : List UInt8) (hl : l.length = 16) (hok : okA v l = false) (w : World) :
    Calls Tryd.prog 58 #[.agg (adv v l), .int .i64 bits] w fun e w' => e = .returned (.agg (adv 0 (zb 16))) ∧ Below w.heap.size w w' := by
  have hz0 := (zero_of_info Tryd.zeroAddr).1
  have hzne : ¬ adv 0 (zb 16) = #[] := by unfold adv; simp
  have k0 : Blk (w.alloc (.cells (adv v l) 24)) w.heap.size 24 (adv v l) := blk_new _ _ _
  have j1 : Blk ((w.alloc (.cells (adv v l) 24)).alloc (.cells (adv 0 (zb 16)) 24)) (w.heap.size + 1) 24 (adv 0 (zb 16)) := blk_new' _ _ _ _ (by simp)
  have hb0 : Below w.heap.size w ((w.alloc (.cells (adv v l) 24)).alloc (.cells (adv 0 (zb 16)) 24)) := ((Below.refl _ _).alloc (Nat.le_refl _) _).alloc (by simp) _
  have hz := Adr_size v l hl
  have hz2 := Adr_size 0 (zb 16) (zb_len 16)
  have HR := Lib.hid (fun W => right_any v l hl W)
  rw [hok] at HR
  generalize hZ : adv 0 (zb 16) = Z at *
  have k0' := k0.alloc (.cells Z 24)
  go_enter Tryd.func58, Tryd.ntmps58
  go_wp2_with (first
    | (refine wpList_loadBlk (g := w.heap.size) (t := 24) (cs := adv v l) rfl 24 (.tmp 2) ?ho ?hx ?hA _ Tryd.underlying24 rfl ?hi ?_
       case ho => with_reducible rfl
       case hx => rfl
       case hA => exact k0'
       case hi => exact hz)
    | fail)
  refine (HR.out _).mono ?_; rintro e w1 ⟨rfl, hb1⟩
  have j2 := j1.on (by exact hb1)
  have b1 := Below.on hb0 hb0.size (by exact hb1)
  have one := adv_one 0 (zb 16)
  rw [hZ] at one
  go_wp2_with (first
    | (refine wpList_storeBlk (g := w.heap.size + 1) (t := 24) (cs := Z) ?hw 24 (.tmp 4) (.tmp 10) ?ho ?hx2 ?hy2 Z j2 ?hi rfl ?h1 ?_
       case ho => with_reducible rfl
       case hw => rfl
       case hx2 => rfl
       case hy2 => rfl
       case hi => exact hz2
       case h1 => exact one
       intro w5 k5 hg5
       have b5 : Below w.heap.size w w5 := b1.grown hg5 b1.size (fun j hj => by injection hj with hj; omega))
    | fail)
  refine bodyPost_blk rfl _ rfl k5 Tryd.underlying24 rfl hz2 rfl ⟨rfl, b5⟩

set_option maxHeartbeats 4000000 in
theorem mask_ok (v bits : Int) (l : List UInt8) (hl : l.length = 16) (hok : okA v l = true) (hb1 : -9223372036854775808 ≤ bits) (hb2 : bits ≤ 9223372036854775807) (w : World) :
    Calls Tryd.prog 58 #[.agg (adv v l), .int .i64 bits] w fun e w' => e = .returned (.agg (adv v (mL bits.toNat l))) ∧ Below w.heap.size w w' := by
  have hz0 := (zero_of_info Tryd.zeroAddr).1
  have hzne : ¬ adv 0 (zb 16) = #[] := by unfold adv; simp
  have k0 : Blk (w.alloc (.cells (adv v l) 24)) w.heap.size 24 (adv v l) := blk_new _ _ _
  have j1 : Blk ((w.alloc (.cells (adv v l) 24)).alloc (.cells (adv 0 (zb 16)) 24)) (w.heap.size + 1) 24 (adv 0 (zb 16)) := blk_new' _ _ _ _ (by simp)
  have hb0 : Below w.heap.size w ((w.alloc (.cells (adv v l) 24)).alloc (.cells (adv 0 (zb 16)) 24)) := ((Below.refl _ _).alloc (Nat.le_refl _) _).alloc (by simp) _
  have hz := Adr_size v l hl
  have hz2 := Adr_size 0 (zb 16) (zb_len 16)
  have HR := Lib.hid (fun W => right_any v l hl W)
  rw [hok] at HR
  generalize hZ : adv 0 (zb 16) = Z at *
  have k0' := k0.alloc (.cells Z 24)
  obtain ⟨n, hn⟩ : ∃ n : Nat, bits.toNat = n := ⟨_, rfl⟩
  rw [hn]
  have hmax : (if bits < 0 then (0 : Int) else bits) = (n : Int) := by split <;> omega
  have hnb : n ≤ 9223372036854775807 := by omega
  have HM := Lib.hid (fun k c (h : l[k]? = some c) => mL_at n k l c h)
  have HL := Lib.hid (mL_len n l)
  clear hn
  go_enter Tryd.func58, Tryd.ntmps58
  go_wp2_with (first
    | (refine wpList_loadBlk (g := w.heap.size) (t := 24) (cs := adv v l) rfl 24 (.tmp 2) ?ho ?hx ?hA _ Tryd.underlying24 rfl ?hi ?_
       case ho => with_reducible rfl
       case hx => rfl
       case hA => exact k0'
       case hi => exact hz)
    | fail)
  refine (HR.out _).mono ?_; rintro e w1 ⟨rfl, hb1⟩
  have j2 := j1.on (by exact hb1)
  have k1 := k0'.on (by exact hb1)
  have b1 := Below.on hb0 hb0.size (by exact hb1)
  clear k0 k0' j1 hb0 hb1
  go_wp2
  go_loopw [13] (fun i wr => ∃ k : Nat, k ≤ 16 ∧ i = .int .i64 k ∧ Blk wr w.heap.size 24 (adv v ((mL n l).take k ++ l.drop k)) ∧ Blk wr (w.heap.size + 1) 24 Z ∧ Below w.heap.size w wr) (fun i _ => 16 - (intOf i).toNat)
  case atStart => exact ⟨0, Nat.zero_le _, rfl, by simpa using k1, j2, b1⟩
  case round =>
    clear k1 j2 b1
    obtain ⟨k, hk, rfl, hkb, hjb, hbel⟩ := hrel
    have hbs := hbel.size
    by_cases hlt : k < 16
    · obtain ⟨c, hc⟩ : ∃ c, l[k]? = some c := ⟨l[k]'(by omega), List.getElem?_eq_getElem _⟩
      have HS := Lib.hid (mix_set l (mL n l) k _ HL.out (HM.out k c hc))
      have hcell : wr.cell? ⟨w.heap.size, 1 + k, none⟩ = some (bv c) := by
        rw [cell_in hkb]; exact adv_b v _ k c (mix_at l (mL n l) k c HL.out hc)
      have hfr := hkb.frz (1 + k)
      obtain ⟨K, hK⟩ : ∃ K : Nat, kpt n k = K := ⟨_, rfl⟩
      have hK8 : K ≤ 8 := by rw [← hK]; exact kpt_le n k
      obtain ⟨M, hM⟩ : ∃ M : Nat, M = n - 8 * k := ⟨_, rfl⟩
      have hmx : (if (n : Int) - 8 * (k : Int) < 0 then (0 : Int) else (n : Int) - 8 * (k : Int)) = (M : Int) := by split <;> omega
      have hKM : K = min M 8 := by rw [← hK, hM]; rfl
      rw [hK] at HS
      have HK2 := Lib.hid (show Blk (wr.setCell ⟨w.heap.size, 1 + k, none⟩ (bv (mB K c))) w.heap.size 24 (adv v ((mL n l).take (k + 1) ++ l.drop (k + 1))) by
        have := hkb.setCell (1 + k) (bv (mB K c))
        rw [adv_put, HS.out] at this
        exact this)
      have HJ := Lib.hid (hjb.other ⟨w.heap.size, 1 + k, none⟩ (bv (mB K c)) (by simp))
      have HBl := Lib.hid (hbel.setCell (p := ⟨w.heap.size, 1 + k, none⟩) (Nat.le_refl _) (bv (mB K c)))
      clear hM hkb hjb hc HS hK
      by_cases h8 : 8 < M
      · obtain rfl : K = 8 := by omega
        have hand := and_mB 8 (by omega) c
        unfold keepS at hand
        have h8i : (8 : Int) < (M : Int) := by omega
        clear hKM hK8
        go_wp2
        go_region
        generalize mB 8 c = X at *
        go_wp2
        go_roundw
        case rel => exact ⟨k + 1, by omega, by go_num, HK2.out, HJ.out, HBl.out.drew⟩
        case measure => simp [intOf] <;> omega
      · obtain rfl : K = M := by omega
        have hand := and_mB2 K hK8 c
        have h8i : ¬ (8 : Int) < (K : Int) := by omega
        clear hKM
        go_wp2
        go_region
        generalize mB K c = X at *
        go_wp2
        go_roundw
        case rel => exact ⟨k + 1, by omega, by go_num, HK2.out, HJ.out, HBl.out.drew⟩
        case measure => simp [intOf] <;> omega
    · obtain rfl : k = 16 := by omega
      have hfull : (mL n l).take 16 ++ l.drop 16 = mL n l := by
        rw [List.take_of_length_le (by rw [HL.out, hl]; omega), List.drop_eq_nil_of_le (by omega), List.append_nil]
      rw [hfull] at hkb
      have hlM : (mL n l).length = 16 := by rw [HL.out, hl]
      have hzm := Adr_size v (mL n l) hlM
      have one := adv_one v (mL n l)
      have hzs : Z.size = (adv v (mL n l)).size := by rw [← hZ, adv_size _ _ (zb_len 16), adv_size _ _ hlM]
      clear hfull hlM hZ
      generalize hY : adv v (mL n l) = Y at *
      go_wp2_with (first
        | (refine wpList_loadBlk (g := w.heap.size) (t := 24) (cs := Y) rfl 24 (.tmp 2) ?ho ?hx ?hA _ Tryd.underlying24 rfl ?hi ?_
           case ho => with_reducible rfl
           case hx => rfl
           case hA => exact hkb
           case hi => exact hzm)
        | (refine wpList_storeBlk (g := w.heap.size + 1) (t := 24) (cs := Y) ?hw 24 (.tmp 4) (.tmp 33) ?ho ?hx2 ?hy2 Z hjb ?hi ?hs ?h1 ?_
           case ho => with_reducible rfl
           case hw => rfl
           case hx2 => rfl
           case hy2 => rfl
           case hi => exact hzm
           case hs => exact hzs
           case h1 => exact one
           intro w5 k5 hg5
           have b5 : Below w.heap.size w w5 := hbel.grown hg5 hbel.size (fun j hj => by injection hj with hj; omega))
        | fail)
      refine bodyPost_blk rfl _ rfl k5 Tryd.underlying24 rfl hzm rfl ⟨by rw [hY], b5⟩

end Go.Proofs.YtccidoigjdbepaaDoor
