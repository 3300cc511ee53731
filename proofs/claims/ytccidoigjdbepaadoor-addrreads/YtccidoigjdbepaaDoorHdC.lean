
/- Contracts: crawlwayref10.Of of 4 or 16 bytes; crawlwayref19.Parse. -/
import Derived.Test.YtccidoigjdbepaaDoorHdB
namespace Go.Proofs.YtccidoigjdbepaaDoor
open Go.RowKit
set_option maxRecDepth 100000
set_option linter.unusedSimpArgs false
set_option linter.unusedVariables false

theorem adv_fill (V : Int) (x : List UInt8) (m k : Nat) (c : UInt8) (hk : x[k]? = some c) (hm : k < 16) :
    (adv V (x.take k ++ zb (16 - k))).setIfInBounds (1 + k) (bv c) = adv V (x.take (k + 1) ++ zb (16 - (k + 1))) := by
  obtain ⟨h1, rfl⟩ := List.getElem?_eq_some_iff.1 hk
  have e : (x.take k ++ zb (16 - k)).set k x[k] = x.take (k + 1) ++ zb (16 - (k + 1)) := by
    have := set_next (x.take k) (16 - (k + 1)) x[k]
    rw [show (x.take k).length = k by simp; omega, show 16 - (k + 1) + 1 = 16 - k by omega] at this
    unfold zb
    rw [this, List.take_succ_eq_append_getElem h1]
  rw [← e]
  simp [adv, Nat.add_comm 1 k]
theorem adv_set0 (v V : Int) (l : List UInt8) : (adv v l).setIfInBounds 0 (.int .i64 V) = adv V l := by simp [adv]

set_option maxHeartbeats 1000000 in
theorem refOf4 (b off c : Nat) (x : List UInt8) (w : World) (hs : Shows w w.heap.size (some ⟨b, off, none⟩) 4 x) :
    Calls Tryd.prog 27 #[.slice (some ⟨b, off, none⟩) 4 c] w fun e w' => e = .returned (.tuple #[.agg (adv 4 (x ++ zb 12)), .bool true]) ∧ Below w.heap.size w w' := by
  have hz := (zero_of_info Tryd.zeroAddr).1
  have hne : ¬ adv 0 (zb 16) = #[] := by simp [adv]
  have hl := hs.len
  have hx16 : (adv 4 (x ++ zb 12)).size = 17 := adv_size _ _ (by simp [hl, zb])
  have zs : (Tryd.prog.info? 24).map (·.size) = some (adv 4 (x ++ zb 12)).size := by rw [hx16]; exact Tryd.infoAddr
  have e0 := adv_set0 0 4 (zb 16)
  have e1 := adv_set0 4 6 (zb 16)
  go_enter Tryd.func27, Tryd.ntmps27
  go_wp2_with fail
  have k1 : Blk ((w.alloc (.cells (adv 0 (zb 16)) 24)).alloc (.cells (adv 4 (zb 16)) 24)) w.heap.size 24 (adv 0 (zb 16)) := (blk_new _ _ _).alloc _
  have k2 : Blk ((w.alloc (.cells (adv 0 (zb 16)) 24)).alloc (.cells (adv 4 (zb 16)) 24)) (w.heap.size + 1) 24 (adv 4 (zb 16)) := blk_new' _ _ _ _ (by simp)
  have b2 : Below w.heap.size w ((w.alloc (.cells (adv 0 (zb 16)) 24)).alloc (.cells (adv 4 (zb 16)) 24)) := ((Below.refl _ _).alloc (Nat.le_refl _) _).alloc (by simp) _
  generalize (w.alloc (.cells (adv 0 (zb 16)) 24)).alloc (.cells (adv 4 (zb 16)) 24) = W2 at *
  go_loopw [5] (fun i wr => ∃ k : Nat, k ≤ 4 ∧ i = .int .i64 k ∧ Blk wr (w.heap.size + 1) 24 (adv 4 (x.take k ++ zb (16 - k))) ∧ Blk wr w.heap.size 24 (adv 0 (zb 16)) ∧ Below w.heap.size w wr) (fun i _ => 4 - (intOf i).toNat)
  case atStart => exact ⟨0, Nat.zero_le _, rfl, by simpa using k2, k1, b2⟩
  case round =>
    clear k1 k2 b2 W2
    obtain ⟨k, hk, rfl, k2, k1, b2⟩ := hrel
    by_cases hlt : k < 4
    · obtain ⟨b', off', d, e, hb, hcell, _, hd⟩ := (hs.below b2).byte hlt
      injection e with e
      injection e with eb eo
      subst eb
      subst eo
      have hf := k2.frz (1 + k)
      have hold : wr.cell? ⟨w.heap.size + 1, 1 + k, none⟩ = some (.int .u8 0) := by
        rw [k2.cellA]
        refine adv_b _ _ k 0 ?_
        have hkl : (x.take k).length = k := by simp; omega
        rw [List.getElem?_append_right (by omega), hkl, Nat.sub_self]
        simp only [zb, List.getElem?_replicate]
        rw [if_pos (by omega)]
      have h3 := k2.setCell (1 + k) (bv d)
      rw [adv_fill 4 x 4 k d hd (by omega)] at h3
      have h4 := k1.other ⟨w.heap.size + 1, 1 + k, none⟩ (bv d) (by simp)
      have h5 : Below w.heap.size w (wr.setCell ⟨w.heap.size + 1, 1 + k, none⟩ (bv d)) := b2.grown (setCell_grown _ _ _ _) b2.size (fun j hj => by injection hj with hj; omega)
      clear k1 k2 hd
      have hki : (k : Int) < 4 := by omega
      go_wp2
      go_roundw
      case rel => exact ⟨k + 1, by omega, by go_num, h3, h4, h5⟩
      case measure => simp [intOf] <;> omega
    · obtain rfl : k = 4 := by omega
      rw [List.take_of_length_le (by omega)] at k2
      clear hs hl
      generalize hXe : adv 4 (x ++ zb 12) = X at *
      have h1c : (X.all fun v => v.oneCell') = true := by rw [← hXe]; exact adv_one _ _
      have k2' : Blk wr (w.heap.size + 1) 24 X := k2
      clear k2
      have HX := Lib.hid hXe
      clear hXe
      go_wp2_with (first
        | (refine wpList_loadBlk (g := w.heap.size + 1) (t := 24) (cs := X) rfl 24 (.tmp 4) ?ho ?hx ?hA _ Tryd.underlying24 rfl ?hi ?_
           case ho => with_reducible rfl
           case hx => rfl
           case hA => exact k2'
           case hi => exact zs)
        | (refine wpList_storeBlk (g := w.heap.size) (t := 24) (cs := X) rfl 24 (.tmp 2) (.tmp 33) ?ho ?hx2 ?hy2 (adv 0 (zb 16)) k1 ?hi ?hs ?h1 ?_
           case ho => with_reducible rfl
           case hx2 => rfl
           case hy2 => rfl
           case hi => exact zs
           case hs => rw [hx16]; rfl
           case h1 => exact h1c
           intro w5 kb hg5
           have b5 : Below w.heap.size w w5 := b2.grown hg5 b2.size (fun k hk => by injection hk with hk; omega)
           clear b2 k1 k2' hg5))
      refine bodyPost_blk2 rfl _ rfl kb Tryd.underlying24 rfl zs rfl ?_
      exact ⟨by rw [HX.out]; rfl, b5⟩

set_option maxHeartbeats 1000000 in
theorem refOf16 (b off c : Nat) (x : List UInt8) (w : World) (hs : Shows w w.heap.size (some ⟨b, off, none⟩) 16 x) :
    Calls Tryd.prog 27 #[.slice (some ⟨b, off, none⟩) 16 c] w fun e w' => e = .returned (.tuple #[.agg (adv 6 (x ++ zb 0)), .bool true]) ∧ Below w.heap.size w w' := by
  have hz := (zero_of_info Tryd.zeroAddr).1
  have hne : ¬ adv 0 (zb 16) = #[] := by simp [adv]
  have hl := hs.len
  have hx16 : (adv 6 (x ++ zb 0)).size = 17 := adv_size _ _ (by simp [hl, zb])
  have zs : (Tryd.prog.info? 24).map (·.size) = some (adv 6 (x ++ zb 0)).size := by rw [hx16]; exact Tryd.infoAddr
  have e0 := adv_set0 0 4 (zb 16)
  have e1 := adv_set0 4 6 (zb 16)
  go_enter Tryd.func27, Tryd.ntmps27
  go_wp2_with fail
  have k1 : Blk ((w.alloc (.cells (adv 0 (zb 16)) 24)).alloc (.cells (adv 6 (zb 16)) 24)) w.heap.size 24 (adv 0 (zb 16)) := (blk_new _ _ _).alloc _
  have k2 : Blk ((w.alloc (.cells (adv 0 (zb 16)) 24)).alloc (.cells (adv 6 (zb 16)) 24)) (w.heap.size + 1) 24 (adv 6 (zb 16)) := blk_new' _ _ _ _ (by simp)
  have b2 : Below w.heap.size w ((w.alloc (.cells (adv 0 (zb 16)) 24)).alloc (.cells (adv 6 (zb 16)) 24)) := ((Below.refl _ _).alloc (Nat.le_refl _) _).alloc (by simp) _
  generalize (w.alloc (.cells (adv 0 (zb 16)) 24)).alloc (.cells (adv 6 (zb 16)) 24) = W2 at *
  go_loopw [5] (fun i wr => ∃ k : Nat, k ≤ 16 ∧ i = .int .i64 k ∧ Blk wr (w.heap.size + 1) 24 (adv 6 (x.take k ++ zb (16 - k))) ∧ Blk wr w.heap.size 24 (adv 0 (zb 16)) ∧ Below w.heap.size w wr) (fun i _ => 16 - (intOf i).toNat)
  case atStart => exact ⟨0, Nat.zero_le _, rfl, by simpa using k2, k1, b2⟩
  case round =>
    clear k1 k2 b2 W2
    obtain ⟨k, hk, rfl, k2, k1, b2⟩ := hrel
    by_cases hlt : k < 16
    · obtain ⟨b', off', d, e, hb, hcell, _, hd⟩ := (hs.below b2).byte hlt
      injection e with e
      injection e with eb eo
      subst eb
      subst eo
      have hf := k2.frz (1 + k)
      have hold : wr.cell? ⟨w.heap.size + 1, 1 + k, none⟩ = some (.int .u8 0) := by
        rw [k2.cellA]
        refine adv_b _ _ k 0 ?_
        have hkl : (x.take k).length = k := by simp; omega
        rw [List.getElem?_append_right (by omega), hkl, Nat.sub_self]
        simp only [zb, List.getElem?_replicate]
        rw [if_pos (by omega)]
      have h3 := k2.setCell (1 + k) (bv d)
      rw [adv_fill 6 x 16 k d hd (by omega)] at h3
      have h4 := k1.other ⟨w.heap.size + 1, 1 + k, none⟩ (bv d) (by simp)
      have h5 : Below w.heap.size w (wr.setCell ⟨w.heap.size + 1, 1 + k, none⟩ (bv d)) := b2.grown (setCell_grown _ _ _ _) b2.size (fun j hj => by injection hj with hj; omega)
      clear k1 k2 hd
      have hki : (k : Int) < 16 := by omega
      go_wp2
      go_roundw
      case rel => exact ⟨k + 1, by omega, by go_num, h3, h4, h5⟩
      case measure => simp [intOf] <;> omega
    · obtain rfl : k = 16 := by omega
      rw [List.take_of_length_le (by omega)] at k2
      clear hs hl
      generalize hXe : adv 6 (x ++ zb 0) = X at *
      have h1c : (X.all fun v => v.oneCell') = true := by rw [← hXe]; exact adv_one _ _
      have k2' : Blk wr (w.heap.size + 1) 24 X := k2
      clear k2
      have HX := Lib.hid hXe
      clear hXe
      go_wp2_with (first
        | (refine wpList_loadBlk (g := w.heap.size + 1) (t := 24) (cs := X) rfl 24 (.tmp 4) ?ho ?hx ?hA _ Tryd.underlying24 rfl ?hi ?_
           case ho => with_reducible rfl
           case hx => rfl
           case hA => exact k2'
           case hi => exact zs)
        | (refine wpList_storeBlk (g := w.heap.size) (t := 24) (cs := X) rfl 24 (.tmp 2) (.tmp 33) ?ho ?hx2 ?hy2 (adv 0 (zb 16)) k1 ?hi ?hs ?h1 ?_
           case ho => with_reducible rfl
           case hx2 => rfl
           case hy2 => rfl
           case hi => exact zs
           case hs => rw [hx16]; rfl
           case h1 => exact h1c
           intro w5 kb hg5
           have b5 : Below w.heap.size w w5 := b2.grown hg5 b2.size (fun k hk => by injection hk with hk; omega)
           clear b2 k1 k2' hg5))
      refine bodyPost_blk2 rfl _ rfl kb Tryd.underlying24 rfl zs rfl ?_
      exact ⟨by rw [HX.out]; rfl, b5⟩

end Go.Proofs.YtccidoigjdbepaaDoor
