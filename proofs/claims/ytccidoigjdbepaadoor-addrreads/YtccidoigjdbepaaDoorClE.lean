
/- Layer 9. The reference's groups, runs and rows. -/
import Derived.Test.YtccidoigjdbepaaDoorClD
namespace Go.Proofs.YtccidoigjdbepaaDoor.Cl
open Go.RowKit
set_option maxRecDepth 100000
set_option linter.unusedVariables false

/-- A number as a value. -/
abbrev i64v (n : Nat) : Value := .int .i64 (n : Int)

/-- Groups, the first k of them there. -/
def gAtI (gs : List Nat) (k : Nat) : Array Value := ((gs.take k ++ List.replicate (8 - k) 0).map i64v).toArray
theorem gAtI_set (gs : List Nat) (hl : gs.length = 8) (k g : Nat) (h : gs[k]? = some g) : (gAtI gs k).setIfInBounds k (i64v g) = gAtI gs (k + 1) := by
  unfold gAtI
  rw [List.setIfInBounds_toArray, ← List.map_set, fill_g gs 0 8 k g hl h]
theorem Tryd.zeroGroupsI : (Tryd.prog.info? 101).map (fun i => (i.zero, i.size)) = some (some (.agg (gAtI [] 0)), 8) := by kernel_rfl
theorem Tryd.infoGroupsI : (Tryd.prog.info? 101).map (·.size) = some 8 := by kernel_rfl
theorem gAtI_size (gs : List Nat) (hl : gs.length = 8) (k : Nat) (hk : k ≤ 8) : (gAtI gs k).size = 8 := by
  unfold gAtI
  simp
  omega
theorem gAtI_one (gs : List Nat) (k : Nat) : ((gAtI gs k).all fun x => x.oneCell') = true := by
  rw [Array.all_eq_true']
  intro x hx
  simp only [gAtI, List.mem_toArray, List.mem_map] at hx
  obtain ⟨y, _, rfl⟩ := hx
  rfl
theorem gAtI_full (gs : List Nat) (hl : gs.length = 8) : gAtI gs 8 = (gs.map i64v).toArray := by
  unfold gAtI
  rw [List.take_of_length_le (by omega)]
  simp
theorem gAtI_at (gs : List Nat) (hl : gs.length = 8) (k : Nat) (hk : k < 8) : (gAtI gs k)[k]? = some (i64v 0) := by
  have h : (gs.take k).length = k := by rw [List.length_take]; omega
  unfold gAtI
  rw [List.getElem?_toArray, List.getElem?_map, List.getElem?_append_right (by omega), h, Nat.sub_self, List.getElem?_replicate, if_pos (by omega)]
  rfl
theorem gAtI_none (gs : List Nat) : gAtI gs 0 = gAtI [] 0 := by unfold gAtI; simp

set_option maxHeartbeats 1000000 in
theorem refGroups_any (l : List UInt8) (hl : l.length = 16) (w : World) :
    Calls Tryd.prog 80 #[av l] w fun e w' => e = .returned (.agg ((gOf l).map i64v).toArray) ∧ Below w.heap.size w w' := by
  have hgl := gOf_len l 8 hl
  have HA := Lib.hid (fun k x y hx hy => gOf_at l k x y hx hy)
  rw [← gAtI_full _ hgl]
  have HS := Lib.hid (fun k g h => gAtI_set (gOf l) hgl k g h)
  have HZt := Lib.hid (fun k hk => gAtI_at (gOf l) hgl k hk)
  have hz0 := (zero_of_info Tryd.zeroGroupsI).1
  have hzne : ¬ gAtI [] 0 = #[] := by decide
  have k0 : Arr (w.alloc (.cells (l.map bv).toArray 22)) w.heap.size 22 l := arr_new w 22 l
  have hz8 : (Tryd.prog.info? 101).map (·.size) = some (gAtI (gOf l) 8).size := by rw [gAtI_size _ hgl 8 (by omega)]; exact Tryd.infoGroupsI
  have one8 := gAtI_one (gOf l) 8
  have sz8 : (gAtI [] 0).size = (gAtI (gOf l) 8).size := by rw [gAtI_size _ hgl 8 (by omega)]; rfl
  have hg0 := gAtI_none (gOf l)
  generalize gOf l = gs at *
  generalize hZ : gAtI [] 0 = Z at *
  have k1 := (k0.alloc (.cells Z 101)).alloc (.cells Z 101)
  have r1 : Blk (((w.alloc (.cells (l.map bv).toArray 22)).alloc (.cells Z 101)).alloc (.cells Z 101)) (w.heap.size + 1) 101 Z := (blk_new' _ _ _ _ (by simp)).alloc _
  have t1 : Blk (((w.alloc (.cells (l.map bv).toArray 22)).alloc (.cells Z 101)).alloc (.cells Z 101)) (w.heap.size + 2) 101 Z := blk_new' _ _ _ _ (by simp)
  have b1 : Below w.heap.size w (((w.alloc (.cells (l.map bv).toArray 22)).alloc (.cells Z 101)).alloc (.cells Z 101)) := (((Below.refl _ _).alloc (Nat.le_refl _) _).alloc (by simp) _).alloc (by simp; omega) _
  clear k0
  go_enter Tryd.func80, Tryd.ntmps80
  go_wp2
  go_loopw [4] (fun i wr => ∃ k : Nat, k ≤ 8 ∧ i = .int .i64 (k : Int) ∧ Arr wr w.heap.size 22 l ∧ Blk wr (w.heap.size + 1) 101 Z ∧ Blk wr (w.heap.size + 2) 101 (gAtI gs k) ∧ Below w.heap.size w wr) (fun i _ => 8 - (intOf i).toNat)
  case atStart => exact ⟨0, Nat.zero_le _, rfl, k1, r1, by rw [hg0]; exact t1, b1⟩
  case round =>
    clear k1 r1 t1 b1
    obtain ⟨k, hk, rfl, hkb, hrb, htb, hbel⟩ := hrel
    have hbs := hbel.size
    by_cases hlt : k < 8
    · obtain ⟨x, hx⟩ : ∃ x, l[2 * k]? = some x := ⟨l[2 * k]'(by omega), List.getElem?_eq_getElem _⟩
      obtain ⟨y, hy⟩ : ∃ y, l[2 * k + 1]? = some y := ⟨l[2 * k + 1]'(by omega), List.getElem?_eq_getElem _⟩
      have cx := hkb.byte hx
      have cy := hkb.byte hy
      have hv1 : (256 : Int) * (x.toNat : Int) + (y.toNat : Int) = ((256 * x.toNat + y.toNat : Nat) : Int) := by omega
      have hv2 := x.toNat_lt
      have hv3 := y.toNat_lt
      have hset := HS.out k _ (HA.out k x y hx hy)
      have hf := Lib.frozen_of_heap htb k
      have hcl : wr.cell? ⟨w.heap.size + 2, k, none⟩ = some (i64v 0) := by rw [Lib.cell_of_heap htb]; exact HZt.out k hlt
      have HT := Lib.hid (show Blk (wr.setCell ⟨w.heap.size + 2, k, none⟩ (i64v (256 * x.toNat + y.toNat))) (w.heap.size + 2) 101 (gAtI gs (k + 1)) by
        have := htb.setCell k (i64v (256 * x.toNat + y.toNat))
        rw [hset] at this
        exact this)
      have HK := Lib.hid (show Arr (wr.setCell ⟨w.heap.size + 2, k, none⟩ (i64v (256 * x.toNat + y.toNat))) w.heap.size 22 l from hkb.putOther _ _ (by simp))
      have HR := Lib.hid (hrb.other ⟨w.heap.size + 2, k, none⟩ (i64v (256 * x.toNat + y.toNat)) (by simp))
      have HB := Lib.hid (hbel.setCell (p := ⟨w.heap.size + 2, k, none⟩) (by show w.heap.size ≤ w.heap.size + 2; omega) (i64v (256 * x.toNat + y.toNat)))
      have hgv : 256 * x.toNat + y.toNat < 65536 := by have := x.toNat_lt; have := y.toNat_lt; omega
      unfold i64v at HT HK HR HB
      have i1 : (2 : Int) * (k : Int) < 16 := by omega
      have i2 : (0 : Int) ≤ 2 * (k : Int) := by omega
      have i3 : ((2 : Int) * (k : Int)).toNat = 2 * k := by omega
      have i4 : (2 : Int) * (k : Int) + 1 < 16 := by omega
      have i5 : (0 : Int) ≤ 2 * (k : Int) + 1 := by omega
      have i6 : ((2 : Int) * (k : Int) + 1).toNat = 2 * k + 1 := by omega
      have w1 : IntKind.i64.wrap (2 * (k : Int)) = 2 * (k : Int) := IntWalk.i64_in _ (by omega)
      have w2 : IntKind.i64.wrap (2 * (k : Int) + 1) = 2 * (k : Int) + 1 := IntWalk.i64_in _ (by omega)
      have i7 : 2 * k < 16 := by omega
      have i8 : 2 * k + 1 < 16 := by omega
      clear hset hx hy hkb hrb htb
      generalize 256 * x.toNat + y.toNat = G at *
      go_wp2
      go_region
      all_goals
        go_wp2
        go_roundw
        case rel => exact ⟨k + 1, by omega, by go_num, HK.out, HR.out, HT.out, HB.out.drew⟩
        case measure => simp [intOf] <;> omega
    · obtain rfl : k = 8 := by omega
      generalize hY : gAtI gs 8 = Y at *
      go_wp2_with (first
        | (refine wpList_loadBlk (g := w.heap.size + 2) (t := 101) (cs := Y) rfl 101 (.tmp 3) ?ho ?hx ?hA _ Tryd.underlying101 rfl ?hi ?_
           case ho => with_reducible rfl
           case hx => rfl
           case hA => exact htb
           case hi => exact hz8)
        | (refine wpList_storeBlk (g := w.heap.size + 1) (t := 101) (cs := Y) ?hw 101 (.tmp 2) (.tmp 24) ?ho ?hx2 ?hy2 Z hrb ?hi ?hs ?h1 ?_
           case ho => with_reducible rfl
           case hw => rfl
           case hx2 => rfl
           case hy2 => rfl
           case hi => exact hz8
           case hs => exact sz8
           case h1 => exact one8
           intro w5 k5 hg5
           have b5 : Below w.heap.size w w5 := hbel.grown hg5 hbel.size (fun j hj => by injection hj with hj; omega))
        | fail)
      refine bodyPost_blk rfl _ rfl k5 Tryd.underlying101 rfl hz8 rfl ⟨by first | rfl | rw [hY], b5⟩

end Go.Proofs.YtccidoigjdbepaaDoor.Cl
