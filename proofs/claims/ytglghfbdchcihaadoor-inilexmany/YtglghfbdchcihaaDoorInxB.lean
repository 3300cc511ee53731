
/- Contracts: inilex.section, pair. -/
import Derived.Test.YtglghfbdchcihaaDoorInxA
namespace Go.Proofs.YtglghfbdchcihaaDoor.Inx
open Go.RowKit Lin
set_option maxRecDepth 100000

theorem cut61_no' (l : List UInt8) (w : World) (h : (61 : UInt8) ∉ l) : Calls Tryd.prog 24 #[sv l, .int .u8 61] w fun e w' => e = .returned (.tuple #[sv l, sv [], .bool false]) ∧ w = w' := cut_no l 61 w h
theorem cut61_yes' (a b : List UInt8) (w : World) (h : (61 : UInt8) ∉ a) (hn : (a ++ 61 :: b).length ≤ 1000000000) :
    Calls Tryd.prog 24 #[sv (a ++ 61 :: b), .int .u8 61] w fun e w' => e = .returned (.tuple #[sv a, sv b, .bool true]) ∧ Below w.heap.size w w' := cut_yes a b 61 w h hn

theorem section_no (r : List UInt8) (w : World) (hr : r.length ≤ 100000) (h : r.getLast? ≠ some 93) :
    Calls Tryd.prog 26 #[sv r] w fun e w' => e = .returned (.tuple #[.agg zI, .int .i64 5]) ∧ Below w.heap.size w w' := by
  have b0 : Below w.heap.size w (w.alloc (.cells zI 31)) := (Below.refl _ _).alloc (Nat.le_refl _) _
  have k0 : Blk (w.alloc (.cells zI 31)) w.heap.size 31 zI := blk_new _ _ _
  have HC := Lib.hid (fun W => csuf_no r W (by omega) h)
  have HT := Lib.hid (fun W => trim_any r W (by omega))
  clear h
  generalize trim r = T at *
  unfold sv at *
  generalize ByteArray.mk ⟨r⟩ = R at *
  generalize ByteArray.mk ⟨T⟩ = TT at *
  go_enter Tryd.func26, Tryd.ntmps26
  go_wp2_with fail
  refine (HC.out _).mono ?_; rintro e w1 ⟨rfl, hb1⟩
  have k1 := k0.on (by exact hb1)
  have b1 := Below.on b0 b0.size (by exact hb1)
  go_wp2_with fail
  refine (HT.out _).mono ?_; rintro e w2 ⟨rfl, hb2⟩
  have k2 := k1.on (by exact hb2)
  have b2 := Below.on b1 b1.size (by exact hb2)
  obtain ⟨p0, p1, p2, p3⟩ := cells_four k2
  obtain ⟨f0, f1, f2, f3⟩ := frozen_four k2
  go_wp2
  refine bodyPost_blk2 rfl _ rfl (blk_four k2) Tryd.underlying31 rfl Tryd.infoItem rfl ⟨rfl, ?_⟩
  exact below_four b2 _ (Nat.le_refl _) _ _ _ _

theorem section_void (m : List UInt8) (w : World) (hr : m.length ≤ 100000) (h : trim m = []) :
    Calls Tryd.prog 26 #[sv (m ++ [93])] w fun e w' => e = .returned (.tuple #[.agg zI, .int .i64 5]) ∧ Below w.heap.size w w' := by
  have b0 : Below w.heap.size w (w.alloc (.cells zI 31)) := (Below.refl _ _).alloc (Nat.le_refl _) _
  have k0 : Blk (w.alloc (.cells zI 31)) w.heap.size 31 zI := blk_new _ _ _
  have HC := Lib.hid (fun W => csuf_yes m W (by omega))
  have HT := Lib.hid (fun W => trim_any m W (by omega))
  rw [h] at HT
  clear h
  unfold sv at *
  generalize ByteArray.mk ⟨m ++ [93]⟩ = R at *
  generalize ByteArray.mk ⟨m⟩ = M at *
  go_enter Tryd.func26, Tryd.ntmps26
  go_wp2_with fail
  refine (HC.out _).mono ?_; rintro e w1 ⟨rfl, hb1⟩
  have k1 := k0.on (by exact hb1)
  have b1 := Below.on b0 b0.size (by exact hb1)
  go_wp2_with fail
  refine (HT.out _).mono ?_; rintro e w2 ⟨rfl, hb2⟩
  have k2 := k1.on (by exact hb2)
  have b2 := Below.on b1 b1.size (by exact hb2)
  obtain ⟨p0, p1, p2, p3⟩ := cells_four k2
  obtain ⟨f0, f1, f2, f3⟩ := frozen_four k2
  go_wp2
  refine bodyPost_blk2 rfl _ rfl (blk_four k2) Tryd.underlying31 rfl Tryd.infoItem rfl ⟨rfl, ?_⟩
  exact below_four b2 _ (Nat.le_refl _) _ _ _ _

theorem section_good (m : List UInt8) (w : World) (hr : m.length ≤ 100000) (h : trim m ≠ []) :
    Calls Tryd.prog 26 #[sv (m ++ [93])] w fun e w' => e = .returned (.tuple #[.agg #[.bool true, sv (fold (trim m)), sv [], .int .i64 0], .int .i64 0]) ∧ Below w.heap.size w w' := by
  have b0 : Below w.heap.size w (w.alloc (.cells zI 31)) := (Below.refl _ _).alloc (Nat.le_refl _) _
  have k0 : Blk (w.alloc (.cells zI 31)) w.heap.size 31 zI := blk_new _ _ _
  have HC := Lib.hid (fun W => csuf_yes m W (by omega))
  have HT := Lib.hid (fun W => trim_any m W (by omega))
  have HF := Lib.hid (fun W => fold_any (trim m) W (by have := trim_le m; omega))
  have hae : (ByteArray.mk ⟨trim m⟩).toList.isEmpty = false := by simp; exact h
  clear h
  generalize fold (trim m) = F at *
  generalize trim m = T at *
  unfold sv at *
  generalize ByteArray.mk ⟨m ++ [93]⟩ = R at *
  generalize ByteArray.mk ⟨m⟩ = M at *
  generalize ByteArray.mk ⟨T⟩ = TT at *
  generalize ByteArray.mk ⟨F⟩ = FF at *
  go_enter Tryd.func26, Tryd.ntmps26
  go_wp2_with fail
  refine (HC.out _).mono ?_; rintro e w1 ⟨rfl, hb1⟩
  have k1 := k0.on (by exact hb1)
  have b1 := Below.on b0 b0.size (by exact hb1)
  go_wp2_with fail
  refine (HT.out _).mono ?_; rintro e w2 ⟨rfl, hb2⟩
  have k2 := k1.on (by exact hb2)
  have b2 := Below.on b1 b1.size (by exact hb2)
  go_wp2_with fail
  refine (HF.out _).mono ?_; rintro e w3 ⟨rfl, hb3⟩
  have k3 := k2.on (by exact hb3)
  have b3 := Below.on b2 b2.size (by exact hb3)
  obtain ⟨p0, p1, p2, p3⟩ := cells_four k3
  obtain ⟨f0, f1, f2, f3⟩ := frozen_four k3
  go_wp2
  refine bodyPost_blk2 rfl _ rfl (blk_four k3) Tryd.underlying31 rfl Tryd.infoItem rfl ⟨rfl, ?_⟩
  exact below_four b3 _ (Nat.le_refl _) _ _ _ _

end Go.Proofs.YtglghfbdchcihaaDoor.Inx
