
/- law20's alive; heads of family 6 held against themselves; the walk of law20.IpsixReads. -/
import Derived.Test.YtkokgoodpibboaaSxC
import Derived.Test.YtkokgoodpibboaaHdE
namespace Go.Proofs.Ytkokgoodpibboaa
open Go.RowKit
set_option maxRecDepth 100000
set_option linter.unusedSimpArgs false
set_option linter.unusedVariables false

theorem pH6_len {l : List UInt8} (h : pE6 l = 0) : 40 ≤ l.length := by
  rcases Nat.lt_or_ge l.length 40 with h1 | h1
  · simp [pE6, h1] at h
  · exact h1
theorem pH6_self (l : List UInt8) (w : World) : (Op.equalIn 10000 42 (.agg (pH6 l)) (.agg (pH6 l))).run Try.prog w = .ok true w := by
  unfold pH6
  split
  · rename_i h
    have h40 := pH6_len h
    unfold hdL6 hd6
    exact hd_self _ _ _ _ _ _ _ _ _ _ _ _ _ (by simp [src6]; omega) (by simp [dst6]; omega) w
  · exact hd_self _ _ _ _ _ _ _ _ _ _ _ _ _ rfl rfl w
theorem pH6_size (l : List UInt8) : (pH6 l).size = 43 := by
  unfold pH6
  split
  · rename_i h; exact hdL6_size l (pH6_len h)
  · exact zH_size
theorem pH6_one (l : List UInt8) : ((pH6 l).all fun x => x.oneCell') = true := by
  unfold pH6
  split
  · unfold hdL6 hd6; exact hdv_one _ _ _ _ _
  · exact zH_one

def exPkt6 : List UInt8 := pkt6 0 0 0 0 [0, 0, 0, 0, 0, 0, 0, 0, 0, 0, 0, 0, 0, 0, 0, 1] [0, 0, 0, 0, 0, 0, 0, 0, 0, 0, 0, 0, 0, 0, 0, 2] [7]
theorem exPkt6_0 : exPkt6[0]? = some 96 := by decide +kernel
theorem exPkt6_40 : exPkt6[40]? = some 7 := by decide +kernel

set_option maxRecDepth 100000 in
theorem put6_ex (w : World) (g : Nat) (hg : w.heap.size = g) :
    Calls Try.prog 29 #[.agg #[.int .i64 0, .int .i64 0, .int .i64 0, .int .i64 0, .int .i64 0, .int .i64 0, .int .i64 0, .int .i64 0, .int .i64 0, .int .i64 6, .int .u8 0, .int .u8 0, .int .u8 0, .int .u8 0, .int .u8 0, .int .u8 0, .int .u8 0, .int .u8 0, .int .u8 0, .int .u8 0, .int .u8 0, .int .u8 0, .int .u8 0, .int .u8 0, .int .u8 0, .int .u8 1, .int .i64 6, .int .u8 0, .int .u8 0, .int .u8 0, .int .u8 0, .int .u8 0, .int .u8 0, .int .u8 0, .int .u8 0, .int .u8 0, .int .u8 0, .int .u8 0, .int .u8 0, .int .u8 0, .int .u8 0, .int .u8 0, .int .u8 2], .slice (some ⟨g, 0, none⟩) 1 1] (w.alloc (.cells #[.int .u8 7] 5)) fun e w' =>
      ∃ x, e = .returned (.tuple #[x, .int .i64 0]) ∧ Own w' w.heap.size x 41 exPkt6 ∧ Below w.heap.size w w' := by
  subst hg
  have e : (#[.int .i64 0, .int .i64 0, .int .i64 0, .int .i64 0, .int .i64 0, .int .i64 0, .int .i64 0, .int .i64 0, .int .i64 0, .int .i64 6, .int .u8 0, .int .u8 0, .int .u8 0, .int .u8 0, .int .u8 0, .int .u8 0, .int .u8 0, .int .u8 0, .int .u8 0, .int .u8 0, .int .u8 0, .int .u8 0, .int .u8 0, .int .u8 0, .int .u8 0, .int .u8 1, .int .i64 6, .int .u8 0, .int .u8 0, .int .u8 0, .int .u8 0, .int .u8 0, .int .u8 0, .int .u8 0, .int .u8 0, .int .u8 0, .int .u8 0, .int .u8 0, .int .u8 0, .int .u8 0, .int .u8 0, .int .u8 0, .int .u8 2] : Array Value) = hdv [0, 0, 0, ((0 : Nat) : Int), ((0 : Nat) : Int), 0, 0, ((0 : Nat) : Int), ((0 : Nat) : Int)] (adv 6 [0, 0, 0, 0, 0, 0, 0, 0, 0, 0, 0, 0, 0, 0, 0, 1]) (adv 6 [0, 0, 0, 0, 0, 0, 0, 0, 0, 0, 0, 0, 0, 0, 0, 2]) := by kernel_rfl
  rw [e]
  have hs : Shows (w.alloc (.cells #[.int .u8 7] 5)) (w.alloc (.cells #[.int .u8 7] 5)).heap.size (some ⟨w.heap.size, 0, none⟩) 1 [7] := shows_new w #[.int .u8 7] [7] rfl
  refine (put6_in 0 0 0 0 0 0 0 0 0 _ _ rfl rfl _ 1 1 [7] _ (by omega) hs (by omega) (by omega) (by omega) (by omega)).mono ?_
  rintro e w1 ⟨x, rfl, ho, hb⟩
  exact ⟨x, rfl, ho.base (by simp), ((Below.refl _ _).alloc (Nat.le_refl _) _).trans (hb.mono (by simp))⟩

set_option maxHeartbeats 4000000 in
set_option maxRecDepth 100000 in
theorem alive20 (w : World) : Calls Try.prog 28 #[] w fun e w' => e = .returned (.bool true) ∧ Below w.heap.size w w' := by
  have HP := Lib.hid (put6_ex w w.heap.size rfl)
  go_enter Try.func28, Try.ntmps28
  go_wp2_with fail
  refine HP.out.mono ?_
  rintro e w1 ⟨x, rfl, ho, hb⟩
  obtain ⟨g, cap, rfl, hg⟩ := ho.blk (by omega)
  obtain ⟨x0, c0, l0⟩ := ho.at (j := 0) (by omega)
  obtain ⟨x1, c1, l1⟩ := ho.at (j := 40) (by omega)
  rw [exPkt6_0] at l0
  rw [exPkt6_40] at l1
  injection l0 with l0
  injection l1 with l1
  subst l0
  subst l1
  have c0' : w1.cell? ⟨g, 0, none⟩ = some (.int .u8 96) := c0
  have c1' : w1.cell? ⟨g, 40, none⟩ = some (.int .u8 7) := c1
  clear c0 c1 HP ho
  go_wp2
  go_ret
  exact ⟨rfl, hb⟩

end Go.Proofs.Ytkokgoodpibboaa
