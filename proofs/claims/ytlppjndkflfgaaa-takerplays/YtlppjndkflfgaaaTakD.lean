
/- law02's alive. -/
import Derived.Test.YtlppjndkflfgaaaTakC
import Derived.Deep.RegionWith
namespace Go.Proofs.Ytlppjndkflfgaaa
open Go.RowKit

theorem alive2 (w : World) : Calls Try.prog 5 #[] w fun e w' => e = .returned (.bool true) ∧ Below w.heap.size w w' := by
  go_enter Try.func5, Try.ntmps5
  go_wp2_with fail
  refine (new_any _ 4 4 [1, 2, 0, 0] _ (by omega) (shows_new _ _ [1, 2, 0, 0] rfl)).mono ?_
  rintro e w1 ⟨g, rfl, hg, ht1, hb1⟩
  have hb1' := Below.step (Below.refl w.heap.size w) (Nat.le_refl _) hb1
  have hgw : w.heap.size ≤ g := by simp at hg; omega
  clear hb1 hg
  go_wp2_with fail
  refine (little_tk g _ 4 4 2 _ w1 ht1 (by omega) (by omega) (by omega)).mono ?_
  rintro e w2 ⟨rfl, ht2, hg2⟩
  have hb2 := below_grown hb1' hg2 hb1'.size hgw
  rw [show leNat (List.take 2 [1, 2, 0, 0]) = 513 by decide]
  clear ht1 hb1' hg2
  go_wp2_with fail
  refine (zeros_ok g _ (4 - 2) (4 - 2) 2 _ w2 ht2 (by omega) (by omega) (fun j hj => match j, hj with | 0, _ => rfl | 1, _ => rfl)).mono ?_
  rintro e w3 ⟨rfl, ht3, hg3⟩
  have hb3 := below_grown hb2 hg3 hb2.size hgw
  clear ht2 hb2 hg3
  go_wp2_with fail
  refine (bytes_short g _ (4 - 2 - 2) (4 - 2 - 2) 1 _ w3 ht3 (by omega)).mono ?_
  rintro e w4 ⟨rfl, ht4, hg4⟩
  have hb4 := below_grown hb3 hg4 hb3.size hgw
  clear ht3 hb3 hg4
  go_wp2_with fail
  refine (fail_any g _ _ _ _ _ w4 ht4).mono ?_
  rintro e w5 ⟨rfl, rfl⟩
  clear ht4
  go_wp2
  go_ret
  exact ⟨rfl, hb4⟩

end Go.Proofs.Ytlppjndkflfgaaa
