/- law06's alive. -/
import Derived.Test.YtmnkikkffmhnjabDoorLinC
namespace Go.Proofs.YtmnkikkffmhnjabDoor
open Go.RowKit

theorem split_lit (w : World) : Calls Tryd.prog 9 #[.string ⟨#[97, 10, 10]⟩] w fun e w' =>
    (∃ A c, e = .returned (.tuple #[.slice A 2 c, .bool true]) ∧ 2 ≤ c ∧ c ≤ maxLen ∧ Sh sv w' w'.heap.size A 2 [[97], []]) ∧ Below w.heap.size w w' :=
  split_yes [97, 10, 10] w (.inr ⟨[97, 10], rfl⟩) (by decide)
theorem loose_lit (w : World) : Calls Tryd.prog 11 #[.string ⟨#[97, 10, 98]⟩] w fun e w' =>
    (∃ A c, e = .returned (.slice A 2 c) ∧ 2 ≤ c ∧ c ≤ maxLen ∧ Sh sv w' w'.heap.size A 2 [[97], [98]]) ∧ Below w.heap.size w w' :=
  linesLoose_any [97, 10, 98] w (by decide)
theorem parts_lit (w : World) : Calls Tryd.prog 12 #[.string ⟨#[97, 44, 44, 98]⟩, .int .u8 44] w fun e w' =>
    (∃ v, e = .returned v ∧ OwnS w' w.heap.size v 3 [[97], [], [98]]) ∧ Below w.heap.size w w' :=
  parts_any [97, 44, 44, 98] 44 w (by decide)

theorem alive6 (w : World) : Calls Tryd.prog 4 #[] w fun e w' => e = .returned (.bool true) ∧ Below w.heap.size w w' := by
  go_enter Tryd.func4, Tryd.ntmps4
  go_wp2_with fail
  refine (split_lit _).mono ?_; rintro e w1 ⟨⟨A1, c1, rfl, _, _, s1⟩, hb1⟩
  go_wp2_with fail
  refine (sameS_yes _ _ 2 _ _ [[97], []] _ (by decide) ((s1.alloc (Nat.le_refl _) _).up (by simp)) (sh_new sv 9 w1 _ [[97], []] rfl)).mono ?_; rintro e w2 ⟨rfl, hb2⟩
  have b2 := Below.step hb1 hb1.size hb2
  clear s1 hb1 hb2
  go_wp2_with fail
  refine (loose_lit _).mono ?_; rintro e w3 ⟨⟨A3, c3, rfl, _, _, s3⟩, hb3⟩
  have b3 := Below.on b2 b2.size hb3
  clear b2 hb3
  go_wp2_with fail
  refine (sameS_yes _ _ 2 _ _ [[97], [98]] _ (by decide) ((s3.alloc (Nat.le_refl _) _).up (by simp)) (sh_new sv 9 w3 _ [[97], [98]] rfl)).mono ?_; rintro e w4 ⟨rfl, hb4⟩
  have b4 := Below.step b3 b3.size hb4
  clear s3 b3 hb4
  go_wp2_with fail
  refine (parts_lit _).mono ?_; rintro e w5 ⟨⟨v, rfl, ho⟩, hb5⟩
  obtain ⟨A5, c5, rfl, _, _, _⟩ := ho.sh
  have b5 := Below.on b4 b4.size hb5
  clear ho b4 hb5
  go_wp2
  go_ret
  exact ⟨rfl, b5⟩

end Go.Proofs.YtmnkikkffmhnjabDoor
