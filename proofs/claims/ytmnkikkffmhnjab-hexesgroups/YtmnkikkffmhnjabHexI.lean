/- law05's alive. -/
import Derived.Test.YtmnkikkffmhnjabHexH
import Derived.Test.YtmnkikkffmhnjabSame
namespace Go.Proofs.Ytmnkikkffmhnjab
open Go.RowKit

theorem allGood_of (S : List UInt8) (h : ∀ c ∈ S, 0 ≤ hg c) : AllGood S := fun _ c hc => h c (List.mem_of_getElem? hc)

theorem readGroup_0fF (w : World) : Calls Try.prog 16 #[.string ⟨#[48, 102, 70]⟩] w fun e w' => e = .returned (.tuple #[.int .u16 255, .int .i64 0]) ∧ w = w' :=
  readGroup_good ⟨#[48, 102, 70]⟩ w (by decide) (by decide) (allGood_of _ (by decide))

theorem encode_lit (A : Option Addr) (c : Nat) (w : World) (h : Shows w w.heap.size A 2 [10, 255]) :
    Calls Try.prog 10 #[.slice A 2 c] w fun e w' => e = .returned (.string ⟨#[48, 97, 102, 102]⟩) ∧ Below w.heap.size w w' :=
  encode_any A 2 c [10, 255] w (by decide) h

theorem group_255 (w : World) : Calls Try.prog 15 #[.int .u16 255] w fun e w' => e = .returned (.string ⟨#[102, 102]⟩) ∧ Below w.heap.size w w' :=
  group_any 255 2 w (by decide) (by decide) ⟨by decide, by decide, by decide⟩

theorem alive5 (w : World) : Calls Try.prog 9 #[] w fun e w' => e = .returned (.bool true) ∧ Below w.heap.size w w' := by
  go_enter Try.func9, Try.ntmps9
  go_wp2_with fail
  refine (readGroup_0fF _).mono ?_; rintro e w1 ⟨rfl, rfl⟩
  go_wp2_with fail
  refine (encode_lit _ _ _ (shows_new _ _ [10, 255] rfl)).mono ?_; rintro e w1 ⟨rfl, hb1⟩
  have hb1 := Below.step (Below.refl w.heap.size w) (Nat.le_refl _) hb1
  go_wp2_with fail
  refine (group_255 _).mono ?_; rintro e w2 ⟨rfl, hb2⟩
  have hb2 := Below.on hb1 hb1.size hb2
  clear hb1
  go_wp2
  go_ret
  exact ⟨rfl, hb2⟩

end Go.Proofs.Ytmnkikkffmhnjab
