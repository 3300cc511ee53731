/- The chapter's example of layer 1: law01's alive answers true. -/
import Derived.Test.YtmnkikkffmhnjaaEndF
namespace Go.Proofs.Ytmnkikkffmhnjaa
open Go.RowKit

theorem little_258 (w : World) : Calls Try.prog 13 #[.int .u64 258, .int .i64 4] w fun e w' =>
    e = .returned (.tuple #[.slice (some ⟨w.heap.size, 0, none⟩) 4 4, .int .i64 0]) ∧ Own w' w.heap.size (.slice (some ⟨w.heap.size, 0, none⟩) 4 4) 4 [2, 1, 0, 0] ∧ Below w.heap.size w w' :=
  little_ok 258 4 w (by decide) (by decide) (by decide)

theorem turn_m1 (w : World) : Calls Try.prog 23 #[.int .u32 1, .int .i64 (-1)] w fun e w' => e = .returned (.int .u32 2147483648) ∧ w = w' :=
  turn_any 1 (-1) w (by decide)

theorem ones_12 (A : Option Addr) (c : Nat) (w : World) (h : Shows w w.heap.size A 2 [255, 240]) :
    Calls Try.prog 24 #[.slice A 2 c] w fun e w' => e = .returned (.int .i64 12) ∧ w = w' :=
  ones_any A 2 c 12 [255, 240] w (by decide) h ⟨by decide, by decide, by decide⟩

theorem alive1 (w : World) : Calls Try.prog 18 #[] w fun e w' => e = .returned (.bool true) ∧ Below w.heap.size w w' := by
  go_enter Try.func18, Try.ntmps18
  go_wp2_with fail
  refine (little_258 _).mono ?_
  rintro e w1 ⟨rfl, hown, hbel⟩
  have hs := hown.shown
  clear hown
  go_wp2_with fail
  refine (same_below _ _ 4 4 4 [2, 1, 0, 0] _ (by decide) ((hs.alloc (Nat.le_refl _) _).up (by simp)) (shows_new w1 _ [2, 1, 0, 0] rfl)).mono ?_
  rintro e w2 ⟨rfl, hb2⟩
  have hb2 := Below.step hbel hbel.size hb2
  clear hs hbel
  go_wp2_with fail
  refine (turn_m1 _).mono ?_
  rintro e w3 ⟨rfl, rfl⟩
  go_wp2_with fail
  refine (ones_12 _ _ _ (shows_new w2 _ [255, 240] rfl)).mono ?_
  rintro e w4 ⟨rfl, rfl⟩
  go_wp2
  go_ret
  exact ⟨rfl, hb2.alloc hb2.size _⟩

end Go.Proofs.Ytmnkikkffmhnjaa
