/- law04's alive; Decode and ref04.Decode of any text, side by side. -/
import Derived.Test.YtmnkikkffmhnjaaSixK
namespace Go.Proofs.Ytmnkikkffmhnjaa
open Go.RowKit

theorem decode_lit (w : World) : Calls Try.prog 37 #[.string ⟨#[84, 87, 70, 61]⟩] w fun e w' => e = .returned (.tuple #[.slice none 0 0, .int .i64 10]) ∧ Below w.heap.size w w' := by
  have hT : Txt [84, 87, 70, 61] [by1 19 22, by2 22 5] (5 % 4) := Txt.three 19 22 5 (by omega) (by omega) (by omega)
  exact (decode_txt _ _ _ w hT (by simp)).mono fun e w' h => ⟨h.2.1 (by decide), h.2.2⟩
theorem encode_lit4 (w : World) (A : Option Addr) (h : Shows w w.heap.size A 2 [77, 97]) : Calls Try.prog 36 #[.slice A 2 2] w fun e w' => e = .returned (.string ⟨#[84, 87, 69, 61]⟩) ∧ Below w.heap.size w w' :=
  encode_any A 2 2 [77, 97] w (by omega) (Nat.le_refl _) h

theorem alive4 (w : World) : Calls Try.prog 35 #[] w fun e w' => e = .returned (.bool true) ∧ Below w.heap.size w w' := by
  go_enter Try.func35, Try.ntmps35
  go_wp2_with fail
  refine (decode_lit _).mono ?_; rintro e w1 ⟨rfl, hb1⟩
  go_wp2_with fail
  refine (encode_lit4 _ _ (shows_new _ _ [77, 97] rfl)).mono ?_; rintro e w2 ⟨rfl, hb2⟩
  have hb3 := Below.step hb1 hb1.size hb2
  clear hb1 hb2
  go_wp2
  go_ret
  exact ⟨rfl, hb3⟩

end Go.Proofs.Ytmnkikkffmhnjaa
