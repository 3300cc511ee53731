/- The walk of law01.EndianOnes. -/
import Derived.Test.YtmnkikkffmhnjaaEndG
namespace Go.Proofs.Ytmnkikkffmhnjaa
open Go.RowKit

theorem walk_EndianOnes (A : Option Addr) (n c : Nat) (l : List UInt8) {w : World} (hc : n ≤ c ∧ c ≤ maxLen) (h : Shows w w.heap.size A n l) :
    Calls Try.prog 7 #[.slice A n c] w fun e w' => e = .returned (.bool true) ∧ Below w.heap.size w w' := by
  obtain ⟨h1, h2⟩ := hc
  unfold maxLen at h2
  obtain ⟨r, hr⟩ := lead_some l
  have Hr := Lib.hid hr
  clear hr
  by_cases hlt : 100 < n
  · go_enter Try.func7, Try.ntmps7
    go_wp2_with (go_at_call 18; refine (alive1 _).mono ?_; rintro e w' ⟨rfl, hb⟩)
    go_ret
    exact ⟨rfl, hb⟩
  · go_enter Try.func7, Try.ntmps7
    go_wp2_with (first | (go_at_call 24; refine (ones_any _ _ _ r l _ (by omega) h Hr.out).mono ?_; rintro e w' ⟨rfl, rfl⟩) | (go_at_call 25; refine (refOnes_any _ _ _ r l _ (by omega) h Hr.out).mono ?_; rintro e w' ⟨rfl, rfl⟩) | (go_at_call 18; refine (alive1 _).mono ?_; rintro e w' ⟨rfl, hb⟩))
    go_ret
    exact ⟨rfl, hb⟩

end Go.Proofs.Ytmnkikkffmhnjaa
