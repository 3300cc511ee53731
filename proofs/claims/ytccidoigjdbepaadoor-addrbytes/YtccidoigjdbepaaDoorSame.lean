
/- Contract: ref01.Same. -/
import Derived.Test.YtccidoigjdbepaaDoorBase
import Derived.Deep.QuietTactic
import Derived.BigQuiet
import Derived.WalkSpells
import Derived.WalkLawsBesides
import Derived.Outline
namespace Go.Proofs.YtccidoigjdbepaaDoor
open Go.RowKit
set_option maxRecDepth 100000

/-- Equal bytes are the same. -/
theorem same_yes (A A' : Option Addr) (n c c' : Nat) (l : List UInt8) (w : World) (hn : n ≤ maxLen) (h : Shows w w.heap.size A n l) (h' : Shows w w.heap.size A' n l) :
    Calls Tryd.prog 16 #[.slice A n c, .slice A' n c'] w fun e w' => e = .returned (.bool true) ∧ ∃ m, w' = w.drewN m := by
  unfold maxLen at hn
  go_enter Tryd.func16, Tryd.ntmps16
  go_wp2
  go_loopw [5] (fun i wr => ∃ k m : Nat, k ≤ n ∧ i = .int .i64 k ∧ wr = w.drewN m) (fun i _ => n - (intOf i).toNat)
  case atStart => exact ⟨0, 0, Nat.zero_le _, rfl, rfl⟩
  case round =>
    obtain ⟨k, m, hk, rfl, rfl⟩ := hrel
    by_cases hlt : k < n
    · obtain ⟨b, off, x, rfl, hb, hc, hx, hlx⟩ := h.byte hlt
      obtain ⟨b', off', x', rfl, hb', hc', hx', hlx'⟩ := h'.byte hlt
      obtain rfl : x = x' := by rw [hlx] at hlx'; injection hlx'
      clear hlx hlx' h h'
      go_wp2
      go_quiet (fail)
      go_wp2
      go_roundw
      case rel => exact ⟨k + 1, _, by omega, by go_num, rfl⟩
      case measure => simp [intOf] <;> omega
    · go_wp2
      go_ret
      exact ⟨rfl, m, rfl⟩

theorem same_below (A A' : Option Addr) (n c c' : Nat) (l : List UInt8) (w : World) (hn : n ≤ maxLen) (h : Shows w w.heap.size A n l) (h' : Shows w w.heap.size A' n l) :
    Calls Tryd.prog 16 #[.slice A n c, .slice A' n c'] w fun e w' => e = .returned (.bool true) ∧ Below w.heap.size w w' :=
  (same_yes A A' n c c' l w hn h h').mono fun _ _ ⟨he, m, hw⟩ => ⟨he, hw ▸ below_draw (Below.refl _ _) m⟩

theorem shows_none (w : World) (B : Nat) : Shows w B none 0 [] := ⟨rfl, fun h => absurd h (by omega)⟩

end Go.Proofs.YtccidoigjdbepaaDoor
