
/- Contracts: endian.sized, Mask, fits; ref01.power, Same. -/
import Derived.Test.YtccidoigjdbepaaDoorChecked
import Derived.Test.YtccidoigjdbepaaDoorBase
import Derived.Deep.QuietTactic
import Derived.BigQuiet
import Derived.WalkSpells
import Derived.WalkLawsBesides
import Derived.Outline
namespace Go.Proofs.YtccidoigjdbepaaDoor
open Go.RowKit
set_option maxRecDepth 100000

theorem ret_int {k : IntKind} {a b : Int} (h : a = b) : Ending.returned (.int k a) = .returned (.int k b) := by rw [h]

theorem mask_num (k : Nat) (h : k ≤ 64) : IntKind.u64.wrap (IntKind.u64.wrap (2 ^ k) - 1) = ((2 ^ k - 1 : Nat) : Int) := by
  have hp : (2 : Int) ^ k = ((2 ^ k : Nat) : Int) := by simp
  have h1 : 1 ≤ 2 ^ k := Nat.one_le_two_pow
  rw [hp, IntKind.wrap_u64, IntKind.wrap_u64]
  rcases Nat.lt_or_ge k 64 with hk | hk
  · have h2 : 2 ^ k < 2 ^ 64 := Nat.pow_lt_pow_right (by omega) hk
    omega
  · obtain rfl : k = 64 := by omega
    decide

end Go.Proofs.YtccidoigjdbepaaDoor
