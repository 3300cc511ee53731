
/- Contracts: ref01.Put, Bit, Ones; endian.Ones. -/
import Derived.Test.YtccidoigjdbepaaDoorEndD
namespace Go.Proofs.YtccidoigjdbepaaDoor
open Go.RowKit
set_option maxRecDepth 100000

theorem ones_256 (size : Nat) (h : size ≤ 8) : ones (8 * (size : Int)) = 256 ^ size - 1 := by
  unfold ones
  rw [show (8 * (size : Int)).toNat = 8 * size by omega, Nat.min_eq_left (by omega), two_pow_8]

end Go.Proofs.YtccidoigjdbepaaDoor
