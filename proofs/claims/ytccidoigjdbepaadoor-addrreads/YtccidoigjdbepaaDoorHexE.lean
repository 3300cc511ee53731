
/- Contracts: ref05.Decode; ref05.Value with great letters; hexes.small. -/
import Derived.Test.YtccidoigjdbepaaDoorHexD
namespace Go.Proofs.YtccidoigjdbepaaDoor.Hex
open Go.RowKit
set_option maxRecDepth 100000

theorem join_hex2 (x : UInt8) (q r : Nat) (hq : x.toNat / 16 = q) (hr : x.toNat % 16 = r) : 16 * (q : Int) + (r : Int) = (x.toNat : Int) := by
  omega

end Go.Proofs.YtccidoigjdbepaaDoor.Hex
