
/- Contracts: endian.Mask at any number, fits, OfLittle, OfBig, Turn. -/
import Derived.Test.YtccidoigjdbepaaDoorEndB
namespace Go.Proofs.YtccidoigjdbepaaDoor
open Go.RowKit
set_option maxRecDepth 100000

/-- So many ones: what Mask answers. -/
def ones (n : Int) : Nat := 2 ^ (min n.toNat 64) - 1

end Go.Proofs.YtccidoigjdbepaaDoor
