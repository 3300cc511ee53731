
/- Contracts: slices.Concat of parts, nil ones among them. -/
import Derived.Test.YtccidoigjdbepaaDoorSumC
import Derived.Test.YtccidoigjdbepaaDoorMsgA
namespace Go.Proofs.YtccidoigjdbepaaDoor
open Go.RowKit
set_option maxRecDepth 100000

end Go.Proofs.YtccidoigjdbepaaDoor
