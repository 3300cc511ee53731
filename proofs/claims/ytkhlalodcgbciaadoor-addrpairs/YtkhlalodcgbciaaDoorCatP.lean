
/- Contracts: slices.Concat of parts, nil ones among them. -/
import Derived.Test.YtkhlalodcgbciaaDoorSumC
import Derived.Test.YtkhlalodcgbciaaDoorMsgA
namespace Go.Proofs.YtkhlalodcgbciaaDoor
open Go.RowKit
set_option maxRecDepth 100000

end Go.Proofs.YtkhlalodcgbciaaDoor
