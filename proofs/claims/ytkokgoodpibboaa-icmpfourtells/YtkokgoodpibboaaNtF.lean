
/- Contract: crawlwayref22.Read of a message. -/
import Derived.Test.YtkokgoodpibboaaNtD
namespace Go.Proofs.Ytkokgoodpibboaa
open Go.RowKit
set_option maxRecDepth 100000
set_option linter.unusedSimpArgs false
set_option linter.unusedVariables false

end Go.Proofs.Ytkokgoodpibboaa
