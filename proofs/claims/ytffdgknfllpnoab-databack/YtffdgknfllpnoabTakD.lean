
/- law02's alive. -/
import Derived.Test.YtffdgknfllpnoabTakC
import Derived.Deep.RegionWith
namespace Go.Proofs.Ytffdgknfllpnoab
open Go.RowKit

end Go.Proofs.Ytffdgknfllpnoab
