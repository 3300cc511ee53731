
/- law02's alive. -/
import Derived.Test.YtffdgknfllpnoaaTakC
import Derived.Deep.RegionWith
namespace Go.Proofs.Ytffdgknfllpnoaa
open Go.RowKit

end Go.Proofs.Ytffdgknfllpnoaa
