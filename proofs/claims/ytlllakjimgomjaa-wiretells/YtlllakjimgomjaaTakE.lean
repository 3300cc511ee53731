
/- The walk of law02.TakerOwn. -/
import Derived.Test.YtlllakjimgomjaaTakD
import Derived.Test.YtlllakjimgomjaaApp
namespace Go.Proofs.Ytlllakjimgomjaa
open Go.RowKit

end Go.Proofs.Ytlllakjimgomjaa
