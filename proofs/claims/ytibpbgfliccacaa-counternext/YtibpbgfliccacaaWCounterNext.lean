
/- The walk of law29.CounterNext lies in CntB. -/
import Derived.Test.YtibpbgfliccacaaCntB
namespace Go.Proofs.Ytibpbgfliccacaa

end Go.Proofs.Ytibpbgfliccacaa
