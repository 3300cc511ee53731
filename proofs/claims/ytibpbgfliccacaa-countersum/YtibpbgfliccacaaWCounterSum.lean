
/- The walk of law29.CounterSum lies in CntA. -/
import Derived.Test.YtibpbgfliccacaaCntA
namespace Go.Proofs.Ytibpbgfliccacaa

end Go.Proofs.Ytibpbgfliccacaa
