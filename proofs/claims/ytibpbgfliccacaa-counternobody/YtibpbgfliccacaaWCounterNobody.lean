
/- The walk of law29.CounterNobody lies in CntB. -/
import Derived.Test.YtibpbgfliccacaaCntB
namespace Go.Proofs.Ytibpbgfliccacaa

end Go.Proofs.Ytibpbgfliccacaa
