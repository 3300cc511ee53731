
/- The walk of law28.ReplayNobody lies in RepF. -/
import Derived.Test.YtibpbgfliccacaaRepF
namespace Go.Proofs.Ytibpbgfliccacaa

end Go.Proofs.Ytibpbgfliccacaa
