
/- The walk of law30.SessionNobody lies in SesG. -/
import Derived.Test.YtibpbgfliccacaaSesG
namespace Go.Proofs.Ytibpbgfliccacaa

end Go.Proofs.Ytibpbgfliccacaa
