
/- The walk of law30.SessionPlays lies in SesG. -/
import Derived.Test.YtibpbgfliccacaaSesG
namespace Go.Proofs.Ytibpbgfliccacaa

end Go.Proofs.Ytibpbgfliccacaa
