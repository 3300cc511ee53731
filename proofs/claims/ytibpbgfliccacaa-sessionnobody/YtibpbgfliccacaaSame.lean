
/- Contract: ref01.Same. -/
import Derived.Test.YtibpbgfliccacaaBase
import Derived.Deep.QuietTactic
import Derived.BigQuiet
import Derived.WalkSpells
import Derived.WalkLawsBesides
import Derived.Outline
namespace Go.Proofs.Ytibpbgfliccacaa
open Go.RowKit

theorem shows_none (w : World) (B : Nat) : Shows w B none 0 [] := ⟨rfl, fun h => absurd h (by omega)⟩

end Go.Proofs.Ytibpbgfliccacaa
