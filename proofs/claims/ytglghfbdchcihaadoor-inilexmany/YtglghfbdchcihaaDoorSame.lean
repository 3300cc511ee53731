
/- Contract: ref01.Same. -/
import Derived.Test.YtglghfbdchcihaaDoorBase
import Derived.Deep.QuietTactic
import Derived.BigQuiet
import Derived.WalkSpells
import Derived.WalkLawsBesides
import Derived.Outline
namespace Go.Proofs.YtglghfbdchcihaaDoor
open Go.RowKit
set_option maxRecDepth 100000

theorem shows_none (w : World) (B : Nat) : Shows w B none 0 [] := ⟨rfl, fun h => absurd h (by omega)⟩

end Go.Proofs.YtglghfbdchcihaaDoor
