
/- Contract: ref01.Same. -/
import Derived.Test.YtccidoigjdbepaaBase
import Derived.Deep.QuietTactic
import Derived.BigQuiet
import Derived.WalkSpells
import Derived.WalkLawsBesides
import Derived.Outline
namespace Go.Proofs.Ytccidoigjdbepaa
open Go.RowKit
set_option maxRecDepth 100000

theorem shows_none (w : World) (B : Nat) : Shows w B none 0 [] := ⟨rfl, fun h => absurd h (by omega)⟩

end Go.Proofs.Ytccidoigjdbepaa
