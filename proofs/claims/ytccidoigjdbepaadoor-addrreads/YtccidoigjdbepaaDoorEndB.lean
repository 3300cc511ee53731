
/- Contracts: endian.Mask at any number, fits; ref01.Same, Reversed, Get. -/
import Derived.Test.YtccidoigjdbepaaDoorEndA
import Derived.Test.YtccidoigjdbepaaDoorNum
import Derived.Test.YtccidoigjdbepaaDoorSame
namespace Go.Proofs.YtccidoigjdbepaaDoor
open Go.RowKit
set_option maxRecDepth 100000

theorem drop_pred (l : List UInt8) (k : Nat) (c : UInt8) (h : l[k]? = some c) : l.drop k = c :: l.drop (k + 1) := by
  obtain ⟨hk, rfl⟩ := List.getElem?_eq_some_iff.1 h
  exact List.drop_eq_getElem_cons hk

end Go.Proofs.YtccidoigjdbepaaDoor
