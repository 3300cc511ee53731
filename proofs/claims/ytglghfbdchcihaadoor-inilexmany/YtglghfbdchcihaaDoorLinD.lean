
/- law06's alive. -/
import Derived.Test.YtglghfbdchcihaaDoorLinC
namespace Go.Proofs.YtglghfbdchcihaaDoor.Lin
open Go.RowKit
set_option maxRecDepth 100000

theorem loose_lit (w : World) : Calls Tryd.prog 13 #[.string ⟨#[97, 10, 98]⟩] w fun e w' =>
    (∃ A c, e = .returned (.slice A 2 c) ∧ 2 ≤ c ∧ c ≤ maxLen ∧ Sh sv w' w'.heap.size A 2 [[97], [98]]) ∧ Below w.heap.size w w' :=
  linesLoose_any [97, 10, 98] w (by decide)
theorem parts_lit (w : World) : Calls Tryd.prog 23 #[.string ⟨#[97, 44, 44, 98]⟩, .int .u8 44] w fun e w' =>
    (∃ v, e = .returned v ∧ OwnS w' w.heap.size v 3 [[97], [], [98]]) ∧ Below w.heap.size w w' :=
  parts_any [97, 44, 44, 98] 44 w (by decide)

end Go.Proofs.YtglghfbdchcihaaDoor.Lin
