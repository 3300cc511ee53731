
/- law06's alive. -/
import Derived.Test.YtdiibbokdfmcbaaLinC
namespace Go.Proofs.Ytdiibbokdfmcbaa.Lin
open Go.RowKit
set_option maxRecDepth 100000

theorem split_lit (w : World) : Calls Try.prog 23 #[.string ⟨#[97, 10, 10]⟩] w fun e w' =>
    (∃ A c, e = .returned (.tuple #[.slice A 2 c, .bool true]) ∧ 2 ≤ c ∧ c ≤ maxLen ∧ Sh sv w' w'.heap.size A 2 [[97], []]) ∧ Below w.heap.size w w' :=
  split_yes [97, 10, 10] w (.inr ⟨[97, 10], rfl⟩) (by decide)
theorem loose_lit (w : World) : Calls Try.prog 30 #[.string ⟨#[97, 10, 98]⟩] w fun e w' =>
    (∃ A c, e = .returned (.slice A 2 c) ∧ 2 ≤ c ∧ c ≤ maxLen ∧ Sh sv w' w'.heap.size A 2 [[97], [98]]) ∧ Below w.heap.size w w' :=
  linesLoose_any [97, 10, 98] w (by decide)
theorem parts_lit (w : World) : Calls Try.prog 33 #[.string ⟨#[97, 44, 44, 98]⟩, .int .u8 44] w fun e w' =>
    (∃ v, e = .returned v ∧ OwnS w' w.heap.size v 3 [[97], [], [98]]) ∧ Below w.heap.size w w' :=
  parts_any [97, 44, 44, 98] 44 w (by decide)

end Go.Proofs.Ytdiibbokdfmcbaa.Lin
