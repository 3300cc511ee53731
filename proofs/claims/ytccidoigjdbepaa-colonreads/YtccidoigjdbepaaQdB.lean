
/- Layer 8. Contract: ref08.Text; numbers up to 255. -/
import Derived.Test.YtccidoigjdbepaaQdA
namespace Go.Proofs.Ytccidoigjdbepaa.Qd
open Go.RowKit Dec
set_option maxRecDepth 100000

/-- The text of the first k of four bytes. -/
def preAt (a b c d : UInt8) : Nat → List UInt8
  | 0 => []
  | 1 => ds a
  | 2 => ds a ++ [46] ++ ds b
  | 3 => ds a ++ [46] ++ ds b ++ [46] ++ ds c
  | _ => qT a b c d

theorem cells_four {w : World} {g : Nat} {t : TypeId} {p q r s : Value} (h : Blk w g t #[p, q, r, s]) : w.cell? ⟨g, 0, none⟩ = some p ∧ w.cell? ⟨g, 1, none⟩ = some q ∧ w.cell? ⟨g, 2, none⟩ = some r ∧ w.cell? ⟨g, 3, none⟩ = some s := by
  refine ⟨?_, ?_, ?_, ?_⟩ <;> (rw [Lib.cell_of_heap h]; rfl)
theorem frozen_four {w : World} {g : Nat} {t : TypeId} {p q r s : Value} (h : Blk w g t #[p, q, r, s]) : w.frozen? ⟨g, 0, none⟩ = false ∧ w.frozen? ⟨g, 1, none⟩ = false ∧ w.frozen? ⟨g, 2, none⟩ = false ∧ w.frozen? ⟨g, 3, none⟩ = false :=
  ⟨Lib.frozen_of_heap h 0, Lib.frozen_of_heap h 1, Lib.frozen_of_heap h 2, Lib.frozen_of_heap h 3⟩
def set4 (w : World) (g : Nat) (p q r s : Value) : World := (((w.setCell ⟨g, 0, none⟩ p).setCell ⟨g, 1, none⟩ q).setCell ⟨g, 2, none⟩ r).setCell ⟨g, 3, none⟩ s
theorem blk_four {w : World} {g : Nat} {t : TypeId} {p q r s p' q' r' s' : Value} (h : Blk w g t #[p, q, r, s]) : Blk (set4 w g p' q' r' s') g t #[p', q', r', s'] := (((h.setCell 0 p').setCell 1 q').setCell 2 r').setCell 3 s'
theorem below_four {w W : World} {B : Nat} (h : Below B w W) (g : Nat) (hg : B ≤ g) (p' q' r' s' : Value) : Below B w (set4 W g p' q' r' s') :=
  (((h.setCell (p := ⟨g, 0, none⟩) hg p').setCell (p := ⟨g, 1, none⟩) hg q').setCell (p := ⟨g, 2, none⟩) hg r').setCell (p := ⟨g, 3, none⟩) hg s'

end Go.Proofs.Ytccidoigjdbepaa.Qd
