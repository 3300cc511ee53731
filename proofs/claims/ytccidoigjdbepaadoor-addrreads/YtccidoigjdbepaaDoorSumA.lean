
/- Contracts: onesum.fold, Of, Check, Good, Add; ref18.Of, Check. -/
import Derived.Test.YtccidoigjdbepaaDoorBase
import Derived.Test.YtccidoigjdbepaaDoorGen
import Derived.Test.YtccidoigjdbepaaDoorSumN
import Derived.Test.YtccidoigjdbepaaDoorEndA
namespace Go.Proofs.YtccidoigjdbepaaDoor
open Go.RowKit
set_option maxRecDepth 100000

/-- One of several parts: a slice value, and what it shows. -/
structure Part where
  A : Option Addr
  n : Nat
  c : Nat
  l : List UInt8

abbrev pv (p : Part) : Value := .slice p.A p.n p.c

/-- Parts that a slice value shows. -/
def Parts (w : World) (B : Nat) (A : Option Addr) (n : Nat) (L : List Part) : Prop :=
  Sh pv w B A n L ∧ ∀ p ∈ L, Shows w B p.A p.n p.l

/-- All bytes of parts, one behind the other. -/
abbrev joinP (L : List Part) : List UInt8 := (L.map (·.l)).flatten

theorem joinP_succ (L : List Part) (k : Nat) (p : Part) (h : L[k]? = some p) : joinP (L.take (k + 1)) = joinP (L.take k) ++ p.l := by
  obtain ⟨hk, rfl⟩ := List.getElem?_eq_some_iff.1 h
  unfold joinP
  rw [List.take_succ_eq_append_getElem hk]
  simp only [List.map_append, List.map_cons, List.map_nil, List.flatten_append, List.flatten_cons, List.flatten_nil, List.append_nil]
theorem joinP_le (L : List Part) (k : Nat) : (joinP (L.take k)).length ≤ (joinP L).length := by
  have : joinP L = joinP (L.take k) ++ joinP (L.drop k) := by
    unfold joinP
    rw [← List.flatten_append, ← List.map_append, List.take_append_drop]
  rw [this, List.length_append]
  omega

/-- Where the next byte of a word stands. -/
def place (l : List UInt8) : Int := if evenLen l then 8 else 0

end Go.Proofs.YtccidoigjdbepaaDoor
