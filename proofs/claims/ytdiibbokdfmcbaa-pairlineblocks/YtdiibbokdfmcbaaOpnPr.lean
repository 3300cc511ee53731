
/- How a slice of pairs of texts that came in is opened. -/
import Derived.Test.YtdiibbokdfmcbaaOpn
import Derived.Test.YtdiibbokdfmcbaaPlnD
import Derived.Deep.SlicePairs
namespace Go.Proofs.Ytdiibbokdfmcbaa
open Go.ChangeShapes Go.WideShapes Go.ChangeAt Go.RowKit Pln
set_option maxRecDepth 100000

def textOf : Value → List UInt8
  | .string s => s.data.toList
  | _ => []

theorem open_pairs {H : Type} {enc : TypeId × Value → H} {P : Program} {w : World} {b0 : Nat} {r : Reach} {t e : TypeId} {f0 f1 : Field} {v : Value} {d : DataW H} {ps : List MemPlace}
    (ht : P.underlying t = some (.slice e)) (he : P.underlying e = some (.struct #[f0, f1])) (ce : P.cellsOf e = 2) (o0 : f0.offset = 0) (o1 : f1.offset = 1) (c0 : P.cellsOf f0.type = 1) (c1 : P.cellsOf f1.type = 1)
    (u0 : P.underlying f0.type = some .string) (u1 : P.underlying f1.type = some .string)
    (hval : Value.okWide P w r b0 t v) (hd : DataW.Trod enc P w 0 (fun _ => true) true t v d ps) :
    ∃ (A : Option Addr) (n c : Nat) (D : List Pr), v = .slice A n c ∧ (n ≤ c ∧ c ≤ maxLen) ∧ ShP w w.heap.size A n D ∧ ∀ x ∈ D, x.1.length ≤ maxLen ∧ x.2.length ≤ maxLen := by
  obtain ⟨A, n, c, rfl⟩ := okWide_slice ht hval
  obtain ⟨fuel, hf⟩ := hd
  refine ⟨A, n, c, ?_⟩
  rcases Go.Deep.open_slice_pairs ht he ce o0 o1 c0 c1 hf with ⟨hcs, _⟩ | ⟨a, len, cap, m, k, V0, V1, D0, D1, P0, P1, hcs, _, hl, hm, hmm, _, hel⟩
  · simp [Value.cells] at hcs
    obtain ⟨rfl, rfl, rfl⟩ := hcs
    exact ⟨[], rfl, ⟨Nat.le_refl _, by simp [maxLen]⟩, ⟨rfl, fun h => absurd h (by omega)⟩, fun x hx => (by cases hx)⟩
  · simp [Value.cells] at hcs
    obtain ⟨rfl, rfl, rfl⟩ := hcs
    have hmn : n ≤ m := by rw [hmm]; split <;> omega
    have each : ∀ i, i < n → V0 i = sv (textOf (V0 i)) ∧ V1 i = sv (textOf (V1 i)) ∧ (textOf (V0 i)).length ≤ maxLen ∧ (textOf (V1 i)).length ≤ maxLen := by
      intro i hi
      obtain ⟨_, _, h0, h1⟩ := hel i (by omega)
      obtain ⟨s, hs, _, ls⟩ := DataW.trod_string u0 h0
      obtain ⟨z, hz, _, lz⟩ := DataW.trod_string u1 h1
      injection hs with hs
      injection hz with hz
      rw [hs, hz]
      refine ⟨by cases s with | mk d => cases d with | mk t => rfl, by cases z with | mk d => cases d with | mk t => rfl, ls, lz⟩
    refine ⟨(List.range n).map fun i => (textOf (V0 i), textOf (V1 i)), rfl, ⟨hl, hm⟩, ⟨by simp, fun hn => ?_⟩, fun x hx => ?_⟩
    · obtain ⟨b, off, spot⟩ := a
      have hc0 := (hel 0 (by omega)).1
      have hspot : spot = none := by simpa [Addr.add] using World.cell?_spot hc0
      subst hspot
      have hlt : b < w.heap.size := by
        have := World.block_lt_of_cell? w _ hc0
        simpa [Addr.add] using this
      refine ⟨b, off, rfl, hlt, fun j hj => ?_⟩
      have hj' : j < n := by simpa using hj
      obtain ⟨e0, e1, _⟩ := each j hj'
      obtain ⟨h0, h1, _, _⟩ := hel j (by omega)
      rw [add_plain] at h0 h1
      rw [Nat.add_assoc]
      simp only [List.getElem_map, List.getElem_range]
      exact ⟨h0.trans (congrArg some e0), h1.trans (congrArg some e1)⟩
    · obtain ⟨i, hi, rfl⟩ := List.mem_map.1 hx
      exact (each i (List.mem_range.1 hi)).2.2

end Go.Proofs.Ytdiibbokdfmcbaa
