
/- How slices of numbers that came in are opened. -/
import Derived.Test.YtibpbgfliccacaaOpn
import Derived.Test.YtibpbgfliccacaaGen
namespace Go.Proofs.Ytibpbgfliccacaa
open Go.ChangeShapes Go.WideShapes Go.ChangeAt Go.RowKit

/-- A slice of numbers of a kind that came in. -/
theorem open_numSlice {H : Type} {enc : TypeId × Value → H} {P : Program} {w : World} {b0 : Nat} {r : Reach} {t e : TypeId} {v : Value} {d : DataW H} {ps : List MemPlace} (k : IntKind) (M : Nat)
    (hk : ∀ z : Int, (Lit.int k z).wf = true → 0 ≤ z ∧ z < (M : Int))
    (ht : P.underlying t = some (.slice e)) (he : P.underlying e = some (.int k)) (hce : P.cellsOf e = 1) (hval : Value.okWide P w r b0 t v) (hd : DataW.Trod enc P w 0 (fun _ => true) true t v d ps) :
    ∃ (A : Option Addr) (n c : Nat) (l : List Nat), v = .slice A n c ∧ (n ≤ c ∧ c ≤ maxLen) ∧ Sh (fun m : Nat => .int k (m : Int)) w w.heap.size A n l ∧ ∀ x ∈ l, x < M := by
  obtain ⟨A, n, c, rfl⟩ := okWide_slice ht hval
  obtain ⟨fuel, hf⟩ := hd
  refine ⟨A, n, c, ?_⟩
  rcases open_ints ht he hce hf with ⟨hcs, _⟩ | ⟨x, len, cap, zs, hcs, _, hl, hm, hz, _, hcell, hwf⟩
  · simp [Value.cells] at hcs
    obtain ⟨rfl, rfl, rfl⟩ := hcs
    exact ⟨[], rfl, ⟨Nat.le_refl _, by simp [maxLen]⟩, ⟨rfl, fun h => absurd h (by omega)⟩, fun x hx => (by cases hx)⟩
  · simp [Value.cells] at hcs
    obtain ⟨rfl, rfl, rfl⟩ := hcs
    have hz' : zs.length = c := by simpa using hz
    refine ⟨(zs.take n).map Int.toNat, rfl, ⟨hl, hm⟩, ⟨by simp; omega, fun hn => ?_⟩, fun y hy => ?_⟩
    · obtain ⟨b, off, rfl, hc⟩ := ints_at hcell (by omega)
      refine ⟨b, off, rfl, World.block_lt_of_cell? w _ (hc 0 (by omega)), fun j hj => ?_⟩
      have hj' : j < zs.length := by simp at hj; omega
      rw [hc j hj']
      have hb := hk _ (hwf zs[j] (List.getElem_mem hj'))
      simp [hj']
      omega
    · obtain ⟨z, hz1, rfl⟩ := List.mem_map.1 hy
      have hb := hk _ (hwf z (List.mem_of_mem_take hz1))
      omega
theorem in_u64 (z : Int) (h : (Lit.int .u64 z).wf = true) : 0 ≤ z ∧ z < ((18446744073709551616 : Nat) : Int) := by
  obtain ⟨h0, h1⟩ := bounds_u64 h
  exact ⟨h0, by omega⟩
theorem in_u16 (z : Int) (h : (Lit.int .u16 z).wf = true) : 0 ≤ z ∧ z < ((65536 : Nat) : Int) := by
  obtain ⟨h0, h1⟩ := bounds_u16 h
  exact ⟨h0, by omega⟩

end Go.Proofs.Ytibpbgfliccacaa
