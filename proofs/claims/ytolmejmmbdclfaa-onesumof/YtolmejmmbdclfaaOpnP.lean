
/- How an argument is opened: a slice of slices of bytes. -/
import Derived.Test.YtolmejmmbdclfaaOpn2
import Derived.Test.YtolmejmmbdclfaaSumA
namespace Go.Proofs.Ytolmejmmbdclfaa
open Go.ChangeShapes Go.WideShapes Go.ChangeAt Go.RowKit

theorem list_of_each {α : Type} (p : Nat → α → Prop) : ∀ n, (∀ i, i < n → ∃ x, p i x) → ∃ L : List α, L.length = n ∧ ∀ (i : Nat) x, L[i]? = some x → p i x
  | 0, _ => ⟨[], rfl, fun i x h => by simp at h⟩
  | n + 1, h => by
    obtain ⟨L, h1, h2⟩ := list_of_each p n fun i hi => h i (by omega)
    obtain ⟨x, hx⟩ := h n (by omega)
    refine ⟨L ++ [x], by simp [h1], fun i y hy => ?_⟩
    by_cases hi : i < L.length
    · rw [List.getElem?_append_left hi] at hy; exact h2 i y hy
    · rw [List.getElem?_append_right (by omega)] at hy
      have hi2 : i - L.length = 0 := by
        have := (List.getElem?_eq_some_iff.1 hy).1
        simp at this
        omega
      rw [hi2] at hy
      simp at hy
      subst hy
      rw [show i = n by omega]
      exact hx

/-- A slice of slices of bytes that came in. -/
theorem open_byteSlices {H : Type} {enc : TypeId × Value → H} {P : Program} {w : World} {b0 : Nat} {r : Reach} {t e u : TypeId} {v : Value} {d : DataW H} {ps : List MemPlace}
    (ht : P.underlying t = some (.slice e)) (he : P.underlying e = some (.slice u)) (hu : P.underlying u = some (.int .u8)) (hce : P.cellsOf e = 1) (hcu : P.cellsOf u = 1) (hval : Value.okWide P w r b0 t v) (hd : DataW.Trod enc P w 0 (fun _ => true) true t v d ps) :
    ∃ A n c L, v = .slice A n c ∧ (n ≤ c ∧ c ≤ maxLen) ∧ (∀ p ∈ L, p.n ≤ 9223372036854775807) ∧ Parts w w.heap.size A n L := by
  obtain ⟨A, n, c, rfl⟩ := okWide_slice ht hval
  obtain ⟨fuel, hf⟩ := hd
  refine ⟨A, n, c, ?_⟩
  rcases DataW.trod_slice ht hf with ⟨hcs, _⟩ | ⟨a, len, cap, elems, rest, m, _, hcs, _, hb, hl, hm, hlen, hel, _, _⟩
  · simp [Value.cells] at hcs
    obtain ⟨rfl, rfl, rfl⟩ := hcs
    exact ⟨[], rfl, ⟨Nat.le_refl _, by simp [maxLen]⟩, fun p hp => by (cases hp), Sh.none_, fun p hp => by (cases hp)⟩
  · simp [Value.cells] at hcs
    obtain ⟨rfl, rfl, rfl⟩ := hcs
    obtain ⟨L, h1, h2⟩ := list_of_each (fun i (p : Part) => w.cell? (a.add i) = some (pv p) ∧ p.n ≤ 9223372036854775807 ∧ Shows w w.heap.size p.A p.n p.l) n (by
      intro i hi
      have h1 := hel i hi
      rw [hce, Nat.mul_one, List.getElem?_eq_getElem (show i < elems.length by omega), Option.bind_eq_some_iff] at h1
      obtain ⟨cs', hcs', hy⟩ := h1
      obtain ⟨A', n', c', l', rfl, hc', hs'⟩ := trod_byteSlice he hu hcu hy
      refine ⟨⟨A', n', c', l'⟩, cell_of_cells?_one hcs', ?_, hs'⟩
      have := Nat.le_trans hc'.1 hc'.2
      unfold maxLen at this
      exact this)
    refine ⟨L, rfl, ⟨hl, hm⟩, fun p hp => ?_, ⟨h1, fun hn => ?_⟩, fun p hp => ?_⟩
    · obtain ⟨i, hi⟩ := List.getElem?_of_mem hp
      exact (h2 i p hi).2.1
    · obtain ⟨b, off, spot⟩ := a
      have h0 := (h2 0 _ (List.getElem?_eq_getElem (show 0 < L.length by omega))).1
      have hspot : spot = none := by simpa [Addr.add] using World.cell?_spot h0
      subst hspot
      have hlt : b < w.heap.size := by
        have := World.block_lt_of_cell? w _ h0
        simpa [Addr.add] using this
      refine ⟨b, off, rfl, hlt, fun j hj => ?_⟩
      have h3 := (h2 j _ (List.getElem?_eq_getElem hj)).1
      rw [Go.WideShapes.add_plain] at h3
      exact h3
    · obtain ⟨i, hi⟩ := List.getElem?_of_mem hp
      exact (h2 i p hi).2.2

end Go.Proofs.Ytolmejmmbdclfaa
