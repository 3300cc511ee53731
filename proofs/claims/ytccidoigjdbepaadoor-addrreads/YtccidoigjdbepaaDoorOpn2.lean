
/- How arguments are opened: structs of numbers, arrays of bytes and slices of bytes. -/
import Derived.Test.YtccidoigjdbepaaDoorOpn
namespace Go.Proofs.YtccidoigjdbepaaDoor
open Go.ChangeShapes Go.WideShapes Go.ChangeAt Go.RowKit
set_option maxRecDepth 100000

section
variable {H : Type} {enc : TypeId × Value → H} {P : Program} {w : World} {base fuel n : Nat} {spare : Nat → Bool} {held : Bool} {t e : TypeId} {cs : List Value} {x : DataW H × List MemPlace}
/-- An array of bytes in a struct that came in. -/
theorem trod_bytes (ht : P.underlying t = some (.array n e)) (he : P.underlying e = some (.int .u8)) (hce : P.cellsOf e = 1) (hct : P.cellsOf t = n) (h : DataW.trod enc P w base spare held fuel t cs = some x) :
    ∃ l : List UInt8, cs = l.map bv ∧ l.length = n := by
  obtain ⟨xs, m, _, _, hlc, hxs, hel⟩ := DataW.trod_array ht h
  rw [hct] at hlc
  have each : ∀ i, i < n → ∃ c : UInt8, cs[i]? = some (bv c) := by
    intro i hi
    have h1 := hel i hi
    rw [hce, Nat.mul_one, List.getElem?_eq_getElem (show i < xs.length by omega)] at h1
    obtain ⟨z, hz, _, hw⟩ := DataW.trod_int he h1
    have hb := bounds_u8 hw
    have hlen : i < cs.length := by omega
    have e1 : (cs.drop i).take 1 = [cs[i]] := by
      rw [List.drop_eq_getElem_cons hlen]; rfl
    rw [e1] at hz
    injection hz with hz
    refine ⟨UInt8.ofNat z.toNat, ?_⟩
    rw [List.getElem?_eq_getElem hlen, hz]
    simp
    omega
  refine ⟨(List.range n).map fun i => byteOf cs[i]?, ?_, by simp⟩
  apply List.ext_getElem?
  intro i
  by_cases hi : i < n
  · obtain ⟨c, hc⟩ := each i hi
    rw [hc]
    simp [hi, hc, byteOf_bv]
  · rw [List.getElem?_eq_none (by omega)]
    simp [hi]
/-- A slice of bytes in a struct that came in. -/
theorem trod_byteSlice (ht : P.underlying t = some (.slice e)) (he : P.underlying e = some (.int .u8)) (hce : P.cellsOf e = 1) (h : DataW.trod enc P w 0 (fun _ => true) true fuel t cs = some x) :
    ∃ A n c l, cs = [.slice A n c] ∧ (n ≤ c ∧ c ≤ maxLen) ∧ Shows w w.heap.size A n l := by
  rcases open_ints ht he hce h with ⟨rfl, _⟩ | ⟨x, len, cap, zs, rfl, _, hl, hm, hz, _, hcell, hwf⟩
  · obtain ⟨l, h1, h2⟩ := shows_of_row (w := w) (a := none) (len := 0) (cap := 0) (zs := []) (.inl ⟨rfl, rfl, rfl, rfl⟩)
    exact ⟨none, 0, 0, l, rfl, h1, h2⟩
  · obtain ⟨l, h1, h2⟩ := shows_of_row (w := w) (a := some x) (len := len) (cap := cap) (zs := zs) (.inr ⟨x, rfl, hl, hm, by simpa using hz, hcell, hwf⟩)
    exact ⟨some x, len, cap, l, rfl, h1, h2⟩
theorem trod_u32 (ht : P.underlying t = some (.int .u32)) (h : DataW.trod enc P w base spare held fuel t cs = some x) : ∃ r : Nat, cs = [.int .u32 (r : Int)] ∧ r < 4294967296 := by
  obtain ⟨z, rfl, _, hw⟩ := DataW.trod_int ht h
  have hb := bounds_u32 hw
  exact ⟨z.toNat, by rw [Int.toNat_of_nonneg hb.1], by omega⟩
theorem trod_u64 (ht : P.underlying t = some (.int .u64)) (h : DataW.trod enc P w base spare held fuel t cs = some x) : ∃ r : Nat, cs = [.int .u64 (r : Int)] ∧ r < 18446744073709551616 := by
  obtain ⟨z, rfl, _, hw⟩ := DataW.trod_int ht h
  have hb := bounds_u64 hw
  exact ⟨z.toNat, by rw [Int.toNat_of_nonneg hb.1], by omega⟩
end

/-- Pieces of a row, put together again. -/
theorem cut_at {α : Type} (l : List α) (o n m : Nat) (h : o + n = m) : l.drop o = (l.drop o).take n ++ l.drop m := by
  subst h
  rw [← List.drop_drop, List.take_append_drop]

end Go.Proofs.YtccidoigjdbepaaDoor
