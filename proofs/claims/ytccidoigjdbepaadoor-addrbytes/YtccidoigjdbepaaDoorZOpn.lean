
/- Out of the texts Opn, Opn2, OpnA. -/
import Derived.Test.YtccidoigjdbepaaDoorArrA
import Derived.OpenShut
import Derived.Below
import Derived.ChangeShapes
import Derived.Test.YtccidoigjdbepaaDoorAdrA
/- Opn -/
namespace Go.Proofs.YtccidoigjdbepaaDoor
open Go.ChangeShapes Go.WideShapes Go.ChangeAt Go.RowKit
set_option maxRecDepth 100000

theorem okWide_array {P : Program} {w : World} {r : Reach} {base n : Nat} {t e : TypeId} {v : Value} (ht : P.underlying t = some (.array n e)) (h : Value.okWide P w r base t v) : ∃ cs, v = .agg cs ∧ cs.size = P.cellsOf t := by
  unfold Value.okWide at h
  rw [ht] at h
  obtain ⟨cs, h1, h2, _⟩ := h
  exact ⟨cs, h1, h2⟩

def byteOf : Option Value → UInt8
  | some (.int _ z) => UInt8.ofNat z.toNat
  | _ => 0
theorem byteOf_bv (c : UInt8) : byteOf (some (bv c)) = c := by simp [byteOf]

/-- An array of bytes that came in. -/
theorem open_bytes {H : Type} {enc : TypeId × Value → H} {P : Program} {w : World} {base b0 n : Nat} {spare : Nat → Bool} {held : Bool} {r : Reach} {t e : TypeId} {v : Value} {d : DataW H} {ps : List MemPlace}
    (ht : P.underlying t = some (.array n e)) (he : P.underlying e = some (.int .u8)) (hce : P.cellsOf e = 1) (hct : P.cellsOf t = n) (hval : Value.okWide P w r b0 t v) (hd : DataW.Trod enc P w base spare held t v d ps) :
    ∃ l : List UInt8, v = av l ∧ l.length = n := by
  obtain ⟨cs, rfl, hs⟩ := okWide_array ht hval
  rw [hct] at hs
  obtain ⟨fuel, hf⟩ := hd
  obtain ⟨xs, m, _, _, _, hxs, hel⟩ := DataW.trod_array ht hf
  have each : ∀ i, i < n → ∃ c : UInt8, cs[i]? = some (bv c) := by
    intro i hi
    have h1 := hel i hi
    rw [hce, Nat.mul_one, List.getElem?_eq_getElem (show i < xs.length by omega)] at h1
    obtain ⟨z, hz, _, hw⟩ := DataW.trod_int he h1
    have hb := bounds_u8 hw
    have hlen : i < cs.toList.length := by simp; omega
    have e1 : (cs.toList.drop i).take 1 = [cs.toList[i]] := by
      rw [List.drop_eq_getElem_cons hlen]; rfl
    have e2 : (Value.agg cs).cells.toList = cs.toList := rfl
    rw [e2, e1] at hz
    injection hz with hz
    refine ⟨UInt8.ofNat z.toNat, ?_⟩
    rw [← Array.getElem?_toList, List.getElem?_eq_getElem hlen, hz]
    simp
    omega
  refine ⟨(List.range n).map fun i => byteOf cs[i]?, ?_, by simp⟩
  congr 1
  apply Array.ext_getElem?
  intro i
  by_cases hi : i < n
  · obtain ⟨c, hc⟩ := each i hi
    rw [hc]
    simp [hi, hc, byteOf_bv]
  · rw [Array.getElem?_eq_none (by omega)]
    simp [hi]

/-- A slice of bytes that came in. -/
theorem open_byteSlice {H : Type} {enc : TypeId × Value → H} {P : Program} {w : World} {b0 : Nat} {r : Reach} {t e : TypeId} {v : Value} {d : DataW H} {ps : List MemPlace}
    (ht : P.underlying t = some (.slice e)) (he : P.underlying e = some (.int .u8)) (hce : P.cellsOf e = 1) (hval : Value.okWide P w r b0 t v) (hd : DataW.Trod enc P w 0 (fun _ => true) true t v d ps) :
    ∃ A n c l, v = .slice A n c ∧ (n ≤ c ∧ c ≤ maxLen) ∧ Shows w w.heap.size A n l := by
  obtain ⟨A, n, c, rfl⟩ := okWide_slice ht hval
  obtain ⟨fuel, hf⟩ := hd
  refine ⟨A, n, c, ?_⟩
  rcases open_ints ht he hce hf with ⟨hcs, _⟩ | ⟨x, len, cap, zs, hcs, _, hl, hm, hz, _, hcell, hwf⟩
  · simp [Value.cells] at hcs
    obtain ⟨rfl, rfl, rfl⟩ := hcs
    obtain ⟨l, h1, h2⟩ := shows_of_row (w := w) (a := none) (len := 0) (cap := 0) (zs := []) (.inl ⟨rfl, rfl, rfl, rfl⟩)
    exact ⟨l, rfl, h1, h2⟩
  · simp [Value.cells] at hcs
    obtain ⟨rfl, rfl, rfl⟩ := hcs
    obtain ⟨l, h1, h2⟩ := shows_of_row (w := w) (a := some x) (len := n) (cap := c) (zs := zs) (.inr ⟨x, rfl, hl, hm, by simpa using hz, hcell, hwf⟩)
    exact ⟨l, rfl, h1, h2⟩

end Go.Proofs.YtccidoigjdbepaaDoor

/- Opn2 -/
namespace Go.Proofs.YtccidoigjdbepaaDoor
open Go.ChangeShapes Go.WideShapes Go.ChangeAt Go.RowKit
set_option maxRecDepth 100000

section
variable {H : Type} {enc : TypeId × Value → H} {P : Program} {w : World} {base fuel n : Nat} {spare : Nat → Bool} {held : Bool} {t e : TypeId} {cs : List Value} {x : DataW H × List MemPlace}
/-- An array of bytes in a struct that came in. -/
theorem trod_bytes (ht : P.underlying t = some (.array n e)) (he : P.underlying e = some (.int .u8)) (hce : P.cellsOf e = 1) (hct : P.cellsOf t = n) (h : DataW.trod enc P w base spare held fuel t cs = some x) :
    ∃ l : List UInt8, cs = l.map bv ∧ l.length = n := by
  obtain ⟨xs, m, _, _, hlc, hxs, hel⟩ := DataW.trod_array ht h
  rw [hct] at hlc
  have each : ∀ i, i < n → ∃ c : UInt8, cs[i]? = some (bv c) := by
    intro i hi
    have h1 := hel i hi
    rw [hce, Nat.mul_one, List.getElem?_eq_getElem (show i < xs.length by omega)] at h1
    obtain ⟨z, hz, _, hw⟩ := DataW.trod_int he h1
    have hb := bounds_u8 hw
    have hlen : i < cs.length := by omega
    have e1 : (cs.drop i).take 1 = [cs[i]] := by
      rw [List.drop_eq_getElem_cons hlen]; rfl
    rw [e1] at hz
    injection hz with hz
    refine ⟨UInt8.ofNat z.toNat, ?_⟩
    rw [List.getElem?_eq_getElem hlen, hz]
    simp
    omega
  refine ⟨(List.range n).map fun i => byteOf cs[i]?, ?_, by simp⟩
  apply List.ext_getElem?
  intro i
  by_cases hi : i < n
  · obtain ⟨c, hc⟩ := each i hi
    rw [hc]
    simp [hi, hc, byteOf_bv]
  · rw [List.getElem?_eq_none (by omega)]
    simp [hi]
/-- A slice of bytes in a struct that came in. -/
theorem trod_byteSlice (ht : P.underlying t = some (.slice e)) (he : P.underlying e = some (.int .u8)) (hce : P.cellsOf e = 1) (h : DataW.trod enc P w 0 (fun _ => true) true fuel t cs = some x) :
    ∃ A n c l, cs = [.slice A n c] ∧ (n ≤ c ∧ c ≤ maxLen) ∧ Shows w w.heap.size A n l := by
  rcases open_ints ht he hce h with ⟨rfl, _⟩ | ⟨x, len, cap, zs, rfl, _, hl, hm, hz, _, hcell, hwf⟩
  · obtain ⟨l, h1, h2⟩ := shows_of_row (w := w) (a := none) (len := 0) (cap := 0) (zs := []) (.inl ⟨rfl, rfl, rfl, rfl⟩)
    exact ⟨none, 0, 0, l, rfl, h1, h2⟩
  · obtain ⟨l, h1, h2⟩ := shows_of_row (w := w) (a := some x) (len := len) (cap := cap) (zs := zs) (.inr ⟨x, rfl, hl, hm, by simpa using hz, hcell, hwf⟩)
    exact ⟨some x, len, cap, l, rfl, h1, h2⟩
theorem trod_u32 (ht : P.underlying t = some (.int .u32)) (h : DataW.trod enc P w base spare held fuel t cs = some x) : ∃ r : Nat, cs = [.int .u32 (r : Int)] ∧ r < 4294967296 := by
  obtain ⟨z, rfl, _, hw⟩ := DataW.trod_int ht h
  have hb := bounds_u32 hw
  exact ⟨z.toNat, by rw [Int.toNat_of_nonneg hb.1], by omega⟩
theorem trod_u64 (ht : P.underlying t = some (.int .u64)) (h : DataW.trod enc P w base spare held fuel t cs = some x) : ∃ r : Nat, cs = [.int .u64 (r : Int)] ∧ r < 18446744073709551616 := by
  obtain ⟨z, rfl, _, hw⟩ := DataW.trod_int ht h
  have hb := bounds_u64 hw
  exact ⟨z.toNat, by rw [Int.toNat_of_nonneg hb.1], by omega⟩
end

/-- Pieces of a row, put together again. -/
theorem cut_at {α : Type} (l : List α) (o n m : Nat) (h : o + n = m) : l.drop o = (l.drop o).take n ++ l.drop m := by
  subst h
  rw [← List.drop_drop, List.take_append_drop]

end Go.Proofs.YtccidoigjdbepaaDoor

/- OpnA -/
namespace Go.Proofs.YtccidoigjdbepaaDoor
open Go.ChangeShapes Go.WideShapes Go.ChangeAt Go.RowKit
set_option maxRecDepth 100000
set_option linter.unusedVariables false

def in64 (x : Int) : Prop := -9223372036854775808 ≤ x ∧ x ≤ 9223372036854775807
theorem trod_i64 {H : Type} {enc : TypeId × Value → H} {P : Program} {w : World} {base fuel : Nat} {spare : Nat → Bool} {held : Bool} {t : TypeId} {cs : List Value} {x : DataW H × List MemPlace}
    (ht : P.underlying t = some (.int .i64)) (h : DataW.trod enc P w base spare held fuel t cs = some x) : ∃ z : Int, cs = [.int .i64 z] ∧ in64 z := by
  obtain ⟨z, rfl, _, hw⟩ := DataW.trod_int ht h
  have hb := bounds_i64 hw
  exact ⟨z, rfl, by unfold in64; omega⟩

set_option maxRecDepth 100000 in
theorem trod_Addr {H : Type} {enc : TypeId × Value → H} {w : World} {fuel : Nat} {cs : List Value} {y : DataW H × List MemPlace} (hf : DataW.trod enc Tryd.prog w 0 (fun _ => true) true fuel 24 cs = some y) :
    ∃ (v : Int) (l : List UInt8), cs = (adv v l).toList ∧ in64 v ∧ l.length = 16 := by
  obtain ⟨xs, m, _, _, hs, hxs, hel⟩ := DataW.trod_struct Tryd.underlying24 hf
  rw [show Tryd.prog.cellsOf 24 = 17 by kernel_rfl] at hs
  have hx : xs.length = 2 := hxs
  have h0 := hel 0 _ rfl
  rw [List.getElem?_eq_getElem (by omega)] at h0
  obtain ⟨v, e0, hv⟩ := trod_i64 Tryd.underlying3 h0
  have g0 : (cs.drop 0).take (Tryd.prog.cellsOf 3) = [.int .i64 v] := e0
  rw [show Tryd.prog.cellsOf 3 = 1 by kernel_rfl] at g0
  have h1 := hel 1 _ rfl
  rw [List.getElem?_eq_getElem (by omega)] at h1
  obtain ⟨l, e1, hl⟩ := trod_bytes Tryd.underlying22 Tryd.underlying5 (by kernel_rfl) (by kernel_rfl) h1
  have g1 : (cs.drop 1).take (Tryd.prog.cellsOf 22) = l.map bv := e1
  rw [show Tryd.prog.cellsOf 22 = 16 by kernel_rfl] at g1
  have y0 := cut_at cs 0 1 1 rfl
  rw [g0] at y0
  have y1 := cut_at cs 1 16 17 rfl
  rw [g1] at y1
  rw [List.drop_eq_nil_of_le (show cs.length ≤ 17 by omega), List.append_nil] at y1
  refine ⟨v, l, ?_, hv, hl⟩
  refine (List.drop_zero (l := cs)).symm.trans ((y0.trans (congrArg (fun z => [.int .i64 v] ++ z) y1)).trans ?_)
  simp [adv]
theorem open_Addr {H : Type} {enc : TypeId × Value → H} {w : World} {b0 : Nat} {r : Reach} {v : Value} {d : DataW H} {ps : List MemPlace}
    (hval : Value.okWide Tryd.prog w r b0 24 v) (hd : DataW.Trod enc Tryd.prog w 0 (fun _ => true) true 24 v d ps) :
    ∃ (x : Int) (l : List UInt8), v = .agg (adv x l) ∧ in64 x ∧ l.length = 16 := by
  obtain ⟨cs, rfl, hs⟩ := okWide_struct Tryd.underlying24 hval
  obtain ⟨fuel, hf⟩ := hd
  obtain ⟨x, l, e, hx, hl⟩ := trod_Addr hf
  refine ⟨x, l, ?_, hx, hl⟩
  congr 1
  exact Array.ext' e

end Go.Proofs.YtccidoigjdbepaaDoor
