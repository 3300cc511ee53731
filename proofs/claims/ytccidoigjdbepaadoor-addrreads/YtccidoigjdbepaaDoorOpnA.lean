
/- An address as an argument, and as a part of one. -/
import Derived.Test.YtccidoigjdbepaaDoorOpn2
import Derived.Test.YtccidoigjdbepaaDoorAdrA
namespace Go.Proofs.YtccidoigjdbepaaDoor
open Go.ChangeShapes Go.WideShapes Go.ChangeAt Go.RowKit
set_option maxRecDepth 100000
set_option linter.unusedVariables false

def in64 (x : Int) : Prop := -9223372036854775808 ≤ x ∧ x ≤ 9223372036854775807
theorem trod_i64 {H : Type} {enc : TypeId × Value → H} {P : Program} {w : World} {base fuel : Nat} {spare : Nat → Bool} {held : Bool} {t : TypeId} {cs : List Value} {x : DataW H × List MemPlace}
    (ht : P.underlying t = some (.int .i64)) (h : DataW.trod enc P w base spare held fuel t cs = some x) : ∃ z : Int, cs = [.int .i64 z] ∧ in64 z := by
  obtain ⟨z, rfl, _, hw⟩ := DataW.trod_int ht h
  have hb := bounds_i64 hw
  exact ⟨z, rfl, by unfold in64; omega⟩

set_option maxRecDepth 100000 in
theorem trod_Addr {H : Type} {enc : TypeId × Value → H} {w : World} {fuel : Nat} {cs : List Value} {y : DataW H × List MemPlace} (hf : DataW.trod enc Tryd.prog w 0 (fun _ => true) true fuel 24 cs = some y) :
    ∃ (v : Int) (l : List UInt8), cs = (adv v l).toList ∧ in64 v ∧ l.length = 16 := by
  obtain ⟨xs, m, _, _, hs, hxs, hel⟩ := DataW.trod_struct Tryd.underlying24 hf
  rw [show Tryd.prog.cellsOf 24 = 17 by kernel_rfl] at hs
  have hx : xs.length = 2 := hxs
  have h0 := hel 0 _ rfl
  rw [List.getElem?_eq_getElem (by omega)] at h0
  obtain ⟨v, e0, hv⟩ := trod_i64 Tryd.underlying3 h0
  have g0 : (cs.drop 0).take (Tryd.prog.cellsOf 3) = [.int .i64 v] := e0
  rw [show Tryd.prog.cellsOf 3 = 1 by kernel_rfl] at g0
  have h1 := hel 1 _ rfl
  rw [List.getElem?_eq_getElem (by omega)] at h1
  obtain ⟨l, e1, hl⟩ := trod_bytes Tryd.underlying22 Tryd.underlying5 (by kernel_rfl) (by kernel_rfl) h1
  have g1 : (cs.drop 1).take (Tryd.prog.cellsOf 22) = l.map bv := e1
  rw [show Tryd.prog.cellsOf 22 = 16 by kernel_rfl] at g1
  have y0 := cut_at cs 0 1 1 rfl
  rw [g0] at y0
  have y1 := cut_at cs 1 16 17 rfl
  rw [g1] at y1
  rw [List.drop_eq_nil_of_le (show cs.length ≤ 17 by omega), List.append_nil] at y1
  refine ⟨v, l, ?_, hv, hl⟩
  refine (List.drop_zero (l := cs)).symm.trans ((y0.trans (congrArg (fun z => [.int .i64 v] ++ z) y1)).trans ?_)
  simp [adv]
theorem open_Addr {H : Type} {enc : TypeId × Value → H} {w : World} {b0 : Nat} {r : Reach} {v : Value} {d : DataW H} {ps : List MemPlace}
    (hval : Value.okWide Tryd.prog w r b0 24 v) (hd : DataW.Trod enc Tryd.prog w 0 (fun _ => true) true 24 v d ps) :
    ∃ (x : Int) (l : List UInt8), v = .agg (adv x l) ∧ in64 x ∧ l.length = 16 := by
  obtain ⟨cs, rfl, hs⟩ := okWide_struct Tryd.underlying24 hval
  obtain ⟨fuel, hf⟩ := hd
  obtain ⟨x, l, e, hx, hl⟩ := trod_Addr hf
  refine ⟨x, l, ?_, hx, hl⟩
  congr 1
  exact Array.ext' e

end Go.Proofs.YtccidoigjdbepaaDoor
