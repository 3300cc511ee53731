
/- A message as an argument. -/
import Derived.Test.YtffdgknfllpnoaaOpn2
import Derived.Test.YtffdgknfllpnoaaCokA
namespace Go.Proofs.Ytffdgknfllpnoaa
open Go.ChangeShapes Go.WideShapes Go.ChangeAt Go.RowKit

set_option maxRecDepth 100000 in
theorem open_Cookie {H : Type} {enc : TypeId × Value → H} {w : World} {b0 : Nat} {r : Reach} {v : Value} {d : DataW H} {ps : List MemPlace}
    (hval : Value.okWide Try.prog w r b0 50 v) (hd : DataW.Trod enc Try.prog w 0 (fun _ => true) true 50 v d ps) :
    ∃ (r0 : Nat) (l : List UInt8), v = .agg (mcs [r0] l) ∧ r0 < 4294967296 ∧ l.length = 56 := by
  obtain ⟨cs, rfl, hs⟩ := okWide_struct Try.underlying50 hval
  rw [show Try.prog.cellsOf 50 = 57 by kernel_rfl] at hs
  obtain ⟨fuel, hf⟩ := hd
  obtain ⟨xs, m, _, _, _, hxs, hel⟩ := DataW.trod_struct Try.underlying50 hf
  have hx : xs.length = 3 := hxs
  have h0 := hel 0 _ rfl
  rw [List.getElem?_eq_getElem (by omega)] at h0
  obtain ⟨r0, e0, hr0⟩ := trod_u32 Try.underlying22 h0
  have g0 : (cs.toList.drop 0).take (Try.prog.cellsOf 22) = [.int .u32 (r0 : Int)] := e0
  rw [show Try.prog.cellsOf 22 = 1 by kernel_rfl] at g0
  have h1 := hel 1 _ rfl
  rw [List.getElem?_eq_getElem (by omega)] at h1
  obtain ⟨l0, e1, hl0⟩ := trod_bytes Try.underlying48 Try.underlying5 (by kernel_rfl) (by kernel_rfl) h1
  have g1 : (cs.toList.drop 1).take (Try.prog.cellsOf 48) = l0.map bv := e1
  rw [show Try.prog.cellsOf 48 = 24 by kernel_rfl] at g1
  have h2 := hel 2 _ rfl
  rw [List.getElem?_eq_getElem (by omega)] at h2
  obtain ⟨l1, e2, hl1⟩ := trod_bytes Try.underlying23 Try.underlying5 (by kernel_rfl) (by kernel_rfl) h2
  have g2 : (cs.toList.drop 25).take (Try.prog.cellsOf 23) = l1.map bv := e2
  rw [show Try.prog.cellsOf 23 = 32 by kernel_rfl] at g2
  have y0 := cut_at cs.toList 0 1 1 rfl
  rw [g0] at y0
  have y1 := cut_at cs.toList 1 24 25 rfl
  rw [g1] at y1
  have y2 := cut_at cs.toList 25 32 57 rfl
  rw [g2] at y2
  rw [List.drop_eq_nil_of_le (show cs.toList.length ≤ 57 by simp [hs]), List.append_nil] at y2
  refine ⟨r0, l0 ++ (l1), ?_, hr0, by simp [hl0, hl1]⟩
  congr 1
  apply Array.ext'
  refine (List.drop_zero (l := cs.toList)).symm.trans ((y0.trans (congrArg (fun z => [.int .u32 (r0 : Int)] ++ z) (y1.trans (congrArg (fun z => l0.map bv ++ z) (y2))))).trans ?_)
  simp [mcs]

end Go.Proofs.Ytffdgknfllpnoaa
