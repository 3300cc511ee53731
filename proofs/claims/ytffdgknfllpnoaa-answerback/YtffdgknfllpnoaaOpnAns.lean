
/- A message as an argument. -/
import Derived.Test.YtffdgknfllpnoaaOpn2
import Derived.Test.YtffdgknfllpnoaaAnsA
namespace Go.Proofs.Ytffdgknfllpnoaa
open Go.ChangeShapes Go.WideShapes Go.ChangeAt Go.RowKit

set_option maxRecDepth 100000 in
theorem open_Response {H : Type} {enc : TypeId × Value → H} {w : World} {b0 : Nat} {r : Reach} {v : Value} {d : DataW H} {ps : List MemPlace}
    (hval : Value.okWide Try.prog w r b0 41 v) (hd : DataW.Trod enc Try.prog w 0 (fun _ => true) true 41 v d ps) :
    ∃ (r0 r1 : Nat) (l : List UInt8), v = .agg (mcs [r0, r1] l) ∧ r0 < 4294967296 ∧ r1 < 4294967296 ∧ l.length = 80 := by
  obtain ⟨cs, rfl, hs⟩ := okWide_struct Try.underlying41 hval
  rw [show Try.prog.cellsOf 41 = 82 by kernel_rfl] at hs
  obtain ⟨fuel, hf⟩ := hd
  obtain ⟨xs, m, _, _, _, hxs, hel⟩ := DataW.trod_struct Try.underlying41 hf
  have hx : xs.length = 6 := hxs
  have h0 := hel 0 _ rfl
  rw [List.getElem?_eq_getElem (by omega)] at h0
  obtain ⟨r0, e0, hr0⟩ := trod_u32 Try.underlying22 h0
  have g0 : (cs.toList.drop 0).take (Try.prog.cellsOf 22) = [.int .u32 (r0 : Int)] := e0
  rw [show Try.prog.cellsOf 22 = 1 by kernel_rfl] at g0
  have h1 := hel 1 _ rfl
  rw [List.getElem?_eq_getElem (by omega)] at h1
  obtain ⟨r1, e1, hr1⟩ := trod_u32 Try.underlying22 h1
  have g1 : (cs.toList.drop 1).take (Try.prog.cellsOf 22) = [.int .u32 (r1 : Int)] := e1
  rw [show Try.prog.cellsOf 22 = 1 by kernel_rfl] at g1
  have h2 := hel 2 _ rfl
  rw [List.getElem?_eq_getElem (by omega)] at h2
  obtain ⟨l0, e2, hl0⟩ := trod_bytes Try.underlying23 Try.underlying5 (by kernel_rfl) (by kernel_rfl) h2
  have g2 : (cs.toList.drop 2).take (Try.prog.cellsOf 23) = l0.map bv := e2
  rw [show Try.prog.cellsOf 23 = 32 by kernel_rfl] at g2
  have h3 := hel 3 _ rfl
  rw [List.getElem?_eq_getElem (by omega)] at h3
  obtain ⟨l1, e3, hl1⟩ := trod_bytes Try.underlying26 Try.underlying5 (by kernel_rfl) (by kernel_rfl) h3
  have g3 : (cs.toList.drop 34).take (Try.prog.cellsOf 26) = l1.map bv := e3
  rw [show Try.prog.cellsOf 26 = 16 by kernel_rfl] at g3
  have h4 := hel 4 _ rfl
  rw [List.getElem?_eq_getElem (by omega)] at h4
  obtain ⟨l2, e4, hl2⟩ := trod_bytes Try.underlying26 Try.underlying5 (by kernel_rfl) (by kernel_rfl) h4
  have g4 : (cs.toList.drop 50).take (Try.prog.cellsOf 26) = l2.map bv := e4
  rw [show Try.prog.cellsOf 26 = 16 by kernel_rfl] at g4
  have h5 := hel 5 _ rfl
  rw [List.getElem?_eq_getElem (by omega)] at h5
  obtain ⟨l3, e5, hl3⟩ := trod_bytes Try.underlying26 Try.underlying5 (by kernel_rfl) (by kernel_rfl) h5
  have g5 : (cs.toList.drop 66).take (Try.prog.cellsOf 26) = l3.map bv := e5
  rw [show Try.prog.cellsOf 26 = 16 by kernel_rfl] at g5
  have y0 := cut_at cs.toList 0 1 1 rfl
  rw [g0] at y0
  have y1 := cut_at cs.toList 1 1 2 rfl
  rw [g1] at y1
  have y2 := cut_at cs.toList 2 32 34 rfl
  rw [g2] at y2
  have y3 := cut_at cs.toList 34 16 50 rfl
  rw [g3] at y3
  have y4 := cut_at cs.toList 50 16 66 rfl
  rw [g4] at y4
  have y5 := cut_at cs.toList 66 16 82 rfl
  rw [g5] at y5
  rw [List.drop_eq_nil_of_le (show cs.toList.length ≤ 82 by simp [hs]), List.append_nil] at y5
  refine ⟨r0, r1, l0 ++ (l1 ++ (l2 ++ (l3))), ?_, hr0, hr1, by simp [hl0, hl1, hl2, hl3]⟩
  congr 1
  apply Array.ext'
  refine (List.drop_zero (l := cs.toList)).symm.trans ((y0.trans (congrArg (fun z => [.int .u32 (r0 : Int)] ++ z) (y1.trans (congrArg (fun z => [.int .u32 (r1 : Int)] ++ z) (y2.trans (congrArg (fun z => l0.map bv ++ z) (y3.trans (congrArg (fun z => l1.map bv ++ z) (y4.trans (congrArg (fun z => l2.map bv ++ z) (y5))))))))))).trans ?_)
  simp [mcs]

end Go.Proofs.Ytffdgknfllpnoaa
