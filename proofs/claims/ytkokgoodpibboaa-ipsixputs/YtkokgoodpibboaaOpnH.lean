
/- A head as an argument. -/
import Derived.Test.YtkokgoodpibboaaOpnA
import Derived.Test.YtkokgoodpibboaaAdrD
namespace Go.Proofs.Ytkokgoodpibboaa
open Go.ChangeShapes Go.WideShapes Go.ChangeAt Go.RowKit
set_option maxRecDepth 100000
set_option linter.unusedVariables false

set_option maxRecDepth 100000 in
theorem open_Head {H : Type} {enc : TypeId × Value → H} {w : World} {b0 : Nat} {r : Reach} {v : Value} {d : DataW H} {ps : List MemPlace}
    (hval : Value.okWide Try.prog w r b0 42 v) (hd : DataW.Trod enc Try.prog w 0 (fun _ => true) true 42 v d ps) :
    ∃ (x0 x1 x2 x3 x4 x5 x6 x7 x8 vs : Int) (ls : List UInt8) (vd : Int) (ld : List UInt8), v = .agg (hdv [x0, x1, x2, x3, x4, x5, x6, x7, x8] (adv vs ls) (adv vd ld)) ∧ (in64 x3 ∧ in64 x4 ∧ in64 x5 ∧ in64 x6 ∧ in64 x7 ∧ in64 x8) ∧ ls.length = 16 ∧ ld.length = 16 := by
  obtain ⟨cs, rfl, hs⟩ := okWide_struct Try.underlying42 hval
  rw [show Try.prog.cellsOf 42 = 43 by kernel_rfl] at hs
  obtain ⟨fuel, hf⟩ := hd
  obtain ⟨xs, m, _, _, _, hxs, hel⟩ := DataW.trod_struct Try.underlying42 hf
  have hx : xs.length = 11 := hxs
  have hi : Try.prog.cellsOf 3 = 1 := by kernel_rfl
  have ha : Try.prog.cellsOf 32 = 17 := by kernel_rfl
  have h0 := hel 0 _ rfl
  rw [List.getElem?_eq_getElem (by omega)] at h0
  obtain ⟨x0, e0, i0⟩ := trod_i64 Try.underlying3 h0
  have g0 : (cs.toList.drop 0).take (Try.prog.cellsOf 3) = [.int .i64 x0] := e0
  rw [hi] at g0
  have h1 := hel 1 _ rfl
  rw [List.getElem?_eq_getElem (by omega)] at h1
  obtain ⟨x1, e1, i1⟩ := trod_i64 Try.underlying3 h1
  have g1 : (cs.toList.drop 1).take (Try.prog.cellsOf 3) = [.int .i64 x1] := e1
  rw [hi] at g1
  have h2 := hel 2 _ rfl
  rw [List.getElem?_eq_getElem (by omega)] at h2
  obtain ⟨x2, e2, i2⟩ := trod_i64 Try.underlying3 h2
  have g2 : (cs.toList.drop 2).take (Try.prog.cellsOf 3) = [.int .i64 x2] := e2
  rw [hi] at g2
  have h3 := hel 3 _ rfl
  rw [List.getElem?_eq_getElem (by omega)] at h3
  obtain ⟨x3, e3, i3⟩ := trod_i64 Try.underlying3 h3
  have g3 : (cs.toList.drop 3).take (Try.prog.cellsOf 3) = [.int .i64 x3] := e3
  rw [hi] at g3
  have h4 := hel 4 _ rfl
  rw [List.getElem?_eq_getElem (by omega)] at h4
  obtain ⟨x4, e4, i4⟩ := trod_i64 Try.underlying3 h4
  have g4 : (cs.toList.drop 4).take (Try.prog.cellsOf 3) = [.int .i64 x4] := e4
  rw [hi] at g4
  have h5 := hel 5 _ rfl
  rw [List.getElem?_eq_getElem (by omega)] at h5
  obtain ⟨x5, e5, i5⟩ := trod_i64 Try.underlying3 h5
  have g5 : (cs.toList.drop 5).take (Try.prog.cellsOf 3) = [.int .i64 x5] := e5
  rw [hi] at g5
  have h6 := hel 6 _ rfl
  rw [List.getElem?_eq_getElem (by omega)] at h6
  obtain ⟨x6, e6, i6⟩ := trod_i64 Try.underlying3 h6
  have g6 : (cs.toList.drop 6).take (Try.prog.cellsOf 3) = [.int .i64 x6] := e6
  rw [hi] at g6
  have h7 := hel 7 _ rfl
  rw [List.getElem?_eq_getElem (by omega)] at h7
  obtain ⟨x7, e7, i7⟩ := trod_i64 Try.underlying3 h7
  have g7 : (cs.toList.drop 7).take (Try.prog.cellsOf 3) = [.int .i64 x7] := e7
  rw [hi] at g7
  have h8 := hel 8 _ rfl
  rw [List.getElem?_eq_getElem (by omega)] at h8
  obtain ⟨x8, e8, i8⟩ := trod_i64 Try.underlying3 h8
  have g8 : (cs.toList.drop 8).take (Try.prog.cellsOf 3) = [.int .i64 x8] := e8
  rw [hi] at g8
  have h9 := hel 9 _ rfl
  rw [List.getElem?_eq_getElem (by omega)] at h9
  obtain ⟨vs, ls, e9, i9, n9⟩ := trod_Addr h9
  have g9 : (cs.toList.drop 9).take (Try.prog.cellsOf 32) = (adv vs ls).toList := e9
  rw [ha] at g9
  have h10 := hel 10 _ rfl
  rw [List.getElem?_eq_getElem (by omega)] at h10
  obtain ⟨vd, ld, e10, i10, n10⟩ := trod_Addr h10
  have g10 : (cs.toList.drop 26).take (Try.prog.cellsOf 32) = (adv vd ld).toList := e10
  rw [ha] at g10
  have y0 := cut_at cs.toList 0 1 1 rfl
  rw [g0] at y0
  have y1 := cut_at cs.toList 1 1 2 rfl
  rw [g1] at y1
  have y2 := cut_at cs.toList 2 1 3 rfl
  rw [g2] at y2
  have y3 := cut_at cs.toList 3 1 4 rfl
  rw [g3] at y3
  have y4 := cut_at cs.toList 4 1 5 rfl
  rw [g4] at y4
  have y5 := cut_at cs.toList 5 1 6 rfl
  rw [g5] at y5
  have y6 := cut_at cs.toList 6 1 7 rfl
  rw [g6] at y6
  have y7 := cut_at cs.toList 7 1 8 rfl
  rw [g7] at y7
  have y8 := cut_at cs.toList 8 1 9 rfl
  rw [g8] at y8
  have y9 := cut_at cs.toList 9 17 26 rfl
  rw [g9] at y9
  have y10 := cut_at cs.toList 26 17 43 rfl
  rw [g10] at y10
  rw [List.drop_eq_nil_of_le (show cs.toList.length ≤ 43 by simp [hs]), List.append_nil] at y10
  refine ⟨x0, x1, x2, x3, x4, x5, x6, x7, x8, vs, ls, vd, ld, ?_, ⟨i3, i4, i5, i6, i7, i8⟩, n9, n10⟩
  congr 1
  apply Array.ext'
  refine (List.drop_zero (l := cs.toList)).symm.trans ((y0.trans (congrArg (fun z => [.int .i64 x0] ++ z) (y1.trans (congrArg (fun z => [.int .i64 x1] ++ z) (y2.trans (congrArg (fun z => [.int .i64 x2] ++ z) (y3.trans (congrArg (fun z => [.int .i64 x3] ++ z) (y4.trans (congrArg (fun z => [.int .i64 x4] ++ z) (y5.trans (congrArg (fun z => [.int .i64 x5] ++ z) (y6.trans (congrArg (fun z => [.int .i64 x6] ++ z) (y7.trans (congrArg (fun z => [.int .i64 x7] ++ z) (y8.trans (congrArg (fun z => [.int .i64 x8] ++ z) (y9.trans (congrArg (fun z => (adv vs ls).toList ++ z) y10)))))))))))))))))))).trans ?_)
  simp [hdv]

end Go.Proofs.Ytkokgoodpibboaa
