
/- A message of any kind as an argument. -/
import Derived.Test.YtlllakjimgomjaaOpn2
import Derived.Test.YtlllakjimgomjaaWirA
namespace Go.Proofs.Ytlllakjimgomjaa
open Go.ChangeShapes Go.WideShapes Go.ChangeAt Go.RowKit
set_option linter.unusedVariables false

set_option maxRecDepth 100000 in
theorem trod_Initiation {H : Type} {enc : TypeId × Value → H} {w : World} {fuel : Nat} {cs : List Value} {y : DataW H × List MemPlace} (hf : DataW.trod enc Try.prog w 0 (fun _ => true) true fuel 49 cs = some y) :
    ∃ (r0 : Nat) (l : List UInt8), cs = (mcs [r0] l).toList ∧ r0 < 4294967296 ∧ l.length = 140 := by
  obtain ⟨xs, m, _, _, hs, hxs, hel⟩ := DataW.trod_struct Try.underlying49 hf
  rw [show Try.prog.cellsOf 49 = 141 by kernel_rfl] at hs
  have hx : xs.length = 6 := hxs
  have h0 := hel 0 _ rfl
  rw [List.getElem?_eq_getElem (by omega)] at h0
  obtain ⟨r0, e0, hr0⟩ := trod_u32 Try.underlying43 h0
  have g0 : (cs.drop 0).take (Try.prog.cellsOf 43) = [.int .u32 (r0 : Int)] := e0
  rw [show Try.prog.cellsOf 43 = 1 by kernel_rfl] at g0
  have h1 := hel 1 _ rfl
  rw [List.getElem?_eq_getElem (by omega)] at h1
  obtain ⟨l0, e1, hl0⟩ := trod_bytes Try.underlying44 Try.underlying5 (by kernel_rfl) (by kernel_rfl) h1
  have g1 : (cs.drop 1).take (Try.prog.cellsOf 44) = l0.map bv := e1
  rw [show Try.prog.cellsOf 44 = 32 by kernel_rfl] at g1
  have h2 := hel 2 _ rfl
  rw [List.getElem?_eq_getElem (by omega)] at h2
  obtain ⟨l1, e2, hl1⟩ := trod_bytes Try.underlying45 Try.underlying5 (by kernel_rfl) (by kernel_rfl) h2
  have g2 : (cs.drop 33).take (Try.prog.cellsOf 45) = l1.map bv := e2
  rw [show Try.prog.cellsOf 45 = 48 by kernel_rfl] at g2
  have h3 := hel 3 _ rfl
  rw [List.getElem?_eq_getElem (by omega)] at h3
  obtain ⟨l2, e3, hl2⟩ := trod_bytes Try.underlying46 Try.underlying5 (by kernel_rfl) (by kernel_rfl) h3
  have g3 : (cs.drop 81).take (Try.prog.cellsOf 46) = l2.map bv := e3
  rw [show Try.prog.cellsOf 46 = 28 by kernel_rfl] at g3
  have h4 := hel 4 _ rfl
  rw [List.getElem?_eq_getElem (by omega)] at h4
  obtain ⟨l3, e4, hl3⟩ := trod_bytes Try.underlying47 Try.underlying5 (by kernel_rfl) (by kernel_rfl) h4
  have g4 : (cs.drop 109).take (Try.prog.cellsOf 47) = l3.map bv := e4
  rw [show Try.prog.cellsOf 47 = 16 by kernel_rfl] at g4
  have h5 := hel 5 _ rfl
  rw [List.getElem?_eq_getElem (by omega)] at h5
  obtain ⟨l4, e5, hl4⟩ := trod_bytes Try.underlying47 Try.underlying5 (by kernel_rfl) (by kernel_rfl) h5
  have g5 : (cs.drop 125).take (Try.prog.cellsOf 47) = l4.map bv := e5
  rw [show Try.prog.cellsOf 47 = 16 by kernel_rfl] at g5
  have y0 := cut_at cs 0 1 1 rfl
  rw [g0] at y0
  have y1 := cut_at cs 1 32 33 rfl
  rw [g1] at y1
  have y2 := cut_at cs 33 48 81 rfl
  rw [g2] at y2
  have y3 := cut_at cs 81 28 109 rfl
  rw [g3] at y3
  have y4 := cut_at cs 109 16 125 rfl
  rw [g4] at y4
  have y5 := cut_at cs 125 16 141 rfl
  rw [g5] at y5
  rw [List.drop_eq_nil_of_le (show cs.length ≤ 141 by omega), List.append_nil] at y5
  refine ⟨r0, l0 ++ (l1 ++ (l2 ++ (l3 ++ (l4)))), ?_, hr0, by simp [hl0, hl1, hl2, hl3, hl4]⟩
  refine (List.drop_zero (l := cs)).symm.trans ((y0.trans (congrArg (fun z => [.int .u32 (r0 : Int)] ++ z) (y1.trans (congrArg (fun z => l0.map bv ++ z) (y2.trans (congrArg (fun z => l1.map bv ++ z) (y3.trans (congrArg (fun z => l2.map bv ++ z) (y4.trans (congrArg (fun z => l3.map bv ++ z) (y5))))))))))).trans ?_)
  simp [mcs]

set_option maxRecDepth 100000 in
theorem trod_Response {H : Type} {enc : TypeId × Value → H} {w : World} {fuel : Nat} {cs : List Value} {y : DataW H × List MemPlace} (hf : DataW.trod enc Try.prog w 0 (fun _ => true) true fuel 51 cs = some y) :
    ∃ (r0 r1 : Nat) (l : List UInt8), cs = (mcs [r0, r1] l).toList ∧ r0 < 4294967296 ∧ r1 < 4294967296 ∧ l.length = 80 := by
  obtain ⟨xs, m, _, _, hs, hxs, hel⟩ := DataW.trod_struct Try.underlying51 hf
  rw [show Try.prog.cellsOf 51 = 82 by kernel_rfl] at hs
  have hx : xs.length = 6 := hxs
  have h0 := hel 0 _ rfl
  rw [List.getElem?_eq_getElem (by omega)] at h0
  obtain ⟨r0, e0, hr0⟩ := trod_u32 Try.underlying43 h0
  have g0 : (cs.drop 0).take (Try.prog.cellsOf 43) = [.int .u32 (r0 : Int)] := e0
  rw [show Try.prog.cellsOf 43 = 1 by kernel_rfl] at g0
  have h1 := hel 1 _ rfl
  rw [List.getElem?_eq_getElem (by omega)] at h1
  obtain ⟨r1, e1, hr1⟩ := trod_u32 Try.underlying43 h1
  have g1 : (cs.drop 1).take (Try.prog.cellsOf 43) = [.int .u32 (r1 : Int)] := e1
  rw [show Try.prog.cellsOf 43 = 1 by kernel_rfl] at g1
  have h2 := hel 2 _ rfl
  rw [List.getElem?_eq_getElem (by omega)] at h2
  obtain ⟨l0, e2, hl0⟩ := trod_bytes Try.underlying44 Try.underlying5 (by kernel_rfl) (by kernel_rfl) h2
  have g2 : (cs.drop 2).take (Try.prog.cellsOf 44) = l0.map bv := e2
  rw [show Try.prog.cellsOf 44 = 32 by kernel_rfl] at g2
  have h3 := hel 3 _ rfl
  rw [List.getElem?_eq_getElem (by omega)] at h3
  obtain ⟨l1, e3, hl1⟩ := trod_bytes Try.underlying47 Try.underlying5 (by kernel_rfl) (by kernel_rfl) h3
  have g3 : (cs.drop 34).take (Try.prog.cellsOf 47) = l1.map bv := e3
  rw [show Try.prog.cellsOf 47 = 16 by kernel_rfl] at g3
  have h4 := hel 4 _ rfl
  rw [List.getElem?_eq_getElem (by omega)] at h4
  obtain ⟨l2, e4, hl2⟩ := trod_bytes Try.underlying47 Try.underlying5 (by kernel_rfl) (by kernel_rfl) h4
  have g4 : (cs.drop 50).take (Try.prog.cellsOf 47) = l2.map bv := e4
  rw [show Try.prog.cellsOf 47 = 16 by kernel_rfl] at g4
  have h5 := hel 5 _ rfl
  rw [List.getElem?_eq_getElem (by omega)] at h5
  obtain ⟨l3, e5, hl3⟩ := trod_bytes Try.underlying47 Try.underlying5 (by kernel_rfl) (by kernel_rfl) h5
  have g5 : (cs.drop 66).take (Try.prog.cellsOf 47) = l3.map bv := e5
  rw [show Try.prog.cellsOf 47 = 16 by kernel_rfl] at g5
  have y0 := cut_at cs 0 1 1 rfl
  rw [g0] at y0
  have y1 := cut_at cs 1 1 2 rfl
  rw [g1] at y1
  have y2 := cut_at cs 2 32 34 rfl
  rw [g2] at y2
  have y3 := cut_at cs 34 16 50 rfl
  rw [g3] at y3
  have y4 := cut_at cs 50 16 66 rfl
  rw [g4] at y4
  have y5 := cut_at cs 66 16 82 rfl
  rw [g5] at y5
  rw [List.drop_eq_nil_of_le (show cs.length ≤ 82 by omega), List.append_nil] at y5
  refine ⟨r0, r1, l0 ++ (l1 ++ (l2 ++ (l3))), ?_, hr0, hr1, by simp [hl0, hl1, hl2, hl3]⟩
  refine (List.drop_zero (l := cs)).symm.trans ((y0.trans (congrArg (fun z => [.int .u32 (r0 : Int)] ++ z) (y1.trans (congrArg (fun z => [.int .u32 (r1 : Int)] ++ z) (y2.trans (congrArg (fun z => l0.map bv ++ z) (y3.trans (congrArg (fun z => l1.map bv ++ z) (y4.trans (congrArg (fun z => l2.map bv ++ z) (y5))))))))))).trans ?_)
  simp [mcs]

set_option maxRecDepth 100000 in
theorem trod_Cookie {H : Type} {enc : TypeId × Value → H} {w : World} {fuel : Nat} {cs : List Value} {y : DataW H × List MemPlace} (hf : DataW.trod enc Try.prog w 0 (fun _ => true) true fuel 54 cs = some y) :
    ∃ (r0 : Nat) (l : List UInt8), cs = (mcs [r0] l).toList ∧ r0 < 4294967296 ∧ l.length = 56 := by
  obtain ⟨xs, m, _, _, hs, hxs, hel⟩ := DataW.trod_struct Try.underlying54 hf
  rw [show Try.prog.cellsOf 54 = 57 by kernel_rfl] at hs
  have hx : xs.length = 3 := hxs
  have h0 := hel 0 _ rfl
  rw [List.getElem?_eq_getElem (by omega)] at h0
  obtain ⟨r0, e0, hr0⟩ := trod_u32 Try.underlying43 h0
  have g0 : (cs.drop 0).take (Try.prog.cellsOf 43) = [.int .u32 (r0 : Int)] := e0
  rw [show Try.prog.cellsOf 43 = 1 by kernel_rfl] at g0
  have h1 := hel 1 _ rfl
  rw [List.getElem?_eq_getElem (by omega)] at h1
  obtain ⟨l0, e1, hl0⟩ := trod_bytes Try.underlying52 Try.underlying5 (by kernel_rfl) (by kernel_rfl) h1
  have g1 : (cs.drop 1).take (Try.prog.cellsOf 52) = l0.map bv := e1
  rw [show Try.prog.cellsOf 52 = 24 by kernel_rfl] at g1
  have h2 := hel 2 _ rfl
  rw [List.getElem?_eq_getElem (by omega)] at h2
  obtain ⟨l1, e2, hl1⟩ := trod_bytes Try.underlying44 Try.underlying5 (by kernel_rfl) (by kernel_rfl) h2
  have g2 : (cs.drop 25).take (Try.prog.cellsOf 44) = l1.map bv := e2
  rw [show Try.prog.cellsOf 44 = 32 by kernel_rfl] at g2
  have y0 := cut_at cs 0 1 1 rfl
  rw [g0] at y0
  have y1 := cut_at cs 1 24 25 rfl
  rw [g1] at y1
  have y2 := cut_at cs 25 32 57 rfl
  rw [g2] at y2
  rw [List.drop_eq_nil_of_le (show cs.length ≤ 57 by omega), List.append_nil] at y2
  refine ⟨r0, l0 ++ (l1), ?_, hr0, by simp [hl0, hl1]⟩
  refine (List.drop_zero (l := cs)).symm.trans ((y0.trans (congrArg (fun z => [.int .u32 (r0 : Int)] ++ z) (y1.trans (congrArg (fun z => l0.map bv ++ z) (y2))))).trans ?_)
  simp [mcs]

theorem trod_Transport {H : Type} {enc : TypeId × Value → H} {w : World} {fuel : Nat} {cs : List Value} {y : DataW H × List MemPlace} (hf : DataW.trod enc Try.prog w 0 (fun _ => true) true fuel 56 cs = some y) :
    ∃ (r k : Nat) (A : Option Addr) (n c : Nat) (l : List UInt8), cs = (trv r k A n c).toList ∧ r < 4294967296 ∧ k < 18446744073709551616 ∧ (n ≤ c ∧ c ≤ maxLen) ∧ Shows w w.heap.size A n l := by
  have c0 : Try.prog.cellsOf 43 = 1 := by kernel_rfl
  have c1 : Try.prog.cellsOf 39 = 1 := by kernel_rfl
  have c2 : Try.prog.cellsOf 22 = 1 := by kernel_rfl
  obtain ⟨xs, m, _, _, hs, hxs, hel⟩ := DataW.trod_struct Try.underlying56 hf
  rw [show Try.prog.cellsOf 56 = 3 by kernel_rfl] at hs
  have hx3 : xs.length = 3 := hxs
  have h0 := hel 0 _ rfl
  have h1 := hel 1 _ rfl
  have h2 := hel 2 _ rfl
  rw [List.getElem?_eq_getElem (by omega)] at h0 h1 h2
  obtain ⟨r, e0, hr⟩ := trod_u32 Try.underlying43 h0
  obtain ⟨k, e1, hk⟩ := trod_u64 Try.underlying39 h1
  obtain ⟨A, n, c, l, e2, hc, hsh⟩ := trod_byteSlice Try.underlying22 Try.underlying5 (by kernel_rfl) h2
  refine ⟨r, k, A, n, c, l, ?_, hr, hk, hc, hsh⟩
  have f0 : (cs.drop 0).take (Try.prog.cellsOf 43) = [.int .u32 (r : Int)] := e0
  have f1 : (cs.drop 1).take (Try.prog.cellsOf 39) = [.int .u64 (k : Int)] := e1
  have f2 : (cs.drop 2).take (Try.prog.cellsOf 22) = [.slice A n c] := e2
  rw [c0] at f0
  rw [c1] at f1
  rw [c2] at f2
  clear e0 e1 e2 h0 h1 h2 hel hf hxs
  match cs, hs, f0, f1, f2 with
  | [a, b, c'], _, f0, f1, f2 =>
    simp at f0 f1 f2
    rw [f0, f1, f2]

set_option maxRecDepth 100000 in
theorem open_Message {H : Type} {enc : TypeId × Value → H} {w : World} {b0 : Nat} {r : Reach} {v : Value} {d : DataW H} {ps : List MemPlace}
    (hval : Value.okWide Try.prog w r b0 58 v) (hd : DataW.Trod enc Try.prog w 0 (fun _ => true) true 58 v d ps) :
    ∃ (k : Int) (i0 : Nat) (li : List UInt8) (a0 a1 : Nat) (la : List UInt8) (c0 : Nat) (lc : List UInt8) (rr kk : Nat) (A : Option Addr) (n c : Nat) (l : List UInt8),
      v = .agg (wcs k (mcs [i0] li) (mcs [a0, a1] la) (mcs [c0] lc) (trv rr kk A n c)) ∧ (i0 < 4294967296 ∧ li.length = 140) ∧ (a0 < 4294967296 ∧ a1 < 4294967296 ∧ la.length = 80) ∧ (c0 < 4294967296 ∧ lc.length = 56) ∧
      (rr < 4294967296 ∧ kk < 18446744073709551616 ∧ (n ≤ c ∧ c ≤ maxLen)) ∧ Shows w w.heap.size A n l := by
  obtain ⟨cs, rfl, hs⟩ := okWide_struct Try.underlying58 hval
  rw [show Try.prog.cellsOf 58 = 284 by kernel_rfl] at hs
  obtain ⟨fuel, hf⟩ := hd
  obtain ⟨xs, m, _, _, _, hxs, hel⟩ := DataW.trod_struct Try.underlying58 hf
  have hx : xs.length = 5 := hxs
  have h0 := hel 0 _ rfl
  have h1 := hel 1 _ rfl
  have h2 := hel 2 _ rfl
  have h3 := hel 3 _ rfl
  have h4 := hel 4 _ rfl
  rw [List.getElem?_eq_getElem (by omega)] at h0 h1 h2 h3 h4
  obtain ⟨k, e0, _, hwk⟩ := DataW.trod_int Try.underlying3 h0
  obtain ⟨i0, li, e1, hi⟩ := trod_Initiation h1
  obtain ⟨a0, a1, la, e2, ha, ha', hla⟩ := trod_Response h2
  obtain ⟨c0, lc, e3, hc⟩ := trod_Cookie h3
  obtain ⟨rr, kk, A, n, c, l, e4, hr, hk, hcc, hsh⟩ := trod_Transport h4
  refine ⟨k, i0, li, a0, a1, la, c0, lc, rr, kk, A, n, c, l, ?_, hi, ⟨ha, ha', hla⟩, hc, ⟨hr, hk, hcc⟩, hsh⟩
  have g0 : (cs.toList.drop 0).take (Try.prog.cellsOf 3) = [.int .i64 k] := e0
  have g1 : (cs.toList.drop 1).take (Try.prog.cellsOf 49) = (mcs [i0] li).toList := e1
  have g2 : (cs.toList.drop 142).take (Try.prog.cellsOf 51) = (mcs [a0, a1] la).toList := e2
  have g3 : (cs.toList.drop 224).take (Try.prog.cellsOf 54) = (mcs [c0] lc).toList := e3
  have g4 : (cs.toList.drop 281).take (Try.prog.cellsOf 56) = (trv rr kk A n c).toList := e4
  rw [show Try.prog.cellsOf 3 = 1 by kernel_rfl] at g0
  rw [show Try.prog.cellsOf 49 = 141 by kernel_rfl] at g1
  rw [show Try.prog.cellsOf 51 = 82 by kernel_rfl] at g2
  rw [show Try.prog.cellsOf 54 = 57 by kernel_rfl] at g3
  rw [show Try.prog.cellsOf 56 = 3 by kernel_rfl] at g4
  have y0 := cut_at cs.toList 0 1 1 rfl
  have y1 := cut_at cs.toList 1 141 142 rfl
  have y2 := cut_at cs.toList 142 82 224 rfl
  have y3 := cut_at cs.toList 224 57 281 rfl
  have y4 := cut_at cs.toList 281 3 284 rfl
  rw [g0] at y0
  rw [g1] at y1
  rw [g2] at y2
  rw [g3] at y3
  rw [g4, List.drop_eq_nil_of_le (show cs.toList.length ≤ 284 by simp [hs]), List.append_nil] at y4
  congr 1
  apply Array.ext'
  rw [y4] at y3
  rw [y3] at y2
  rw [y2] at y1
  rw [y1] at y0
  exact (List.drop_zero (l := cs.toList)).symm.trans y0

end Go.Proofs.Ytlllakjimgomjaa
