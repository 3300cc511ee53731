
/- A message that carries a packet, as an argument. -/
import Derived.Test.YtffdgknfllpnoabOpn2
import Derived.Test.YtffdgknfllpnoabDatF
namespace Go.Proofs.Ytffdgknfllpnoab
open Go.ChangeShapes Go.WideShapes Go.ChangeAt Go.RowKit

theorem open_Transport {H : Type} {enc : TypeId × Value → H} {w : World} {b0 : Nat} {r : Reach} {v : Value} {d : DataW H} {ps : List MemPlace}
    (hval : Value.okWide Try.prog w r b0 26 v) (hd : DataW.Trod enc Try.prog w 0 (fun _ => true) true 26 v d ps) :
    ∃ (r k : Nat) (A : Option Addr) (n c : Nat) (l : List UInt8), v = .agg (trv r k A n c) ∧ r < 4294967296 ∧ k < 18446744073709551616 ∧ (n ≤ c ∧ c ≤ maxLen) ∧ Shows w w.heap.size A n l := by
  obtain ⟨cs, rfl, hs⟩ := okWide_struct Try.underlying26 hval
  have c0 : Try.prog.cellsOf 22 = 1 := by kernel_rfl
  have c1 : Try.prog.cellsOf 23 = 1 := by kernel_rfl
  have c2 : Try.prog.cellsOf 24 = 1 := by kernel_rfl
  have ct : Try.prog.cellsOf 26 = 3 := by kernel_rfl
  rw [ct] at hs
  obtain ⟨fuel, hf⟩ := hd
  obtain ⟨xs, m, _, _, _, hxs, hel⟩ := DataW.trod_struct Try.underlying26 hf
  have hx3 : xs.length = 3 := hxs
  have h0 := hel 0 _ rfl
  have h1 := hel 1 _ rfl
  have h2 := hel 2 _ rfl
  rw [List.getElem?_eq_getElem (by omega)] at h0 h1 h2
  obtain ⟨r, e0, hr⟩ := trod_u32 Try.underlying22 h0
  obtain ⟨k, e1, hk⟩ := trod_u64 Try.underlying23 h1
  obtain ⟨A, n, c, l, e2, hc, hsh⟩ := trod_byteSlice Try.underlying24 Try.underlying5 (by kernel_rfl) h2
  refine ⟨r, k, A, n, c, l, ?_, hr, hk, hc, hsh⟩
  have f0 : (cs.toList.drop 0).take (Try.prog.cellsOf 22) = [.int .u32 (r : Int)] := e0
  have f1 : (cs.toList.drop 1).take (Try.prog.cellsOf 23) = [.int .u64 (k : Int)] := e1
  have f2 : (cs.toList.drop 2).take (Try.prog.cellsOf 24) = [.slice A n c] := e2
  rw [c0] at f0
  rw [c1] at f1
  rw [c2] at f2
  have hcs : cs.toList.length = 3 := by simpa using hs
  clear e0 e1 e2 h0 h1 h2 hel hf hxs hval hs
  obtain ⟨cl⟩ := cs
  simp only at hcs f0 f1 f2
  match cl, hcs, f0, f1, f2 with
  | [a, b, c'], _, f0, f1, f2 =>
    simp at f0 f1 f2
    rw [f0, f1, f2]

end Go.Proofs.Ytffdgknfllpnoab
