
/- Heads: own words for them; contracts: ipfour.four, fits. -/
import Derived.Test.YtccidoigjdbepaaDoorAdrC
import Derived.Laws.BitsAllLaws
namespace Go.Proofs.YtccidoigjdbepaaDoor
open Go.RowKit
set_option maxRecDepth 100000
set_option linter.unusedSimpArgs false
set_option linter.unusedVariables false

/-- A head's cells: nine numbers, two addresses. -/
def hdv (xs : List Int) (s d : Array Value) : Array Value := (xs.map (fun x => Value.int .i64 x) ++ (s.toList ++ d.toList)).toArray
theorem hdv_size (xs : List Int) (s d : Array Value) (hx : xs.length = 9) (hs : s.size = 17) (hd : d.size = 17) : (hdv xs s d).size = 43 := by simp [hdv, hx, hs, hd]
theorem hdv_num (xs : List Int) (s d : Array Value) (j : Nat) (x : Int) (h : xs[j]? = some x) : (hdv xs s d)[j]? = some (.int .i64 x) := by
  have hj : j < xs.length := (List.getElem?_eq_some_iff.1 h).1
  simp only [hdv, List.getElem?_toArray]
  rw [List.getElem?_append_left (by simpa using hj), List.getElem?_map, h]; rfl
theorem hdv_src {w : World} {g : Nat} {t : TypeId} {xs : List Int} {s d : Array Value} (hx : xs.length = 9) (h : Blk w g t (hdv xs s d)) : w.rangeAt g 9 s.toList := by
  intro j x hj
  have hj' : j < s.toList.length := (List.getElem?_eq_some_iff.1 hj).1
  unfold World.cell?
  rw [h]
  simp only [hdv]
  show (some _).bind _ = _ 
  simp only [Option.bind_some, List.getElem?_toArray]
  rw [List.getElem?_append_right (by simp [hx]), List.getElem?_append_left (by simp [hx]; simpa using hj')]; simp [hx]; simpa using hj
theorem hdv_dst {w : World} {g : Nat} {t : TypeId} {xs : List Int} {s d : Array Value} (hx : xs.length = 9) (hs : s.size = 17) (h : Blk w g t (hdv xs s d)) : w.rangeAt g 26 d.toList := by
  intro j x hj
  unfold World.cell?
  rw [h]
  simp only [hdv]
  show (some _).bind _ = _ 
  simp only [Option.bind_some, List.getElem?_toArray]
  rw [List.getElem?_append_right (by simp [hx]; omega), List.getElem?_append_right (by simp [hx, hs]; omega)]; simp [hx, hs]; rw [show 26 + j - 9 - 17 = j by omega]; simpa using hj

theorem wpList_loadPart {P : Program} {w : World} {g : Nat} {ops : Array Oper} {rest : List Oper} {o : Oper} {a : Act} {Q : Exit → Act → World → Prop} (hw : Region.wanted o (yielded ops a.tmps) = true) (ty : TypeId) (x : Operand) (ho : o.op = .load ty x)
    (off : Nat) (hx : a.eval x = .pointer (some ⟨g, off, none⟩)) (cs : Array Value) (d : TypeDesc) (hc : w.rangeAt g off cs.toList)
    (hu : P.underlying ty = some d) (hd : d.isRow = true) (hi : (P.info? ty).map (·.size) = some cs.size)
    (h : wpList P ops Q rest (a.put o.dst (.agg cs)) w) : wpList P ops Q (o :: rest) a w :=
  wpList_on hw (wp_load_mid ty x ho g off hx cs.toList d hc hu hd (by simpa using hi) h)

theorem Blk.cellA {w : World} {g : Nat} {t : TypeId} {cs : Array Value} (h : Blk w g t cs) (j : Nat) : w.cell? ⟨g, j, none⟩ = cs[j]? := by
  unfold World.cell?; rw [h]; rfl

theorem i64_orN (a b : Nat) (ha : a < 9223372036854775808) (hb : b < 9223372036854775808) : bits .or .i64 (a : Int) (b : Int) = ((a ||| b : Nat) : Int) := by
  have hx : a ||| b < 2 ^ 63 := Nat.or_lt_two_pow (by omega) (by omega)
  show IntKind.i64.wrap ((BitVec.ofInt 64 (a : Int) ||| BitVec.ofInt 64 (b : Int)).toNat : Int) = _
  rw [BitVec.toNat_or, ofInt_u64 a (by omega), ofInt_u64 b (by omega)]
  first
    | (rw [IntWalk.i64_in _ (by omega)])
    | (simp [IntKind.wrap, IntKind.bits, IntKind.signed]; omega)

end Go.Proofs.YtccidoigjdbepaaDoor
