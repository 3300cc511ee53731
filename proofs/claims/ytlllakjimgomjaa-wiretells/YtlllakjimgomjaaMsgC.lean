
/- My own words for messages of one length: some numbers of 32 bits, and bytes. -/
import Derived.Test.YtlllakjimgomjaaMsgB
import Derived.Test.YtlllakjimgomjaaEndE
import Derived.Deep.RegionLaw
import Derived.Deep.RegionWith
namespace Go.Proofs.Ytlllakjimgomjaa
open Go.RowKit

/-- The cells of such a message, and its bytes. -/
def mcs (rs : List Nat) (l : List UInt8) : Array Value := (rs.map (fun r : Nat => Value.int .u32 (r : Int)) ++ l.map bv).toArray
def mnums : List Nat → List UInt8
  | [] => []
  | r :: t => leBytes r 4 ++ mnums t
def mbs (k : UInt8) (rs : List Nat) (l : List UInt8) : List UInt8 := [k, 0, 0, 0] ++ (mnums rs ++ l)
theorem mcs_size (rs : List Nat) (l : List UInt8) : (mcs rs l).size = rs.length + l.length := by simp [mcs]
theorem mnums_len (rs : List Nat) : (mnums rs).length = 4 * rs.length := by
  induction rs with
  | nil => rfl
  | cons r t ih => simp [mnums, leBytes_len, ih]; omega
theorem mbs_len (k : UInt8) (rs : List Nat) (l : List UInt8) : (mbs k rs l).length = 4 + 4 * rs.length + l.length := by simp [mbs, mnums_len]; omega
theorem mcs_one (rs : List Nat) (l : List UInt8) : ((mcs rs l).all fun x => x.oneCell') = true := by
  rw [Array.all_eq_true_iff_forall_mem]
  intro x hx
  simp [mcs] at hx
  rcases hx with ⟨r, _, rfl⟩ | ⟨c, _, rfl⟩ <;> rfl
theorem mcs_num (rs : List Nat) (l : List UInt8) (j r : Nat) (h : rs[j]? = some r) : (mcs rs l)[j]? = some (.int .u32 (r : Int)) := by
  obtain ⟨hj, rfl⟩ := List.getElem?_eq_some_iff.1 h
  rw [mcs, List.getElem?_toArray, List.getElem?_append_left (by simpa using hj), List.getElem?_map, h]
  rfl
theorem mcs_byte (rs : List Nat) (l : List UInt8) (j : Nat) (c : UInt8) (h : l[j]? = some c) : (mcs rs l)[rs.length + j]? = some (bv c) := by
  obtain ⟨hj, rfl⟩ := List.getElem?_eq_some_iff.1 h
  simp [mcs, hj]

section
variable {w w' : World} {g : Nat} {t : TypeId} {rs : List Nat} {l : List UInt8}
theorem Blk.num (h : Blk w g t (mcs rs l)) {j r : Nat} (hj : rs[j]? = some r) : w.cell? ⟨g, j, none⟩ = some (.int .u32 (r : Int)) := by
  rw [cell_of_row w g j _ t _ h]
  exact mcs_num rs l j r hj
theorem Blk.byte (h : Blk w g t (mcs rs l)) {j : Nat} {c : UInt8} (hj : l[j]? = some c) (i : Nat) (hi : i = rs.length + j) : w.cell? ⟨g, i, none⟩ = some (bv c) := by
  subst hi
  rw [cell_of_row w g _ _ t _ h]
  exact mcs_byte rs l j c hj
theorem Blk.frozen {cs : Array Value} (h : Blk w g t cs) (j : Nat) : w.frozen? ⟨g, j, none⟩ = false := by unfold World.frozen?; rw [h]; simp
theorem Blk.shows (h : Blk w g t (mcs rs l)) (o m i : Nat) (hm : o + m ≤ l.length) (hi : i = rs.length + o) : Shows w w.heap.size (some ⟨g, i, none⟩) m ((l.drop o).take m) := by
  refine ⟨by simp; omega, fun _ => ⟨g, i, rfl, h.lt, fun j hj => ?_⟩⟩
  have hj' : j < m := by simp at hj; omega
  refine h.byte (j := o + j) ?_ _ (by omega)
  simp [List.getElem?_eq_getElem (show o + j < l.length by omega)]
end

theorem eqFields_self {P : Program} (w : World) (d : Nat) (xs : Array Value) : ∀ (fs : List Field), (∀ f ∈ fs, ∃ v, ∀ w, (part f.type xs f.offset).run P w = .ok v w ∧ (Op.equalIn d f.type v v).run P w = .ok true w) →
    (Op.eqFields d xs xs fs).run P w = .ok true w
  | [], _ => by simp [Op.eqFields]
  | f :: fs, h => by
    obtain ⟨v, hv⟩ := h f (by simp)
    have ih := eqFields_self w d xs fs (fun f hf => h f (by simp [hf]))
    simp only [Op.eqFields, Sem.run_ite]
    split
    · simp only [Bool.not_true, Bool.false_eq_true, if_false, ih, Sem.run_bind, (hv w).1, (hv w).2, Result.andThen_ok]
    · exact ih

section
variable {P : Program} {rs : List Nat} {l : List UInt8}
theorem part_num (ft : TypeId) (j : Nat) (hu : P.underlying ft = some (.int .u32)) (hj : j < rs.length) :
    ∃ v, ∀ w, (part ft (mcs rs l) j).run P w = .ok v w ∧ (Op.equalIn 9999 ft v v).run P w = .ok true w := by
  have h := mcs_num rs l j rs[j] (List.getElem?_eq_getElem hj)
  refine ⟨.int .u32 (rs[j] : Int), fun w => ⟨?_, ?_⟩⟩
  · simp [part, isAgg, run_underlying hu, h]
  · rw [run_equalIn_int w 9998 ft .u32 .u32 _ _ hu]
    simp
theorem mcs_extract (rs : List Nat) (l : List UInt8) (o n off : Nat) (hoff : off = rs.length + o) : (mcs rs l).extract off (off + n) = (((l.drop o).take n).map bv).toArray := by
  subst hoff
  have e : List.drop (rs.length + o) (List.map (fun r : Nat => Value.int .u32 (r : Int)) rs) = [] := List.drop_eq_nil_of_le (by simp)
  simp [mcs, List.extract, List.drop_append, List.map_drop, List.map_take, e]
theorem part_arr (ft e : TypeId) (n o off : Nat) (hu : P.underlying ft = some (.array n e)) (he : P.underlying e = some (.int .u8)) (hs : (P.info? e).map (·.size) = some 1) (hi : (P.info? ft).map (·.size) = some n) (hoff : off = rs.length + o) (ho : o + n ≤ l.length) :
    ∃ v, ∀ w, (part ft (mcs rs l) off).run P w = .ok v w ∧ (Op.equalIn 9999 ft v v).run P w = .ok true w := by
  refine ⟨.agg (((l.drop o).take n).map bv).toArray, fun w => ⟨?_, ?_⟩⟩
  · cases hq : P.info? ft with
    | none => simp [hq] at hi
    | some i =>
      have hsz : i.size = n := by simpa [hq] using hi
      simp [part, isAgg, run_underlying hu, sizeOf, typeInfo, hq, hsz, mcs_extract rs l o n off hoff]
  · have := run_equalIn_bytes w 9997 ft e n hu he (fun w => by
      cases hq : P.info? e with
      | none => simp [hq] at hs
      | some i => simp [sizeOf, typeInfo, hq] at *; exact hs) ((l.drop o).take n) ((l.drop o).take n) (by simp; omega) (by simp; omega)
    rw [beq_self_eq_true] at this
    exact this
end

section
variable {P : Program} {w : World} {o : Oper} {a : Act} {ops : Array Oper} {rest : List Oper} {cs : Array Value}
/-- A struct, held against itself. -/
theorem wpList_eqlSelf {Q : Exit → Act → World → Prop} (hw : Region.wanted o (yielded ops a.tmps) = true) (ty rt : TypeId) (x y : Operand) (ho : o.op = .binOp .eql ty x y rt)
    (hx : a.eval x = .agg cs) (hy : a.eval y = .agg cs) (hm : P.eqGuardType P.depth ty = false) (he : ∀ w, (Op.equalIn 10000 ty (.agg cs) (.agg cs)).run P w = .ok true w)
    (h : wpList P ops Q rest (a.put o.dst (.bool true)) w) : wpList P ops Q (o :: rest) a w := by
  refine wpList_on hw ?_
  unfold Oper.wp execOp
  simp only [ho, hx, hy, Sem.run_bind, run_eqGuard_agg w .eql ty x y _ _ hm, Result.andThen_ok, run_eql_struct, he w, Sem.run_pure]
  exact h
end

/-- So many bytes 0, by a name that is not opened. -/
def zer (N : Nat) : List UInt8 := List.replicate N 0
theorem zer_len (N : Nat) : (zer N).length = N := by simp [zer]
/-- The bytes so far, and what is still 0. -/
def part0 (L : List UInt8) (N j : Nat) : List UInt8 := L.take j ++ List.replicate (N - j) 0
theorem part0_len (L : List UInt8) (N j : Nat) (hL : L.length = N) (hj : j ≤ N) : (part0 L N j).length = N := by simp [part0]; omega
theorem part0_all (L : List UInt8) (N : Nat) (hL : L.length = N) : part0 L N N = L := by simp [part0, ← hL]
theorem part0_zero (L : List UInt8) (N : Nat) : part0 L N 0 = zer N := by simp [part0, zer]
theorem part0_set (L : List UInt8) (N j : Nat) (c : UInt8) (hL : L.length = N) (h : L[j]? = some c) : (part0 L N j).set j c = part0 L N (j + 1) := fill_next L N j c hL h
theorem mcs_set (rs : List Nat) (l : List UInt8) (j : Nat) (c : UInt8) (i : Nat) (hi : i = rs.length + j) : (mcs rs l).setIfInBounds i (bv c) = mcs rs (l.set j c) := by
  subst hi
  apply Array.ext'
  simp [mcs]
theorem splice_mid {α : Type} (A B C X : List α) (i : Nat) (hi : i = A.length) (hX : X.length = B.length) : splice (A ++ (B ++ C)) i X = A ++ (X ++ C) := by
  subst hi
  rw [splice, List.take_left, hX, ← List.drop_drop, List.drop_left, List.drop_left]
theorem mcs_splice (rs : List Nat) (L : List UInt8) (N j m i : Nat) (hL : L.length = N) (hj : j + m ≤ N) (hi : i = rs.length + j) :
    (splice (mcs rs (part0 L N j)).toList i (((L.drop j).take m).map bv)).toArray = mcs rs (part0 L N (j + m)) := by
  have e3 : part0 L N j = L.take j ++ (List.replicate m 0 ++ List.replicate (N - (j + m)) 0) := by
    rw [part0, List.replicate_append_replicate, show m + (N - (j + m)) = N - j by omega]
  have e4 : part0 L N (j + m) = L.take j ++ ((L.drop j).take m ++ List.replicate (N - (j + m)) 0) := by
    rw [part0, List.take_add, List.append_assoc]
  rw [e3, e4]
  simp only [mcs, List.map_append]
  rw [← List.append_assoc (rs.map _), splice_mid _ _ _ _ i (by simp; omega) (by simp; omega), List.append_assoc]

theorem cut_list (l : List UInt8) (o n m : Nat) (h : o + n = m) : l.drop o = (l.drop o).take n ++ l.drop m := by
  subst h
  rw [← List.drop_drop, List.take_append_drop]

end Go.Proofs.Ytlllakjimgomjaa
