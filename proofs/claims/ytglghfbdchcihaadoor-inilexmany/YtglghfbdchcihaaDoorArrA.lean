
/- My own words for arrays of bytes: as values, and in memory. -/
import Derived.Test.YtglghfbdchcihaaDoorSame
import Derived.Test.YtglghfbdchcihaaDoorGen
import Derived.Stop.BytesEq
import Derived.Deep.MidRow
import Derived.Deep.WholeRow
import Derived.Laws.StandIn
import Derived.BigQuiet
import Derived.Deep.QuietTactic
namespace Go.Proofs.YtglghfbdchcihaaDoor
open Go.RowKit
set_option maxRecDepth 100000

/-- An array of bytes as a value. -/
abbrev av (l : List UInt8) : Value := .agg (l.map bv).toArray

/-- A block that holds just an array of bytes. -/
def Arr (w : World) (g : Nat) (t : TypeId) (l : List UInt8) : Prop := w.heap[g]? = some (.cells (l.map bv).toArray t (0, 0))

section
variable {w w' : World} {g : Nat} {t : TypeId} {l : List UInt8}
theorem Arr.lt (h : Arr w g t l) : g < w.heap.size := (Array.getElem?_eq_some_iff.1 h).1
theorem Arr.cell (h : Arr w g t l) (j : Nat) (hj : j < l.length) : w.cell? ⟨g, j, none⟩ = some (bv (l[j]'hj)) := by
  rw [cell_of_row w g j _ t _ h]
  simp [hj]
theorem Arr.byte (h : Arr w g t l) {j : Nat} {c : UInt8} (hj : l[j]? = some c) : w.cell? ⟨g, j, none⟩ = some (.int .u8 (c.toNat : Int)) := by
  obtain ⟨h1, rfl⟩ := List.getElem?_eq_some_iff.1 hj
  exact h.cell j h1
theorem Arr.shows (h : Arr w g t l) : Shows w w.heap.size (some ⟨g, 0, none⟩) l.length l :=
  ⟨rfl, fun _ => ⟨g, 0, rfl, h.lt, fun j hj => by rw [Nat.zero_add]; exact h.cell j hj⟩⟩
theorem Arr.on (h : Arr w g t l) (hb : Below w.heap.size w w') : Arr w' g t l := (hb.block g h.lt).trans h
theorem Arr.frozen (h : Arr w g t l) (j : Nat) : w.frozen? ⟨g, j, none⟩ = false := frozen_of_row w g j _ t h
theorem Arr.put (h : Arr w g t l) (j : Nat) (x : UInt8) : Arr (w.setCell ⟨g, j, none⟩ (bv x)) g t (l.set j x) := by
  unfold Arr
  rw [heap_setCell_same w g j _ t _ h]
  simp [List.map_set]
theorem Arr.putOther (h : Arr w g t l) (a : Addr) (v : Value) (ha : g ≠ a.block) : Arr (w.setCell a v) g t l :=
  (heap_setCell_other w a g v ha).trans h
theorem Arr.alloc (h : Arr w g t l) (o : Obj) : Arr (w.alloc o) g t l := (by unfold Arr; rw [show (w.alloc o).heap[g]? = w.heap[g]? from by show (w.heap.push o)[g]? = _; rw [Array.getElem?_push, if_neg (Nat.ne_of_lt h.lt)]]; exact h)
theorem arr_new (w : World) (t : TypeId) (l : List UInt8) : Arr (w.alloc (.cells (l.map bv).toArray t)) w.heap.size t l := _root_.Go.heap_alloc_new w _
end

section
variable {P : Program} {w : World} {g n : Nat} {t : TypeId} {l l' : List UInt8} {o : Oper} {a : Act} {ops : Array Oper} {rest : List Oper}
theorem run_loadArr (ty e : TypeId) (hA : Arr w g t l) (hl : l.length = n) (hu : P.underlying ty = some (.array n e)) (hi : (P.info? ty).map (·.size) = some n) :
    (loadVar ty ⟨g, 0, none⟩).run P w = .ok (av l) w :=
  run_loadVar_row w g t ty _ (0, 0) _ hA hu rfl (by rw [hi]; simp [hl])
/-- An operation that is wanted: its guard says so, or it has none. -/
theorem wpList_on {Q : Exit → Act → World → Prop} (hw : Region.wanted o (yielded ops a.tmps) = true) (h : o.wp P a w (wpList P ops Q rest) Q) : wpList P ops Q (o :: rest) a w := by
  unfold wpList
  rw [if_pos hw]
  exact .inl h
/-- A whole array, read. -/
theorem wpList_loadArr {Q : Exit → Act → World → Prop} (hw : Region.wanted o (yielded ops a.tmps) = true) (ty e : TypeId) (x : Operand) (ho : o.op = .load ty x)
    (hx : a.eval x = .pointer (some ⟨g, 0, none⟩)) (hA : Arr w g t l) (hl : l.length = n)
    (hu : P.underlying ty = some (.array n e)) (hi : (P.info? ty).map (·.size) = some n)
    (h : wpList P ops Q rest (a.put o.dst (av l)) w) : wpList P ops Q (o :: rest) a w :=
  wpList_on hw (wp_load_row ty x ho g hx t _ (0, 0) _ hA hu rfl (by rw [hi]; simp [hl]) h)
/-- Two arrays, held against each other. -/
theorem run_eqlArr (ty e : TypeId) (hl : l.length = n) (hl' : l'.length = n) (hu : P.underlying ty = some (.array n e)) (he : P.underlying e = some (.int .u8)) (hs : (P.info? e).map (·.size) = some 1)
    (cs : Array Value) (hcs : cs = (l'.map bv).toArray) :
    (binOp .eql ty (av l) (.agg cs)).run P w = .ok (.bool (l == l')) w := by
  subst hcs
  refine run_eql_bytes w ty e n hu he (fun w => ?_) l l' hl hl'
  cases hq : P.info? e with
  | none => simp [hq] at hs
  | some i => simp [sizeOf, typeInfo, hq] at *; exact hs
theorem wp_eqlArr {K : Act → World → Prop} {Q : Exit → Act → World → Prop} (ty e rt : TypeId) (x y : Operand) (ho : o.op = .binOp .eql ty x y rt)
    (cs : Array Value) (hx : a.eval x = av l) (hy : a.eval y = .agg cs) (hcs : cs = (l'.map bv).toArray) (hl : l.length = n) (hl' : l'.length = n)
    (hu : P.underlying ty = some (.array n e)) (he : P.underlying e = some (.int .u8)) (hs : (P.info? e).map (·.size) = some 1) (hm : P.eqGuardType P.depth ty = false)
    (h : K (a.put o.dst (.bool (l == l'))) w) : o.wp P a w K Q := by
  unfold Oper.wp execOp
  simp only [ho, hx, hy, Sem.run_bind, run_eqGuard_agg w .eql ty x y _ _ hm, Result.andThen_ok, run_eqlArr ty e hl hl' hu he hs cs hcs, Sem.run_pure]
  exact h
theorem run_neqArr (ty e : TypeId) (hl : l.length = n) (hl' : l'.length = n) (hu : P.underlying ty = some (.array n e)) (he : P.underlying e = some (.int .u8)) (hs : (P.info? e).map (·.size) = some 1)
    (cs : Array Value) (hcs : cs = (l'.map bv).toArray) :
    (binOp .neq ty (av l) (.agg cs)).run P w = .ok (.bool (!(l == l'))) w := by
  have h := run_eqlArr (w := w) ty e hl hl' hu he hs cs hcs
  rw [run_eql_struct] at h
  rw [run_neq_struct]
  cases hq : (Op.equalIn 10000 ty (av l) (.agg cs)).run P w with
  | ok b w' =>
    rw [hq] at h
    simp only [Result.andThen_ok] at h ⊢
    injection h with h1 h2
    injection h1 with h1
    rw [h1, h2]
  | halt x w' => rw [hq] at h; simp [Result.andThen] at h
theorem wp_neqArr {K : Act → World → Prop} {Q : Exit → Act → World → Prop} (ty e rt : TypeId) (x y : Operand) (ho : o.op = .binOp .neq ty x y rt)
    (cs : Array Value) (hx : a.eval x = av l) (hy : a.eval y = .agg cs) (hcs : cs = (l'.map bv).toArray) (hl : l.length = n) (hl' : l'.length = n)
    (hu : P.underlying ty = some (.array n e)) (he : P.underlying e = some (.int .u8)) (hs : (P.info? e).map (·.size) = some 1) (hm : P.eqGuardType P.depth ty = false)
    (h : K (a.put o.dst (.bool (!(l == l')))) w) : o.wp P a w K Q := by
  unfold Oper.wp execOp
  simp only [ho, hx, hy, Sem.run_bind, run_eqGuard_agg w .neq ty x y _ _ hm, Result.andThen_ok, run_neqArr ty e hl hl' hu he hs cs hcs, Sem.run_pure]
  exact h
theorem wpList_neqArr {Q : Exit → Act → World → Prop} (hw : Region.wanted o (yielded ops a.tmps) = true) (ty e rt : TypeId) (x y : Operand) (ho : o.op = .binOp .neq ty x y rt)
    (cs : Array Value) (hx : a.eval x = av l) (hy : a.eval y = .agg cs) (hcs : cs = (l'.map bv).toArray) (hl : l.length = n) (hl' : l'.length = n)
    (hu : P.underlying ty = some (.array n e)) (he : P.underlying e = some (.int .u8)) (hs : (P.info? e).map (·.size) = some 1) (hm : P.eqGuardType P.depth ty = false)
    (h : wpList P ops Q rest (a.put o.dst (.bool (!(l == l')))) w) : wpList P ops Q (o :: rest) a w :=
  wpList_on hw (wp_neqArr ty e rt x y ho cs hx hy hcs hl hl' hu he hs hm h)
theorem wpList_eqlArr {Q : Exit → Act → World → Prop} (hw : Region.wanted o (yielded ops a.tmps) = true) (ty e rt : TypeId) (x y : Operand) (ho : o.op = .binOp .eql ty x y rt)
    (cs : Array Value) (hx : a.eval x = av l) (hy : a.eval y = .agg cs) (hcs : cs = (l'.map bv).toArray) (hl : l.length = n) (hl' : l'.length = n)
    (hu : P.underlying ty = some (.array n e)) (he : P.underlying e = some (.int .u8)) (hs : (P.info? e).map (·.size) = some 1) (hm : P.eqGuardType P.depth ty = false)
    (h : wpList P ops Q rest (a.put o.dst (.bool (l == l'))) w) : wpList P ops Q (o :: rest) a w :=
  wpList_on hw (wp_eqlArr ty e rt x y ho cs hx hy hcs hl hl' hu he hs hm h)

/-- A region that draws its order, whose operations only read and whose callees leave alone what was there: one walk. -/
theorem wp_region_below {id : Nat} {Q : Exit → Act → World → Prop} {L : List Oper} (B : Nat) (hm : P.follows .mixedOrders = true) (hB : Region.lexB .any L.toArray = true)
    (h : wpQuiet P L.toArray (fun w' => Below B w w') (fun a' => ∀ w', Below B w w' → Q .normal a' w') L a) : (Code.region id L.toArray true).wp P Q a w :=
  wp_region_quiet (C := fun w' => Below B w w') hm hB (below_draw (Below.refl _ _) 1) (by simpa using h)
theorem quiet_loadArr {C : World → Prop} {K : Act → Prop} (ty e : TypeId) (x : Operand) (ho : o.op = .load ty x) (hx : a.eval x = .pointer (some ⟨g, 0, none⟩)) (hA : ∀ w, C w → Arr w g t l) (hl : l.length = n)
    (hu : P.underlying ty = some (.array n e)) (hi : (P.info? ty).map (·.size) = some n) (hk : K (a.put o.dst (av l))) : o.quiet P a C K :=
  ⟨_, fun w hw => by
    unfold Oper.quietAt execOp
    simp only [ho, hx, Instr.loadAt, Instr.sureAddr, Sem.run_bind, Sem.run_pure, Result.andThen_ok, run_loadArr ty e (hA w hw) hl hu hi]
    exact ⟨rfl, rfl⟩, hk⟩
theorem quiet_eqlArr {C : World → Prop} {K : Act → Prop} (ty e rt : TypeId) (x y : Operand) (ho : o.op = .binOp .eql ty x y rt)
    (cs : Array Value) (hx : a.eval x = av l) (hy : a.eval y = .agg cs) (hcs : cs = (l'.map bv).toArray) (hl : l.length = n) (hl' : l'.length = n)
    (hu : P.underlying ty = some (.array n e)) (he : P.underlying e = some (.int .u8)) (hs : (P.info? e).map (·.size) = some 1) (hm : P.eqGuardType P.depth ty = false)
    (hk : K (a.put o.dst (.bool (l == l')))) : o.quiet P a C K :=
  ⟨_, fun w _ => by
    unfold Oper.quietAt execOp
    simp only [ho, hx, hy, Sem.run_bind, run_eqGuard_agg w .eql ty x y _ _ hm, Result.andThen_ok, run_eqlArr ty e hl hl' hu he hs cs hcs, Sem.run_pure]
    exact ⟨rfl, rfl⟩, hk⟩
end

theorem one_bytes (l : List UInt8) : ((l.map bv).toArray.all fun x => x.oneCell') = true := by
  rw [Array.all_eq_true_iff_forall_mem]
  intro x hx
  simp at hx
  obtain ⟨c, _, rfl⟩ := hx
  rfl

/-- A block that holds just these cells. -/
def Blk (w : World) (g : Nat) (t : TypeId) (cs : Array Value) : Prop := w.heap[g]? = some (.cells cs t (0, 0))
section
variable {P : Program} {w w' : World} {g : Nat} {t : TypeId} {cs : Array Value} {o : Oper} {a : Act} {ops : Array Oper} {rest : List Oper}
theorem Blk.lt (h : Blk w g t cs) : g < w.heap.size := (Array.getElem?_eq_some_iff.1 h).1
theorem Blk.on (h : Blk w g t cs) (hb : Below w.heap.size w w') : Blk w' g t cs := (hb.block g h.lt).trans h
theorem Blk.alloc (h : Blk w g t cs) (o : Obj) : Blk (w.alloc o) g t cs := (Below.heap_alloc w o g h.lt).trans h
theorem blk_new (w : World) (t : TypeId) (cs : Array Value) : Blk (w.alloc (.cells cs t)) w.heap.size t cs := _root_.Go.heap_alloc_new w _
theorem blk_new' (w : World) (t : TypeId) (cs : Array Value) (g : Nat) (hg : w.heap.size = g) : Blk (w.alloc (.cells cs t)) g t cs := hg ▸ blk_new w t cs
theorem Arr.blk {l : List UInt8} (h : Arr w g t l) : Blk w g t (l.map bv).toArray := h
theorem Blk.arr {l : List UInt8} (h : Blk w g t cs) (hc : cs.toList = l.map bv) : Arr w g t l := by
  unfold Arr; rw [← hc]; exact h
theorem Blk.setCell (h : Blk w g t cs) (j : Nat) (v : Value) : Blk (w.setCell ⟨g, j, none⟩ v) g t (cs.setIfInBounds j v) := heap_setCell_same w g j _ t _ h
theorem Blk.other (h : Blk w g t cs) (p : Addr) (v : Value) (hp : g ≠ p.block) : Blk (w.setCell p v) g t cs := (heap_setCell_other w p g v hp).trans h
theorem setRow_grown (w : World) (g : Nat) (t : TypeId) (old cs : Array Value) (h : Blk w g t old) : Blk (w.setRow g cs) g t cs ∧ w.grownBy (w.setRow g cs) (some g) :=
  ⟨setRow_heap w g old cs t _ h, rfl, rfl, rfl, by simp, fun k hk hne => setRow_other w g k cs (fun e => hne (by rw [e]))⟩
/-- A whole value, written over a block. -/
theorem wpList_storeBlk {Q : Exit → Act → World → Prop} (hgd : o.guard = none) (ty : TypeId) (x y : Operand) (ho : o.op = .store ty x y)
    (hx : a.eval x = .pointer (some ⟨g, 0, none⟩)) (hy : a.eval y = .agg cs) (old : Array Value) (hA : Blk w g t old) (hi : (P.info? ty).map (·.size) = some cs.size)
    (hs : old.size = cs.size) (h1 : cs.all (·.oneCell') = true)
    (h : ∀ w', Blk w' g t cs → w.grownBy w' (some g) → wpList P ops Q rest (a.put o.dst undef) w') : wpList P ops Q (o :: rest) a w :=
  wpList_plain hgd fun _ hK => wp_store_row ty x y ho g cs hx hy t old hA hi hs h1 (hK _ _ (by obtain ⟨h2, h3⟩ := setRow_grown w g t old cs hA; exact h _ h2 h3))
/-- A whole value, read. -/
theorem wpList_loadBlk {Q : Exit → Act → World → Prop} (hw : Region.wanted o (yielded ops a.tmps) = true) (ty : TypeId) (x : Operand) (ho : o.op = .load ty x)
    (hx : a.eval x = .pointer (some ⟨g, 0, none⟩)) (hA : Blk w g t cs) (d : TypeDesc) (hu : P.underlying ty = some d) (hd : (match d with | .struct _ | .array _ _ => true | _ => false) = true)
    (hi : (P.info? ty).map (·.size) = some cs.size) (h : wpList P ops Q rest (a.put o.dst (.agg cs)) w) : wpList P ops Q (o :: rest) a w :=
  wpList_on hw (wp_load_row ty x ho g hx t _ (0, 0) d hA hu hd hi h)
/-- A variable, made and filled at once: 'x := v'. -/
theorem wpList_allocStore {Q : Exit → Act → World → Prop} {o2 : Oper} {n : Nat} {z : Array Value} (hgd : o.guard = none) (hgd2 : o2.guard = none) (ty : TypeId) (ho : o.op = .alloc ty) (x y : Operand) (ho2 : o2.op = .store ty x y)
    (hz : (P.info? ty).map (fun i => (i.zero, i.size)) = some (some (.agg z), n)) (hzn : z.size = n)
    (hx : (a.put o.dst (.pointer (some ⟨w.heap.size, 0, none⟩))).eval x = .pointer (some ⟨w.heap.size, 0, none⟩)) (hy : (a.put o.dst (.pointer (some ⟨w.heap.size, 0, none⟩))).eval y = .agg cs)
    (hn : cs.size = n) (h1 : cs.all (·.oneCell') = true)
    (h : wpList P ops Q rest ((a.put o.dst (.pointer (some ⟨w.heap.size, 0, none⟩))).put o2.dst undef) (w.alloc (.cells cs ty))) : wpList P ops Q (o :: o2 :: rest) a w := by
  obtain ⟨hz0, hsz⟩ := zero_of_info hz
  refine wpList_plain hgd fun _ hK => ?_
  unfold Oper.wp execOp
  simp only [ho, Instr.alloc, Sem.run_bind, hz0, Result.andThen_ok, newVar, newRow, newObj, Sem.run, Sem.run_pure, Oper.upon, Value.cells]
  refine hK _ (w.alloc (.cells z ty)) (wpList_plain hgd2 fun _ hK2 => ?_)
  unfold Oper.wp execOp
  simp only [ho2, hx, hy, Instr.storeAt, Instr.sureAddr, Sem.run_bind, Sem.run_pure, Result.andThen_ok, run_storeVar_new w ty z cs (by rw [hsz, hn]) (by omega) h1]
  exact hK2 _ _ h
/-- What is handed back lies in a block. -/
theorem bodyPost_blk {fn : Func} {R : Ending → World → Prop} {p : Tmp} {ty : TypeId} (h : fn.results = #[.cell p ty]) (d : TypeDesc) (hp : a.tmps.getD p undef = .pointer (some ⟨g, 0, none⟩)) (hA : Blk w g t cs)
    (hu : P.underlying ty = some d) (hdd : (match d with | .struct _ | .array _ _ => true | _ => false) = true) (hi : (P.info? ty).map (·.size) = some cs.size) (hd : a.defers = []) (hR : R (.returned (.agg cs)) w) : bodyPost P fn R .ret a w :=
  bodyPost_ret (results_cell_row h a.tmps w g t cs (0, 0) d hp hA hu hdd hi) hd hR
/-- .. and beside it a plain value. -/
theorem bodyPost_blk2 {fn : Func} {R : Ending → World → Prop} {p q : Tmp} {ty : TypeId} (h : fn.results = #[.cell p ty, .tmp q]) (d : TypeDesc) (hp : a.tmps.getD p undef = .pointer (some ⟨g, 0, none⟩)) (hA : Blk w g t cs)
    (hu : P.underlying ty = some d) (hdd : (match d with | .struct _ | .array _ _ => true | _ => false) = true) (hi : (P.info? ty).map (·.size) = some cs.size) (hd : a.defers = []) (hR : R (.returned (.tuple #[.agg cs, a.tmps.getD q undef])) w) : bodyPost P fn R .ret a w := by
  refine bodyPost_ret (v := .tuple #[.agg cs, a.tmps.getD q undef]) ?_ hd hR
  have hp' : a.tmps[p]?.getD undef = .pointer (some ⟨g, 0, none⟩) := by simpa using hp
  simp [results, h, hp', asAddr, run_loadVar_row w g t ty cs (0, 0) d hA hu hdd hi]
end

/-- bytealg.Compare of two rows of bytes. -/
theorem loadBytes_any {P : Program} (w : World) (b : Nat) : ∀ (l : List UInt8) (off : Nat) (acc : ByteArray), (∀ j (h : j < l.length), w.cell? ⟨b, off + j, none⟩ = some (bv (l[j]'h))) →
    (Extern.Bytes.loadBytes ⟨b, off, none⟩ l.length acc).run P w = .ok ⟨⟨acc.data.toList ++ l⟩⟩ w
  | [], off, acc, _ => by simp [Extern.Bytes.loadBytes]
  | c :: t, off, acc, h => by
    have h0 := h 0 (by simp)
    simp only [Nat.add_zero, List.getElem_cons_zero] at h0
    have ih := loadBytes_any (P := P) w b t (off + 1) (acc.push c) (fun j hj => by
      have := h (j + 1) (by simp; omega)
      rw [show off + 1 + j = off + (j + 1) by omega]
      simpa using this)
    simp only [List.length_cons, Extern.Bytes.loadBytes, Sem.run_bind]
    have hld : (load ⟨b, off, none⟩).run P w = .ok (bv c) w := by rw [run_load, h0]
    rw [hld]
    simp only [Result.andThen_ok]
    have e : (⟨b, off, none⟩ : Addr).add 1 = ⟨b, off + 1, none⟩ := rfl
    simp only [Int.toNat_natCast]
    rw [e, show (c.toNat.toUInt8) = c by simp, ih]
    simp [ByteArray.push]
theorem bytesOf_any {P : Program} {w : World} {B n : Nat} {A : Option Addr} {l : List UInt8} (c : Nat) (h : Shows w B A n l) : (Extern.Bytes.bytesOf (.slice A n c)).run P w = .ok ⟨⟨l⟩⟩ w := by
  cases A with
  | none =>
    have hn : n = 0 := by
      rcases Nat.eq_zero_or_pos n with h0 | h0
      · exact h0
      · obtain ⟨_, _, e, _⟩ := h.2 h0
        cases e
    obtain rfl : l = [] := List.eq_nil_of_length_eq_zero (h.1.trans hn)
    rfl
  | some a =>
    rcases Nat.eq_zero_or_pos n with h0 | h0
    · obtain rfl : l = [] := List.eq_nil_of_length_eq_zero (h.1.trans h0)
      subst h0
      rfl
    · obtain ⟨b, off, e, _, hc⟩ := h.2 h0
      injection e with e
      subst e
      have := loadBytes_any (P := P) w b l off .empty hc
      rw [h.1] at this
      simpa [Extern.Bytes.bytesOf] using this

/-- Of two rows of one length: which is ahead, by the first place in which they part. -/
theorem cmp_same (l : List UInt8) : Extern.BytealgCompare.cmp ⟨⟨l⟩⟩ ⟨⟨l⟩⟩ = 0 := by
  unfold Extern.BytealgCompare.cmp
  have : (List.range (min (ByteArray.mk ⟨l⟩).size (ByteArray.mk ⟨l⟩).size)).find? (fun i => (ByteArray.mk ⟨l⟩)[i]! != (ByteArray.mk ⟨l⟩)[i]!) = none := by
    rw [List.find?_eq_none]; intro x _; simp
  rw [this]
  simp
theorem cmp_at (l l' : List UInt8) (k : Nat) (x y : UInt8) (hl : l.length = l'.length) (hx : l[k]? = some x) (hy : l'[k]? = some y) (hne : x ≠ y) (hlow : ∀ j, j < k → l[j]? = l'[j]?) :
    Extern.BytealgCompare.cmp ⟨⟨l⟩⟩ ⟨⟨l'⟩⟩ = if x < y then -1 else 1 := by
  unfold Extern.BytealgCompare.cmp
  obtain ⟨hk, rfl⟩ := List.getElem?_eq_some_iff.1 hx
  obtain ⟨hk', rfl⟩ := List.getElem?_eq_some_iff.1 hy
  have hg : ∀ (m : List UInt8) (i : Nat) (h : i < m.length), (ByteArray.mk ⟨m⟩)[i]! = m[i] := fun m i h => by
    have : i < (ByteArray.mk ⟨m⟩).size := h
    rw [getElem!_pos (ByteArray.mk ⟨m⟩) i this]
    rfl
  have : (List.range (min (ByteArray.mk ⟨l⟩).size (ByteArray.mk ⟨l'⟩).size)).find? (fun i => (ByteArray.mk ⟨l⟩)[i]! != (ByteArray.mk ⟨l'⟩)[i]!) = some k := by
    have hs1 : (ByteArray.mk ⟨l⟩).size = l.length := rfl
    have hs2 : (ByteArray.mk ⟨l'⟩).size = l'.length := rfl
    rw [List.find?_range_eq_some]
    refine ⟨?_, ?_, ?_⟩
    · rw [hg l k hk, hg l' k hk']; simpa using hne
    · rw [List.mem_range, hs1, hs2]; omega
    · intro j hj
      have := hlow j hj
      rw [List.getElem?_eq_getElem (by omega), List.getElem?_eq_getElem (by omega)] at this
      injection this with this
      rw [hg l j (by omega), hg l' j (by omega), this]
      simp
  rw [this]
  simp only [hg l k hk, hg l' k hk']

/-- Two rows of one length are the same, or part at a first place. -/
theorem first_apart : ∀ (l l' : List UInt8), l.length = l'.length → l = l' ∨ ∃ (k : Nat) (x y : UInt8), l[k]? = some x ∧ l'[k]? = some y ∧ x ≠ y ∧ ∀ j : Nat, j < k → l[j]? = l'[j]?
  | [], [], _ => .inl rfl
  | [], _ :: _, h => by simp at h
  | _ :: _, [], h => by simp at h
  | a :: t, b :: t', h => by
    by_cases hab : a = b
    · subst hab
      rcases first_apart t t' (by simpa using h) with rfl | ⟨k, x, y, h1, h2, h3, h4⟩
      · exact .inl rfl
      · refine .inr ⟨k + 1, x, y, by simpa using h1, by simpa using h2, h3, fun j hj => ?_⟩
        cases j with
        | zero => rfl
        | succ j => simpa using h4 j (by omega)
    · exact .inr ⟨0, a, b, rfl, rfl, hab, fun j hj => absurd hj (by omega)⟩


end Go.Proofs.YtglghfbdchcihaaDoor
