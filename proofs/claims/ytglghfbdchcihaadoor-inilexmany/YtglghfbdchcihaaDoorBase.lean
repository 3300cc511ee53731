
/- My own words for memory and numbers, for all walks of this seat. -/
import Derived.Test.YtglghfbdchcihaaDoorChecked
import Derived.WalkKit
import Derived.ProofKit
import Derived.Below
import Derived.Laws.OwnMore
import Derived.Lib.Hide
import Derived.Deep.Draws
import Derived.OpenShut
import Derived.Laws.BytesString
namespace Go.Proofs.YtglghfbdchcihaaDoor
open Go.RowKit
set_option maxRecDepth 100000

/-- A byte as a cell. -/
abbrev bv (c : UInt8) : Value := .int .u8 (c.toNat : Int)

/-- The bytes that a slice value shows: 'l' stands in the cells from its address on, below block B. -/
def Shows (w : World) (B : Nat) (A : Option Addr) (n : Nat) (l : List UInt8) : Prop :=
  l.length = n ∧ (0 < n → ∃ b off, A = some ⟨b, off, none⟩ ∧ b < B ∧ ∀ j (h : j < l.length), w.cell? ⟨b, off + j, none⟩ = some (bv (l[j]'h)))

section
variable {w w' : World} {B B' n : Nat} {A : Option Addr} {l : List UInt8}
theorem Shows.len (h : Shows w B A n l) : l.length = n := h.1
theorem Shows.keep (h : Shows w B A n l) (hk : ∀ p : Addr, p.block < B → w'.cell? p = w.cell? p) : Shows w' B A n l :=
  ⟨h.1, fun hn => by
    obtain ⟨b, off, e, hb, hc⟩ := h.2 hn
    exact ⟨b, off, e, hb, fun j hj => (hk _ hb).trans (hc j hj)⟩⟩
theorem Shows.up (h : Shows w B A n l) (hB : B ≤ B') : Shows w B' A n l :=
  ⟨h.1, fun hn => by
    obtain ⟨b, off, e, hb, hc⟩ := h.2 hn
    exact ⟨b, off, e, by omega, hc⟩⟩
theorem Shows.below (h : Shows w B A n l) (hb : Below B w w') : Shows w' B A n l := h.keep fun _ hp => hb.cell hp
/-- One byte, with a name of its own. -/
theorem Shows.byte (h : Shows w B A n l) {k : Nat} (hk : k < n) :
    ∃ (b off : Nat) (c : UInt8), A = some ⟨b, off, none⟩ ∧ b < B ∧ w.cell? ⟨b, off + k, none⟩ = some (.int .u8 (c.toNat : Int)) ∧ c.toNat < 256 ∧ l[k]? = some c := by
  obtain ⟨b, off, e, hb, hc⟩ := h.2 (by omega)
  have hl : k < l.length := by have := h.1; omega
  exact ⟨b, off, l[k], e, hb, hc k hl, l[k].toNat_lt, List.getElem?_eq_getElem hl⟩
end

/-- A row of bytes of the call's own. -/
abbrev Own (w : World) (base : Nat) (v : Value) (n : Nat) (l : List UInt8) : Prop := w.ownsRow base 5 1 v n (l.map bv)

theorem Own.len {w : World} {base n : Nat} {v : Value} {l : List UInt8} (h : Own w base v n l) : l.length = n := by simpa using h.1

theorem Own.base {w : World} {b b' n : Nat} {v : Value} {l : List UInt8} (h : Own w b v n l) (hb : b' ≤ b) : Own w b' v n l := by
  refine ⟨h.1, ?_⟩
  rcases h.2 with h2 | ⟨g, cap, cur, h3, h4, h5⟩
  · exact .inl h2
  · exact .inr ⟨g, cap, cur, h3, Nat.le_trans hb h4, h5⟩

/-- What is owned is a slice, and shows its bytes. -/
theorem Own.shows {w : World} {base n : Nat} {v : Value} {l : List UInt8} (h : Own w base v n l) : ∃ A c, v = .slice A n c ∧ n ≤ c ∧ c ≤ maxLen ∧ Shows w w.heap.size A n l := by
  have hl := h.len
  rcases h.2 with ⟨rfl, rfl⟩ | ⟨g, cap, cur, rfl, hb, hg, hnc, hcm, hcs, ht⟩
  · exact ⟨none, 0, rfl, by omega, by simp [maxLen], hl, fun h => absurd h (by omega)⟩
  · have hlt : g < w.heap.size := (Array.getElem?_eq_some_iff.1 hg).1
    refine ⟨_, _, rfl, hnc, hcm, hl, fun _ => ⟨g, 0, rfl, hlt, fun j hj => ?_⟩⟩
    rw [Nat.zero_add, World.ownsRow.cellAt h j (by omega)]
    simp [hj]

theorem Own.shown {w : World} {base n c : Nat} {A : Option Addr} {l : List UInt8} (h : Own w base (.slice A n c) n l) : Shows w w.heap.size A n l := by
  obtain ⟨A', c', hv, _, _, hs⟩ := h.shows
  injection hv with h1 _ _
  subst h1
  exact hs

/-- A literal's block shows its bytes. -/
theorem shows_new (w : World) (cs : Array Value) (l : List UInt8) (h : cs.toList = l.map bv) : Shows (w.alloc (.cells cs 5)) (w.alloc (.cells cs 5)).heap.size (some ⟨w.heap.size, 0, none⟩) l.length l := by
  have hs : cs.size = l.length := by rw [← Array.length_toList, h, List.length_map]
  refine ⟨rfl, fun _ => ⟨_, 0, rfl, by simp, fun j hj => ?_⟩⟩
  rw [Nat.zero_add, World.cell?_alloc_at (hn := rfl), ← Array.getElem?_toList, h]
  simp [hj]
theorem Shows.alloc {w : World} {B n : Nat} {A : Option Addr} {l : List UInt8} (h : Shows w B A n l) (hB : B ≤ w.heap.size) (o : Obj) : Shows (w.alloc o) B A n l :=
  h.keep fun p hp => World.cell?_alloc_lt w o p (by omega)
theorem Shows.draw {w : World} {B n : Nat} {A : Option Addr} {l : List UInt8} (h : Shows w B A n l) (k : Nat) : Shows (w.drewN k) B A n l := h
theorem below_draw {B : Nat} {a w : World} (h : Below B a w) (n : Nat) : Below B a (w.drewN n) := ⟨h.os, h.tape, h.output, h.size, h.block⟩

/-- A step from behind a new block. -/
theorem Below.step {B : Nat} {a w w' : World} {o : Obj} (h : Below B a w) (hB : B ≤ w.heap.size) (k : Below (w.alloc o).heap.size (w.alloc o) w') : Below B a w' :=
  (h.alloc hB o).trans (k.mono (by simp; omega))
theorem Below.on {B : Nat} {a w w' : World} (h : Below B a w) (hB : B ≤ w.heap.size) (k : Below w.heap.size w w') : Below B a w' :=
  h.trans (k.mono hB)

/-- A slice of bytes that came in shows some bytes. -/
theorem shows_of_row {w : World} {a : Option Addr} {len cap : Nat} {zs : List Int}
    (h : (a = none ∧ len = 0 ∧ cap = 0 ∧ zs = []) ∨
      ∃ x, a = some x ∧ len ≤ cap ∧ cap ≤ maxLen ∧ zs.length = cap ∧ (∀ i, i < zs.length → w.cell? (x.add i) = some (.int .u8 (zs.getD i 0))) ∧ ∀ n ∈ zs, (Lit.int .u8 n).wf = true) :
    ∃ l, (len ≤ cap ∧ cap ≤ maxLen) ∧ Shows w w.heap.size a len l := by
  rcases h with ⟨rfl, rfl, rfl, rfl⟩ | ⟨x, rfl, hlc, hcm, hz, hcell, hwf⟩
  · exact ⟨[], ⟨Nat.le_refl _, by simp [maxLen]⟩, rfl, fun h => absurd h (by omega)⟩
  · refine ⟨(zs.take len).map (fun z => UInt8.ofNat z.toNat), ⟨hlc, hcm⟩, by simp; omega, fun hn => ?_⟩
    obtain ⟨b, off, rfl, hc⟩ := ints_at hcell (by omega)
    refine ⟨b, off, rfl, World.block_lt_of_cell? w _ (hc 0 (by omega)), fun j hj => ?_⟩
    have hj' : j < zs.length := by simp at hj; omega
    rw [hc j hj']
    have hb := bounds_u8 (hwf zs[j] (List.getElem_mem hj'))
    simp [bv, hj']
    omega

theorem Tryd.infoU8 : (Tryd.prog.info? 5).map (fun i => (i.zero, i.size, i.bytes)) = some (some (.int .u8 0), 1, 1) := by kernel_rfl

section
variable {P : Program} (w : World)
/-- One byte appended to a row of the call's own. -/
theorem wpList_app1 {ops : Array Oper} {rest : List Oper} {o : Oper} {a : Act} {Q : Exit → Act → World → Prop} (hgd : o.guard = none) (s x : Operand)
    (ho : o.op = .call { callee := .builtin .append, args := #[s, x], argTypes := #[34, 34] })
    (base : Nat) (v : Value) (n : Nat) (l : List UInt8) (hs : a.eval s = v) (hown : Own w base v n l)
    (ad : Addr) (c' : Nat) (c : UInt8) (hx : a.eval x = .slice (some ad) 1 c') (hc : w.cell? ad = some (bv c))
    (h63 : n + 1 ≤ 140737488355328) (hbase : base ≤ w.heap.size)
    (h : ∀ v' w', Own w' base v' (n + 1) (l ++ [c]) → w.grownBy w' v.ownBlock → wpList Tryd.prog ops Q rest (a.put o.dst v') w') : wpList Tryd.prog ops Q (o :: rest) a w := by
  obtain ⟨i, hi, hz, hsz, hby⟩ := info_parts Tryd.infoU8
  refine wpList_append_own w hgd s x 34 ho base 5 i (.int .u8 0) 1 1 Tryd.underlying34 hi hz hsz hby rfl (by decide) v n _ hs hown ad 1 c' [bv c] hx rfl ?_ ?_ (by simp only [maxLen]; omega) (by omega) hbase ?_
  · intro j u hj
    match j, hj with
    | 0, hj => simp at hj; subst hj; simpa [Addr.add] using hc
  · intro u hu; simp at hu; subst hu; rfl
  · intro v' w' h2 h3 _
    exact h v' w' (by unfold Own; simpa using h2) h3
/-- Two bytes appended to a row of the call's own. -/
theorem wpList_app2 {ops : Array Oper} {rest : List Oper} {o : Oper} {a : Act} {Q : Exit → Act → World → Prop} (hgd : o.guard = none) (s x : Operand)
    (ho : o.op = .call { callee := .builtin .append, args := #[s, x], argTypes := #[34, 34] })
    (base : Nat) (v : Value) (n : Nat) (l : List UInt8) (hs : a.eval s = v) (hown : Own w base v n l)
    (g c' : Nat) (c d : UInt8) (hx : a.eval x = .slice (some ⟨g, 0, none⟩) 2 c') (hc : w.cell? ⟨g, 0, none⟩ = some (bv c)) (hd : w.cell? ⟨g, 1, none⟩ = some (bv d))
    (h63 : n + 2 ≤ 140737488355328) (hbase : base ≤ w.heap.size)
    (h : ∀ v' w', Own w' base v' (n + 2) (l ++ [c, d]) → w.grownBy w' v.ownBlock → wpList Tryd.prog ops Q rest (a.put o.dst v') w') : wpList Tryd.prog ops Q (o :: rest) a w := by
  obtain ⟨i, hi, hz, hsz, hby⟩ := info_parts Tryd.infoU8
  refine wpList_append_own w hgd s x 34 ho base 5 i (.int .u8 0) 1 1 Tryd.underlying34 hi hz hsz hby rfl (by decide) v n _ hs hown ⟨g, 0, none⟩ 2 c' [bv c, bv d] hx rfl ?_ ?_ (by simp only [maxLen]; omega) (by omega) hbase ?_
  · intro j u hj
    match j, hj with
    | 0, hj => simp at hj; subst hj; simpa [Addr.add] using hc
    | 1, hj => simp at hj; subst hj; simpa [Addr.add] using hd
  · intro u hu
    simp at hu
    rcases hu with rfl | rfl <;> rfl
  · intro v' w' h2 h3 _
    exact h v' w' (by unfold Own; simpa using h2) h3
/-- The same as one step of a region that draws its order. -/
theorem step_app2 {ops : Array Oper} {o : Oper} {a : Act} {K : Act → World → Prop} {Q : Exit → Act → World → Prop} {E : Prop} (hgd : o.guard = none) (s x : Operand)
    (ho : o.op = .call { callee := .builtin .append, args := #[s, x], argTypes := #[34, 34] })
    (base : Nat) (v : Value) (n : Nat) (l : List UInt8) (hs : a.eval s = v) (hown : Own w base v n l)
    (g c' : Nat) (c d : UInt8) (hx : a.eval x = .slice (some ⟨g, 0, none⟩) 2 c') (hc : w.cell? ⟨g, 0, none⟩ = some (bv c)) (hd : w.cell? ⟨g, 1, none⟩ = some (bv d))
    (h63 : n + 2 ≤ 140737488355328) (hbase : base ≤ w.heap.size)
    (h : ∀ v' w', Own w' base v' (n + 2) (l ++ [c, d]) → w.grownBy w' v.ownBlock → K (a.put o.dst v') w') :
    if Region.wanted o (yielded ops a.tmps) = true then Oper.wp Tryd.prog o a w K Q else E := by
  have hw : Region.wanted o (yielded ops a.tmps) = true := by simp [Region.wanted, hgd]
  rw [if_pos hw]
  obtain ⟨i, hi, hz, hsz, hby⟩ := info_parts Tryd.infoU8
  refine wp_append_own w s x 34 ho base 5 i (.int .u8 0) 1 1 Tryd.underlying34 hi hz hsz hby rfl (by decide) v n _ hs hown ⟨g, 0, none⟩ 2 c' [bv c, bv d] hx rfl ?_ ?_ (by simp only [maxLen]; omega) (by omega) hbase ?_
  · intro j u hj
    match j, hj with
    | 0, hj => simp at hj; subst hj; simpa [Addr.add] using hc
    | 1, hj => simp at hj; subst hj; simpa [Addr.add] using hd
  · intro u hu
    simp at hu
    rcases hu with rfl | rfl <;> rfl
  · intro v' w' h2 h3 _
    exact h v' w' (by unfold Own; simpa using h2) h3
/-- An empty row of the call's own, with room. -/
theorem wpList_mk0 {ops : Array Oper} {rest : List Oper} {o : Oper} {a : Act} {Q : Exit → Act → World → Prop} (hgd : o.guard = none) (s x : Operand)
    (ho : o.op = Op.makeSlice 34 s x) (base n : Nat) (C : Int) (hs : a.eval s = .int .i64 0) (hx : a.eval x = .int .i64 C) (hC : C = (n : Int))
    (h63 : n ≤ 140737488355328) (hbase : base ≤ w.heap.size)
    (h : ∀ w', Own w' base (.slice (some ⟨w.heap.size, 0, none⟩) 0 n) 0 [] → w.grownBy w' none → wpList Tryd.prog ops Q rest (a.put o.dst (.slice (some ⟨w.heap.size, 0, none⟩) 0 n)) w') :
    wpList Tryd.prog ops Q (o :: rest) a w := by
  obtain ⟨i, hi, hz, hsz, hby⟩ := info_parts Tryd.infoU8
  exact wpList_make_own w hgd s x 34 ho base 5 i (.int .u8 0) 1 Tryd.underlying34 hi hz hsz .i64 .i64 C n hs hx hC (by rw [hby]; omega) (by simp only [maxLen]; omega) hbase h
/-- So many bytes 0, made. -/
theorem wpList_mk {ops : Array Oper} {rest : List Oper} {o : Oper} {a : Act} {Q : Exit → Act → World → Prop} (hgd : o.guard = none) (s x : Operand)
    (ho : o.op = Op.makeSlice 34 s x) (base n : Nat) (L C : Int) (hs : a.eval s = .int .i64 L) (hx : a.eval x = .int .i64 C) (hL : L = (n : Int)) (hC : C = (n : Int))
    (h63 : n ≤ 140737488355328) (hbase : base ≤ w.heap.size)
    (h : ∀ w', Own w' base (.slice (some ⟨w.heap.size, 0, none⟩) n n) n (List.replicate n 0) → w.grownBy w' none → wpList Tryd.prog ops Q rest (a.put o.dst (.slice (some ⟨w.heap.size, 0, none⟩) n n)) w') :
    wpList Tryd.prog ops Q (o :: rest) a w := by
  obtain ⟨i, hi, hz, hsz, hby⟩ := info_parts Tryd.infoU8
  refine wpList_make_full w hgd s x 34 ho base 5 i (.int .u8 0) 1 Tryd.underlying34 hi hz hsz .i64 .i64 L C n hs hx hL hC (by rw [hby]; omega) (by simp only [maxLen]; omega) hbase ?_
  intro w' h2 h3
  refine h w' ?_ h3
  simp only [Value.cells, Nat.mul_one, toList_madeCells_one] at h2
  unfold Own
  rw [List.map_replicate]
  exact h2
end

/-- A byte stored into a row of the call's own. -/
theorem Own.put {w : World} {base g n cap : Nat} {l : List UInt8} (h : Own w base (.slice (some ⟨g, 0, none⟩) n cap) n l) (j : Nat) (x : UInt8) :
    Own (w.setCell ⟨g, j, none⟩ (bv x)) base (.slice (some ⟨g, 0, none⟩) n cap) n (l.set j x) ∧ w.grownBy (w.setCell ⟨g, j, none⟩ (bv x)) (some g) := by
  have := World.ownsRow.stored h j (bv x)
  unfold Own
  rw [List.map_set]
  exact this
theorem Own.at {w : World} {base g n cap : Nat} {l : List UInt8} (h : Own w base (.slice (some ⟨g, 0, none⟩) n cap) n l) {j : Nat} (hj : j < n) :
    ∃ x : UInt8, w.cell? ⟨g, j, none⟩ = some (.int .u8 (x.toNat : Int)) ∧ l[j]? = some x := by
  have hl := h.len
  rw [World.ownsRow.cellAt h j (by omega)]
  exact ⟨l[j], by simp [show j < l.length by omega], by simp [show j < l.length by omega]⟩

theorem set_next (a : List UInt8) (m : Nat) (x : UInt8) : (a ++ List.replicate (m + 1) 0).set a.length x = (a ++ [x]) ++ List.replicate m 0 := by
  rw [List.set_append_right _ _ (Nat.le_refl _), Nat.sub_self, List.replicate_succ, List.set_cons_zero]
  simp

/-- The one cell of a new block. -/
theorem one_new (w : World) (v : Value) (t : TypeId) (g : Nat) (hg : g = w.heap.size) : (w.alloc (.cells #[v] t)).cell? ⟨g, 0, none⟩ = some v := by
  rw [World.cell?_alloc_at (hn := hg)]; rfl

theorem push_all (l : List UInt8) : ∀ (s : ByteArray), (l.map fun c => (c.toNat : Int)).foldl (fun r n => r.push (UInt8.ofNat n.toNat)) s = ⟨⟨s.data.toList ++ l⟩⟩ := by
  induction l with
  | nil => intro s; simp
  | cons c t ih =>
    intro s
    rw [List.map_cons, List.foldl_cons, ih]
    simp [ByteArray.push]

/-- The text of bytes that a slice shows. -/
theorem run_text (w : World) (A : Option Addr) (n c : Nat) (l : List UInt8) (h : Shows w w.heap.size A n l) :
    (convert 34 9 (.slice A n c)).run Tryd.prog w = .ok (.string ⟨⟨l⟩⟩) w := by
  rw [run_convert_bytes_string w 34 9 5 A n c Tryd.underlying34 Tryd.underlying5 Tryd.underlying9]
  have hl := h.len
  cases A with
  | none =>
    have hn : n = 0 := by
      rcases Nat.eq_zero_or_pos n with h0 | h0
      · exact h0
      · obtain ⟨_, _, e, _⟩ := h.2 h0
        cases e
    subst hn
    obtain rfl : l = [] := List.eq_nil_of_length_eq_zero hl
    simp [Conv.bytesToString]
    rfl
  | some a =>
    have hc : (loadCells a n).run Tryd.prog w = .ok ((l.map fun c => (c.toNat : Int)).map (Value.int .u8)).toArray w := by
      have := run_loadCells_list (P := Tryd.prog) w a ((l.map fun c => (c.toNat : Int)).map (Value.int .u8)) (by
        intro j v hj
        simp at hj
        obtain ⟨x, hx, rfl⟩ := hj
        obtain ⟨hjl, rfl⟩ := List.getElem?_eq_some_iff.1 hx
        obtain ⟨b, off, e, _, hcell⟩ := h.2 (by omega)
        injection e with e
        subst e
        have h2 := hcell j hjl
        rw [← Go.WideShapes.add_plain] at h2
        exact h2)
      simp only [List.length_map, hl] at this
      exact this
    rw [run_bytesToString w a n c _ hc, push_all]
    rfl

end Go.Proofs.YtglghfbdchcihaaDoor
