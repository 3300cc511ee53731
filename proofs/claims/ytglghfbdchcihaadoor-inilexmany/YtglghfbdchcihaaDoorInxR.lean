
/- Rows of items: shown, own, appended to. -/
import Derived.Test.YtglghfbdchcihaaDoorInxN
import Derived.Test.YtglghfbdchcihaaDoorArrA
import Derived.Laws.AppendOwn
namespace Go.Proofs.YtglghfbdchcihaaDoor.Inx
open Go.RowKit Lin
set_option maxRecDepth 100000

/-- An item's cells. -/
def itC (x : It) : List Value := [.bool x.s, sv x.n, sv x.v, .int .i64 (x.k : Int)]
/-- The zero item's cells. -/
def zI : Array Value := #[.bool false, sv [], sv [], .int .i64 0]
def itA (x : It) : Array Value := #[.bool x.s, sv x.n, sv x.v, .int .i64 (x.k : Int)]

/-- The items that a slice value shows. -/
def ShI (w : World) (B : Nat) (A : Option Addr) (n : Nat) (l : List It) : Prop :=
  l.length = n ∧ (0 < n → ∃ b off, A = some ⟨b, off, none⟩ ∧ b < B ∧ ∀ j (h : j < l.length), w.cell? ⟨b, off + j * 4, none⟩ = some (.bool (l[j]'h).s) ∧ w.cell? ⟨b, off + j * 4 + 1, none⟩ = some (sv (l[j]'h).n) ∧ w.cell? ⟨b, off + j * 4 + 2, none⟩ = some (sv (l[j]'h).v) ∧ w.cell? ⟨b, off + j * 4 + 3, none⟩ = some (.int .i64 ((l[j]'h).k : Int)))
theorem ShI.len {w : World} {B n : Nat} {A : Option Addr} {l : List It} (h : ShI w B A n l) : l.length = n := h.1
theorem ShI.elem {w : World} {B n : Nat} {A : Option Addr} {l : List It} (h : ShI w B A n l) {k : Nat} (hk : k < n) :
    ∃ (b off : Nat) (p : It), A = some ⟨b, off, none⟩ ∧ b < B ∧ w.cell? ⟨b, off + k * 4, none⟩ = some (.bool p.s) ∧ w.cell? ⟨b, off + k * 4 + 1, none⟩ = some (sv p.n) ∧ w.cell? ⟨b, off + k * 4 + 2, none⟩ = some (sv p.v) ∧ w.cell? ⟨b, off + k * 4 + 3, none⟩ = some (.int .i64 (p.k : Int)) ∧ l[k]? = some p := by
  obtain ⟨b, off, e, hb, hc⟩ := h.2 (by omega)
  have hl : k < l.length := by have := h.1; omega
  obtain ⟨c1, c2, c3, c4⟩ := hc k hl
  exact ⟨b, off, _, e, hb, c1, c2, c3, c4, List.getElem?_eq_getElem hl⟩
theorem ShI.below {w w' : World} {B n : Nat} {A : Option Addr} {l : List It} (h : ShI w B A n l) (hb : Below B w w') : ShI w' B A n l :=
  ⟨h.1, fun hn => by
    obtain ⟨b, off, e, hlt, hc⟩ := h.2 hn
    exact ⟨b, off, e, hlt, fun j hj => ⟨(hb.cell hlt).trans (hc j hj).1, (hb.cell hlt).trans (hc j hj).2.1, (hb.cell hlt).trans (hc j hj).2.2.1, (hb.cell hlt).trans (hc j hj).2.2.2⟩⟩⟩
theorem ShI.up {w : World} {B B' n : Nat} {A : Option Addr} {l : List It} (h : ShI w B A n l) (hB : B ≤ B') : ShI w B' A n l :=
  ⟨h.1, fun hn => by
    obtain ⟨b, off, e, hlt, hc⟩ := h.2 hn
    exact ⟨b, off, e, by omega, hc⟩⟩
theorem ShI.on {w w' : World} {n : Nat} {A : Option Addr} {l : List It} (h : ShI w w.heap.size A n l) (hb : Below w.heap.size w w') : ShI w' w'.heap.size A n l := (h.below hb).up hb.size
theorem ShI.none_ {w : World} {B : Nat} : ShI w B none 0 [] := ⟨rfl, fun h => absurd h (by omega)⟩

theorem own_keep {w w' : World} {base : Nat} {e : TypeId} {size : Nat} {v : Value} {n : Nat} {xs : List Value} (h : w.ownsRow base e size v n xs) (hb : Below w.heap.size w w') : w'.ownsRow base e size v n xs := by
  have h3 : w.grownBy w' none := ⟨hb.os, hb.tape, hb.output, hb.size, fun k hk _ => hb.block k hk⟩
  exact h.kept h3 (by cases hv : v.ownBlock <;> simp)

/-- A row of items of the call's own. -/
abbrev OwnI (e : TypeId) (w : World) (base : Nat) (v : Value) (n : Nat) (l : List It) : Prop := w.ownsRow base e 4 v n (l.flatMap itC)
theorem flat_len (l : List It) : (l.flatMap itC).length = l.length * 4 := by
  induction l with
  | nil => rfl
  | cons p t ih => simp only [List.flatMap_cons, List.length_append, ih, List.length_cons, itC, List.length_nil]; omega
theorem flat_at (l : List It) (j : Nat) (h : j < l.length) : (l.flatMap itC)[j * 4]? = some (.bool (l[j]).s) ∧ (l.flatMap itC)[j * 4 + 1]? = some (sv (l[j]).n) ∧ (l.flatMap itC)[j * 4 + 2]? = some (sv (l[j]).v) ∧ (l.flatMap itC)[j * 4 + 3]? = some (.int .i64 ((l[j]).k : Int)) := by
  induction l generalizing j with
  | nil => simp at h
  | cons p t ih =>
    cases j with
    | zero => exact ⟨rfl, rfl, rfl, rfl⟩
    | succ j =>
      have := ih j (by simpa using h)
      simp only [List.flatMap_cons, List.getElem_cons_succ]
      rw [show (j + 1) * 4 = j * 4 + 4 by omega]
      exact this
theorem OwnI.len {e : TypeId} {w : World} {base n : Nat} {v : Value} {l : List It} (h : OwnI e w base v n l) : l.length = n := by
  have := h.1
  rw [flat_len] at this
  omega
theorem OwnI.sh {e : TypeId} {w : World} {base n : Nat} {v : Value} {l : List It} (h : OwnI e w base v n l) :
    ∃ A c, v = .slice A n c ∧ n ≤ c ∧ c ≤ maxLen ∧ ShI w w.heap.size A n l := by
  have hl := OwnI.len h
  rcases h.2 with ⟨rfl, rfl⟩ | ⟨g, cap, cur, rfl, hb, hg, hnc, hcm, hcs, ht⟩
  · exact ⟨none, 0, rfl, by omega, by simp [maxLen], hl, fun h => absurd h (by omega)⟩
  · have hlt : g < w.heap.size := (Array.getElem?_eq_some_iff.1 hg).1
    refine ⟨_, _, rfl, hnc, hcm, hl, fun _ => ⟨g, 0, rfl, hlt, fun j hj => ?_⟩⟩
    obtain ⟨a1, a2, a3, a4⟩ := flat_at l j hj
    refine ⟨?_, ?_, ?_, ?_⟩
    · rw [Nat.zero_add, World.ownsRow.cellAt h (j * 4) (by omega)]
      exact a1
    · rw [Nat.zero_add, World.ownsRow.cellAt h (j * 4 + 1) (by omega)]
      exact a2
    · rw [Nat.zero_add, World.ownsRow.cellAt h (j * 4 + 2) (by omega)]
      exact a3
    · rw [Nat.zero_add, World.ownsRow.cellAt h (j * 4 + 3) (by omega)]
      exact a4

theorem Tryd.infoItem : (Tryd.prog.info? 31).map (·.size) = some 4 := by kernel_rfl
theorem Tryd.infoRItem : (Tryd.prog.info? 32).map (·.size) = some 4 := by kernel_rfl
theorem Tryd.infoItemB : (Tryd.prog.info? 31).map (fun i => (i.zero, i.size, i.bytes)) = some (some (.agg zI), 4, 48) := by kernel_rfl
theorem Tryd.infoRItemB : (Tryd.prog.info? 32).map (fun i => (i.zero, i.size, i.bytes)) = some (some (.agg zI), 4, 48) := by kernel_rfl

/-- One item appended. -/
theorem wpList_appI {ops : Array Oper} {rest : List Oper} {o : Oper} {a : Act} {Q : Exit → Act → World → Prop} (w : World) (hgd : o.guard = none) (s x : Operand) (t e : TypeId)
    (ho : o.op = .call { callee := .builtin .append, args := #[s, x], argTypes := #[t, t] })
    (ht : Tryd.prog.underlying t = some (.slice e)) (hinfo : (Tryd.prog.info? e).map (fun i => (i.zero, i.size, i.bytes)) = some (some (.agg zI), 4, 48))
    (base : Nat) (v : Value) (n : Nat) (l : List It) (hs : a.eval s = v) (hown : OwnI e w base v n l)
    (g : Nat) (c' : Nat) (p : It) (hx : a.eval x = .slice (some ⟨g, 0, none⟩) 1 c') (hc : ∀ j v, (itC p)[j]? = some v → w.cell? ⟨g, j, none⟩ = some v)
    (h63 : n + 1 ≤ 1000000000) (hbase : base ≤ w.heap.size)
    (h : ∀ v' w', OwnI e w' base v' (n + 1) (l ++ [p]) → w.grownBy w' v.ownBlock → wpList Tryd.prog ops Q rest (a.put o.dst v') w') : wpList Tryd.prog ops Q (o :: rest) a w := by
  obtain ⟨i, hi, hz, hsz, hby⟩ := info_parts hinfo
  refine wpList_append_own w hgd s x t ho base e i _ 4 48 ht hi hz hsz hby rfl (by decide) v n _ hs hown ⟨g, 0, none⟩ 1 c' (itC p) hx rfl ?_ ?_ (by simp only [maxLen]; omega) (by omega) hbase ?_
  · intro j u hj
    have := hc j u hj
    cases j with
    | zero => simpa [Addr.add] using this
    | succ j => simpa [Addr.add] using this
  · intro u hu
    simp [itC] at hu
    rcases hu with rfl | rfl | rfl | rfl <;> rfl
  · intro v' w' h2 h3 _
    exact h v' w' (by unfold OwnI; rw [List.flatMap_append]; simpa using h2) h3

end Go.Proofs.YtglghfbdchcihaaDoor.Inx
