
/- Rows of elements of one cell each, whatever they are (my own words, as Base has them for bytes). -/
import Derived.Test.YtglghfbdchcihaaDoorBase
namespace Go.Proofs.YtglghfbdchcihaaDoor
open Go.RowKit
set_option maxRecDepth 100000

theorem Tryd.sizeU8 : (Tryd.prog.info? 5).map (·.size) = some 1 := by kernel_rfl

/-- A text as a value. -/
abbrev sv (l : List UInt8) : Value := .string ⟨⟨l⟩⟩

/-- The elements that a slice value shows. -/
def Sh {α : Type} (f : α → Value) (w : World) (B : Nat) (A : Option Addr) (n : Nat) (l : List α) : Prop :=
  l.length = n ∧ (0 < n → ∃ b off, A = some ⟨b, off, none⟩ ∧ b < B ∧ ∀ j (h : j < l.length), w.cell? ⟨b, off + j, none⟩ = some (f (l[j]'h)))

section
variable {α : Type} {f : α → Value} {w w' : World} {B B' n : Nat} {A : Option Addr} {l : List α}
theorem Sh.len (h : Sh f w B A n l) : l.length = n := h.1
theorem Sh.keep (h : Sh f w B A n l) (hk : ∀ p : Addr, p.block < B → w'.cell? p = w.cell? p) : Sh f w' B A n l :=
  ⟨h.1, fun hn => by
    obtain ⟨b, off, e, hb, hc⟩ := h.2 hn
    exact ⟨b, off, e, hb, fun j hj => (hk _ hb).trans (hc j hj)⟩⟩
theorem Sh.up (h : Sh f w B A n l) (hB : B ≤ B') : Sh f w B' A n l :=
  ⟨h.1, fun hn => by
    obtain ⟨b, off, e, hb, hc⟩ := h.2 hn
    exact ⟨b, off, e, by omega, hc⟩⟩
theorem Sh.below (h : Sh f w B A n l) (hb : Below B w w') : Sh f w' B A n l := h.keep fun _ hp => hb.cell hp
theorem Sh.on (h : Sh f w w.heap.size A n l) (hb : Below w.heap.size w w') : Sh f w' w'.heap.size A n l := (h.below hb).up hb.size
theorem Sh.alloc (h : Sh f w B A n l) (hB : B ≤ w.heap.size) (o : Obj) : Sh f (w.alloc o) B A n l := h.keep fun p hp => World.cell?_alloc_lt w o p (by omega)
theorem Sh.elem (h : Sh f w B A n l) {k : Nat} (hk : k < n) :
    ∃ (b off : Nat) (c : α), A = some ⟨b, off, none⟩ ∧ b < B ∧ w.cell? ⟨b, off + k, none⟩ = some (f c) ∧ l[k]? = some c := by
  obtain ⟨b, off, e, hb, hc⟩ := h.2 (by omega)
  have hl : k < l.length := by have := h.1; omega
  exact ⟨b, off, l[k], e, hb, hc k hl, List.getElem?_eq_getElem hl⟩
theorem Sh.none_ : Sh f w B none 0 [] := ⟨rfl, fun h => absurd h (by omega)⟩
/-- The first k of them. -/
theorem Sh.front (h : Sh f w B A n l) {k : Nat} (hk : k ≤ n) : Sh f w B A k (l.take k) := by
  refine ⟨by rw [List.length_take, h.1]; omega, fun hp => ?_⟩
  obtain ⟨b, off, e, hb, hc⟩ := h.2 (by omega)
  refine ⟨b, off, e, hb, fun j hj => ?_⟩
  rw [List.getElem_take]
  exact hc j (by rw [List.length_take] at hj; omega)
/-- What is left behind the first k. -/
theorem Sh.back (h : Sh f w B A n l) {k cap : Nat} (hk : k ≤ n) (hc : n ≤ cap) :
    Sh f w B (if cap = k then A else A.map (·.add k)) (n - k) (l.drop k) := by
  refine ⟨by rw [List.length_drop, h.1], fun hp => ?_⟩
  obtain ⟨b, off, rfl, hb, hcell⟩ := h.2 (by omega)
  rw [if_neg (by omega)]
  refine ⟨b, off + k, by simp [Addr.add], hb, fun j hj => ?_⟩
  rw [List.getElem_drop, Nat.add_assoc]
  exact hcell (k + j) (by rw [List.length_drop] at hj; omega)
end

/-- A row of the call's own. -/
abbrev GOwn {α : Type} (f : α → Value) (e : TypeId) (w : World) (base : Nat) (v : Value) (n : Nat) (l : List α) : Prop := w.ownsRow base e 1 v n (l.map f)

theorem GOwn.len {α : Type} {f : α → Value} {e : TypeId} {w : World} {base n : Nat} {v : Value} {l : List α} (h : GOwn f e w base v n l) : l.length = n := by simpa using h.1

theorem GOwn.sh {α : Type} {f : α → Value} {e : TypeId} {w : World} {base n : Nat} {v : Value} {l : List α} (h : GOwn f e w base v n l) :
    ∃ A c, v = .slice A n c ∧ n ≤ c ∧ c ≤ maxLen ∧ Sh f w w.heap.size A n l := by
  have hl := h.len
  rcases h.2 with ⟨rfl, rfl⟩ | ⟨g, cap, cur, rfl, hb, hg, hnc, hcm, hcs, ht⟩
  · exact ⟨none, 0, rfl, by omega, by simp [maxLen], hl, fun h => absurd h (by omega)⟩
  · have hlt : g < w.heap.size := (Array.getElem?_eq_some_iff.1 hg).1
    refine ⟨_, _, rfl, hnc, hcm, hl, fun _ => ⟨g, 0, rfl, hlt, fun j hj => ?_⟩⟩
    rw [Nat.zero_add, World.ownsRow.cellAt h j (by omega)]
    simp [hj]

/-- A literal's block shows its elements. -/
theorem sh_new {α : Type} (f : α → Value) (e : TypeId) (w : World) (cs : Array Value) (l : List α) (h : cs.toList = l.map f) :
    Sh f (w.alloc (.cells cs e)) (w.alloc (.cells cs e)).heap.size (some ⟨w.heap.size, 0, none⟩) l.length l := by
  have hs : cs.size = l.length := by rw [← Array.length_toList, h, List.length_map]
  refine ⟨rfl, fun _ => ⟨_, 0, rfl, by simp, fun j hj => ?_⟩⟩
  rw [Nat.zero_add, World.cell?_alloc_at (hn := rfl), ← Array.getElem?_toList, h]
  simp [hj]

/-- One element appended to a row of the call's own. -/
theorem wpList_gapp1 {α : Type} (f : α → Value) {P : Program} (w : World) {ops : Array Oper} {rest : List Oper} {o : Oper} {a : Act} {Q : Exit → Act → World → Prop} (hgd : o.guard = none) (s x : Operand)
    (t e : TypeId) (z : Value) (bts : Nat) (ho : o.op = .call { callee := .builtin .append, args := #[s, x], argTypes := #[t, t] })
    (ht : P.underlying t = some (.slice e)) (hinfo : (P.info? e).map (fun i => (i.zero, i.size, i.bytes)) = some (some z, 1, bts)) (hz1 : z.cells.size = 1)
    (base : Nat) (v : Value) (n : Nat) (l : List α) (hs : a.eval s = v) (hown : GOwn f e w base v n l)
    (ad : Addr) (c' : Nat) (c : α) (hx : a.eval x = .slice (some ad) 1 c') (hc : w.cell? ad = some (f c)) (h1c : (f c).oneCell' = true)
    (h63 : (n + 1) * bts ≤ 140737488355328) (h63' : n + 1 ≤ 140737488355328) (hbase : base ≤ w.heap.size)
    (h : ∀ v' w', GOwn f e w' base v' (n + 1) (l ++ [c]) → w.grownBy w' v.ownBlock → wpList P ops Q rest (a.put o.dst v') w') : wpList P ops Q (o :: rest) a w := by
  obtain ⟨i, hi, hz, hsz, hby⟩ := info_parts hinfo
  refine wpList_append_own w hgd s x t ho base e i z 1 bts ht hi hz hsz hby hz1 (by decide) v n _ hs hown ad 1 c' [f c] hx rfl ?_ ?_ (by simp only [maxLen]; omega) h63 hbase ?_
  · intro j u hj
    match j, hj with
    | 0, hj => simp at hj; subst hj; simpa [Addr.add] using hc
  · intro u hu; simp at hu; subst hu; exact h1c
  · intro v' w' h2 h3 _
    exact h v' w' (by unfold GOwn; simpa using h2) h3

/-- Texts in rows. -/
abbrev OwnS (w : World) (base : Nat) (v : Value) (n : Nat) (l : List (List UInt8)) : Prop := GOwn sv 9 w base v n l
theorem Tryd.infoStr : (Tryd.prog.info? 9).map (fun i => (i.zero, i.size, i.bytes)) = some (some (.string ⟨#[]⟩), 1, 16) := by kernel_rfl

theorem wpList_apps {ops : Array Oper} {rest : List Oper} {o : Oper} {a : Act} {Q : Exit → Act → World → Prop} (w : World) (hgd : o.guard = none) (s x : Operand)
    (ho : o.op = .call { callee := .builtin .append, args := #[s, x], argTypes := #[44, 44] })
    (base : Nat) (v : Value) (n : Nat) (l : List (List UInt8)) (hs : a.eval s = v) (hown : OwnS w base v n l)
    (ad : Addr) (c' : Nat) (c : List UInt8) (hx : a.eval x = .slice (some ad) 1 c') (hc : w.cell? ad = some (sv c))
    (h63 : n + 1 ≤ 1000000000) (hbase : base ≤ w.heap.size)
    (h : ∀ v' w', OwnS w' base v' (n + 1) (l ++ [c]) → w.grownBy w' v.ownBlock → wpList Tryd.prog ops Q rest (a.put o.dst v') w') : wpList Tryd.prog ops Q (o :: rest) a w :=
  wpList_gapp1 sv w hgd s x 44 9 (.string ⟨#[]⟩) 16 ho Tryd.underlying44 Tryd.infoStr rfl base v n l hs hown ad c' c hx hc rfl (by omega) (by omega) hbase h

theorem text_cut (l : List UInt8) (a b : Nat) : (ByteArray.mk ⟨l⟩).extract a b = ⟨⟨(l.take b).drop a⟩⟩ := by
  have h : ((ByteArray.mk ⟨l⟩).extract a b).data.toList = (l.take b).drop a := by
    rw [ByteArray.data_extract]
    simp [List.extract, List.drop_take]
  cases hx : (ByteArray.mk ⟨l⟩).extract a b with
  | mk d => rw [hx] at h; cases d with | mk t => simp only at h; rw [h]

end Go.Proofs.YtglghfbdchcihaaDoor
