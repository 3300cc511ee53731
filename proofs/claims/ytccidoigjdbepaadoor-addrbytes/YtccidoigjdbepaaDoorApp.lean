
/- Rows of bytes that grow, are carried on, and are cut: words for all layers (out of TakE and MsgD). -/
import Derived.Test.YtccidoigjdbepaaDoorSame
import Derived.Test.YtccidoigjdbepaaDoorGen
import Derived.Test.YtccidoigjdbepaaDoorArrA
namespace Go.Proofs.YtccidoigjdbepaaDoor
open Go.RowKit
set_option maxRecDepth 100000

theorem own_lit0 (w : World) (base : Nat) (hb : base ≤ w.heap.size) : Own (w.alloc (.cells #[] 5)) base (.slice (some ⟨w.heap.size, 0, none⟩) 0 0) 0 [] := by
  refine ⟨rfl, .inr ⟨w.heap.size, 0, #[], rfl, hb, ?_, Nat.le_refl _, by simp [maxLen], rfl, rfl⟩⟩
  show (w.heap.push _)[w.heap.size]? = _
  simp
set_option maxRecDepth 100000 in
/-- Bytes appended to a row of the call's own, all of a slice. -/
theorem wpList_appAll {ops : Array Oper} {rest : List Oper} {o : Oper} {a : Act} {Q : Exit → Act → World → Prop} (w : World) (hgd : o.guard = none) (s x : Operand)
    (ho : o.op = .call { callee := .builtin .append, args := #[s, x], argTypes := #[26, 26] })
    (base : Nat) (v : Value) (n : Nat) (l : List UInt8) (hs : a.eval s = v) (hown : Own w base v n l)
    (ad : Addr) (m c' B : Nat) (k : List UInt8) (hx : a.eval x = .slice (some ad) m c') (hk : Shows w B (some ad) m k)
    (h63 : n + m ≤ 1000000) (hbase : base ≤ w.heap.size)
    (h : ∀ v' w', Own w' base v' (n + m) (l ++ k) → w.grownBy w' v.ownBlock → wpList Tryd.prog ops Q rest (a.put o.dst v') w') : wpList Tryd.prog ops Q (o :: rest) a w := by
  obtain ⟨i, hi, hz, hsz, hby⟩ := info_parts Tryd.infoU8
  refine wpList_append_own w hgd s x 26 ho base 5 i (.int .u8 0) 1 1 Tryd.underlying26 hi hz hsz hby rfl (by decide) v n _ hs hown ad m c' (k.map bv) hx (by simp [hk.len]) ?_ ?_ (by simp only [maxLen]; omega) (by omega) hbase ?_
  · intro j u hj
    simp at hj
    obtain ⟨y, hy, rfl⟩ := hj
    obtain ⟨hjl, rfl⟩ := List.getElem?_eq_some_iff.1 hy
    obtain ⟨b, off, e, _, hc⟩ := hk.2 (by have := hk.len; omega)
    injection e with e
    subst e
    rw [Go.WideShapes.add_plain]
    exact hc j hjl
  · intro u hu; simp at hu; obtain ⟨y, _, rfl⟩ := hu; rfl
  · intro v' w' h2 h3 _
    exact h v' w' (by unfold Own; simpa using h2) h3
theorem Blk.grown {w w' : World} {g0 g : Nat} {t : TypeId} {cs : Array Value} (h : Blk w g0 t cs) (hg : w.grownBy w' (some g)) (hne : g0 ≠ g) : Blk w' g0 t cs :=
  (hg.block g0 h.lt (fun e => by injection e with e; exact hne e)).trans h
theorem setCell_grown (w : World) (g j : Nat) (v : Value) : w.grownBy (w.setCell ⟨g, j, none⟩ v) (some g) :=
  ⟨rfl, rfl, rfl, by simp [World.setCell], fun k hk hne => by
    simp only [World.setCell, Array.getElem?_modify]
    rw [if_neg (fun e => hne (by rw [e]))]⟩
theorem Shows.grown {w w' : World} {B g n : Nat} {A : Option Addr} {l : List UInt8} (h : Shows w B A n l) (hB : B ≤ w.heap.size) (hg : w.grownBy w' (some g)) (hne : 0 < n → ∀ a, A = some a → a.block ≠ g) : Shows w' B A n l :=
  ⟨h.1, fun hn => by
    obtain ⟨b, off, e, hb, hc⟩ := h.2 hn
    refine ⟨b, off, e, hb, fun j hj => ?_⟩
    rw [← hc j hj]
    exact World.cell?_of_block (hg.block b (by omega) (fun x => by injection x with x; exact hne hn _ e x))⟩
theorem own_lit (w : World) (base n : Nat) (l : List UInt8) (cs : Array Value) (h : cs.toList = l.map bv) (hb : base ≤ w.heap.size) (hn : l.length = n) (hm : n ≤ 1000000) :
    Own (w.alloc (.cells cs 5)) base (.slice (some ⟨w.heap.size, 0, none⟩) n n) n l := by
  have hs : cs.size = n := by rw [← Array.length_toList, h, List.length_map, hn]
  refine ⟨by simp [hn], .inr ⟨w.heap.size, n, cs, rfl, hb, _root_.Go.heap_alloc_new w _, Nat.le_refl _, by simp [maxLen]; omega, by simp [hs], ?_⟩⟩
  rw [h, Nat.mul_one, List.take_of_length_le (by simp [hn])]
/-- What is owned and not empty, as a slice with an address. -/
theorem Own.at_some {w : World} {base n : Nat} {v : Value} {l : List UInt8} (h : Own w base v n l) (hn : 0 < n) : ∃ ad c, v = .slice (some ad) n c ∧ n ≤ c ∧ Shows w w.heap.size (some ad) n l := by
  obtain ⟨A, c, rfl, h1, _, hs⟩ := h.shows
  obtain ⟨b, off, rfl, _⟩ := hs.2 hn
  exact ⟨_, c, rfl, h1, hs⟩
set_option maxRecDepth 100000 in
/-- Bytes appended to a row of the call's own, all of a slice: one step of a region that draws its order. -/
theorem step_appAll {ops : Array Oper} {o : Oper} {a : Act} {K : Act → World → Prop} {Q : Exit → Act → World → Prop} {E : Prop} (w : World) (hgd : o.guard = none) (s x : Operand)
    (ho : o.op = .call { callee := .builtin .append, args := #[s, x], argTypes := #[26, 26] })
    (base : Nat) (v : Value) (n : Nat) (l : List UInt8) (hs : a.eval s = v) (hown : Own w base v n l)
    (ad : Addr) (m c' B : Nat) (k : List UInt8) (hx : a.eval x = .slice (some ad) m c') (hk : Shows w B (some ad) m k)
    (h63 : n + m ≤ 1000000) (hbase : base ≤ w.heap.size)
    (h : ∀ v' w', Own w' base v' (n + m) (l ++ k) → w.grownBy w' v.ownBlock → K (a.put o.dst v') w') :
    if Region.wanted o (yielded ops a.tmps) = true then Oper.wp Tryd.prog o a w K Q else E := by
  have hw : Region.wanted o (yielded ops a.tmps) = true := by simp [Region.wanted, hgd]
  rw [if_pos hw]
  obtain ⟨i, hi, hz, hsz, hby⟩ := info_parts Tryd.infoU8
  refine wp_append_own w s x 26 ho base 5 i (.int .u8 0) 1 1 Tryd.underlying26 hi hz hsz hby rfl (by decide) v n _ hs hown ad m c' (k.map bv) hx (by simp [hk.len]) ?_ ?_ (by simp only [maxLen]; omega) (by omega) hbase ?_
  · intro j u hj
    simp at hj
    obtain ⟨y, hy, rfl⟩ := hj
    obtain ⟨hjl, rfl⟩ := List.getElem?_eq_some_iff.1 hy
    obtain ⟨b, off, e, _, hc⟩ := hk.2 (by have := hk.len; omega)
    injection e with e
    subst e
    rw [Go.WideShapes.add_plain]
    exact hc j hjl
  · intro u hu; simp at hu; obtain ⟨y, _, rfl⟩ := hu; rfl
  · intro v' w' h2 h3 _
    exact h v' w' (by unfold Own; simpa using h2) h3
/-- A piece of what a slice shows. -/
theorem Shows.piece {w : World} {B b off n : Nat} {l : List UInt8} (h : Shows w B (some ⟨b, off, none⟩) n l) (i m : Nat) (him : i + m ≤ n) : Shows w B (some ⟨b, off + i, none⟩) m ((l.drop i).take m) := by
  refine ⟨by simp [h.len]; omega, fun hp => ?_⟩
  obtain ⟨b', off', e, hb, hc⟩ := h.2 (by omega)
  injection e with e
  injection e with e1 e2
  subst e1
  subst e2
  refine ⟨b, off + i, rfl, hb, fun j hj => ?_⟩
  have := hc (i + j) (by simp at hj; omega)
  rw [Nat.add_assoc, this]
  simp
theorem list4 (l : List UInt8) (h : 4 ≤ l.length) : ∃ a b c d t, l = a :: b :: c :: d :: t := by
  match l, h with
  | a :: b :: c :: d :: t, _ => exact ⟨a, b, c, d, t, rfl⟩
theorem same_world {f : Nat} {args : Array Value} {e0 : Ending} {w : World} (h : Calls Tryd.prog f args w fun e w' => e = e0 ∧ w = w') : Calls Tryd.prog f args w fun e w' => e = e0 ∧ Below w.heap.size w w' :=
  h.mono fun _ _ ⟨he, hw⟩ => ⟨he, hw ▸ Below.refl _ _⟩
theorem Own.keep {w w' : World} {base n : Nat} {v : Value} {l : List UInt8} (h : Own w base v n l) (hb : Below w.heap.size w w') : Own w' base v n l := by
  refine ⟨h.1, ?_⟩
  rcases h.2 with h2 | ⟨g, cap, cur, h3, h4, h5, h6⟩
  · exact .inl h2
  · exact .inr ⟨g, cap, cur, h3, h4, (hb.block g (Array.getElem?_eq_some_iff.1 h5).1).trans h5, h6⟩
theorem Blk.below {w w' : World} {B g0 : Nat} {t : TypeId} {cs : Array Value} (h : Blk w g0 t cs) (hb : Below B w w') (hlt : g0 < B) : Blk w' g0 t cs := (hb.block g0 hlt).trans h
theorem copy_src {w : World} {ad : Addr} {m : Nat} {x : List UInt8} (hs : Shows w w.heap.size (some ad) m x) : ∀ (j : Nat) v, (x.map bv)[j]? = some v → w.cell? (ad.add j) = some v := by
  intro j v hj
  simp at hj
  obtain ⟨y, hy, rfl⟩ := hj
  obtain ⟨hjl, rfl⟩ := List.getElem?_eq_some_iff.1 hy
  obtain ⟨b, off, e, _, hc⟩ := hs.2 (by have := hs.len; omega)
  injection e with e
  subst e
  rw [Go.WideShapes.add_plain]
  exact hc j hjl

end Go.Proofs.YtccidoigjdbepaaDoor
