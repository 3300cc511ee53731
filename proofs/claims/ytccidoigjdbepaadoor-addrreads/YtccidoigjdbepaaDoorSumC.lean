
/- Contracts: law18's few, ref18.Join. -/
import Derived.Test.YtccidoigjdbepaaDoorSumB
namespace Go.Proofs.YtccidoigjdbepaaDoor
open Go.RowKit
set_option maxRecDepth 100000

theorem run_append_nil {P : Program} (w : World) (t ty e : TypeId) (i : TypeInfo) (ht : P.underlying t = some (.slice e)) (hi : P.info? e = some i) (A : Option Addr) (n cap c' : Nat) (h : n ≤ cap) :
    (Builtin.append_ #[t, t] ty #[.slice A n cap, .slice none 0 c']).run P w = .ok (.slice A n cap) w := by
  cases A <;> simp [Builtin.append_, run_underlying ht, sizeOf, typeInfo, hi, h, Builtin.lenOf, run_firstCells_none, storeCells]

set_option maxRecDepth 100000 in
/-- Bytes appended to a row of the call's own, all of a slice, be it nil. -/
theorem wpList_appAny {ops : Array Oper} {rest : List Oper} {o : Oper} {a : Act} {Q : Exit → Act → World → Prop} (w : World) (hgd : o.guard = none) (s x : Operand)
    (ho : o.op = .call { callee := .builtin .append, args := #[s, x], argTypes := #[26, 26] })
    (base : Nat) (v : Value) (n : Nat) (l : List UInt8) (hs : a.eval s = v) (hown : Own w base v n l)
    (A : Option Addr) (m c' B : Nat) (k : List UInt8) (hx : a.eval x = .slice A m c') (hk : Shows w B A m k)
    (h63 : n + m ≤ 1000000) (hbase : base ≤ w.heap.size)
    (h : ∀ v' w', Own w' base v' (n + m) (l ++ k) → w.grownBy w' v.ownBlock → wpList Tryd.prog ops Q rest (a.put o.dst v') w') : wpList Tryd.prog ops Q (o :: rest) a w := by
  cases A with
  | some ad => exact wpList_appAll w hgd s x ho base v n l hs hown ad m c' B k hx hk h63 hbase h
  | none =>
    have hm : m = 0 := by
      rcases Nat.eq_zero_or_pos m with h0 | h0
      · exact h0
      · obtain ⟨_, _, e, _⟩ := hk.2 h0
        cases e
    subst hm
    obtain rfl : k = [] := List.eq_nil_of_length_eq_zero hk.len
    obtain ⟨A', c2, rfl, hnc, _, _⟩ := hown.shows
    obtain ⟨i, hi, _⟩ := info_parts Tryd.infoU8
    refine wpList_plain hgd fun _ hK => ?_
    have hr := run_append_nil (P := Tryd.prog) w 26 o.type 5 i Tryd.underlying26 hi A' n c2 c' hnc
    unfold Oper.wp execOp
    simp only [ho, resolve, invoke, builtin, Sem.run_bind, Sem.run_pure, Result.andThen_ok, List.map_toArray, List.map_cons, List.map_nil, hs, hx, hr]
    exact hK _ _ (h _ _ (by simpa using hown) ⟨rfl, rfl, rfl, Nat.le_refl _, fun _ _ _ => rfl⟩)

/-- The first of parts that is long. -/
theorem first_long : ∀ (L : List Part), (∀ p ∈ L, p.n ≤ 200) ∨ ∃ (K : Nat) (p : Part), L[K]? = some p ∧ 200 < p.n ∧ ∀ j, j < K → ∀ q, L[j]? = some q → q.n ≤ 200
  | [] => .inl fun p hp => by cases hp
  | p :: t => by
    by_cases h : p.n ≤ 200
    · rcases first_long t with h1 | ⟨K, q, h1, h2, h3⟩
      · exact .inl fun x hx => by
          rcases List.mem_cons.1 hx with rfl | hx
          · exact h
          · exact h1 x hx
      · refine .inr ⟨K + 1, q, by simpa using h1, h2, fun j hj x hx => ?_⟩
        match j with
        | 0 => simp at hx; subst hx; exact h
        | j + 1 => exact h3 j (by omega) x (by simpa using hx)
    · exact .inr ⟨0, p, rfl, by omega, fun j hj => absurd hj (by omega)⟩

end Go.Proofs.YtccidoigjdbepaaDoor
