
/- Contracts: law18's few, ref18.Join. -/
import Derived.Test.YtolmejmmbdclfaaSumB
namespace Go.Proofs.Ytolmejmmbdclfaa
open Go.RowKit

theorem run_append_nil {P : Program} (w : World) (t ty e : TypeId) (i : TypeInfo) (ht : P.underlying t = some (.slice e)) (hi : P.info? e = some i) (A : Option Addr) (n cap c' : Nat) (h : n ≤ cap) :
    (Builtin.append_ #[t, t] ty #[.slice A n cap, .slice none 0 c']).run P w = .ok (.slice A n cap) w := by
  cases A <;> simp [Builtin.append_, run_underlying ht, sizeOf, typeInfo, hi, h, Builtin.lenOf, run_firstCells_none, storeCells]

set_option maxRecDepth 100000 in
/-- Bytes appended to a row of the call's own, all of a slice, be it nil. -/
theorem wpList_appAny {ops : Array Oper} {rest : List Oper} {o : Oper} {a : Act} {Q : Exit → Act → World → Prop} (w : World) (hgd : o.guard = none) (s x : Operand)
    (ho : o.op = .call { callee := .builtin .append, args := #[s, x], argTypes := #[25, 25] })
    (base : Nat) (v : Value) (n : Nat) (l : List UInt8) (hs : a.eval s = v) (hown : Own w base v n l)
    (A : Option Addr) (m c' B : Nat) (k : List UInt8) (hx : a.eval x = .slice A m c') (hk : Shows w B A m k)
    (h63 : n + m ≤ 1000000) (hbase : base ≤ w.heap.size)
    (h : ∀ v' w', Own w' base v' (n + m) (l ++ k) → w.grownBy w' v.ownBlock → wpList Try.prog ops Q rest (a.put o.dst v') w') : wpList Try.prog ops Q (o :: rest) a w := by
  cases A with
  | some ad => exact wpList_appAll w hgd s x ho base v n l hs hown ad m c' B k hx hk h63 hbase h
  | none =>
    have hm : m = 0 := by
      rcases Nat.eq_zero_or_pos m with h0 | h0
      · exact h0
      · obtain ⟨_, _, e, _⟩ := hk.2 h0
        cases e
    subst hm
    obtain rfl : k = [] := List.eq_nil_of_length_eq_zero hk.len
    obtain ⟨A', c2, rfl, hnc, _, _⟩ := hown.shows
    obtain ⟨i, hi, _⟩ := info_parts Try.infoU8
    refine wpList_plain hgd fun _ hK => ?_
    have hr := run_append_nil (P := Try.prog) w 25 o.type 5 i Try.underlying25 hi A' n c2 c' hnc
    unfold Oper.wp execOp
    simp only [ho, resolve, invoke, builtin, Sem.run_bind, Sem.run_pure, Result.andThen_ok, List.map_toArray, List.map_cons, List.map_nil, hs, hx, hr]
    exact hK _ _ (h _ _ (by simpa using hown) ⟨rfl, rfl, rfl, Nat.le_refl _, fun _ _ _ => rfl⟩)

theorem few_yes (A : Option Addr) (n c : Nat) (L : List Part) (w : World) (hn : n ≤ 20) (h : Sh pv w w.heap.size A n L) (hp : ∀ p ∈ L, p.n ≤ 200) :
    Calls Try.prog 10 #[.slice A n c] w fun e w' => e = .returned (.bool true) ∧ w = w' := by
  go_enter Try.func10, Try.ntmps10
  go_wp2
  go_loop [3] (fun i => ∃ k : Nat, k ≤ n ∧ i = .int .i64 k) (fun i => n - (intOf i).toNat)
  case atStart => exact ⟨0, Nat.zero_le _, rfl⟩
  case round =>
    obtain ⟨k, hk, rfl⟩ := hrel
    by_cases hlt : k < n
    · obtain ⟨b, off, q, rfl, hb, hc, hq⟩ := h.elem hlt
      have hqn := hp q (List.mem_of_getElem? hq)
      obtain ⟨qA, qn, qc, ql⟩ := q
      simp only [pv] at hc hqn
      clear hq h hp
      go_wp2
      go_round
      case rel => exact ⟨k + 1, by omega, by go_num⟩
      case measure => simp [intOf] <;> omega
    · obtain rfl : k = n := by omega
      go_wp2
      go_ret
      exact ⟨rfl, rfl⟩

theorem few_many (A : Option Addr) (n c : Nat) (w : World) (hn : 20 < n) (hm : n ≤ 9223372036854775807) :
    Calls Try.prog 10 #[.slice A n c] w fun e w' => e = .returned (.bool false) ∧ w = w' := by
  go_enter Try.func10, Try.ntmps10
  go_wp2
  go_ret
  exact ⟨rfl, rfl⟩

/-- The first of parts that is long. -/
theorem first_long : ∀ (L : List Part), (∀ p ∈ L, p.n ≤ 200) ∨ ∃ (K : Nat) (p : Part), L[K]? = some p ∧ 200 < p.n ∧ ∀ j, j < K → ∀ q, L[j]? = some q → q.n ≤ 200
  | [] => .inl fun p hp => by cases hp
  | p :: t => by
    by_cases h : p.n ≤ 200
    · rcases first_long t with h1 | ⟨K, q, h1, h2, h3⟩
      · exact .inl fun x hx => by
          rcases List.mem_cons.1 hx with rfl | hx
          · exact h
          · exact h1 x hx
      · refine .inr ⟨K + 1, q, by simpa using h1, h2, fun j hj x hx => ?_⟩
        match j with
        | 0 => simp at hx; subst hx; exact h
        | j + 1 => exact h3 j (by omega) x (by simpa using hx)
    · exact .inr ⟨0, p, rfl, by omega, fun j hj => absurd hj (by omega)⟩

theorem few_long (A : Option Addr) (n c : Nat) (L : List Part) (w : World) (hn : n ≤ 20) (h : Sh pv w w.heap.size A n L) (K : Nat) (p : Part) (hK : L[K]? = some p) (hp : 200 < p.n) (hm : ∀ q ∈ L, q.n ≤ 9223372036854775807) (hlow : ∀ j, j < K → ∀ q, L[j]? = some q → q.n ≤ 200) :
    Calls Try.prog 10 #[.slice A n c] w fun e w' => e = .returned (.bool false) ∧ w = w' := by
  have hKn : K < n := by have := (List.getElem?_eq_some_iff.1 hK).1; rw [h.len] at this; exact this
  go_enter Try.func10, Try.ntmps10
  go_wp2
  go_loop [3] (fun i => ∃ k : Nat, k ≤ K ∧ i = .int .i64 k) (fun i => K - (intOf i).toNat)
  case atStart => exact ⟨0, Nat.zero_le _, rfl⟩
  case round =>
    obtain ⟨k, hk, rfl⟩ := hrel
    obtain ⟨b, off, q, rfl, hb, hc, hq⟩ := h.elem (show k < n by omega)
    have hqm := hm q (List.mem_of_getElem? hq)
    by_cases hlt : k < K
    · have hqn := hlow k hlt q hq
      obtain ⟨qA, qn, qc, ql⟩ := q
      simp only [pv] at hc hqn
      clear hq h hp hlow hm hqm hK
      go_wp2
      go_round
      case rel => exact ⟨k + 1, by omega, by go_num⟩
      case measure => simp [intOf] <;> omega
    · obtain rfl : k = K := by omega
      obtain rfl : q = p := by rw [hq] at hK; injection hK
      obtain ⟨qA, qn, qc, ql⟩ := q
      simp only [pv] at hc hp hqm
      clear hq h hlow hm hK
      go_wp2
      go_ret
      exact ⟨rfl, rfl⟩

theorem join_any (A : Option Addr) (n c : Nat) (L : List Part) (w : World) (hn : n ≤ 1000000) (hN : (joinP L).length ≤ 1000000) (h : Parts w w.heap.size A n L) :
    Calls Try.prog 12 #[.slice A n c] w fun e w' => ∃ v m, e = .returned v ∧ m = (joinP L).length ∧ Own w' w.heap.size v m (joinP L) ∧ Below w.heap.size w w' := by
  obtain ⟨hS, hP⟩ := h
  have hl := hS.len
  go_enter Try.func12, Try.ntmps12
  go_wp2
  go_loopw [3, 4] (fun v i wr => ∃ k m : Nat, k ≤ n ∧ i = .int .i64 k ∧ m = (joinP (L.take k)).length ∧ Own wr w.heap.size v m (joinP (L.take k)) ∧ Below w.heap.size w wr) (fun _ i _ => n - (intOf i).toNat)
  case atStart => exact ⟨0, 0, Nat.zero_le _, rfl, rfl, World.ownsRow_nil _ _ _ _, Below.refl _ _⟩
  case round =>
    obtain ⟨k, m, hk, rfl, hm, hown, hbel⟩ := hrel
    have Hm := Lib.hid hm
    clear hm
    by_cases hlt : k < n
    · obtain ⟨b, off, q, rfl, hb, hc, hq⟩ := (hS.below hbel).elem hlt
      have hsh := (hP q (List.mem_of_getElem? hq)).below hbel
      have hql := hsh.len
      have HJ := Lib.hid (joinP_succ L k q hq)
      have hJle := Nat.le_trans (joinP_le L (k + 1)) hN
      rw [HJ.out, List.length_append, hql, ← Hm.out] at hJle
      obtain ⟨qA, qn, qc, ql⟩ := q
      simp only [pv] at hc
      simp only at hsh hql hJle HJ
      have hsz := hbel.size
      clear hq hS hP
      go_wp2_with (at_builtin; refine wpList_appAny _ rfl _ _ rfl w.heap.size _ _ _ rfl hown qA qn qc _ ql rfl hsh hJle hsz ?_)
      intro v' w2 hown' hgrow
      have hb2 : Below w.heap.size w w2 := hbel.grown hgrow hsz (fun g hg => (hown.lt g hg).1)
      clear hown hbel hgrow hsh
      go_wp2
      go_roundw
      case rel => exact ⟨k + 1, m + qn, by omega, by go_num, by rw [HJ.out, List.length_append, hql, ← Hm.out], by rw [HJ.out]; exact hown', hb2⟩
      case measure => simp [intOf] <;> omega
    · obtain rfl : k = n := by omega
      have hfull : L.take k = L := List.take_of_length_le (by omega)
      rw [hfull] at hown Hm
      go_wp2
      go_ret
      exact ⟨_, m, rfl, Hm.out, hown, hbel⟩

end Go.Proofs.Ytolmejmmbdclfaa
