
/- Out of the texts ClH, ClI, ClJ, ClK, ClL, ClM. -/
import Derived.Test.YtccidoigjdbepaaDoorZCla
import Derived.Test.YtccidoigjdbepaaDoorZHex
import Derived.Test.YtccidoigjdbepaaDoorZQd
import Derived.Deep.RegionLaw
import Derived.Lib.IndexMore
import Derived.Laws.CopyOwn
/- ClH -/
namespace Go.Proofs.YtccidoigjdbepaaDoor.Cl
open Go.RowKit Lin
set_option maxRecDepth 100000
set_option linter.unusedVariables false

open Classical in
/-- The number of a part, if it is a group. -/
noncomputable def gV (x : List UInt8) : Option Nat := if 1 ≤ x.length ∧ x.length ≤ 4 ∧ Hex.AllGood x then some (Hex.grpVal x) else none
theorem gV_some (x : List UInt8) (n : Nat) (h : gV x = some n) : 1 ≤ x.length ∧ x.length ≤ 4 ∧ Hex.AllGood x ∧ n = Hex.grpVal x ∧ n < 65536 := by
  unfold gV at h
  split at h
  · next hc =>
    injection h with h
    refine ⟨hc.1, hc.2.1, hc.2.2, h.symm, ?_⟩
    have := Hex.grpVal_lt x x.length (Nat.le_refl _)
    rw [List.take_length] at this
    have h2 : 16 ^ x.length ≤ 16 ^ 4 := Nat.pow_le_pow_right (by omega) hc.2.1
    omega
  · cases h
theorem gV_none (x : List UInt8) (h : gV x = none) : (x.length < 1 ∨ 4 < x.length) ∨ (1 ≤ x.length ∧ x.length ≤ 4 ∧ ∃ K, Hex.FirstBad x K) := by
  unfold gV at h
  split at h
  · cases h
  · next hc =>
    rcases Hex.good_or_bad x with hg | hb
    · left
      by_cases h1 : x.length < 1
      · exact .inl h1
      · right
        rcases Nat.lt_or_ge 4 x.length with h4 | h4
        · exact h4
        · exact absurd ⟨by omega, h4, hg⟩ hc
    · by_cases h1 : x.length < 1 ∨ 4 < x.length
      · exact .inl h1
      · exact .inr ⟨by omega, by omega, hb⟩
theorem rg_some (x : List UInt8) (n : Nat) (h : gV x = some n) (w : World) :
    Calls Tryd.prog 105 #[sv x] w fun e w' => e = .returned (.tuple #[.int .u16 (n : Int), .int .i64 0]) ∧ w = w' := by
  obtain ⟨h1, h4, hg, rfl, _⟩ := gV_some x n h
  exact Hex.readGroup_good ⟨⟨x⟩⟩ w h1 h4 hg
theorem rg_none (x : List UInt8) (h : gV x = none) (hn : x.length ≤ 1000000) (w : World) :
    Calls Tryd.prog 105 #[sv x] w fun e w' => e = .returned (.tuple #[.int .u16 0, .int .i64 5]) ∧ w = w' := by
  rcases gV_none x h with hl | ⟨h1, h4, K, hK⟩
  · exact Hex.readGroup_len ⟨⟨x⟩⟩ w hl hn
  · exact Hex.readGroup_bad ⟨⟨x⟩⟩ K w h1 h4 hK
theorem rrg_some (x : List UInt8) (n : Nat) (h : gV x = some n) (w : World) :
    Calls Tryd.prog 106 #[sv x] w fun e w' => e = .returned (.int .i64 (n : Int)) ∧ w = w' := by
  obtain ⟨h1, h4, hg, rfl, _⟩ := gV_some x n h
  exact Hex.refReadGroup_good ⟨⟨x⟩⟩ w h1 h4 hg
theorem rrg_none (x : List UInt8) (h : gV x = none) (hn : x.length ≤ 1000000) (w : World) :
    Calls Tryd.prog 106 #[sv x] w fun e w' => e = .returned (.int .i64 (-1)) ∧ w = w' := by
  rcases gV_none x h with hl | ⟨h1, h4, K, hK⟩
  · exact Hex.refReadGroup_len ⟨⟨x⟩⟩ w hl hn
  · exact Hex.refReadGroup_bad ⟨⟨x⟩⟩ K w h1 h4 hK

/-- A byte of a quad; its two groups. -/
noncomputable def qb (x : List UInt8) (i : Nat) : UInt8 := (Qd.qB x).getD i 0
noncomputable def qs (x : List UInt8) : List Nat := [256 * (qb x 0).toNat + (qb x 1).toNat, 256 * (qb x 2).toNat + (qb x 3).toNat]
theorem qB_qb (x : List UInt8) : Qd.qB x = [qb x 0, qb x 1, qb x 2, qb x 3] := by
  have h : ∃ a b c d, Qd.qB x = [a, b, c, d] := by
    by_cases h4 : (parts 46 x).length = 4
    · obtain ⟨a, b, c, d, e⟩ := Qd.len_four _ h4
      rw [(Qd.q_four x a b c d e).2]
      split
      · exact ⟨_, _, _, _, rfl⟩
      · exact ⟨_, _, _, _, rfl⟩
    · exact ⟨_, _, _, _, (Qd.q_not x h4).2⟩
  obtain ⟨a, b, c, d, e⟩ := h
  unfold qb
  rw [e]
  rfl
theorem qs_lt (x : List UInt8) : ∀ n ∈ qs x, n < 65536 := by
  intro n hn
  have h0 := (qb x 0).toNat_lt
  have h1 := (qb x 1).toNat_lt
  have h2 := (qb x 2).toNat_lt
  have h3 := (qb x 3).toNat_lt
  rcases List.mem_cons.1 hn with rfl | hn
  · omega
  · rcases List.mem_cons.1 hn with rfl | hn
    · omega
    · cases hn

/-- The groups of a row of parts, if it is one. -/
noncomputable def rdRow (last : Bool) : List (List UInt8) → Option (List Nat)
  | [] => some []
  | p :: ps => match gV p with
    | some n => (rdRow last ps).map (n :: ·)
    | none => if Qd.qE p = 0 ∧ last = true ∧ ps = [] then some (qs p) else none
/-- The groups of a text without a gap. -/
noncomputable def rdS (last : Bool) (l : List UInt8) : Option (List Nat) := if l = [] then some [] else rdRow last (parts 58 l)
theorem rd_group {last : Bool} {P : List (List UInt8)} {done : List Nat} {k n : Nat} {x : List UInt8} (h : rdRow last P = (rdRow last (P.drop k)).map (done ++ ·)) (hx : P[k]? = some x) (hv : gV x = some n) :
    rdRow last P = (rdRow last (P.drop (k + 1))).map ((done ++ [n]) ++ ·) := by
  obtain ⟨hk, rfl⟩ := List.getElem?_eq_some_iff.1 hx
  rw [h, List.drop_eq_getElem_cons hk, rdRow, hv]
  simp only [Option.map_map]
  congr 1
  funext y
  simp
theorem rd_quad {last : Bool} {P : List (List UInt8)} {done : List Nat} {k : Nat} {x : List UInt8} (h : rdRow last P = (rdRow last (P.drop k)).map (done ++ ·)) (hx : P[k]? = some x) (hv : gV x = none) :
    rdRow last P = if Qd.qE x = 0 ∧ last = true ∧ k + 1 = P.length then some (done ++ qs x) else none := by
  obtain ⟨hk, rfl⟩ := List.getElem?_eq_some_iff.1 hx
  have e : (P.drop (k + 1) = []) = (k + 1 = P.length) := by rw [List.drop_eq_nil_iff]; apply propext; omega
  rw [h, List.drop_eq_getElem_cons hk, rdRow, hv]
  simp only [e]
  split <;> rfl
theorem rd_end {last : Bool} {P : List (List UInt8)} {done : List Nat} {k : Nat} (h : rdRow last P = (rdRow last (P.drop k)).map (done ++ ·)) (hk : P.length ≤ k) : rdRow last P = some done := by
  rw [h, List.drop_of_length_le hk, rdRow]
  simp
theorem rdRow_lt (last : Bool) (P : List (List UInt8)) (L : List Nat) (h : rdRow last P = some L) : (∀ n ∈ L, n < 65536) ∧ L.length ≤ P.length + 1 := by
  induction P generalizing L with
  | nil => rw [rdRow] at h; injection h with h; subst h; exact ⟨fun n hn => (List.not_mem_nil hn).elim, by simp⟩
  | cons p ps ih =>
    rw [rdRow] at h
    split at h
    · next n hn =>
      match hr : rdRow last ps, h with
      | some L', h =>
        simp only [Option.map_some, Option.some.injEq] at h
        subst h
        obtain ⟨i1, i2⟩ := ih L' hr
        refine ⟨fun m hm => ?_, by simp only [List.length_cons]; omega⟩
        rcases List.mem_cons.1 hm with rfl | hm
        · exact (gV_some p _ hn).2.2.2.2
        · exact i1 m hm
      | none, h => simp at h
    · split at h
      · injection h with h
        subst h
        exact ⟨qs_lt p, by simp [qs]⟩
      · cases h
theorem part_len58 (l : List UInt8) (N : Nat) (hn : l.length ≤ N) : ∀ x ∈ parts 58 l, x.length ≤ N := by
  have h : ∀ l : List UInt8, ∀ x ∈ parts 58 l, x.length ≤ l.length := by
    intro l
    induction l with
    | nil => intro x hx; simp [parts] at hx; subst hx; simp
    | cons c t ih =>
      intro x hx
      unfold parts at hx
      split at hx
      · rcases List.mem_cons.1 hx with h | h
        · subst h; simp
        · have := ih x h; simp; omega
      · obtain ⟨a, b, e⟩ := parts_ne 58 t
        rw [e] at hx
        simp only at hx
        rcases List.mem_cons.1 hx with h | h
        · subst h
          have := ih a (by rw [e]; simp)
          simp; omega
        · have := ih x (by rw [e]; simp [h]); simp; omega
  intro x hx
  exact Nat.le_trans (h l x hx) hn
theorem parts58 (l : List UInt8) (w : World) (hn : l.length ≤ 1000000) :
    Calls Tryd.prog 88 #[sv l, .int .u8 58] w fun e w' => (∃ v, e = .returned v ∧ OwnS w' w.heap.size v (parts 58 l).length (parts 58 l)) ∧ Below w.heap.size w w' := parts_any l 58 w hn
theorem refParts58 (l : List UInt8) (w : World) (hn : l.length ≤ 1000000) :
    Calls Tryd.prog 63 #[sv l, .int .u8 58] w fun e w' => (∃ v, e = .returned v ∧ OwnS w' w.heap.size v (parts 58 l).length (parts 58 l)) ∧ Below w.heap.size w w' := refParts_any l 58 w hn

theorem Tryd.infoU16 : (Tryd.prog.info? 94).map (fun i => (i.zero, i.size, i.bytes)) = some (some (.int .u16 0), 1, 2) := by kernel_rfl
theorem Tryd.infoI64 : (Tryd.prog.info? 3).map (fun i => (i.zero, i.size, i.bytes)) = some (some (.int .i64 0), 1, 8) := by kernel_rfl
end Go.Proofs.YtccidoigjdbepaaDoor.Cl

/- ClI -/
namespace Go.Proofs.YtccidoigjdbepaaDoor.Cl
open Go.RowKit Lin
set_option maxRecDepth 100000
set_option linter.unusedVariables false

/-- What a reading of groups gives. -/
def GivesG (f : Nat → Value) (e : TypeId) (yes no : Value) (R : Option (List Nat)) (w : World) (x : Ending) (w' : World) : Prop :=
  ((∃ L v, R = some L ∧ x = .returned (.tuple #[v, yes]) ∧ GOwn f e w' w.heap.size v L.length L) ∨ (R = none ∧ x = .returned (.tuple #[.slice none 0 0, no]))) ∧ Below w.heap.size w w'

theorem wpList_appi {ops : Array Oper} {rest : List Oper} {o : Oper} {a : Act} {Q : Exit → Act → World → Prop} (w : World) (hgd : o.guard = none) (s x : Operand)
    (ho : o.op = .call { callee := .builtin .append, args := #[s, x], argTypes := #[111, 111] })
    (base : Nat) (v : Value) (n : Nat) (l : List Nat) (hs : a.eval s = v) (hown : GOwn i64v 3 w base v n l)
    (ad : Addr) (c' : Nat) (c : Nat) (hx : a.eval x = .slice (some ad) 1 c') (hc : w.cell? ad = some (i64v c))
    (h63 : n + 1 ≤ 1000000000) (hbase : base ≤ w.heap.size)
    (h : ∀ v' w', GOwn i64v 3 w' base v' (n + 1) (l ++ [c]) → w.grownBy w' v.ownBlock → wpList Tryd.prog ops Q rest (a.put o.dst v') w') : wpList Tryd.prog ops Q (o :: rest) a w :=
  wpList_gapp1 i64v w hgd s x 111 3 (.int .i64 0) 8 ho Tryd.underlying111 Tryd.infoI64 rfl base v n l hs hown ad c' c hx hc rfl (by omega) (by omega) hbase h

theorem two_new (w : World) (u v : Value) (t : TypeId) (g : Nat) (hg : g = w.heap.size) : (w.alloc (.cells #[u, v] t)).cell? ⟨g, 0, none⟩ = some u ∧ (w.alloc (.cells #[u, v] t)).cell? ⟨g, 1, none⟩ = some v := by
  subst hg
  exact ⟨World.cell?_alloc_at (hn := rfl) .., World.cell?_alloc_at (hn := rfl) ..⟩
/-- Two elements appended to a row of the call's own. -/
theorem wpList_gapp2 {α : Type} (f : α → Value) {P : Program} (w : World) {ops : Array Oper} {rest : List Oper} {o : Oper} {a : Act} {Q : Exit → Act → World → Prop} (hgd : o.guard = none) (s x : Operand)
    (t e : TypeId) (z : Value) (bts : Nat) (ho : o.op = .call { callee := .builtin .append, args := #[s, x], argTypes := #[t, t] })
    (ht : P.underlying t = some (.slice e)) (hinfo : (P.info? e).map (fun i => (i.zero, i.size, i.bytes)) = some (some z, 1, bts)) (hz1 : z.cells.size = 1)
    (base : Nat) (v : Value) (n : Nat) (l : List α) (hs : a.eval s = v) (hown : GOwn f e w base v n l)
    (g : Nat) (c' : Nat) (c d : α) (hx : a.eval x = .slice (some ⟨g, 0, none⟩) 2 c') (hc : w.cell? ⟨g, 0, none⟩ = some (f c) ∧ w.cell? ⟨g, 1, none⟩ = some (f d)) (h1c : (f c).oneCell' = true) (h1d : (f d).oneCell' = true)
    (h63 : (n + 2) * bts ≤ 140737488355328) (h63' : n + 2 ≤ 140737488355328) (hbase : base ≤ w.heap.size)
    (h : ∀ v' w', GOwn f e w' base v' (n + 2) (l ++ [c, d]) → w.grownBy w' v.ownBlock → wpList P ops Q rest (a.put o.dst v') w') : wpList P ops Q (o :: rest) a w := by
  obtain ⟨i, hi, hz, hsz, hby⟩ := info_parts hinfo
  refine wpList_append_own w hgd s x t ho base e i z 1 bts ht hi hz hsz hby hz1 (by decide) v n _ hs hown ⟨g, 0, none⟩ 2 c' [f c, f d] hx rfl ?_ ?_ (by simp only [maxLen]; omega) h63 hbase ?_
  · intro j u hj
    match j, hj with
    | 0, hj => simp at hj; subst hj; simpa [Addr.add] using hc.1
    | 1, hj => simp at hj; subst hj; simpa [Addr.add] using hc.2
  · intro u hu
    simp at hu
    rcases hu with rfl | rfl
    · exact h1c
    · exact h1d
  · intro v' w' h2 h3 _
    exact h v' w' (by unfold GOwn; simpa using h2) h3
theorem wpList_appi2 {ops : Array Oper} {rest : List Oper} {o : Oper} {a : Act} {Q : Exit → Act → World → Prop} (w : World) (hgd : o.guard = none) (s x : Operand)
    (ho : o.op = .call { callee := .builtin .append, args := #[s, x], argTypes := #[111, 111] })
    (base : Nat) (v : Value) (n : Nat) (l : List Nat) (hs : a.eval s = v) (hown : GOwn i64v 3 w base v n l)
    (g : Nat) (c' : Nat) (c d : Nat) (hx : a.eval x = .slice (some ⟨g, 0, none⟩) 2 c') (hc : w.cell? ⟨g, 0, none⟩ = some (i64v c) ∧ w.cell? ⟨g, 1, none⟩ = some (i64v d))
    (h63 : n + 2 ≤ 1000000000) (hbase : base ≤ w.heap.size)
    (h : ∀ v' w', GOwn i64v 3 w' base v' (n + 2) (l ++ [c, d]) → w.grownBy w' v.ownBlock → wpList Tryd.prog ops Q rest (a.put o.dst v') w') : wpList Tryd.prog ops Q (o :: rest) a w :=
  wpList_gapp2 i64v w hgd s x 111 3 (.int .i64 0) 8 ho Tryd.underlying111 Tryd.infoI64 rfl base v n l hs hown g c' c d hx hc rfl rfl (by omega) (by omega) hbase h

theorem own_base {w : World} {base base' : Nat} {e : TypeId} {size : Nat} {v : Value} {n : Nat} {xs : List Value} (h : w.ownsRow base e size v n xs) (hb : base' ≤ base) : w.ownsRow base' e size v n xs := by
  refine ⟨h.1, h.2.imp id ?_⟩
  rintro ⟨g, cap, cur, e1, h1, r⟩
  exact ⟨g, cap, cur, e1, Nat.le_trans hb h1, r⟩

theorem own_keep2 {w w' : World} {base : Nat} {e : TypeId} {size : Nat} {v : Value} {n : Nat} {xs : List Value} (h : w.ownsRow base e size v n xs) (hb : Below w.heap.size w w') : w'.ownsRow base e size v n xs := Qd.own_below h hb
theorem qs_nums (x : List UInt8) : qs x = [256 * (qb x 0).toNat + (qb x 1).toNat, 256 * (qb x 2).toNat + (qb x 3).toNat] := rfl
theorem refquad_any (x : List UInt8) (hn : x.length ≤ 1000000) (w : World) :
    Calls Tryd.prog 65 #[sv x] w fun e w' => e = .returned (.tuple #[.agg #[.int .u8 ((qb x 0).toNat : Int), .int .u8 ((qb x 1).toNat : Int), .int .u8 ((qb x 2).toNat : Int), .int .u8 ((qb x 3).toNat : Int)], .int .i64 (Qd.qE x : Int)]) ∧ Below w.heap.size w w' := by
  have := Qd.refqparse_any x w hn
  rw [qB_qb] at this
  exact this
theorem quad_any (x : List UInt8) (hn : x.length ≤ 1000000) (w : World) :
    Calls Tryd.prog 62 #[sv x] w fun e w' => e = .returned (.tuple #[.agg #[.int .u8 ((qb x 0).toNat : Int), .int .u8 ((qb x 1).toNat : Int), .int .u8 ((qb x 2).toNat : Int), .int .u8 ((qb x 3).toNat : Int)], .int .i64 (Qd.qE x : Int)]) ∧ Below w.heap.size w w' := by
  have := Qd.qparse_any x w hn
  rw [qB_qb] at this
  exact this

set_option maxHeartbeats 2000000 in
theorem refList_any (l : List UInt8) (last : Bool) (w : World) (hn : l.length ≤ 1000000) :
    Calls Tryd.prog 90 #[sv l, .bool last] w (GivesG i64v 3 (.bool true) (.bool false) (rdS last l) w) := by
  have HP := Lib.hid (fun W => refParts58 l W hn)
  have Hpl := Lib.hid (parts_len 58 l)
  have HXl := Lib.hid (part_len58 l 1000000 hn)
  by_cases hnil : l = []
  · have e : rdS last l = some [] := if_pos hnil
    rw [e]
    subst hnil
    go_enter Tryd.func90, Tryd.ntmps90
    go_wp2
    go_ret2
    exact ⟨.inl ⟨[], _, rfl, rfl, World.ownsRow_nil _ _ _ _⟩, Below.refl _ _⟩
  have e : rdS last l = rdRow last (parts 58 l) := if_neg hnil
  rw [e]
  have hne : (ByteArray.mk ⟨l⟩).toList.isEmpty = false := by simp; exact hnil
  unfold sv at HP ⊢
  clear e hnil
  generalize ByteArray.mk ⟨l⟩ = s at *
  generalize hP : parts 58 l = P at *
  have hpl : P.length ≤ 1000001 := by have := Hpl.out; omega
  clear hP Hpl hn
  have hQ4 : (Tryd.prog.info? 37).map (fun i => (i.zero, i.size)) = some (some (.agg #[bv 0, bv 0, bv 0, bv 0]), 4) := by kernel_rfl
  go_enter Tryd.func90, Tryd.ntmps90
  go_wp2_with fail
  refine (HP.out _).mono ?_; rintro e w1 ⟨⟨v, rfl, ho⟩, hb1⟩
  obtain ⟨A1, c1, rfl, hc1, hc2, hs0⟩ := GOwn.sh ho
  have hsz1 := hb1.size
  clear ho
  obtain ⟨N, hN⟩ : ∃ N, P.length = N := ⟨_, rfl⟩
  rw [hN] at hs0 hc1 hpl ⊢
  have HN := Lib.hid hN
  clear hN
  have hwN : IntKind.i64.wrap ((N : Int) - 1) = (N : Int) - 1 := IntWalk.i64_in _ (by omega)
  go_wp2
  go_loopw [6, 8] (fun v i wr => ∃ (k : Nat) (done : List Nat), k ≤ N ∧ done.length ≤ k + 1 ∧ Hid (k < N → done.length ≤ k) ∧ i = .int .i64 (k : Int) ∧ Hid (rdRow last P = (rdRow last (P.drop k)).map (done ++ ·)) ∧ GOwn i64v 3 wr w1.heap.size v done.length done ∧ Below w1.heap.size w1 wr) (fun _ i _ => N - (intOf i).toNat)
  case atStart => exact ⟨0, [], Nat.zero_le _, Nat.zero_le _, Lib.hid (fun _ => Nat.zero_le _), rfl, Lib.hid (by simp), World.ownsRow_nil _ _ _ _, Below.refl _ _⟩
  case round =>
    obtain ⟨k, done, hk, hdl, hdk, rfl, hrd, hown, hbel⟩ := hrel
    have hbs := hbel.size
    by_cases hlt : k < N
    · obtain ⟨b, off, x, rfl, hb, hcell, hx⟩ := (hs0.below hbel).elem hlt
      have hxl := HXl.out x (List.mem_of_getElem? hx)
      cases hv : gV x with
      | some n =>
        have HC := Lib.hid (fun W => rrg_some x n hv W)
        have hn := (gV_some x n hv).2.2.2.2
        have HRd := Lib.hid (rd_group hrd.out hx hv)
        clear hx hxl hv
        unfold sv at hcell HC
        generalize ByteArray.mk ⟨x⟩ = X at *
        go_wp2_with fail
        refine (HC.out _).mono ?_; rintro e w2 ⟨rfl, hw2⟩
        subst hw2
        go_wp2_with (at_builtin; refine wpList_appi _ rfl _ _ rfl w1.heap.size _ _ _ rfl (hown.alloc _) ⟨wr.heap.size, 0, none⟩ 1 n rfl (one_new _ _ _ _ rfl) (by omega) (by simp; omega) ?_; intro v' w3 hown' hgrow)
        have b3 : Below w1.heap.size w1 w3 := by
          refine Below.grown ?_ hgrow ?_ (fun g hg => (hown.lt g hg).1)
          · exact hbel.alloc hbs _
          · simp; omega
        clear hgrow
        go_wp2
        go_roundw
        case rel => exact ⟨k + 1, done ++ [n], by omega, by simp; have := hdk.out hlt; omega, Lib.hid (fun _ => by simp; have := hdk.out hlt; omega), by go_num, HRd, by simpa using hown', b3⟩
        case measure => simp [intOf] <;> omega
      | none =>
        have HC := Lib.hid (fun W => rrg_none x hv hxl W)
        have HQ := Lib.hid (fun W => refquad_any x hxl W)
        have HRd := Lib.hid (rd_quad hrd.out hx hv)
        have HLen := Lib.hid (qs_nums x)
        clear hx hxl hv
        unfold sv at hcell HC HQ
        generalize Qd.qE x = E at *
        generalize qs x = QS at *
        generalize qb x 0 = q0 at *
        generalize qb x 1 = q1 at *
        generalize qb x 2 = q2 at *
        generalize qb x 3 = q3 at *
        have l0 := q0.toNat_lt
        have l1 := q1.toNat_lt
        have l2 := q2.toNat_lt
        have l3 := q3.toNat_lt
        generalize q0.toNat = n0 at *
        generalize q1.toNat = n1 at *
        generalize q2.toNat = n2 at *
        generalize q3.toNat = n3 at *
        generalize ByteArray.mk ⟨x⟩ = X at *
        go_wp2_with fail
        refine (HC.out _).mono ?_; rintro e w2 ⟨rfl, hw2⟩
        subst hw2
        go_wp2_with fail
        refine (HQ.out _).mono ?_; rintro e w3 ⟨rfl, hb3⟩
        have b3 := Below.on hbel hbs (by exact hb3)
        have b3s := b3.size
        have o3 := own_keep2 hown (by exact hb3)
        clear hb3 hown hbel
        have b4 := b3.alloc b3s (.cells #[.int .u8 n0, .int .u8 n1, .int .u8 n2, .int .u8 n3] 37)
        have o4 := o3.alloc (.cells #[.int .u8 n0, .int .u8 n1, .int .u8 n2, .int .u8 n3] 37)
        have k4 : Blk (w3.alloc (.cells #[.int .u8 n0, .int .u8 n1, .int .u8 n2, .int .u8 n3] 37)) w3.heap.size 37 #[.int .u8 n0, .int .u8 n1, .int .u8 n2, .int .u8 n3] := blk_new _ _ _
        have hE0 : (E = 0 ∧ ((E : Int) != 0) = false) ∨ (E ≠ 0 ∧ ((E : Int) != 0) = true) := by
          by_cases h : E = 0
          · exact .inl ⟨h, by simp [h]⟩
          · exact .inr ⟨h, by rw [bne_iff_ne]; omega⟩
        rcases hE0 with ⟨hE, hEb⟩ | ⟨hE, hEb⟩
        · cases last with
          | false =>
            have HR := Lib.hid (HRd.out.trans (if_neg (by simp)))
            go_wp2
            go_ret2
            exact ⟨.inr ⟨HR.out, rfl⟩, Below.on hb1 hsz1 b4⟩
          | true =>
            by_cases hlast : k + 1 = N
            · have HR := Lib.hid (HRd.out.trans (if_pos ⟨hE, rfl, by rw [HN.out]; exact hlast⟩))
              have v0 : IntKind.i64.wrap (256 * (n0 : Int)) = 256 * (n0 : Int) := IntWalk.i64_in _ (by omega)
              have v1 : IntKind.i64.wrap (256 * (n0 : Int) + (n1 : Int)) = ((256 * n0 + n1 : Nat) : Int) := by rw [IntWalk.i64_in _ (by omega)]; omega
              have v2 : IntKind.i64.wrap (256 * (n2 : Int)) = 256 * (n2 : Int) := IntWalk.i64_in _ (by omega)
              have v3 : IntKind.i64.wrap (256 * (n2 : Int) + (n3 : Int)) = ((256 * n2 + n3 : Nat) : Int) := by rw [IntWalk.i64_in _ (by omega)]; omega
              have hE1 := HLen.out
              subst hE1
              generalize 256 * n0 + n1 = g0 at *
              generalize 256 * n2 + n3 = g1 at *
              have hkI : ¬ (k : Int) < (N : Int) - 1 := by omega
              go_wp2_with (at_builtin; refine wpList_appi2 _ rfl _ _ rfl w1.heap.size _ _ _ rfl (o4.alloc _) _ 2 g0 g1 rfl (two_new _ _ _ _ _ (by simp)) (by omega) (by simp; omega) ?_; intro v' w5 hown' hgrow)
              have b5 : Below w1.heap.size w1 w5 := by
                refine Below.grown ?_ hgrow ?_ (fun g hg => (o4.lt g hg).1)
                · exact b4.alloc b4.size _
                · simp; omega
              clear hgrow
              go_wp2
              go_roundw
              case rel =>
                refine ⟨k + 1, done ++ [g0, g1], by omega, by simp; have := hdk.out hlt; omega, Lib.hid (fun h => absurd h (by omega)), by go_num, Lib.hid ?_, by simpa using hown', b5⟩
                rw [List.drop_of_length_le (by rw [HN.out]; omega), HR.out]
                simp [rdRow]
              case measure => simp [intOf] <;> omega
            · have HR := Lib.hid (HRd.out.trans (if_neg (by rw [HN.out]; simp; omega)))
              have hkI : (k : Int) < (N : Int) - 1 := by omega
              go_wp2
              go_ret2
              exact ⟨.inr ⟨HR.out, rfl⟩, Below.on hb1 hsz1 b4⟩
        · have HR := Lib.hid (HRd.out.trans (if_neg (fun h => hE h.1)))
          go_wp2
          go_ret2
          exact ⟨.inr ⟨HR.out, rfl⟩, Below.on hb1 hsz1 b4⟩
    · obtain rfl : k = N := by omega
      have HE := Lib.hid (rd_end hrd.out (Nat.le_of_eq HN.out))
      go_wp2
      go_ret2
      exact ⟨.inl ⟨done, _, HE.out, rfl, own_base hown hsz1⟩, Below.on hb1 hsz1 hbel⟩
end Go.Proofs.YtccidoigjdbepaaDoor.Cl

/- ClJ -/
namespace Go.Proofs.YtccidoigjdbepaaDoor.Cl
open Go.RowKit Lin
set_option maxRecDepth 100000
set_option linter.unusedVariables false

theorem wpList_appu {ops : Array Oper} {rest : List Oper} {o : Oper} {a : Act} {Q : Exit → Act → World → Prop} (w : World) (hgd : o.guard = none) (s x : Operand)
    (ho : o.op = .call { callee := .builtin .append, args := #[s, x], argTypes := #[100, 100] })
    (base : Nat) (v : Value) (n : Nat) (l : List Nat) (hs : a.eval s = v) (hown : GOwn u16v 94 w base v n l)
    (ad : Addr) (c' : Nat) (c : Nat) (hx : a.eval x = .slice (some ad) 1 c') (hc : w.cell? ad = some (u16v c))
    (h63 : n + 1 ≤ 1000000000) (hbase : base ≤ w.heap.size)
    (h : ∀ v' w', GOwn u16v 94 w' base v' (n + 1) (l ++ [c]) → w.grownBy w' v.ownBlock → wpList Tryd.prog ops Q rest (a.put o.dst v') w') : wpList Tryd.prog ops Q (o :: rest) a w :=
  wpList_gapp1 u16v w hgd s x 100 94 (.int .u16 0) 2 ho Tryd.underlying100 Tryd.infoU16 rfl base v n l hs hown ad c' c hx hc rfl (by omega) (by omega) hbase h
/-- Two of them, as one step of a region that draws its order. -/
theorem step_appu2 {ops : Array Oper} {o : Oper} {a : Act} {K : Act → World → Prop} {Q : Exit → Act → World → Prop} {E : Prop} (w : World) (hgd : o.guard = none) (s x : Operand)
    (ho : o.op = .call { callee := .builtin .append, args := #[s, x], argTypes := #[100, 100] })
    (base : Nat) (v : Value) (n : Nat) (l : List Nat) (hs : a.eval s = v) (hown : GOwn u16v 94 w base v n l)
    (g c' : Nat) (c d : Nat) (hx : a.eval x = .slice (some ⟨g, 0, none⟩) 2 c') (hc : w.cell? ⟨g, 0, none⟩ = some (u16v c) ∧ w.cell? ⟨g, 1, none⟩ = some (u16v d))
    (h63 : n + 2 ≤ 1000000000) (hbase : base ≤ w.heap.size)
    (h : ∀ v' w', GOwn u16v 94 w' base v' (n + 2) (l ++ [c, d]) → w.grownBy w' v.ownBlock → K (a.put o.dst v') w') :
    if Region.wanted o (yielded ops a.tmps) = true then Oper.wp Tryd.prog o a w K Q else E := by
  have hw : Region.wanted o (yielded ops a.tmps) = true := by simp [Region.wanted, hgd]
  rw [if_pos hw]
  obtain ⟨i, hi, hz, hsz, hby⟩ := info_parts Tryd.infoU16
  refine wp_append_own w s x 100 ho base 94 i (.int .u16 0) 1 2 Tryd.underlying100 hi hz hsz hby rfl (by decide) v n _ hs hown ⟨g, 0, none⟩ 2 c' [u16v c, u16v d] hx rfl ?_ ?_ (by simp only [maxLen]; omega) (by omega) hbase ?_
  · intro j u hj
    match j, hj with
    | 0, hj => simp at hj; subst hj; simpa [Addr.add] using hc.1
    | 1, hj => simp at hj; subst hj; simpa [Addr.add] using hc.2
  · intro u hu
    simp at hu
    rcases hu with rfl | rfl <;> rfl
  · intro v' w' h2 h3 _
    exact h v' w' (by unfold GOwn; simpa using h2) h3

set_option maxHeartbeats 2000000 in
theorem readGroups_any (l : List UInt8) (last : Bool) (w : World) (hn : l.length ≤ 1000000) :
    Calls Tryd.prog 86 #[sv l, .bool last] w (GivesG u16v 94 (.int .i64 0) (.int .i64 5) (rdS last l) w) := by
  have HP := Lib.hid (fun W => parts58 l W hn)
  have Hpl := Lib.hid (parts_len 58 l)
  have HXl := Lib.hid (part_len58 l 1000000 hn)
  by_cases hnil : l = []
  · have e : rdS last l = some [] := if_pos hnil
    rw [e]
    subst hnil
    go_enter Tryd.func86, Tryd.ntmps86
    go_wp2
    go_ret2
    exact ⟨.inl ⟨[], _, rfl, rfl, World.ownsRow_nil _ _ _ _⟩, Below.refl _ _⟩
  have e : rdS last l = rdRow last (parts 58 l) := if_neg hnil
  rw [e]
  have hne : (ByteArray.mk ⟨l⟩).toList.isEmpty = false := by simp; exact hnil
  unfold sv at HP ⊢
  clear e hnil
  generalize ByteArray.mk ⟨l⟩ = s at *
  generalize hP : parts 58 l = P at *
  have hpl : P.length ≤ 1000001 := by have := Hpl.out; omega
  clear hP Hpl hn
  have hQ4 : (Tryd.prog.info? 37).map (fun i => (i.zero, i.size)) = some (some (.agg #[bv 0, bv 0, bv 0, bv 0]), 4) := by kernel_rfl
  go_enter Tryd.func86, Tryd.ntmps86
  go_wp2_with fail
  refine (HP.out _).mono ?_; rintro e w1 ⟨⟨v, rfl, ho⟩, hb1⟩
  obtain ⟨A1, c1, rfl, hc1, hc2, hs0⟩ := GOwn.sh ho
  have hsz1 := hb1.size
  clear ho
  obtain ⟨N, hN⟩ : ∃ N, P.length = N := ⟨_, rfl⟩
  rw [hN] at hs0 hc1 hpl ⊢
  have HN := Lib.hid hN
  clear hN
  have hwN : IntKind.i64.wrap ((N : Int) - 1) = (N : Int) - 1 := IntWalk.i64_in _ (by omega)
  go_wp2
  go_loopw [8, 23] (fun v i wr => ∃ (k : Nat) (done : List Nat), k ≤ N ∧ done.length ≤ k + 1 ∧ Hid (k < N → done.length ≤ k) ∧ i = .int .i64 (k : Int) ∧ Hid (rdRow last P = (rdRow last (P.drop k)).map (done ++ ·)) ∧ GOwn u16v 94 wr w1.heap.size v done.length done ∧ Below w1.heap.size w1 wr) (fun _ i _ => N - (intOf i).toNat)
  case atStart => exact ⟨0, [], Nat.zero_le _, Nat.zero_le _, Lib.hid (fun _ => Nat.zero_le _), rfl, Lib.hid (by simp), World.ownsRow_nil _ _ _ _, Below.refl _ _⟩
  case round =>
    obtain ⟨k, done, hk, hdl, hdk, rfl, hrd, hown, hbel⟩ := hrel
    have hbs := hbel.size
    by_cases hlt : k < N
    · obtain ⟨b, off, x, rfl, hb, hcell, hx⟩ := (hs0.below hbel).elem hlt
      have hxl := HXl.out x (List.mem_of_getElem? hx)
      cases hv : gV x with
      | some n =>
        have HC := Lib.hid (fun W => rg_some x n hv W)
        have hn := (gV_some x n hv).2.2.2.2
        have HRd := Lib.hid (rd_group hrd.out hx hv)
        clear hx hxl hv
        unfold sv at hcell HC
        generalize ByteArray.mk ⟨x⟩ = X at *
        go_wp2_with fail
        refine (HC.out _).mono ?_; rintro e w2 ⟨rfl, hw2⟩
        subst hw2
        go_wp2_with (at_builtin; refine wpList_appu _ rfl _ _ rfl w1.heap.size _ _ _ rfl (hown.alloc _) ⟨wr.heap.size, 0, none⟩ 1 n rfl (one_new _ _ _ _ rfl) (by omega) (by simp; omega) ?_; intro v' w3 hown' hgrow)
        have b3 : Below w1.heap.size w1 w3 := by
          refine Below.grown ?_ hgrow ?_ (fun g hg => (hown.lt g hg).1)
          · exact hbel.alloc hbs _
          · simp; omega
        clear hgrow
        go_wp2
        go_roundw
        case rel => exact ⟨k + 1, done ++ [n], by omega, by simp; have := hdk.out hlt; omega, Lib.hid (fun _ => by simp; have := hdk.out hlt; omega), by go_num, HRd, by simpa using hown', b3⟩
        case measure => simp [intOf] <;> omega
      | none =>
        have HC := Lib.hid (fun W => rg_none x hv hxl W)
        have HQ := Lib.hid (fun W => quad_any x hxl W)
        have HRd := Lib.hid (rd_quad hrd.out hx hv)
        have HLen := Lib.hid (qs_nums x)
        clear hx hxl hv
        unfold sv at hcell HC HQ
        generalize Qd.qE x = E at *
        generalize qs x = QS at *
        generalize qb x 0 = q0 at *
        generalize qb x 1 = q1 at *
        generalize qb x 2 = q2 at *
        generalize qb x 3 = q3 at *
        have l0 := q0.toNat_lt
        have l1 := q1.toNat_lt
        have l2 := q2.toNat_lt
        have l3 := q3.toNat_lt
        generalize ByteArray.mk ⟨x⟩ = X at *
        go_wp2_with fail
        refine (HC.out _).mono ?_; rintro e w2 ⟨rfl, hw2⟩
        subst hw2
        go_wp2_with fail
        refine (HQ.out _).mono ?_; rintro e w3 ⟨rfl, hb3⟩
        have b3 := Below.on hbel hbs (by exact hb3)
        have b3s := b3.size
        have o3 := own_keep2 hown (by exact hb3)
        clear hb3 hown hbel
        have b4 := b3.alloc b3s (.cells #[.int .u8 (q0.toNat : Int), .int .u8 (q1.toNat : Int), .int .u8 (q2.toNat : Int), .int .u8 (q3.toNat : Int)] 37)
        have o4 := o3.alloc (.cells #[.int .u8 (q0.toNat : Int), .int .u8 (q1.toNat : Int), .int .u8 (q2.toNat : Int), .int .u8 (q3.toNat : Int)] 37)
        have k4 : Blk (w3.alloc (.cells #[.int .u8 (q0.toNat : Int), .int .u8 (q1.toNat : Int), .int .u8 (q2.toNat : Int), .int .u8 (q3.toNat : Int)] 37)) w3.heap.size 37 #[.int .u8 (q0.toNat : Int), .int .u8 (q1.toNat : Int), .int .u8 (q2.toNat : Int), .int .u8 (q3.toNat : Int)] := blk_new _ _ _
        have hE0 : (E = 0 ∧ ((E : Int) != 0) = false) ∨ (E ≠ 0 ∧ ((E : Int) != 0) = true) := by
          by_cases h : E = 0
          · exact .inl ⟨h, by simp [h]⟩
          · exact .inr ⟨h, by rw [bne_iff_ne]; omega⟩
        rcases hE0 with ⟨hE, hEb⟩ | ⟨hE, hEb⟩
        · cases last with
          | false =>
            have HR := Lib.hid (HRd.out.trans (if_neg (by simp)))
            by_cases hlast : k + 1 = N
            all_goals
              first
                | (have hkI : ((k : Int) != (N : Int) - 1) = false := by rw [bne_eq_false_iff_eq]; omega)
                | (have hkI : ((k : Int) != (N : Int) - 1) = true := by rw [bne_iff_ne]; omega)
              go_wp2
              go_ret2
              exact ⟨.inr ⟨HR.out, rfl⟩, Below.on hb1 hsz1 b4⟩
          | true =>
            by_cases hlast : k + 1 = N
            · have HR := Lib.hid (HRd.out.trans (if_pos ⟨hE, rfl, by rw [HN.out]; exact hlast⟩))
              have HP0 := Lib.hid (fun W => pair_any q0 q1 W)
              have HP1 := Lib.hid (fun W => pair_any q2 q3 W)
              have hE1 := HLen.out
              subst hE1
              generalize 256 * q0.toNat + q1.toNat = g0 at *
              generalize 256 * q2.toNat + q3.toNat = g1 at *
              have hkI : ((k : Int) != (N : Int) - 1) = false := by rw [bne_eq_false_iff_eq]; omega
              generalize q0.toNat = n0 at *
              generalize q1.toNat = n1 at *
              generalize q2.toNat = n2 at *
              generalize q3.toNat = n3 at *
              go_wp2
              go_region_law (first
                | (go_simp
                   go_at_call 100
                   first
                     | (with_reducible refine (HP0.out _).mono ?_)
                     | (with_reducible refine (HP1.out _).mono ?_)
                   rintro e w6 ⟨rfl, hw6⟩
                   subst hw6)
                | (refine step_appu2 _ rfl _ _ rfl w1.heap.size _ _ _ rfl (o4.alloc _) _ 2 g0 g1 rfl (two_new _ _ _ _ _ (by simp)) (by omega) (by simp; omega) ?_
                   intro v' w5 hown' hgrow))
              all_goals
                have b5 : Below w1.heap.size w1 w5 := by
                  refine Below.grown (w := (World.alloc _ _).drew) ?_ hgrow ?_ (fun g hg => (o4.lt g hg).1)
                  · exact (b4.alloc b4.size _).drew
                  · simp; omega
                clear hgrow
                go_wp2
                go_roundw
                case rel =>
                  refine ⟨k + 1, done ++ [g0, g1], by omega, by simp; have := hdk.out hlt; omega, Lib.hid (fun h => absurd h (by omega)), by go_num, Lib.hid ?_, by simpa using hown', b5⟩
                  rw [List.drop_of_length_le (by rw [HN.out]; omega), HR.out]
                  simp [rdRow]
                case measure => simp [intOf] <;> omega
            · have HR := Lib.hid (HRd.out.trans (if_neg (by rw [HN.out]; simp; omega)))
              have hkI : ((k : Int) != (N : Int) - 1) = true := by rw [bne_iff_ne]; omega
              go_wp2
              go_ret2
              exact ⟨.inr ⟨HR.out, rfl⟩, Below.on hb1 hsz1 b4⟩
        · have HR := Lib.hid (HRd.out.trans (if_neg (fun h => hE h.1)))
          go_wp2
          go_ret2
          exact ⟨.inr ⟨HR.out, rfl⟩, Below.on hb1 hsz1 b4⟩
    · obtain rfl : k = N := by omega
      have HE := Lib.hid (rd_end hrd.out (Nat.le_of_eq HN.out))
      go_wp2
      go_ret2
      exact ⟨.inl ⟨done, _, HE.out, rfl, own_base hown hsz1⟩, Below.on hb1 hsz1 hbel⟩
end Go.Proofs.YtccidoigjdbepaaDoor.Cl

/- ClK -/
namespace Go.Proofs.YtccidoigjdbepaaDoor.Cl
open Go.RowKit Lin
set_option maxRecDepth 100000
set_option linter.unusedVariables false

/-- The place of the first gap, -1 if there is none. -/
def gp (l : List UInt8) : Int := Lib.index l [58, 58]
theorem occ_two (l : List UInt8) (k : Nat) : Lib.occAt l [58, 58] k = (l[k]? == some 58 && l[k + 1]? == some 58) := by
  unfold Lib.occAt
  rcases hd : l.drop k with _ | ⟨a, t⟩
  · have h0 : l[k]? = none := by rw [List.getElem?_eq_none_iff]; exact List.drop_eq_nil_iff.1 hd
    rw [h0]; rfl
  · have h0 : l[k]? = some a := by have := List.getElem?_drop (xs := l) (i := k) (j := 0); rw [hd] at this; simpa using this.symm
    rcases t with _ | ⟨b, u⟩
    · have h1 : l[k + 1]? = none := by have := List.getElem?_drop (xs := l) (i := k) (j := 1); rw [hd] at this; simpa using this.symm
      rw [h0, h1]
      simp [List.isPrefixOf]
    · have h1 : l[k + 1]? = some b := by have := List.getElem?_drop (xs := l) (i := k) (j := 1); rw [hd] at this; simpa using this.symm
      rw [h0, h1]
      simp [List.isPrefixOf, Bool.beq_comm]
theorem gp_at (l : List UInt8) (k : Nat) (hk : k + 1 < l.length) (h0 : l[k]? = some 58) (h1 : l[k + 1]? = some 58) (hn : ∀ j < k, Lib.occAt l [58, 58] j = false) : gp l = (k : Int) :=
  Lib.index_first (by omega) (by rw [occ_two, h0, h1]; rfl) hn
theorem gp_none (l : List UInt8) (k : Nat) (hk : l.length ≤ k + 1) (hn : ∀ j < k, Lib.occAt l [58, 58] j = false) : gp l = -1 := by
  refine Lib.index_none fun j hj => ?_
  rcases Nat.lt_or_ge j k with h | h
  · exact hn j h
  · rw [occ_two, show l[j + 1]? = none by rw [List.getElem?_eq_none_iff]; omega]
    simp
theorem occ_next (l : List UInt8) (k : Nat) (h : ¬ (l[k]? = some 58 ∧ l[k + 1]? = some 58)) (hn : ∀ j < k, Lib.occAt l [58, 58] j = false) : ∀ j < k + 1, Lib.occAt l [58, 58] j = false := by
  intro j hj
  rcases Nat.lt_or_ge j k with h' | h'
  · exact hn j h'
  · obtain rfl : j = k := by omega
    rw [occ_two]
    simpa using h

theorem refGap_any (l : List UInt8) (w : World) (hn : l.length ≤ 1000000) :
    Calls Tryd.prog 89 #[sv l] w fun e w' => e = .returned (.int .i64 (gp l)) ∧ w = w' := by
  have HA := Lib.hid (fun k hk h0 h1 hj => gp_at l k hk h0 h1 hj)
  have HN := Lib.hid (fun k hk hj => gp_none l k hk hj)
  have HO := Lib.hid (fun k h hj => occ_next l k h hj)
  have hsz : (ByteArray.mk ⟨l⟩).size = l.length := rfl
  have Hat := Lib.hid (fun i c => byte_at (ByteArray.mk ⟨l⟩) i c)
  have HL := Lib.hid (show (ByteArray.mk ⟨l⟩).data.toList = l from rfl)
  unfold sv
  generalize ByteArray.mk ⟨l⟩ = s at *
  generalize gp l = G at *
  generalize hN : l.length = N at *
  have HNl := Lib.hid hN
  clear hN
  go_enter Tryd.func89, Tryd.ntmps89
  go_wp2
  go_loopw [3] (fun i wr => ∃ k : Nat, k ≤ N ∧ i = .int .i64 (k : Int) ∧ Hid (∀ j < k, Lib.occAt l [58, 58] j = false) ∧ w = wr) (fun i _ => N - (intOf i).toNat)
  case atStart => exact ⟨0, Nat.zero_le _, rfl, Lib.hid (fun j hj => absurd hj (by omega)), rfl⟩
  case round =>
    obtain ⟨k, hkN, rfl, hj, rfl⟩ := hrel
    by_cases hlt : k + 1 < N
    · obtain ⟨c, hc⟩ : ∃ c, l[k]? = some c := ⟨l[k]'(by rw [HNl.out]; omega), List.getElem?_eq_getElem _⟩
      obtain ⟨d, hd⟩ : ∃ d, l[k + 1]? = some d := ⟨l[k + 1]'(by rw [HNl.out]; omega), List.getElem?_eq_getElem _⟩
      have ha := Hat.out k c (by rw [HL.out]; exact hc)
      have hb := Hat.out (k + 1) d (by rw [HL.out]; exact hd)
      have hkI : (k : Int) + 1 < (N : Int) := by omega
      have hk0 : (0 : Int) ≤ (k : Int) + 1 := by omega
      have hkt : ((k : Int) + 1).toNat = k + 1 := by omega
      have Hc := Lib.hid hc
      have Hd := Lib.hid hd
      clear hc hd
      by_cases h1 : c = 58
      · subst h1
        by_cases h2 : d = 58
        · subst h2
          have HG := Lib.hid (HA.out k hlt Hc.out Hd.out hj.out)
          go_wp2
          go_ret
          exact ⟨by rw [HG.out]; rfl, rfl⟩
        · have hne : ((d.toNat : Int) == 58) = false := byte_ne (c := 58) h2
          have HJ := Lib.hid (HO.out k (fun h => h2 (by have := h.2; rw [Hd.out] at this; injection this)) hj.out)
          go_wp2
          go_roundw
          case rel => exact ⟨k + 1, by omega, by go_num, HJ, trivial⟩
          case measure => simp [intOf] <;> omega
      · have hne : ((c.toNat : Int) == 58) = false := byte_ne (c := 58) h1
        have HJ := Lib.hid (HO.out k (fun h => h1 (by have := h.1; rw [Hc.out] at this; injection this)) hj.out)
        go_wp2
        go_roundw
        case rel => exact ⟨k + 1, by omega, by go_num, HJ, trivial⟩
        case measure => simp [intOf] <;> omega
    · have hkI : ¬ (k : Int) + 1 < (N : Int) := by omega
      have HG := Lib.hid (HN.out k (by omega) hj.out)
      go_wp2
      go_ret
      exact ⟨by rw [HG.out]; rfl, rfl⟩
end Go.Proofs.YtccidoigjdbepaaDoor.Cl

/- ClL -/
namespace Go.Proofs.YtccidoigjdbepaaDoor.Cl
open Go.RowKit Lin
set_option maxRecDepth 100000
set_option linter.unusedVariables false

/-- The bytes of groups. -/
def bOf (g : List Nat) : List UInt8 := g.flatMap fun n => [UInt8.ofNat (n / 256), UInt8.ofNat (n % 256)]
theorem bOf_len (g : List Nat) : (bOf g).length = 2 * g.length := by
  induction g with
  | nil => rfl
  | cons n t ih => simp only [bOf, List.flatMap_cons, List.length_append, List.length_cons, List.length_nil] at *; omega
/-- The bytes of the first k groups, noughts behind them. -/
def bAtK (g : List Nat) (k : Nat) : List UInt8 := bOf (g.take k) ++ List.replicate (16 - 2 * k) 0
theorem bAtK_set (g : List Nat) (hl : g.length = 8) (k n : Nat) (h : g[k]? = some n) :
    ((bAtK g k).set (2 * k) (UInt8.ofNat (n / 256))).set (2 * k + 1) (UInt8.ofNat (n % 256)) = bAtK g (k + 1) := by
  obtain ⟨hk, rfl⟩ := List.getElem?_eq_some_iff.1 h
  have hlen : (bOf (g.take k)).length = 2 * k := by rw [bOf_len, List.length_take]; omega
  unfold bAtK
  rw [List.set_append_right _ _ (by omega), hlen, Nat.sub_self, show 16 - 2 * k = (16 - 2 * (k + 1)) + 1 + 1 by omega, List.replicate_succ, List.replicate_succ, List.set_cons_zero,
    List.set_append_right _ _ (by omega), hlen, show 2 * k + 1 - 2 * k = 1 by omega, List.set_cons_succ, List.set_cons_zero, List.take_succ_eq_append_getElem hk]
  unfold bOf
  rw [List.flatMap_append, List.append_assoc]
  rfl
theorem bAtK_full (g : List Nat) (hl : g.length = 8) : bAtK g 8 = bOf g := by
  unfold bAtK
  rw [List.take_of_length_le (by omega)]
  simp
theorem bAtK_len (g : List Nat) (hl : g.length = 8) (k : Nat) (hk : k ≤ 8) : (bAtK g k).length = 16 := by
  unfold bAtK
  rw [List.length_append, bOf_len, List.length_take, List.length_replicate]
  omega

theorem idx_any (gs : List Nat) (hl : gs.length = 8) (k x : Nat) (hx : gs[k]? = some x) (W : World) :
    (Instr.index 95 (.agg (gs.map u16v).toArray) (.int .i64 (k : Int))).run Tryd.prog W = .ok (u16v x) W := by
  have hk : k < 8 := by have := (List.getElem?_eq_some_iff.1 hx).1; omega
  match gs, hl, hx with
  | [a, b, c, d, e, f, g, h], _, hx => exact idx8 a b c d e f g h k x hk hx W
theorem wrap_u8 (n : Nat) : IntKind.u8.wrap (n : Int) = ((UInt8.ofNat (n % 256)).toNat : Int) := by
  have h : IntKind.u8.wrap (n : Int) = (n : Int) % 256 := rfl
  rw [h]
  simp
theorem info16 : (Tryd.prog.info? 22).map (·.size) = some 16 := by kernel_rfl
theorem one_bytes (L : List UInt8) : ((L.map bv).toArray.all fun x => x.oneCell') = true := by
  rw [Array.all_eq_true']
  intro x hx
  simp only [List.mem_toArray, List.mem_map] at hx
  obtain ⟨y, _, rfl⟩ := hx
  rfl

set_option maxHeartbeats 1000000 in
theorem bytesOf_any (gs : List Nat) (hl : gs.length = 8) (hg : ∀ n ∈ gs, n < 65536) (w : World) :
    Calls Tryd.prog 87 #[.agg (gs.map u16v).toArray] w fun e w' => e = .returned (av (bOf gs)) ∧ Below w.heap.size w w' := by
  rw [← bAtK_full gs hl]
  have HS := Lib.hid (fun k n h => bAtK_set gs hl k n h)
  have HLn := Lib.hid (fun k hk => bAtK_len gs hl k hk)
  have HG := Lib.hid hg
  have sz : ((gs.map u16v).toArray).size = 8 := by simp [hl]
  have hi8 : (Tryd.prog.info? 95).map (·.size) = some ((gs.map u16v).toArray).size := by rw [sz]; exact Tryd.infoGroups
  have hb0 : bAtK gs 0 = List.replicate 16 0 := by unfold bAtK; simp [bOf]
  have HX := Lib.hid (fun k n h W => idx_any gs hl k n h W)
  have k0 : Blk (w.alloc (.cells (gs.map u16v).toArray 95)) w.heap.size 95 (gs.map u16v).toArray := blk_new _ _ _
  clear hg
  generalize (gs.map u16v).toArray = X at *
  go_enter Tryd.func87, Tryd.ntmps87
  go_wp2_with (first
    | (refine wpList_loadBlk (g := w.heap.size) (t := 95) (cs := X) rfl 95 (.tmp 1) ?ho ?hx ?hA _ Tryd.underlying95 rfl ?hi ?_
       case ho => with_reducible rfl
       case hx => rfl
       case hA => exact (k0.alloc _).alloc _
       case hi => exact hi8)
    | fail)
  have hzl : (List.replicate 16 (0 : UInt8)).length = 16 := rfl
  have k1 : Arr (((w.alloc (.cells X 95)).alloc (.cells ((List.replicate 16 (0 : UInt8)).map bv).toArray 22)).alloc (.cells ((List.replicate 16 (0 : UInt8)).map bv).toArray 22)) (w.heap.size + 1) 22 (List.replicate 16 0) := Arr.alloc (by unfold Arr; exact blk_new' _ _ _ _ (by simp)) _
  have k2 : Arr (((w.alloc (.cells X 95)).alloc (.cells ((List.replicate 16 (0 : UInt8)).map bv).toArray 22)).alloc (.cells ((List.replicate 16 (0 : UInt8)).map bv).toArray 22)) (w.heap.size + 2) 22 (List.replicate 16 0) := by unfold Arr; exact blk_new' _ _ _ _ (by simp)
  have b0 : Below w.heap.size w (((w.alloc (.cells X 95)).alloc (.cells ((List.replicate 16 (0 : UInt8)).map bv).toArray 22)).alloc (.cells ((List.replicate 16 (0 : UInt8)).map bv).toArray 22)) := (((Below.refl _ _).alloc (Nat.le_refl _) _).alloc (by simp) _).alloc (by simp; omega) _
  go_loopw [7] (fun i wr => ∃ k : Nat, k ≤ 8 ∧ i = .int .i64 (k : Int) ∧ Arr wr (w.heap.size + 1) 22 (List.replicate 16 0) ∧ Arr wr (w.heap.size + 2) 22 (bAtK gs k) ∧ Below w.heap.size w wr) (fun i _ => 8 - (intOf i).toNat)
  case atStart => exact ⟨0, Nat.zero_le _, rfl, k1, by rw [hb0]; exact k2, b0⟩
  case round =>
    clear k0 k1 k2 b0
    obtain ⟨k, hk, rfl, hrb, hkb, hbel⟩ := hrel
    have hbs := hbel.size
    by_cases hlt : k < 8
    · obtain ⟨n, hn⟩ : ∃ n, gs[k]? = some n := ⟨gs[k]'(by omega), List.getElem?_eq_getElem _⟩
      have hX := fun W => HX.out k n hn W
      have hset := HS.out k n hn
      have hn16 := HG.out n (List.mem_of_getElem? hn)
      have hl16 := HLn.out k hk
      have hv1 : IntKind.u8.wrap ((n : Int) / 256) = ((UInt8.ofNat (n / 256)).toNat : Int) := by
        rw [IntWalk.u8_in _ (by omega)]; simp; omega
      have hv2 : IntKind.u8.wrap (n : Int) = ((UInt8.ofNat (n % 256)).toNat : Int) := wrap_u8 n
      obtain ⟨c0, h0⟩ : ∃ c, (bAtK gs k)[2 * k]? = some c := ⟨(bAtK gs k)[2 * k]'(by omega), List.getElem?_eq_getElem _⟩
      obtain ⟨c1, h1⟩ : ∃ c, (bAtK gs k)[2 * k + 1]? = some c := ⟨(bAtK gs k)[2 * k + 1]'(by omega), List.getElem?_eq_getElem _⟩
      have e0 := hkb.byte h0
      have e1 := hkb.byte h1
      have f0 := hkb.frozen (2 * k)
      have f1 := hkb.frozen (2 * k + 1)
      have HT := Lib.hid (show Arr ((wr.setCell ⟨w.heap.size + 2, 2 * k, none⟩ (bv (UInt8.ofNat (n / 256)))).setCell ⟨w.heap.size + 2, 2 * k + 1, none⟩ (bv (UInt8.ofNat (n % 256)))) (w.heap.size + 2) 22 (bAtK gs (k + 1)) by
        have := (hkb.put (2 * k) (UInt8.ofNat (n / 256))).put (2 * k + 1) (UInt8.ofNat (n % 256))
        rw [hset] at this
        exact this)
      have HR := Lib.hid ((hrb.putOther ⟨w.heap.size + 2, 2 * k, none⟩ (bv (UInt8.ofNat (n / 256))) (by simp)).putOther ⟨w.heap.size + 2, 2 * k + 1, none⟩ (bv (UInt8.ofNat (n % 256))) (by simp))
      have HB := Lib.hid ((hbel.setCell (p := ⟨w.heap.size + 2, 2 * k, none⟩) (by show w.heap.size ≤ w.heap.size + 2; omega) (bv (UInt8.ofNat (n / 256)))).setCell (p := ⟨w.heap.size + 2, 2 * k + 1, none⟩) (by show w.heap.size ≤ w.heap.size + 2; omega) (bv (UInt8.ofNat (n % 256))))
      have i1 : (2 : Int) * (k : Int) < 16 := by omega
      have i2 : (0 : Int) ≤ 2 * (k : Int) := by omega
      have i3 : ((2 : Int) * (k : Int)).toNat = 2 * k := by omega
      have i4 : (2 : Int) * (k : Int) + 1 < 16 := by omega
      have i5 : (0 : Int) ≤ 2 * (k : Int) + 1 := by omega
      have i6 : ((2 : Int) * (k : Int) + 1).toNat = 2 * k + 1 := by omega
      have w1 : IntKind.i64.wrap (2 * (k : Int)) = 2 * (k : Int) := IntWalk.i64_in _ (by omega)
      have w2 : IntKind.i64.wrap (2 * (k : Int) + 1) = 2 * (k : Int) + 1 := IntWalk.i64_in _ (by omega)
      have i7 : 2 * k < 16 := by omega
      have i8 : 2 * k + 1 < 16 := by omega
      clear hset hn hkb hrb h0 h1
      generalize UInt8.ofNat (n / 256) = U at *
      generalize UInt8.ofNat (n % 256) = V at *
      go_wp2
      go_roundw
      case rel => exact ⟨k + 1, by omega, by go_num, HR.out, HT.out, HB.out⟩
      case measure => simp [intOf] <;> omega
    · obtain rfl : k = 8 := by omega
      have hl16 := HLn.out 8 (Nat.le_refl _)
      generalize hLq : bAtK gs 8 = L at *
      go_wp2_with (first
        | (refine wpList_loadArr (g := w.heap.size + 2) (t := 22) (l := L) rfl 22 5 (.tmp 3) ?ho ?hx hkb hl16 Tryd.underlying22 Tryd.infoB16 ?_
           case ho => with_reducible rfl
           case hx => rfl)
        | (refine wpList_storeBlk (g := w.heap.size + 1) (t := 22) (cs := (L.map bv).toArray) ?hw 22 (.tmp 2) (.tmp 24) ?ho ?hx2 ?hy2 ((List.replicate 16 (0 : UInt8)).map bv).toArray hrb.blk ?hi ?hs ?h1 ?_
           case ho => with_reducible rfl
           case hw => rfl
           case hx2 => rfl
           case hy2 => rfl
           case hi => rw [show ((L.map bv).toArray).size = 16 by simp [hl16]]; exact info16
           case hs => simp [hl16]
           case h1 => exact one_bytes L
           intro w5 k5 hg5
           have b5 : Below w.heap.size w w5 := hbel.grown hg5 hbel.size (fun j hj => by injection hj with hj; omega))
        | fail)
      refine bodyPost_blk rfl _ rfl k5 Tryd.underlying22 rfl (by rw [show ((L.map bv).toArray).size = 16 by simp [hl16]]; exact info16) rfl ⟨by rw [hLq], b5⟩
end Go.Proofs.YtccidoigjdbepaaDoor.Cl

/- ClM -/
namespace Go.Proofs.YtccidoigjdbepaaDoor.Cl
open Go.RowKit Lin
set_option maxRecDepth 100000
set_option linter.unusedVariables false

/-- The groups of both sides, noughts between them. -/
def gMid (F B : List Nat) : List Nat := F ++ List.replicate (8 - F.length - B.length) 0 ++ B
def gFits (g : Bool) (F B : List Nat) : Bool := if g then decide (F.length + B.length ≤ 7) else decide (F.length + B.length = 8)
/-- What a text says. -/
noncomputable def pG (l : List UInt8) : Option (List Nat) :=
  match rdS (!(Lib.cut l [58, 58]).2.2) (Lib.cut l [58, 58]).1, rdS true (Lib.cut l [58, 58]).2.1 with
  | some F, some B => if gFits (Lib.cut l [58, 58]).2.2 F B = true then some (gMid F B) else none
  | _, _ => none
noncomputable def pB (l : List UInt8) : List UInt8 := match pG l with | some G => bOf G | none => List.replicate 16 0
noncomputable def pE (l : List UInt8) : Nat := match pG l with | some _ => 0 | none => 5
theorem gFits_le (g : Bool) (F B : List Nat) (h : gFits g F B = true) : F.length + B.length ≤ 8 := by
  unfold gFits at h
  split at h <;> simp at h <;> omega
theorem gMid_len (F B : List Nat) (h : F.length + B.length ≤ 8) : (gMid F B).length = 8 := by
  unfold gMid
  simp
  omega
theorem rdS_lt (q : Bool) (l : List UInt8) (L : List Nat) (h : rdS q l = some L) : ∀ n ∈ L, n < 65536 := by
  unfold rdS at h
  split at h
  · injection h with h; subst h; intro n hn; cases hn
  · exact (rdRow_lt q _ L h).1
theorem rdS_len (q : Bool) (l : List UInt8) (L : List Nat) (h : rdS q l = some L) : L.length ≤ l.length + 2 := by
  unfold rdS at h
  split at h
  · injection h with h; subst h; simp
  · have h1 := (rdRow_lt q _ L h).2
    have h2 := parts_len 58 l
    omega
theorem gMid_lt (F B : List Nat) (hF : ∀ n ∈ F, n < 65536) (hB : ∀ n ∈ B, n < 65536) : ∀ n ∈ gMid F B, n < 65536 := by
  intro n hn
  unfold gMid at hn
  rcases List.mem_append.1 hn with h | h
  · rcases List.mem_append.1 h with h | h
    · exact hF n h
    · rw [(List.mem_replicate.1 h).2]; omega
  · exact hB n h
theorem mid_splice (F B : List Nat) (h : F.length + B.length ≤ 8) :
    splice (splice (List.replicate 8 (u16v 0)) 0 (F.map u16v)) (8 - B.length) (B.map u16v) = (gMid F B).map u16v := by
  unfold splice gMid
  simp only [List.take_zero, List.nil_append, Nat.zero_add, List.length_map, List.drop_replicate, List.map_append, List.map_replicate]
  rw [List.take_append, List.take_of_length_le (by rw [List.length_map]; omega), List.take_replicate, List.length_map, List.drop_of_length_le (by simp; omega), List.append_nil, show min (8 - B.length - F.length) (8 - F.length) = 8 - F.length - B.length by omega]

/-- A machine in which internal/bytealg's greatest length stands. -/
def HasM (w : World) : Prop := ∃ m : Int, w.cell? ⟨0, 0, none⟩ = some (.int .i64 m)
theorem HasM.pos {w : World} (h : HasM w) : 0 < w.heap.size := by
  obtain ⟨m, hm⟩ := h
  rcases Nat.eq_zero_or_pos w.heap.size with h0 | h0
  · unfold World.cell? at hm
    rw [show w.heap[(⟨0, 0, none⟩ : Addr).block]? = none from Array.getElem?_eq_none (by show w.heap.size ≤ 0; omega)] at hm
    cases hm
  · exact h0
theorem HasM.on {w w' : World} {B : Nat} (h : HasM w) (hb : Below B w w') (hB : 0 < B) : HasM w' := by
  obtain ⟨m, hm⟩ := h
  exact ⟨m, (hb.cell (p := ⟨0, 0, none⟩) hB).trans hm⟩
theorem cut_any (l : List UInt8) (hn : l.length ≤ 1000000) (w : World) (hm : HasM w) :
    Calls Tryd.prog 85 #[sv l, .string ⟨#[58, 58]⟩] w fun e w' => e = .returned (.tuple #[sv (Lib.cut l [58, 58]).1, sv (Lib.cut l [58, 58]).2.1, .bool (Lib.cut l [58, 58]).2.2]) ∧ Below w.heap.size w w' := by
  obtain ⟨m, hm⟩ := hm
  exact (Tryd.strings_Cut ⟨⟨l⟩⟩ ⟨#[58, 58]⟩ m w (by show l.length < _; omega) hm).mono fun e w' ⟨h1, n, h2⟩ => ⟨h1, h2 ▸ below_draw (Below.refl _ _) n⟩
theorem cut_len (l : List UInt8) : (Lib.cut l [58, 58]).1.length ≤ l.length ∧ (Lib.cut l [58, 58]).2.1.length ≤ l.length := by
  unfold Lib.cut
  split
  · simp; omega
  · simp

theorem cpy_src {w : World} {A : Option Addr} {n : Nat} {B : List Nat} (h : Sh u16v w w.heap.size A n B) (hn : 0 < n) : ∃ ad, A = some ad ∧ ∀ (j : Nat) v, (B.map u16v)[j]? = some v → w.cell? (ad.add j) = some v := by
  obtain ⟨b, off, rfl, _, hc⟩ := h.2 hn
  refine ⟨_, rfl, fun j v hj => ?_⟩
  rw [List.getElem?_map] at hj
  cases hb : B[j]? with
  | none => rw [hb] at hj; cases hj
  | some x =>
    rw [hb] at hj
    injection hj with hj
    subst hj
    obtain ⟨hl, rfl⟩ := List.getElem?_eq_some_iff.1 hb
    have := hc j hl
    by_cases h0 : j = 0
    · subst h0; exact this
    · rw [show (⟨b, off, none⟩ : Addr).add j = ⟨b, off + j, none⟩ by simp [Addr.add, h0]]; exact this
theorem u16_one (B : List Nat) : ∀ v ∈ B.map u16v, v.oneCell' = true := by
  intro v hv; obtain ⟨x, _, rfl⟩ := List.mem_map.1 hv; rfl
theorem below_less {B B' : Nat} {w w' : World} (h : Below B w w') (hB : B' ≤ B) : Below B' w w' := ⟨h.os, h.tape, h.output, h.size, fun k hk => h.block k (by omega)⟩
theorem slice_at (g M : Nat) (hM : M ≤ 8) (W : World) : (Instr.sliceAt 95 (.pointer (some ⟨g, 0, none⟩)) (some (.int .i64 (M : Int))) none none).run Tryd.prog W = .ok (.slice (some (if 8 = M then (⟨g, 0, none⟩ : Addr) else ⟨g, M, none⟩)) (8 - M) (8 - M)) W := by
  have hl : Tryd.prog.arrayLen 95 = 8 := by kernel_rfl
  have hs : ∀ W, (sizeOf (Tryd.prog.elem 95)).run Tryd.prog W = .ok 1 W := fun W => by kernel_rfl
  rw [run_sliceAt_array_l W 95 ⟨g, 0, none⟩ Tryd.underlying95 .i64 (M : Int) (by omega) (by rw [hl]; omega), hs, hl]
  simp only [Result.andThen, slicedAt, Int.toNat_natCast, Nat.mul_one]
  by_cases h : 8 = M
  · subst h; rfl
  · have h0 : M = 0 ∨ M ≠ 0 := by omega
    rcases h0 with rfl | h0
    · rfl
    · simp [h, Addr.add, h0]
theorem sizeU16 : (Tryd.prog.info? 94).map (·.size) = some 1 := by kernel_rfl

set_option maxHeartbeats 4000000 in
theorem cparse_any (l : List UInt8) (hn : l.length ≤ 1000000) (w : World) (hm : HasM w) :
    Calls Tryd.prog 61 #[sv l] w fun e w' => e = .returned (.tuple #[av (pB l), .int .i64 (pE l : Int)]) ∧ Below w.heap.size w w' := by
  have HC := Lib.hid (fun W hW => cut_any l hn W hW)
  have hcl := cut_len l
  have HPB := Lib.hid (show pB l = match pG l with | some G => bOf G | none => List.replicate 16 0 from rfl)
  have HPE := Lib.hid (show pE l = match pG l with | some _ => 0 | none => 5 from rfl)
  have HPG := Lib.hid (show pG l = match rdS (!(Lib.cut l [58, 58]).2.2) (Lib.cut l [58, 58]).1, rdS true (Lib.cut l [58, 58]).2.1 with
    | some F, some B => if gFits (Lib.cut l [58, 58]).2.2 F B = true then some (gMid F B) else none
    | _, _ => none from rfl)
  have hpos := hm.pos
  generalize pB l = PB at *
  generalize pE l = PE at *
  generalize pG l = PG at *
  generalize (Lib.cut l [58, 58]).1 = H at *
  generalize (Lib.cut l [58, 58]).2.1 = T at *
  generalize (Lib.cut l [58, 58]).2.2 = g at *
  have HR1 := Lib.hid (fun W => readGroups_any H (!g) W (by omega))
  have HR2 := Lib.hid (fun W => readGroups_any T true W (by omega))
  have HN1 := Lib.hid (fun L h => Nat.le_trans (rdS_len (!g) H L h) (Nat.add_le_add_right (Nat.le_trans hcl.1 hn) 2))
  have HN2 := Lib.hid (fun L h => Nat.le_trans (rdS_len true T L h) (Nat.add_le_add_right (Nat.le_trans hcl.2 hn) 2))
  have HL1 := Lib.hid (fun L h => rdS_lt (!g) H L h)
  have HL2 := Lib.hid (fun L h => rdS_lt true T L h)
  clear hcl
  unfold sv at HC HR1 HR2 ⊢
  generalize ByteArray.mk ⟨l⟩ = s at *
  generalize ByteArray.mk ⟨H⟩ = sH at *
  generalize ByteArray.mk ⟨T⟩ = sT at *
  generalize rdS (!g) H = R1 at *
  generalize rdS true T = R2 at *
  have k0 : Arr (w.alloc (.cells ((List.replicate 16 (0 : UInt8)).map bv).toArray 22)) w.heap.size 22 (List.replicate 16 0) := blk_new _ _ _
  have b0 : Below w.heap.size w (w.alloc (.cells ((List.replicate 16 (0 : UInt8)).map bv).toArray 22)) := (Below.refl _ _).alloc (Nat.le_refl _) _
  have m0 := hm.on b0 hpos
  go_enter Tryd.func61, Tryd.ntmps61
  go_wp2_with fail
  refine (HC.out _ (by exact m0)).mono ?_; rintro e w1 ⟨rfl, hb1⟩
  have k1 := k0.on (by exact hb1)
  have b1 := Below.on b0 b0.size (by exact hb1)
  clear hb1 k0 b0 m0
  go_wp2_with fail
  refine (HR1.out _).mono ?_; rintro e w2 ⟨h2, hb2⟩
  have k2 := k1.on hb2
  have b2 := Below.on b1 b1.size hb2
  have hs1 := b1.size
  clear k1
  rcases h2 with ⟨F, v1, hF, rfl, hO1⟩ | ⟨hF, rfl⟩
  · have hO1 := own_base hO1 hs1
    obtain ⟨A1, c1, rfl, hfc, hfm, _⟩ := GOwn.sh hO1
    clear hb2 b1 hs1
    go_wp2_with fail
    refine (HR2.out _).mono ?_; rintro e w3 ⟨h3, hb3⟩
    have k3 := k2.on hb3
    have b3 := Below.on b2 b2.size hb3
    have hs2 := b2.size
    have hO1 := own_keep2 hO1 hb3
    clear k2
    rcases h3 with ⟨B, v2, hB, rfl, hO2⟩ | ⟨hB, rfl⟩
    · have hO2 := own_base hO2 hs2
      obtain ⟨A2, c2, rfl, hbc, hbm, _⟩ := GOwn.sh hO2
      clear hb3 b2 hs2
      have hb3s := b3.size
      have hfI : F.length ≤ 1000002 := HN1.out F hF
      have hbI : B.length ≤ 1000002 := HN2.out B hB
      have v0 : IntKind.i64.wrap (8 - (F.length : Int)) = 8 - (F.length : Int) := IntWalk.i64_in _ (by omega)
      have v1 : IntKind.i64.wrap (8 - (F.length : Int) - (B.length : Int)) = 8 - (F.length : Int) - (B.length : Int) := IntWalk.i64_in _ (by omega)
      have k4 := k3.alloc (.cells (gAt [] 0) 95)
      have b4 := b3.alloc hb3s (.cells (gAt [] 0) 95)
      cases hfit : gFits g F B with
      | false =>
        have HG := Lib.hid (show PG = none by rw [HPG.out, hF, hB]; simp [hfit])
        have Hb4 := Lib.hid b4
        have Hk4 := Lib.hid k4
        have h0z : (Tryd.prog.info? 95).map (fun i => (i.zero, i.size)) = some (some (.agg (gAt [] 0)), 8) := Tryd.zeroGroups
        clear k3 b3 hO1 hO2 hF hB k4 b4
        cases g with
        | true =>
          have hd : (8 : Int) - (F.length : Int) - (B.length : Int) < 1 := by unfold gFits at hfit; simp at hfit; omega
          clear hfit
          generalize F.length = f at *
          generalize B.length = b at *
          have hG : PG = none := HG.out
          have hB0 : PB = List.replicate 16 0 := by rw [HPB.out, hG]
          have hE0 : PE = 5 := by rw [HPE.out, hG]
          subst hB0 hE0
          go_wp2_with (first
            | (refine wpList_storeBlk (g := w.heap.size) (t := 22) (cs := (((List.replicate 16 (0 : UInt8)).map bv).toArray)) ?hw 22 (.tmp 2) (.tmp 57) ?ho ?hx2 ?hy2 (((List.replicate 16 (0 : UInt8)).map bv).toArray) Hk4.out.blk ?hi ?hs ?h1 ?_
               case ho => with_reducible rfl
               case hw => rfl
               case hx2 => rfl
               case hy2 => rfl
               case hi => exact info16
               case hs => rfl
               case h1 => exact one_bytes _
               intro w9 k9 hg9
               have b9 : Below w.heap.size w w9 := (Hb4.out).grown hg9 (Hb4.out).size (fun j hj => by injection hj with hj; omega))
            | fail)
          refine bodyPost_blk2 rfl _ rfl k9 Tryd.underlying22 rfl info16 rfl ⟨rfl, b9⟩
        | false =>
          have hd : ((8 : Int) - (F.length : Int) - (B.length : Int) != 0) = true := by unfold gFits at hfit; simp at hfit; rw [bne_iff_ne]; omega
          clear hfit
          generalize F.length = f at *
          generalize B.length = b at *
          have hG : PG = none := HG.out
          have hB0 : PB = List.replicate 16 0 := by rw [HPB.out, hG]
          have hE0 : PE = 5 := by rw [HPE.out, hG]
          subst hB0 hE0
          go_wp2_with (first
            | (refine wpList_storeBlk (g := w.heap.size) (t := 22) (cs := (((List.replicate 16 (0 : UInt8)).map bv).toArray)) ?hw 22 (.tmp 2) (.tmp 57) ?ho ?hx2 ?hy2 (((List.replicate 16 (0 : UInt8)).map bv).toArray) Hk4.out.blk ?hi ?hs ?h1 ?_
               case ho => with_reducible rfl
               case hw => rfl
               case hx2 => rfl
               case hy2 => rfl
               case hi => exact info16
               case hs => rfl
               case h1 => exact one_bytes _
               intro w9 k9 hg9
               have b9 : Below w.heap.size w w9 := (Hb4.out).grown hg9 (Hb4.out).size (fun j hj => by injection hj with hj; omega))
            | fail)
          refine bodyPost_blk2 rfl _ rfl k9 Tryd.underlying22 rfl info16 rfl ⟨rfl, b9⟩
      | true =>
        have HG := Lib.hid (show PG = some (gMid F B) by rw [HPG.out, hF, hB]; simp [hfit])
        have hle := gFits_le g F B hfit
        have HBt := Lib.hid (fun W => bytesOf_any (gMid F B) (gMid_len F B hle) (gMid_lt F B (HL1.out F hF) (HL2.out B hB)) W)
        have HGl := Lib.hid (gMid_len F B hle)
        have hdd : (g = true ∧ ¬ (8 : Int) - (F.length : Int) - (B.length : Int) < 1) ∨ (g = false ∧ ((8 : Int) - (F.length : Int) - (B.length : Int) != 0) = false) := by
          unfold gFits at hfit
          cases g with
          | true => left; simp at hfit; exact ⟨rfl, by omega⟩
          | false => right; simp at hfit; refine ⟨rfl, ?_⟩; rw [bne_eq_false_iff_eq]; omega
        have o14 := hO1.alloc (.cells (gAt [] 0) 95)
        have o24 := hO2.alloc (.cells (gAt [] 0) 95)
        obtain ⟨_, _, e1, _, _, s14⟩ := GOwn.sh o14
        injection e1 with e1 e2 e3
        subst e1 e3
        obtain ⟨_, _, e1, _, _, s24⟩ := GOwn.sh hO2
        injection e1 with e1 e2 e3
        subst e1 e3
        have s24 := s24.alloc (Nat.le_refl _) (.cells (gAt [] 0) 95)
        clear o14 o24
        have z4 : (w3.alloc (.cells (gAt [] 0) 95)).heap[w3.heap.size]? = some (.cells (List.replicate 8 (u16v 0)).toArray 95 (0, 0)) := blk_new _ _ _
        have hlt0 := k3.lt
        clear hfit k3 b3 hO1 hO2 hF hB
        obtain ⟨M, hM8, hML⟩ : ∃ M : Nat, M ≤ 8 ∧ M + B.length = 8 := ⟨8 - B.length, by omega, by omega⟩
        have hSp := mid_splice F B hle
        rw [show 8 - B.length = M by omega] at hSp
        have HSp := Lib.hid hSp
        clear hSp
        have hB0 : PB = bOf (gMid F B) := by rw [HPB.out, HG.out]
        have hE0 : PE = 0 := by rw [HPE.out, HG.out]
        subst hB0 hE0
        have hv8 : IntKind.i64.wrap (8 - (B.length : Int)) = (M : Int) := by rw [IntWalk.i64_in _ (by omega)]; omega
        have hM8I : (M : Int) ≤ 8 := by omega
        have HLs := Lib.hid (show (splice (List.replicate 8 (u16v 0)) 0 (F.map u16v)).length = 8 by rw [length_splice _ _ _ (by simp; omega)]; simp)
        rcases hdd with ⟨rfl, hd⟩ | ⟨rfl, hd⟩
        all_goals
          go_wp2_with (first
            | (refine wpList_copy_splice rfl (.tmp 58) (.tmp 59) 100 100 ?ho 94 Tryd.underlying100 sizeU16 (some ⟨w3.heap.size, 0, none⟩) A1 8 8 F.length c1 ?e1 ?e2 w3.heap.size 0 (List.replicate 8 (u16v 0)) 95 z4 (F.map u16v) ?q1 ?q2 ?q3 (u16_one F) w3.heap.size _ (Below.refl _ _) (Nat.le_refl _) ?_
               case ho => with_reducible rfl
               case e1 => rfl
               case e2 => rfl
               case q1 => rw [List.length_map]; exact (Nat.min_eq_left (by omega)).symm
               case q2 => exact fun h => ⟨rfl, cpy_src s14 (by simpa using h)⟩
               case q3 => simp; omega
               intro w5 hg5 hb5
               have s25 := (s24.below hb5).up (show w3.heap.size ≤ w5.heap.size by have := hb5.size; simp at this; omega)
               have k5 : Arr w5 w.heap.size 22 (List.replicate 16 0) := (hb5.block _ hlt0).trans k4
               have b5 : Below w.heap.size w w5 := b4.trans (below_less hb5 hb3s)
               clear hb5 b4 k4 z4 s14 s24)
            | (refine wpList_copy_splice ?hg0 (.tmp 64) (.tmp 65) 100 100 ?ho 94 Tryd.underlying100 sizeU16 (some (if 8 = M then (⟨w3.heap.size, 0, none⟩ : Addr) else ⟨w3.heap.size, M, none⟩)) A2 (8 - M) (8 - M) B.length c2 ?e1 ?e2 w3.heap.size M (splice (List.replicate 8 (u16v 0)) 0 (F.map u16v)) 95 hg5.out (B.map u16v) ?q1 ?q2 ?q3 (u16_one B) w3.heap.size w5 (Below.refl _ _) (Nat.le_refl _) ?_
               case hg0 => rfl
               case ho => with_reducible rfl
               case e1 => rfl
               case e2 => rfl
               case q1 => rw [List.length_map]; exact (Nat.min_eq_left (by omega)).symm
               case q2 =>
                 intro h
                 rw [List.length_map] at h
                 exact ⟨congrArg some (if_neg (by omega)), cpy_src s25 h⟩
               case q3 => rw [HLs.out]; simp; omega
               intro w6 hg6 hb6
               have k6 : Arr w6 w.heap.size 22 (List.replicate 16 0) := (hb6.block _ hlt0).trans k5
               have b6 : Below w.heap.size w w6 := b5.trans (below_less hb6 hb3s)
               have z6 : Blk w6 w3.heap.size 95 ((gMid F B).map u16v).toArray := by rw [← HSp.out]; exact hg6.out
               have HZ6 := Lib.hid z6
               clear k5 b5 z6 hg5 hg6)
            | (refine wpList_loadBlk (g := w3.heap.size) (t := 95) (cs := ((gMid F B).map u16v).toArray) rfl 95 (.tmp 10) ?ho ?hx ?hA _ Tryd.underlying95 rfl ?hi ?_
               case ho => with_reducible rfl
               case hx => rfl
               case hA => exact HZ6.out
               case hi => rw [show ((gMid F B).map u16v).toArray.size = 8 by simp [HGl.out]]; exact Tryd.infoGroups)
            | fail)
          all_goals
            refine (HBt.out _).mono ?_; rintro e w7 ⟨rfl, hb7⟩
            have k7 := k6.on hb7
            have b7 := Below.on b6 b6.size hb7
            have hsz : ((bOf (gMid F B)).map bv).toArray.size = 16 := by simp [bOf_len, HGl.out]
            clear hb7 k6 b6
            go_wp2_with (first
              | (refine wpList_storeBlk (g := w.heap.size) (t := 22) (cs := ((bOf (gMid F B)).map bv).toArray) ?hw 22 (.tmp 2) (.tmp 68) ?ho ?hx2 ?hy2 (((List.replicate 16 (0 : UInt8)).map bv).toArray) k7.blk ?hi ?hs ?h1 ?_
                 case ho => with_reducible rfl
                 case hw => rfl
                 case hx2 => rfl
                 case hy2 => rfl
                 case hi => rw [hsz]; exact info16
                 case hs => exact hsz.symm
                 case h1 => exact one_bytes _
                 intro w9 k9 hg9
                 have b9 : Below w.heap.size w w9 := (b7).grown hg9 (b7).size (fun j hj => by injection hj with hj; omega))
              | fail)
            refine bodyPost_blk2 rfl _ rfl k9 Tryd.underlying22 rfl (by rw [hsz]; exact info16) rfl ⟨rfl, b9⟩
    · clear hO1
      have hG : PG = none := by rw [HPG.out, hF, hB]
      have hB0 : PB = List.replicate 16 0 := by rw [HPB.out, hG]
      have hE0 : PE = 5 := by rw [HPE.out, hG]
      subst hB0 hE0
      go_wp2_with (first
        | (refine wpList_storeBlk (g := w.heap.size) (t := 22) (cs := (((List.replicate 16 (0 : UInt8)).map bv).toArray)) ?hw 22 (.tmp 2) (.tmp 36) ?ho ?hx2 ?hy2 (((List.replicate 16 (0 : UInt8)).map bv).toArray) k3.blk ?hi ?hs ?h1 ?_
           case ho => with_reducible rfl
           case hw => rfl
           case hx2 => rfl
           case hy2 => rfl
           case hi => exact info16
           case hs => rfl
           case h1 => exact one_bytes _
           intro w9 k9 hg9
           have b9 : Below w.heap.size w w9 := (b3).grown hg9 (b3).size (fun j hj => by injection hj with hj; omega))
        | fail)
      refine bodyPost_blk2 rfl _ rfl k9 Tryd.underlying22 rfl info16 rfl ⟨rfl, b9⟩
  · clear b1
    have hG : PG = none := by rw [HPG.out, hF]
    have hB0 : PB = List.replicate 16 0 := by rw [HPB.out, hG]
    have hE0 : PE = 5 := by rw [HPE.out, hG]
    subst hB0 hE0
    go_wp2_with (first
      | (refine wpList_storeBlk (g := w.heap.size) (t := 22) (cs := (((List.replicate 16 (0 : UInt8)).map bv).toArray)) ?hw 22 (.tmp 2) (.tmp 27) ?ho ?hx2 ?hy2 (((List.replicate 16 (0 : UInt8)).map bv).toArray) k2.blk ?hi ?hs ?h1 ?_
         case ho => with_reducible rfl
         case hw => rfl
         case hx2 => rfl
         case hy2 => rfl
         case hi => exact info16
         case hs => rfl
         case h1 => exact one_bytes _
         intro w9 k9 hg9
         have b9 : Below w.heap.size w w9 := (b2).grown hg9 (b2).size (fun j hj => by injection hj with hj; omega))
      | fail)
    refine bodyPost_blk2 rfl _ rfl k9 Tryd.underlying22 rfl info16 rfl ⟨rfl, b9⟩
end Go.Proofs.YtccidoigjdbepaaDoor.Cl
