
/- Layer 9. Mathematics of a text that is parsed: a part's number, a row of parts, a text without a gap; contracts of ReadGroup on both sides. -/
import Derived.Test.YtccidoigjdbepaaDoorClG
import Derived.Test.YtccidoigjdbepaaDoorHexG
import Derived.Test.YtccidoigjdbepaaDoorQdD
namespace Go.Proofs.YtccidoigjdbepaaDoor.Cl
open Go.RowKit Lin
set_option maxRecDepth 100000
set_option linter.unusedVariables false

open Classical in
/-- The number of a part, if it is a group. -/
noncomputable def gV (x : List UInt8) : Option Nat := if 1 ≤ x.length ∧ x.length ≤ 4 ∧ Hex.AllGood x then some (Hex.grpVal x) else none
theorem gV_some (x : List UInt8) (n : Nat) (h : gV x = some n) : 1 ≤ x.length ∧ x.length ≤ 4 ∧ Hex.AllGood x ∧ n = Hex.grpVal x ∧ n < 65536 := by
  unfold gV at h
  split at h
  · next hc =>
    injection h with h
    refine ⟨hc.1, hc.2.1, hc.2.2, h.symm, ?_⟩
    have := Hex.grpVal_lt x x.length (Nat.le_refl _)
    rw [List.take_length] at this
    have h2 : 16 ^ x.length ≤ 16 ^ 4 := Nat.pow_le_pow_right (by omega) hc.2.1
    omega
  · cases h
theorem gV_none (x : List UInt8) (h : gV x = none) : (x.length < 1 ∨ 4 < x.length) ∨ (1 ≤ x.length ∧ x.length ≤ 4 ∧ ∃ K, Hex.FirstBad x K) := by
  unfold gV at h
  split at h
  · cases h
  · next hc =>
    rcases Hex.good_or_bad x with hg | hb
    · left
      by_cases h1 : x.length < 1
      · exact .inl h1
      · right
        rcases Nat.lt_or_ge 4 x.length with h4 | h4
        · exact h4
        · exact absurd ⟨by omega, h4, hg⟩ hc
    · by_cases h1 : x.length < 1 ∨ 4 < x.length
      · exact .inl h1
      · exact .inr ⟨by omega, by omega, hb⟩
theorem rg_some (x : List UInt8) (n : Nat) (h : gV x = some n) (w : World) :
    Calls Tryd.prog 105 #[sv x] w fun e w' => e = .returned (.tuple #[.int .u16 (n : Int), .int .i64 0]) ∧ w = w' := by
  obtain ⟨h1, h4, hg, rfl, _⟩ := gV_some x n h
  exact Hex.readGroup_good ⟨⟨x⟩⟩ w h1 h4 hg
theorem rg_none (x : List UInt8) (h : gV x = none) (hn : x.length ≤ 1000000) (w : World) :
    Calls Tryd.prog 105 #[sv x] w fun e w' => e = .returned (.tuple #[.int .u16 0, .int .i64 5]) ∧ w = w' := by
  rcases gV_none x h with hl | ⟨h1, h4, K, hK⟩
  · exact Hex.readGroup_len ⟨⟨x⟩⟩ w hl hn
  · exact Hex.readGroup_bad ⟨⟨x⟩⟩ K w h1 h4 hK
theorem rrg_some (x : List UInt8) (n : Nat) (h : gV x = some n) (w : World) :
    Calls Tryd.prog 106 #[sv x] w fun e w' => e = .returned (.int .i64 (n : Int)) ∧ w = w' := by
  obtain ⟨h1, h4, hg, rfl, _⟩ := gV_some x n h
  exact Hex.refReadGroup_good ⟨⟨x⟩⟩ w h1 h4 hg
theorem rrg_none (x : List UInt8) (h : gV x = none) (hn : x.length ≤ 1000000) (w : World) :
    Calls Tryd.prog 106 #[sv x] w fun e w' => e = .returned (.int .i64 (-1)) ∧ w = w' := by
  rcases gV_none x h with hl | ⟨h1, h4, K, hK⟩
  · exact Hex.refReadGroup_len ⟨⟨x⟩⟩ w hl hn
  · exact Hex.refReadGroup_bad ⟨⟨x⟩⟩ K w h1 h4 hK

/-- A byte of a quad; its two groups. -/
noncomputable def qb (x : List UInt8) (i : Nat) : UInt8 := (Qd.qB x).getD i 0
noncomputable def qs (x : List UInt8) : List Nat := [256 * (qb x 0).toNat + (qb x 1).toNat, 256 * (qb x 2).toNat + (qb x 3).toNat]
theorem qB_qb (x : List UInt8) : Qd.qB x = [qb x 0, qb x 1, qb x 2, qb x 3] := by
  have h : ∃ a b c d, Qd.qB x = [a, b, c, d] := by
    by_cases h4 : (parts 46 x).length = 4
    · obtain ⟨a, b, c, d, e⟩ := Qd.len_four _ h4
      rw [(Qd.q_four x a b c d e).2]
      split
      · exact ⟨_, _, _, _, rfl⟩
      · exact ⟨_, _, _, _, rfl⟩
    · exact ⟨_, _, _, _, (Qd.q_not x h4).2⟩
  obtain ⟨a, b, c, d, e⟩ := h
  unfold qb
  rw [e]
  rfl
theorem qs_lt (x : List UInt8) : ∀ n ∈ qs x, n < 65536 := by
  intro n hn
  have h0 := (qb x 0).toNat_lt
  have h1 := (qb x 1).toNat_lt
  have h2 := (qb x 2).toNat_lt
  have h3 := (qb x 3).toNat_lt
  rcases List.mem_cons.1 hn with rfl | hn
  · omega
  · rcases List.mem_cons.1 hn with rfl | hn
    · omega
    · cases hn

/-- The groups of a row of parts, if it is one. -/
noncomputable def rdRow (last : Bool) : List (List UInt8) → Option (List Nat)
  | [] => some []
  | p :: ps => match gV p with
    | some n => (rdRow last ps).map (n :: ·)
    | none => if Qd.qE p = 0 ∧ last = true ∧ ps = [] then some (qs p) else none
/-- The groups of a text without a gap. -/
noncomputable def rdS (last : Bool) (l : List UInt8) : Option (List Nat) := if l = [] then some [] else rdRow last (parts 58 l)
theorem rd_group {last : Bool} {P : List (List UInt8)} {done : List Nat} {k n : Nat} {x : List UInt8} (h : rdRow last P = (rdRow last (P.drop k)).map (done ++ ·)) (hx : P[k]? = some x) (hv : gV x = some n) :
    rdRow last P = (rdRow last (P.drop (k + 1))).map ((done ++ [n]) ++ ·) := by
  obtain ⟨hk, rfl⟩ := List.getElem?_eq_some_iff.1 hx
  rw [h, List.drop_eq_getElem_cons hk, rdRow, hv]
  simp only [Option.map_map]
  congr 1
  funext y
  simp
theorem rd_quad {last : Bool} {P : List (List UInt8)} {done : List Nat} {k : Nat} {x : List UInt8} (h : rdRow last P = (rdRow last (P.drop k)).map (done ++ ·)) (hx : P[k]? = some x) (hv : gV x = none) :
    rdRow last P = if Qd.qE x = 0 ∧ last = true ∧ k + 1 = P.length then some (done ++ qs x) else none := by
  obtain ⟨hk, rfl⟩ := List.getElem?_eq_some_iff.1 hx
  have e : (P.drop (k + 1) = []) = (k + 1 = P.length) := by rw [List.drop_eq_nil_iff]; apply propext; omega
  rw [h, List.drop_eq_getElem_cons hk, rdRow, hv]
  simp only [e]
  split <;> rfl
theorem rd_end {last : Bool} {P : List (List UInt8)} {done : List Nat} {k : Nat} (h : rdRow last P = (rdRow last (P.drop k)).map (done ++ ·)) (hk : P.length ≤ k) : rdRow last P = some done := by
  rw [h, List.drop_of_length_le hk, rdRow]
  simp
theorem rdRow_lt (last : Bool) (P : List (List UInt8)) (L : List Nat) (h : rdRow last P = some L) : (∀ n ∈ L, n < 65536) ∧ L.length ≤ P.length + 1 := by
  induction P generalizing L with
  | nil => rw [rdRow] at h; injection h with h; subst h; exact ⟨fun n hn => (List.not_mem_nil hn).elim, by simp⟩
  | cons p ps ih =>
    rw [rdRow] at h
    split at h
    · next n hn =>
      match hr : rdRow last ps, h with
      | some L', h =>
        simp only [Option.map_some, Option.some.injEq] at h
        subst h
        obtain ⟨i1, i2⟩ := ih L' hr
        refine ⟨fun m hm => ?_, by simp only [List.length_cons]; omega⟩
        rcases List.mem_cons.1 hm with rfl | hm
        · exact (gV_some p _ hn).2.2.2.2
        · exact i1 m hm
      | none, h => simp at h
    · split at h
      · injection h with h
        subst h
        exact ⟨qs_lt p, by simp [qs]⟩
      · cases h
theorem part_len58 (l : List UInt8) (N : Nat) (hn : l.length ≤ N) : ∀ x ∈ parts 58 l, x.length ≤ N := by
  have h : ∀ l : List UInt8, ∀ x ∈ parts 58 l, x.length ≤ l.length := by
    intro l
    induction l with
    | nil => intro x hx; simp [parts] at hx; subst hx; simp
    | cons c t ih =>
      intro x hx
      unfold parts at hx
      split at hx
      · rcases List.mem_cons.1 hx with h | h
        · subst h; simp
        · have := ih x h; simp; omega
      · obtain ⟨a, b, e⟩ := parts_ne 58 t
        rw [e] at hx
        simp only at hx
        rcases List.mem_cons.1 hx with h | h
        · subst h
          have := ih a (by rw [e]; simp)
          simp; omega
        · have := ih x (by rw [e]; simp [h]); simp; omega
  intro x hx
  exact Nat.le_trans (h l x hx) hn
theorem parts58 (l : List UInt8) (w : World) (hn : l.length ≤ 1000000) :
    Calls Tryd.prog 88 #[sv l, .int .u8 58] w fun e w' => (∃ v, e = .returned v ∧ OwnS w' w.heap.size v (parts 58 l).length (parts 58 l)) ∧ Below w.heap.size w w' := parts_any l 58 w hn
theorem refParts58 (l : List UInt8) (w : World) (hn : l.length ≤ 1000000) :
    Calls Tryd.prog 63 #[sv l, .int .u8 58] w fun e w' => (∃ v, e = .returned v ∧ OwnS w' w.heap.size v (parts 58 l).length (parts 58 l)) ∧ Below w.heap.size w w' := refParts_any l 58 w hn

theorem Tryd.infoU16 : (Tryd.prog.info? 94).map (fun i => (i.zero, i.size, i.bytes)) = some (some (.int .u16 0), 1, 2) := by kernel_rfl
theorem Tryd.infoI64 : (Tryd.prog.info? 3).map (fun i => (i.zero, i.size, i.bytes)) = some (some (.int .i64 0), 1, 8) := by kernel_rfl
end Go.Proofs.YtccidoigjdbepaaDoor.Cl
