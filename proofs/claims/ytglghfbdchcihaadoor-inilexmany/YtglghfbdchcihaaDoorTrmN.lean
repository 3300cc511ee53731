
/- What is trimmed and folded, as plain functions of lists of bytes. -/
import Derived.Test.YtglghfbdchcihaaDoorLinD
import Derived.Lib.SlTrimSet
namespace Go.Proofs.YtglghfbdchcihaaDoor.Lin

/-- The blanks. -/
def bls : List UInt8 := [32, 9, 13]
def trL (l : List UInt8) : List UInt8 := Lib.trimLeftS l bls
def trR (l : List UInt8) : List UInt8 := Lib.trimRightS l bls

theorem trL_cons (x : UInt8) (t : List UInt8) (h : bls.contains x = true) : trL (x :: t) = trL t := by
  unfold trL Lib.trimLeftS
  rw [List.dropWhile_cons, if_pos h]
theorem trL_stop (x : UInt8) (t : List UInt8) (h : bls.contains x = false) : trL (x :: t) = x :: t := by
  unfold trL Lib.trimLeftS
  rw [List.dropWhile_cons, if_neg (by rw [h]; decide)]
theorem trL_nil : trL [] = [] := rfl
theorem trR_end (x : UInt8) (t : List UInt8) (h : bls.contains x = true) : trR (t ++ [x]) = trR t := by
  unfold trR Lib.trimRightS
  rw [List.reverse_append, List.reverse_singleton, List.singleton_append, List.dropWhile_cons, if_pos h]
theorem trR_stop (x : UInt8) (t : List UInt8) (h : bls.contains x = false) : trR (t ++ [x]) = t ++ [x] := by
  unfold trR Lib.trimRightS
  rw [List.reverse_append, List.reverse_singleton, List.singleton_append, List.dropWhile_cons, if_neg (by rw [h]; decide)]
  simp
theorem trR_nil : trR [] = [] := rfl

theorem trR_cons (x : UInt8) (t : List UInt8) : trR (x :: t) = if trR t = [] then (if bls.contains x = true then [] else [x]) else x :: trR t := by
  unfold trR Lib.trimRightS
  rw [List.reverse_cons, List.dropWhile_append]
  by_cases h : (t.reverse.dropWhile (bls.contains ·)) = []
  · rw [h]
    simp only [List.isEmpty_nil, ↓reduceIte, List.reverse_nil]
    rw [List.dropWhile_cons]
    split <;> simp
  · have h1 : (t.reverse.dropWhile (bls.contains ·)).isEmpty = false := by simpa using h
    rw [h1]
    have h2 : (t.reverse.dropWhile (bls.contains ·)).reverse ≠ [] := by simpa using h
    rw [if_neg (by decide), if_neg h2, List.reverse_append]
    rfl

theorem trim_comm : ∀ l : List UInt8, trL (trR l) = trR (trL l)
  | [] => rfl
  | x :: t => by
    have ih := trim_comm t
    cases hx : bls.contains x with
    | true =>
      rw [trL_cons x t hx, ← ih, trR_cons, hx]
      by_cases h : trR t = []
      · simp [h]
      · rw [if_neg h, trL_cons _ _ hx]
    | false =>
      rw [trL_stop x t hx, trR_cons, hx]
      by_cases h : trR t = []
      · simp only [h, ↓reduceIte, Bool.false_eq_true]
        exact trL_stop x [] hx
      · rw [if_neg h]
        exact trL_stop _ _ hx

theorem trL_idem : ∀ l : List UInt8, trL (trL l) = trL l
  | [] => rfl
  | x :: t => by
    cases hx : bls.contains x with
    | true => rw [trL_cons x t hx]; exact trL_idem t
    | false => rw [trL_stop x t hx, trL_stop x t hx]
theorem trR_idem (l : List UInt8) : trR (trR l) = trR l := by
  unfold trR Lib.trimRightS
  rw [List.reverse_reverse]
  have := trL_idem l.reverse
  unfold trL Lib.trimLeftS at this
  rw [this]

/-- A text trimmed. -/
def trim (l : List UInt8) : List UInt8 := trL (trR l)
theorem trim_idem (l : List UInt8) : trim (trim l) = trim l := by
  unfold trim
  rw [trim_comm l, trR_idem, ← trim_comm l, trL_idem]
theorem trL_le : ∀ l : List UInt8, (trL l).length ≤ l.length
  | [] => Nat.le_refl _
  | x :: t => by
    cases hx : bls.contains x with
    | true => rw [trL_cons x t hx]; have := trL_le t; simp; omega
    | false => rw [trL_stop x t hx]; exact Nat.le_refl _
theorem trR_le (l : List UInt8) : (trR l).length ≤ l.length := by
  unfold trR Lib.trimRightS
  have := trL_le l.reverse
  unfold trL Lib.trimLeftS at this
  simpa using this
theorem trim_le (l : List UInt8) : (trim l).length ≤ l.length := Nat.le_trans (trL_le _) (trR_le _)

/-- A byte as a small letter. -/
def fo (c : UInt8) : UInt8 := if 65 ≤ c.toNat ∧ c.toNat ≤ 90 then UInt8.ofNat (c.toNat + 32) else c
def fold (l : List UInt8) : List UInt8 := l.map fo
theorem fo_idem (c : UInt8) : fo (fo c) = fo c := by
  unfold fo
  by_cases h : 65 ≤ c.toNat ∧ c.toNat ≤ 90
  · rw [if_pos h, if_neg]
    simp
    omega
  · rw [if_neg h, if_neg h]
theorem fold_idem (l : List UInt8) : fold (fold l) = fold l := by
  unfold fold
  rw [List.map_map]
  exact List.map_congr_left fun c _ => fo_idem c
theorem fo_up (c : UInt8) (h : 65 ≤ c.toNat ∧ c.toNat ≤ 90) : (c.toNat : Int) + 32 = ((fo c).toNat : Int) := by
  unfold fo
  rw [if_pos h]
  simp
  omega
theorem fo_stay (c : UInt8) (h : ¬ (65 ≤ c.toNat ∧ c.toNat ≤ 90)) : fo c = c := by
  unfold fo
  rw [if_neg h]

theorem bl_cases (x : UInt8) : (bls.contains x = true ∧ (x = 32 ∨ x = 9 ∨ x = 13)) ∨ (bls.contains x = false ∧ x ≠ 32 ∧ x ≠ 9 ∧ x ≠ 13) := by
  by_cases h1 : x = 32
  · exact .inl ⟨by subst h1; decide, .inl h1⟩
  · by_cases h2 : x = 9
    · exact .inl ⟨by subst h2; decide, .inr (.inl h2)⟩
    · by_cases h3 : x = 13
      · exact .inl ⟨by subst h3; decide, .inr (.inr h3)⟩
      · exact .inr ⟨by simp [bls, h1, h2, h3], h1, h2, h3⟩

end Go.Proofs.YtglghfbdchcihaaDoor.Lin
