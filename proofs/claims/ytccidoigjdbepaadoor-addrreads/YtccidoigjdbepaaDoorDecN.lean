
/- Plain mathematics of layer 3: digits and numbers. No program. -/
import Derived.WalkKit
import Derived.Lib.ItoaNum
namespace Go.Proofs.YtccidoigjdbepaaDoor.Dec

def isD (c : UInt8) : Bool := 48 ≤ c.toNat && c.toNat ≤ 57
/-- D bytes are digits, and then comes none, or the end. -/
def LeadD (l : List UInt8) (D : Nat) : Prop := D ≤ l.length ∧ (∀ (j : Nat) (c : UInt8), j < D → l[j]? = some c → isD c = true) ∧ (∀ c, l[D]? = some c → isD c = false)

theorem leadD_some (l : List UInt8) : ∃ D, LeadD l D := by
  induction l with
  | nil => exact ⟨0, Nat.le_refl _, (fun j c h => absurd h (by omega)), fun c h => by simp at h⟩
  | cons a t ih =>
    cases ha : isD a with
    | false => exact ⟨0, Nat.zero_le _, (fun j c h => absurd h (by omega)), fun c h => by simp at h; subst h; exact ha⟩
    | true =>
      obtain ⟨D, h1, h2, h3⟩ := ih
      refine ⟨D + 1, by simp; exact h1, fun j c hj hc => ?_, fun c hc => h3 c (by simpa using hc)⟩
      cases j with
      | zero => simp at hc; subst hc; exact ha
      | succ j => exact h2 j c (by omega) (by simpa using hc)

/-- The number of digits. -/
def dval (l : List UInt8) : Nat := l.foldl (fun a c => 10 * a + (c.toNat - 48)) 0

theorem dval_snoc (l : List UInt8) (k : Nat) (c : UInt8) (h : l[k]? = some c) : dval (l.take (k + 1)) = 10 * dval (l.take k) + (c.toNat - 48) := by
  obtain ⟨hk, rfl⟩ := List.getElem?_eq_some_iff.1 h
  rw [List.take_succ_eq_append_getElem hk, dval, List.foldl_append]
  rfl

theorem dval_mono (l : List UInt8) (k : Nat) : dval (l.take k) ≤ dval l := by
  have key : ∀ (m : List UInt8) (a : Nat), a ≤ m.foldl (fun a c => 10 * a + (c.toNat - 48)) a := by
    intro m
    induction m with
    | nil => intro a; exact Nat.le_refl _
    | cons c t ih => intro a; exact Nat.le_trans (by omega) (ih (10 * a + (c.toNat - 48)))
  conv => rhs; rw [← List.take_append_drop k l]
  unfold dval
  rw [List.foldl_append]
  exact key _ _

/-- A number's text: digits, no nought ahead of others. -/
def Formed (l : List UInt8) : Prop := l ≠ [] ∧ (∀ c ∈ l, isD c = true) ∧ (l = [48] ∨ l[0]? ≠ some 48)

theorem digit_of (d : Nat) (h : d < 10) : (UInt8.ofNat (48 + d)).toNat = 48 + d := by simp; omega

theorem dec_small (u : Nat) (h : u < 10) : Lib.decDigits u = [UInt8.ofNat (48 + u)] := by rw [Lib.decDigits]; simp [h]
theorem dec_step (u : Nat) (h : 10 ≤ u) : Lib.decDigits u = Lib.decDigits (u / 10) ++ [UInt8.ofNat (48 + u % 10)] := by
  rw [Lib.decDigits]; simp [show ¬ u < 10 by omega]

theorem dec_props (u : Nat) : Formed (Lib.decDigits u) ∧ dval (Lib.decDigits u) = u ∧ (1 ≤ u → (Lib.decDigits u)[0]? ≠ some 48) := by
  induction u using Nat.strongRecOn with
  | ind u ih =>
    by_cases h : u < 10
    · rw [dec_small u h]
      have hd := digit_of u h
      refine ⟨⟨by simp, ?_, ?_⟩, ?_, ?_⟩
      · intro c hc
        simp only [List.mem_singleton] at hc
        subst hc
        have hd' := digit_of u h
        unfold isD
        simp only [hd', Bool.and_eq_true, decide_eq_true_eq]
        omega
      · by_cases hz : u = 0
        · subst hz; exact .inl rfl
        · refine .inr ?_
          simp only [List.getElem?_cons_zero, ne_eq, Option.some.injEq]
          intro e
          have := congrArg UInt8.toNat e
          rw [hd] at this
          simp at this
          omega
      · simp only [dval, List.foldl_cons, List.foldl_nil]; rw [hd]; omega
      · intro h1
        simp only [List.getElem?_cons_zero, ne_eq, Option.some.injEq]
        intro e
        have := congrArg UInt8.toNat e
        rw [hd] at this
        simp at this
        omega
    · rw [dec_step u (by omega)]
      obtain ⟨⟨h1, h2, h3⟩, h4, h5⟩ := ih (u / 10) (by omega)
      have h0 : (Lib.decDigits (u / 10) ++ [UInt8.ofNat (48 + u % 10)])[0]? ≠ some 48 := by
        have hne := h5 (by omega)
        cases hL : Lib.decDigits (u / 10) with
        | nil => exact absurd hL h1
        | cons a t => rw [hL] at hne; simpa using hne
      refine ⟨⟨by simp, ?_, .inr h0⟩, ?_, fun _ => h0⟩
      · intro c hc
        rcases List.mem_append.1 hc with hc | hc
        · exact h2 c hc
        · simp only [List.mem_singleton] at hc
          subst hc
          have hd' := digit_of (u % 10) (by omega)
          unfold isD
          simp only [hd', Bool.and_eq_true, decide_eq_true_eq]
          omega
      · have hd' := digit_of (u % 10) (by omega)
        unfold dval at *
        rw [List.foldl_append, h4]
        simp only [List.foldl_cons, List.foldl_nil]
        rw [hd']
        omega

/-- What is formed is its number's own text. -/
theorem dec_back (n : Nat) : ∀ l : List UInt8, l.length = n → Formed l → Lib.decDigits (dval l) = l := by
  induction n with
  | zero => intro l hl h; exact absurd (List.eq_nil_of_length_eq_zero hl) h.1
  | succ n ih =>
    intro l hl h
    rcases List.eq_nil_or_concat l with e | ⟨m, c, e⟩
    · exact absurd e h.1
    · rw [List.concat_eq_append] at e
      subst e
      have hc : isD c = true := h.2.1 c (by simp)
      unfold isD at hc
      simp only [Bool.and_eq_true, decide_eq_true_eq] at hc
      have hcc : UInt8.ofNat (48 + (c.toNat - 48)) = c := by
        apply UInt8.toNat_inj.1
        rw [digit_of _ (by omega)]
        omega
      have hv : dval (m ++ [c]) = 10 * dval m + (c.toNat - 48) := by simp [dval, List.foldl_append]
      cases m with
      | nil =>
        have hv0 : dval ([] ++ [c]) = c.toNat - 48 := by simp [dval]
        rw [hv0, dec_small _ (by omega), hcc]
        rfl
      | cons a t =>
        have hF : Formed (a :: t) := by
          refine ⟨by simp, fun x hx => h.2.1 x (List.mem_append.2 (.inl hx)), .inr ?_⟩
          rcases h.2.2 with h2 | h2
          · simp at h2
          · simpa using h2
        have hi := ih (a :: t) (by simp at hl ⊢; omega) hF
        have hpos : 1 ≤ dval (a :: t) := by
          rcases Nat.eq_zero_or_pos (dval (a :: t)) with h0 | h0
          · rw [h0, dec_small 0 (by omega)] at hi
            have : a = 48 := by
              have h6 := congrArg List.head? hi
              simp at h6
              exact h6.symm
            rcases h.2.2 with h2 | h2
            · simp at h2
            · simp [this] at h2
          · exact h0
        rw [hv, dec_step _ (by omega), show (10 * dval (a :: t) + (c.toNat - 48)) / 10 = dval (a :: t) by omega, show (10 * dval (a :: t) + (c.toNat - 48)) % 10 = c.toNat - 48 by omega, hi, hcc]

end Go.Proofs.YtccidoigjdbepaaDoor.Dec
