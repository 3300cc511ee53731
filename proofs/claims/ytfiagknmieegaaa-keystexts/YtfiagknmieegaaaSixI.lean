
/- What ref04.Decode strips and reads: facts of lists. -/
import Derived.Test.YtfiagknmieegaaaSixH
namespace Go.Proofs.Ytfiagknmieegaaa.Six
open Go.RowKit

/-- How much of a text stands ahead of its =. -/
def Strip (S : List UInt8) (m : Nat) : Prop :=
  (S = [] ∧ m = 0) ∨ (∃ c, 1 ≤ S.length ∧ S[S.length - 1]? = some c ∧ c ≠ 61 ∧ m = S.length) ∨
  (∃ c, 2 ≤ S.length ∧ S[S.length - 1]? = some 61 ∧ S[S.length - 2]? = some c ∧ c ≠ 61 ∧ m = S.length - 1) ∨
  (2 ≤ S.length ∧ S[S.length - 1]? = some 61 ∧ S[S.length - 2]? = some 61 ∧ m = S.length - 2)

theorem strip_cons (a b c d : UInt8) (r : List UInt8) (m : Nat) (hr : r ≠ []) (hl : 2 ≤ r.length) (h : Strip r m) : Strip (a :: b :: c :: d :: r) (m + 4) := by
  have e : (a :: b :: c :: d :: r).length = r.length + 4 := rfl
  have at1 : (a :: b :: c :: d :: r)[r.length + 4 - 1]? = r[r.length - 1]? := by rw [show r.length + 4 - 1 = r.length - 1 + 4 by omega]; rfl
  have at2 : (a :: b :: c :: d :: r)[r.length + 4 - 2]? = r[r.length - 2]? := by rw [show r.length + 4 - 2 = r.length - 2 + 4 by omega]; rfl
  unfold Strip
  rw [e, at1, at2]
  rcases h with ⟨h1, _⟩ | ⟨x, h1, h2, h3, h4⟩ | ⟨x, h1, h2, h3, h4, h5⟩ | ⟨h1, h2, h3, h4⟩
  · exact absurd h1 hr
  · exact .inr (.inl ⟨x, by omega, h2, h3, by omega⟩)
  · exact .inr (.inr (.inl ⟨x, by omega, h2, h3, h4, by omega⟩))
  · exact .inr (.inr (.inr ⟨by omega, h2, h3, by omega⟩))

/-- What a text is, bit by bit. -/
def Reads (s L : List UInt8) (z : Nat) (vs left : List Nat) : Prop :=
  Strip s vs.length ∧ (∀ (k v : Nat), vs[k]? = some v → v < 64 ∧ s[k]? = some (sg v)) ∧ vs.flatMap six = L.flatMap bits8 ++ left ∧ left.length < 8 ∧ (z = 0 ↔ ∀ x ∈ left, x = 0) ∧ (s = [] ∨ 4 ≤ s.length)

theorem txt_reads {s L : List UInt8} {z : Nat} (h : Txt s L z) : ∃ vs left, Reads s L z vs left := by
  induction h with
  | nil => exact ⟨[], [], .inl ⟨rfl, rfl⟩, by simp, rfl, by decide, by simp, .inl rfl⟩
  | two a b ha hb =>
    refine ⟨[a, b], [b / 8 % 2, b / 4 % 2, b / 2 % 2, b % 2], .inr (.inr (.inr ⟨by simp, rfl, rfl, rfl⟩)), ?_, ?_, by simp, by simp; omega, .inr (by simp)⟩
    · intro k v hk
      match k, hk with
      | 0, hk => simp at hk; subst hk; exact ⟨ha, rfl⟩
      | 1, hk => simp at hk; subst hk; exact ⟨hb, rfl⟩
    · simp [six, bits8, by1_nat a b ha hb]
      omega
  | three a b c ha hb hc =>
    refine ⟨[a, b, c], [c / 2 % 2, c % 2], .inr (.inr (.inl ⟨sg c, by simp, rfl, rfl, sg_ne c hc, rfl⟩)), ?_, ?_, by simp, by simp; omega, .inr (by simp)⟩
    · intro k v hk
      match k, hk with
      | 0, hk => simp at hk; subst hk; exact ⟨ha, rfl⟩
      | 1, hk => simp at hk; subst hk; exact ⟨hb, rfl⟩
      | 2, hk => simp at hk; subst hk; exact ⟨hc, rfl⟩
    · simp [six, bits8, by1_nat a b ha hb, by2_nat b c hb hc]
      omega
  | four a b c d ha hb hc hd =>
    refine ⟨[a, b, c, d], [], .inr (.inl ⟨sg d, by simp, rfl, sg_ne d hd, rfl⟩), ?_, ?_, by simp, by simp, .inr (by simp)⟩
    · intro k v hk
      match k, hk with
      | 0, hk => simp at hk; subst hk; exact ⟨ha, rfl⟩
      | 1, hk => simp at hk; subst hk; exact ⟨hb, rfl⟩
      | 2, hk => simp at hk; subst hk; exact ⟨hc, rfl⟩
      | 3, hk => simp at hk; subst hk; exact ⟨hd, rfl⟩
    · simp [six, bits8, by1_nat a b ha hb, by2_nat b c hb hc, by3_nat c d hc hd]
      omega
  | more a b c d ha hb hc hd r L z hr h ih =>
    obtain ⟨vs, left, h1, h2, h3, h4, h5, h6⟩ := ih
    have hrl : 4 ≤ r.length := by rcases h6 with e | e; exact absurd e hr; exact e
    refine ⟨a :: b :: c :: d :: vs, left, strip_cons _ _ _ _ r _ hr (by omega) h1, ?_, ?_, h4, h5, .inr (by simp)⟩
    · intro k v hk
      match k, hk with
      | 0, hk => simp at hk; subst hk; exact ⟨ha, rfl⟩
      | 1, hk => simp at hk; subst hk; exact ⟨hb, rfl⟩
      | 2, hk => simp at hk; subst hk; exact ⟨hc, rfl⟩
      | 3, hk => simp at hk; subst hk; exact ⟨hd, rfl⟩
      | k + 4, hk => exact h2 k v (by simpa using hk)
    · have e : six a ++ (six b ++ (six c ++ six d)) = bits8 (by1 a b) ++ (bits8 (by2 b c) ++ bits8 (by3 c d)) := by
        simp [six, bits8, by1_nat a b ha hb, by2_nat b c hb hc, by3_nat c d hc hd]
        omega
      simp only [List.flatMap_cons, h3]
      rw [← List.append_assoc, ← List.append_assoc, ← List.append_assoc, ← List.append_assoc, ← List.append_assoc, ← List.append_assoc]
      congr 2

/-- The first byte that is no sign, ahead of what is stripped. -/
def BadIn (s : List UInt8) (m K : Nat) : Prop := Strip s m ∧ K < m ∧ (∃ c, s[K]? = some c ∧ c ∉ sgs) ∧ ∀ j, j < K → ∃ v, v < 64 ∧ s[j]? = some (sg v)

theorem bad_first (t u : List UInt8) (h : ∃ c, c ∈ t ∧ c ∉ sgs) : ∃ K, K < t.length ∧ (∃ c, (t ++ u)[K]? = some c ∧ c ∉ sgs) ∧ ∀ j, j < K → ∃ v, v < 64 ∧ (t ++ u)[j]? = some (sg v) := by
  obtain ⟨K, ⟨c, hc, hn⟩, hg⟩ := first_bad t h
  obtain ⟨hK, _⟩ := List.getElem?_eq_some_iff.1 hc
  refine ⟨K, hK, ⟨c, by rw [List.getElem?_append_left hK]; exact hc, hn⟩, fun j hj => ?_⟩
  obtain ⟨v, hv, e⟩ := hg j hj
  exact ⟨v, hv, by rw [List.getElem?_append_left (by omega)]; exact e⟩

theorem strip_some : ∀ (n : Nat) (r : List UInt8), r.length = 4 * n → ∃ m, Strip r m ∧ r.length ≤ m + 2 ∧ m ≤ r.length := by
  intro n r hn
  by_cases h0 : r = []
  · exact ⟨0, .inl ⟨h0, rfl⟩, by subst h0; simp, by omega⟩
  · have hl : 4 ≤ r.length := by
      have : r.length ≠ 0 := fun e => h0 (List.eq_nil_of_length_eq_zero e)
      omega
    have e1 := List.getElem?_eq_getElem (l := r) (i := r.length - 1) (by omega)
    have e2 := List.getElem?_eq_getElem (l := r) (i := r.length - 2) (by omega)
    by_cases h1 : r[r.length - 1]'(by omega) = 61
    · by_cases h2 : r[r.length - 2]'(by omega) = 61
      · exact ⟨r.length - 2, .inr (.inr (.inr ⟨by omega, by rw [e1, h1], by rw [e2, h2], rfl⟩)), by omega, by omega⟩
      · exact ⟨r.length - 1, .inr (.inr (.inl ⟨_, by omega, by rw [e1, h1], e2, h2, rfl⟩)), by omega, by omega⟩
    · exact ⟨r.length, .inr (.inl ⟨_, by omega, e1, h1, rfl⟩), by omega, by omega⟩

theorem bad_in {s : List UInt8} (h : Bad s) (h4 : s.length % 4 = 0) : ∃ m K, BadIn s m K := by
  induction h with
  | last2 a b h =>
    obtain ⟨K, h1, h2, h3⟩ := bad_first [a, b] [61, 61] (by rcases h with h | h; exact ⟨a, by simp, h⟩; exact ⟨b, by simp, h⟩)
    exact ⟨2, K, .inr (.inr (.inr ⟨by simp, rfl, rfl, rfl⟩)), h1, h2, h3⟩
  | last1 a b c hc h =>
    obtain ⟨K, h1, h2, h3⟩ := bad_first [a, b, c] [61] (by rcases h with h | h | h; exact ⟨a, by simp, h⟩; exact ⟨b, by simp, h⟩; exact ⟨c, by simp, h⟩)
    exact ⟨3, K, .inr (.inr (.inl ⟨c, by simp, rfl, rfl, hc, rfl⟩)), h1, h2, h3⟩
  | last0 a b c d hd h =>
    obtain ⟨K, h1, h2, h3⟩ := bad_first [a, b, c, d] [] (by rcases h with h | h | h | h; exact ⟨a, by simp, h⟩; exact ⟨b, by simp, h⟩; exact ⟨c, by simp, h⟩; exact ⟨d, by simp, h⟩)
    rw [List.append_nil] at h2 h3
    exact ⟨4, K, .inr (.inl ⟨d, by simp, rfl, hd, rfl⟩), h1, h2, h3⟩
  | here a b c d r hr h =>
    obtain ⟨K, h1, h2, h3⟩ := bad_first [a, b, c, d] r (by rcases h with h | h | h | h; exact ⟨a, by simp, h⟩; exact ⟨b, by simp, h⟩; exact ⟨c, by simp, h⟩; exact ⟨d, by simp, h⟩)
    simp only [List.length_cons] at h4
    obtain ⟨m, hm, _⟩ := strip_some (r.length / 4) r (by omega)
    have hrl : r.length ≠ 0 := fun e => hr (List.eq_nil_of_length_eq_zero e)
    simp only [List.length_cons, List.length_nil] at h1
    exact ⟨m + 4, K, strip_cons a b c d r m hr (by omega) hm, by omega, h2, h3⟩
  | more a b c d ha hb hc hd r hr h ih =>
    simp only [List.length_cons] at h4
    obtain ⟨m, K, hm, hK, ⟨x, hx, hxn⟩, hg⟩ := ih (by omega)
    have hrl : r.length ≠ 0 := fun e => hr (List.eq_nil_of_length_eq_zero e)
    refine ⟨m + 4, K + 4, strip_cons _ _ _ _ r m hr (by omega) hm, by omega, ⟨x, by simpa using hx, hxn⟩, fun j hj => ?_⟩
    match j with
    | 0 => exact ⟨a, ha, rfl⟩
    | 1 => exact ⟨b, hb, rfl⟩
    | 2 => exact ⟨c, hc, rfl⟩
    | 3 => exact ⟨d, hd, rfl⟩
    | j + 4 =>
      obtain ⟨v, hv, e⟩ := hg j (by omega)
      exact ⟨v, hv, by simpa using e⟩

theorem bits_len (L : List UInt8) : (L.flatMap bits8).length = 8 * L.length := by
  induction L with
  | nil => rfl
  | cons x t ih => rw [List.flatMap_cons, List.length_append, ih]; simp [bits8]; omega
theorem six_len (vs : List Nat) : (vs.flatMap six).length = 6 * vs.length := by
  induction vs with
  | nil => rfl
  | cons x t ih => rw [List.flatMap_cons, List.length_append, ih]; simp [six]; omega
theorem bits_at : ∀ (L : List UInt8) (left : List Nat) (j t : Nat) (x : UInt8), L[j]? = some x → t < 8 → (L.flatMap bits8 ++ left)[8 * j + t]? = some (x.toNat / 2 ^ (7 - t) % 2)
  | [], _, j, t, x, h, _ => by simp at h
  | y :: L, left, 0, t, x, h, ht => by
    simp at h
    subst h
    rw [List.flatMap_cons, List.append_assoc, List.getElem?_append_left (by simp [bits8]; omega)]
    have : t = 0 ∨ t = 1 ∨ t = 2 ∨ t = 3 ∨ t = 4 ∨ t = 5 ∨ t = 6 ∨ t = 7 := by omega
    rcases this with rfl | rfl | rfl | rfl | rfl | rfl | rfl | rfl <;> simp [bits8]
  | y :: L, left, j + 1, t, x, h, ht => by
    rw [List.flatMap_cons, List.append_assoc, List.getElem?_append_right (by simp [bits8]; omega)]
    rw [show 8 * (j + 1) + t - (bits8 y).length = 8 * j + t by simp [bits8]; omega]
    exact bits_at L left j t x (by simpa using h) ht

end Go.Proofs.Ytfiagknmieegaaa.Six
