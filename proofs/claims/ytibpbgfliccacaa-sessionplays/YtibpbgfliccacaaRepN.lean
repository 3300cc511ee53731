
/- Plain mathematics of layer 28: bits of numbers in a ring of 32 words. No program. -/
import Derived.WalkKit
import Derived.Laws.Bits64b
import Derived.Laws.ShiftsVarLaws
namespace Go.Proofs.Ytibpbgfliccacaa

/-- The numbers that were taken: each once at most, newest first, as the document has them. -/
def topOf (l : List Nat) : Nat := l.foldl max 0
/-- The document's answer: can a number be taken? -/
def canB (l : List Nat) (n : Nat) : Bool := decide (n < 18446744073709543423) && !l.contains n && (decide (topOf l ≤ n) || decide (topOf l - n ≤ 1984))

theorem foldl_max (l : List Nat) (a : Nat) : l.foldl max a = max a (l.foldl max 0) := by
  induction l generalizing a with
  | nil => simp
  | cons x t ih => rw [List.foldl_cons, List.foldl_cons, ih (max a x), ih (max 0 x)]; omega
theorem topOf_snoc (l : List Nat) (n : Nat) : topOf (l ++ [n]) = max (topOf l) n := by unfold topOf; rw [List.foldl_append]; rfl
theorem topOf_nil : topOf [] = 0 := rfl
theorem le_topOf (l : List Nat) (n : Nat) (h : n ∈ l) : n ≤ topOf l := by
  induction l with
  | nil => cases h
  | cons x t ih =>
    unfold topOf at *
    rw [List.foldl_cons, foldl_max]
    rcases List.mem_cons.1 h with rfl | h
    · omega
    · have := ih h; omega
theorem topOf_mem (l : List Nat) (h : l ≠ []) : topOf l ∈ l := by
  induction l with
  | nil => exact absurd rfl h
  | cons x t ih =>
    unfold topOf at *
    rw [List.foldl_cons, foldl_max, show max 0 x = x by omega]
    by_cases ht : t = []
    · subst ht; simp
    · have := ih ht
      by_cases hx : List.foldl max 0 t ≤ x
      · rw [show max x (List.foldl max 0 t) = x by omega]; exact List.mem_cons_self
      · rw [show max x (List.foldl max 0 t) = List.foldl max 0 t by omega]; exact List.mem_cons_of_mem _ this

/-- What a ring of words holds of the numbers that were taken. -/
structure Rings (ws : List Nat) (l : List Nat) : Prop where
  size : ws.length = 32
  lim : ∀ x ∈ l, x < 18446744073709543423
  word : ∀ i, ws.getD i 0 < 18446744073709551616
  bit : ∀ m, m / 64 ≤ topOf l / 64 → topOf l / 64 < m / 64 + 32 → ((ws.getD (m / 64 % 32) 0).testBit (m % 64) = true ↔ m ∈ l)

theorem Rings.top {ws l : List Nat} (h : Rings ws l) : topOf l < 18446744073709543423 := by
  by_cases hl : l = []
  · subst hl; decide
  · exact h.lim _ (topOf_mem l hl)

theorem rings_nil : Rings (List.replicate 32 0) [] := by
  refine ⟨rfl, fun x hx => (by cases hx), fun i => ?_, fun m h1 h2 => ?_⟩
  · rw [List.getD_eq_getElem?_getD, List.getElem?_replicate]; split <;> decide
  · rw [List.getD_eq_getElem?_getD, List.getElem?_replicate]; split <;> simp

/-- The bit of a number, held against its word. -/
theorem and_bit (x n : Nat) : (x &&& 2 ^ n = 0) ↔ x.testBit n = false := by
  constructor
  · intro h
    have := congrArg (fun y => y.testBit n) h
    simpa [Nat.testBit_and, Nat.testBit_two_pow_self] using this
  · intro h
    apply Nat.eq_of_testBit_eq
    intro i
    rw [Nat.testBit_and, Nat.testBit_two_pow, Nat.zero_testBit]
    by_cases hi : n = i
    · subst hi; simp [h]
    · simp [hi]

theorem getD_set (ws : List Nat) (i j v : Nat) (hi : i < ws.length) : (ws.set i v).getD j 0 = if i = j then v else ws.getD j 0 := by
  rw [List.getD_eq_getElem?_getD, List.getD_eq_getElem?_getD, List.getElem?_set]
  by_cases h : i = j
  · subst h; simp [hi]
  · simp [h]

/-- Words k .. of the ring, cleared. -/
def clearW (ws : List Nat) (q : Nat) : Nat → List Nat
  | 0 => ws
  | k + 1 => (clearW ws q k).set ((q - k) % 32) 0

theorem clearW_len (ws : List Nat) (q k : Nat) : (clearW ws q k).length = ws.length := by
  induction k with
  | zero => rfl
  | succ k ih => unfold clearW; rw [List.length_set, ih]

theorem clearW_get (ws : List Nat) (q : Nat) (hw : ws.length = 32) : ∀ (k i : Nat), (clearW ws q k).getD i 0 = if ∃ j, j < k ∧ (q - j) % 32 = i then 0 else ws.getD i 0
  | 0, i => by simp [clearW]
  | k + 1, i => by
    unfold clearW
    rw [getD_set _ _ _ _ (by rw [clearW_len, hw]; exact Nat.mod_lt _ (by decide)), clearW_get ws q hw k i]
    by_cases h : (q - k) % 32 = i
    · rw [if_pos h, if_pos ⟨k, by omega, h⟩]
    · rw [if_neg h]
      by_cases h2 : ∃ j, j < k ∧ (q - j) % 32 = i
      · obtain ⟨j, hj, e⟩ := h2
        rw [if_pos ⟨j, hj, e⟩, if_pos ⟨j, by omega, e⟩]
      · rw [if_neg h2, if_neg]
        rintro ⟨j, hj, e⟩
        by_cases hjk : j = k
        · subst hjk; exact h e
        · exact h2 ⟨j, by omega, e⟩

/-- The ring behind the greatest number's rise to n. -/
def riseW (ws : List Nat) (t n : Nat) : List Nat := clearW ws (n / 64) (min (n / 64 - t / 64) 32)

/-- One bit more. -/
def orW (ws : List Nat) (n : Nat) : List Nat := ws.set (n / 64 % 32) (ws.getD (n / 64 % 32) 0 ||| 2 ^ (n % 64))

/-- A number is taken: the ring and the list. -/
def takeW (ws : List Nat) (t n : Nat) : List Nat := orW (if t < n then riseW ws t n else ws) n

theorem or_bit (x n m : Nat) : (x ||| 2 ^ n).testBit m = (x.testBit m || decide (n = m)) := by
  rw [Nat.testBit_or, Nat.testBit_two_pow]

theorem Rings.take {ws l : List Nat} (h : Rings ws l) (n : Nat) (hc : canB l n = true) : Rings (takeW ws (topOf l) n) (l ++ [n]) := by
  have hw := h.size
  unfold canB at hc
  simp only [Bool.and_eq_true, decide_eq_true_eq, Bool.or_eq_true, Bool.not_eq_true', List.contains_eq_mem, decide_eq_false_iff_not] at hc
  obtain ⟨⟨hlim, hnot⟩, hnear⟩ := hc
  -- the ring ahead of the new bit, at the new top
  have H : (if topOf l < n then riseW ws (topOf l) n else ws).length = 32 ∧ (∀ i, (if topOf l < n then riseW ws (topOf l) n else ws).getD i 0 < 18446744073709551616) ∧
      ∀ m, m / 64 ≤ (max (topOf l) n) / 64 → (max (topOf l) n) / 64 < m / 64 + 32 → (((if topOf l < n then riseW ws (topOf l) n else ws).getD (m / 64 % 32) 0).testBit (m % 64) = true ↔ m ∈ l) := by
    by_cases ht : topOf l < n
    · rw [if_pos ht]
      refine ⟨by unfold riseW; rw [clearW_len, hw], fun i => ?_, fun m h1 h2 => ?_⟩
      · unfold riseW
        rw [clearW_get _ _ hw]
        split
        · decide
        · exact h.word i
      · rw [show max (topOf l) n = n by omega] at h1 h2
        unfold riseW
        rw [clearW_get _ _ hw]
        by_cases hm : m / 64 ≤ topOf l / 64
        · rw [if_neg]
          · exact h.bit m hm (by omega)
          · rintro ⟨j, hj, e⟩
            omega
        · rw [if_pos ⟨n / 64 - m / 64, by omega, by rw [show n / 64 - (n / 64 - m / 64) = m / 64 by omega]⟩]
          simp only [Nat.zero_testBit, Bool.false_eq_true, false_iff]
          intro hml
          have := le_topOf l m hml
          exact hm (Nat.div_le_div_right this)
    · rw [if_neg ht, show max (topOf l) n = topOf l by omega]
      exact ⟨hw, h.word, h.bit⟩
  unfold takeW
  generalize (if topOf l < n then riseW ws (topOf l) n else ws) = vs at H
  obtain ⟨hv, hvb, hvm⟩ := H
  have hi : n / 64 % 32 < vs.length := by omega
  refine ⟨by unfold orW; rw [List.length_set, hv], fun x hx => ?_, fun i => ?_, fun m h1 h2 => ?_⟩
  · rcases List.mem_append.1 hx with hx | hx
    · exact h.lim x hx
    · rw [List.mem_singleton.1 hx]; exact hlim
  · unfold orW
    rw [getD_set _ _ _ _ hi]
    split
    · have : 2 ^ (n % 64) < 2 ^ 64 := Nat.pow_lt_pow_right (by decide) (by omega)
      exact Nat.or_lt_two_pow (n := 64) (hvb _) this
    · exact hvb i
  · rw [topOf_snoc] at h1 h2
    have hb := hvm m h1 h2
    unfold orW
    rw [getD_set _ _ _ _ hi]
    by_cases hs : n / 64 % 32 = m / 64 % 32
    · have hsame : n / 64 = m / 64 := by
        rcases hnear with hn | hn <;> omega
      rw [if_pos hs, hs, or_bit, Bool.or_eq_true, hb, decide_eq_true_eq, List.mem_append, List.mem_singleton]
      constructor
      · rintro (h | h)
        · exact .inl h
        · exact .inr (by omega)
      · rintro (h | h)
        · exact .inl h
        · exact .inr (by omega)
    · rw [if_neg hs, hb, List.mem_append, List.mem_singleton]
      constructor
      · exact .inl
      · rintro (h | h)
        · exact h
        · subst h; exact absurd rfl hs

/-- A bit that the ring tells. -/
def bitB (ws : List Nat) (n : Nat) : Bool := (ws.getD (n / 64 % 32) 0).testBit (n % 64)

theorem Rings.can {ws l : List Nat} (h : Rings ws l) (n : Nat) : canB l n = (decide (n < 18446744073709543423) && (decide (topOf l < n) || (decide (topOf l - n ≤ 1984) && !bitB ws n))) := by
  unfold canB
  by_cases hl : n < 18446744073709543423
  · by_cases ht : topOf l < n
    · have hn : n ∉ l := fun hm => by have := le_topOf l n hm; omega
      simp [hl, ht, hn]
      omega
    · by_cases hd : topOf l - n ≤ 1984
      · have hb := h.bit n (by omega) (by omega)
        have e : bitB ws n = decide (n ∈ l) := by
          unfold bitB
          rw [Bool.eq_iff_iff, hb]
          simp
        simp [hl, ht, hd, e]
      · have hne : n ≠ topOf l := by omega
        simp [hl, ht, hd]
        intro _
        omega
  · simp [hl]

theorem Rings.some {ws l : List Nat} (h : Rings ws l) : bitB ws (topOf l) = decide (0 < l.length) := by
  have hb := h.bit (topOf l) (Nat.le_refl _) (by omega)
  unfold bitB
  rw [Bool.eq_iff_iff, hb]
  simp only [decide_eq_true_eq]
  constructor
  · intro hm; exact List.length_pos_of_mem hm
  · intro hp; exact topOf_mem l (fun e => by subst e; simp at hp)

end Go.Proofs.Ytibpbgfliccacaa
