
/- Signs of sixty-four: what a text says, as plain functions of lists. -/
import Derived.Test.YtfiagknmieegaaaGen
import Derived.Lib.Bytealg
namespace Go.Proofs.Ytfiagknmieegaaa.Six

/-- The signs. -/
def sgs : List UInt8 := [65, 66, 67, 68, 69, 70, 71, 72, 73, 74, 75, 76, 77, 78, 79, 80, 81, 82, 83, 84, 85, 86, 87, 88, 89, 90, 97, 98, 99, 100, 101, 102, 103, 104, 105, 106, 107, 108, 109, 110, 111, 112, 113, 114, 115, 116, 117, 118, 119, 120, 121, 122, 48, 49, 50, 51, 52, 53, 54, 55, 56, 57, 43, 47]
def sg (n : Nat) : UInt8 := sgs.getD n 0
theorem sg_at (n : Nat) (h : n < 64) : sgs[n]? = some (sg n) := by
  have : ∀ m : Fin 64, sgs[m.val]? = some (sg m.val) := by decide +kernel
  exact this ⟨n, h⟩
theorem sg_val (n : Nat) (h : n < 64) : Lib.indexByte sgs (sg n) = (n : Int) := by
  have : ∀ m : Fin 64, Lib.indexByte sgs (sg m.val) = (m.val : Int) := by decide +kernel
  exact this ⟨n, h⟩
theorem sg_no (c : UInt8) (h : c ∉ sgs) : Lib.indexByte sgs c = -1 := by
  have : ∀ m : Fin 256, UInt8.ofNat m.val ∉ sgs → Lib.indexByte sgs (UInt8.ofNat m.val) = -1 := by decide +kernel
  have h2 := this ⟨c.toNat, c.toNat_lt⟩
  simp only [UInt8.ofNat_toNat] at h2
  exact h2 h
theorem sg_or (c : UInt8) : (∃ v, v < 64 ∧ c = sg v) ∨ c ∉ sgs := by
  by_cases h : c ∈ sgs
  · obtain ⟨n, hn, rfl⟩ := List.getElem_of_mem h
    have h64 : n < 64 := hn
    refine .inl ⟨n, h64, ?_⟩
    have := sg_at n h64
    rw [List.getElem?_eq_getElem hn] at this
    exact Option.some.inj this
  · exact .inr h
theorem sg_mem (v : Nat) (h : v < 64) : sg v ∈ sgs := List.mem_of_getElem? (sg_at v h)
theorem eq_no : (61 : UInt8) ∉ sgs := by decide
theorem sg_ne (v : Nat) (h : v < 64) : sg v ≠ 61 := fun e => eq_no (e ▸ sg_mem v h)
theorem sg_inj (a b : Nat) (ha : a < 64) (hb : b < 64) (h : sg a = sg b) : a = b := by
  have h1 := sg_val a ha
  have h2 := sg_val b hb
  rw [h] at h1
  omega

/-- What four signs say. -/
def by1 (a b : Nat) : UInt8 := UInt8.ofNat (a * 4 + b / 16)
def by2 (b c : Nat) : UInt8 := UInt8.ofNat (b % 16 * 16 + c / 4)
def by3 (c d : Nat) : UInt8 := UInt8.ofNat (c % 4 * 64 + d)

/-- A text, the bytes that it says, and the bits left over. -/
inductive Txt : List UInt8 → List UInt8 → Nat → Prop
  | nil : Txt [] [] 0
  | two (a b : Nat) (ha : a < 64) (hb : b < 64) : Txt [sg a, sg b, 61, 61] [by1 a b] (b % 16)
  | three (a b c : Nat) (ha : a < 64) (hb : b < 64) (hc : c < 64) : Txt [sg a, sg b, sg c, 61] [by1 a b, by2 b c] (c % 4)
  | four (a b c d : Nat) (ha : a < 64) (hb : b < 64) (hc : c < 64) (hd : d < 64) : Txt [sg a, sg b, sg c, sg d] [by1 a b, by2 b c, by3 c d] 0
  | more (a b c d : Nat) (ha : a < 64) (hb : b < 64) (hc : c < 64) (hd : d < 64) (r L : List UInt8) (z : Nat) (hr : r ≠ []) (h : Txt r L z) :
      Txt (sg a :: sg b :: sg c :: sg d :: r) (by1 a b :: by2 b c :: by3 c d :: L) z

/-- The text of bytes. -/
def enc : List UInt8 → List UInt8
  | [] => []
  | [x] => [sg (x.toNat / 4), sg (x.toNat % 4 * 16), 61, 61]
  | [x, y] => [sg (x.toNat / 4), sg (x.toNat % 4 * 16 + y.toNat / 16), sg (y.toNat % 16 * 4), 61]
  | x :: y :: z :: r => sg (x.toNat / 4) :: sg (x.toNat % 4 * 16 + y.toNat / 16) :: sg (y.toNat % 16 * 4 + z.toNat / 64) :: sg (z.toNat % 64) :: enc r

theorem enc_ne {L : List UInt8} (h : L ≠ []) : enc L ≠ [] := by
  match L, h with
  | [x], _ => simp [enc]
  | [x, y], _ => simp [enc]
  | x :: y :: z :: r, _ => simp [enc]

theorem of_by {n : Nat} {x : UInt8} (h : n = x.toNat) : UInt8.ofNat n = x := by rw [h]; simp

theorem enc_txt : ∀ L : List UInt8, Txt (enc L) L 0
  | [] => .nil
  | [x] => by
    have hx := x.toNat_lt
    have := Txt.two (x.toNat / 4) (x.toNat % 4 * 16) (by omega) (by omega)
    rw [show x.toNat % 4 * 16 % 16 = 0 by omega, show by1 (x.toNat / 4) (x.toNat % 4 * 16) = x from of_by (by omega)] at this
    exact this
  | [x, y] => by
    have hx := x.toNat_lt
    have hy := y.toNat_lt
    have := Txt.three (x.toNat / 4) (x.toNat % 4 * 16 + y.toNat / 16) (y.toNat % 16 * 4) (by omega) (by omega) (by omega)
    rw [show y.toNat % 16 * 4 % 4 = 0 by omega, show by1 (x.toNat / 4) (x.toNat % 4 * 16 + y.toNat / 16) = x from of_by (by omega), show by2 (x.toNat % 4 * 16 + y.toNat / 16) (y.toNat % 16 * 4) = y from of_by (by omega)] at this
    exact this
  | x :: y :: z :: r => by
    have hx := x.toNat_lt
    have hy := y.toNat_lt
    have hz := z.toNat_lt
    have e1 : by1 (x.toNat / 4) (x.toNat % 4 * 16 + y.toNat / 16) = x := of_by (by omega)
    have e2 : by2 (x.toNat % 4 * 16 + y.toNat / 16) (y.toNat % 16 * 4 + z.toNat / 64) = y := of_by (by omega)
    have e3 : by3 (y.toNat % 16 * 4 + z.toNat / 64) (z.toNat % 64) = z := of_by (by omega)
    by_cases hr : r = []
    · subst hr
      have := Txt.four (x.toNat / 4) (x.toNat % 4 * 16 + y.toNat / 16) (y.toNat % 16 * 4 + z.toNat / 64) (z.toNat % 64) (by omega) (by omega) (by omega) (by omega)
      rw [e1, e2, e3] at this
      exact this
    · have := Txt.more (x.toNat / 4) (x.toNat % 4 * 16 + y.toNat / 16) (y.toNat % 16 * 4 + z.toNat / 64) (z.toNat % 64) (by omega) (by omega) (by omega) (by omega) _ _ _ (enc_ne hr) (enc_txt r)
      rw [e1, e2, e3] at this
      exact this

theorem by1_nat (a b : Nat) (ha : a < 64) (hb : b < 64) : (by1 a b).toNat = a * 4 + b / 16 := by simp [by1]; omega
theorem by2_nat (b c : Nat) (_hb : b < 64) (hc : c < 64) : (by2 b c).toNat = b % 16 * 16 + c / 4 := by simp [by2]; omega
theorem by3_nat (c d : Nat) (_hc : c < 64) (hd : d < 64) : (by3 c d).toNat = c % 4 * 64 + d := by simp [by3]; omega

theorem txt_enc {s L : List UInt8} {z : Nat} (h : Txt s L z) (hz : z = 0) : enc L = s := by
  induction h with
  | nil => rfl
  | two a b ha hb =>
    simp only [enc, by1_nat a b ha hb]
    rw [show (a * 4 + b / 16) / 4 = a by omega, show (a * 4 + b / 16) % 4 * 16 = b by omega]
  | three a b c ha hb hc =>
    simp only [enc, by1_nat a b ha hb, by2_nat b c hb hc]
    rw [show (a * 4 + b / 16) / 4 = a by omega, show (a * 4 + b / 16) % 4 * 16 + (b % 16 * 16 + c / 4) / 16 = b by omega, show (b % 16 * 16 + c / 4) % 16 * 4 = c by omega]
  | four a b c d ha hb hc hd =>
    simp only [enc, by1_nat a b ha hb, by2_nat b c hb hc, by3_nat c d hc hd]
    rw [show (a * 4 + b / 16) / 4 = a by omega, show (a * 4 + b / 16) % 4 * 16 + (b % 16 * 16 + c / 4) / 16 = b by omega, show (b % 16 * 16 + c / 4) % 16 * 4 + (c % 4 * 64 + d) / 64 = c by omega, show (c % 4 * 64 + d) % 64 = d by omega]
  | more a b c d ha hb hc hd r L z hr h ih =>
    simp only [enc, by1_nat a b ha hb, by2_nat b c hb hc, by3_nat c d hc hd, ih hz]
    rw [show (a * 4 + b / 16) / 4 = a by omega, show (a * 4 + b / 16) % 4 * 16 + (b % 16 * 16 + c / 4) / 16 = b by omega, show (b % 16 * 16 + c / 4) % 16 * 4 + (c % 4 * 64 + d) / 64 = c by omega, show (c % 4 * 64 + d) % 64 = d by omega]

/-- A text with a byte that is no sign where one must be. -/
inductive Bad : List UInt8 → Prop
  | last2 (a b : UInt8) (h : a ∉ sgs ∨ b ∉ sgs) : Bad [a, b, 61, 61]
  | last1 (a b c : UInt8) (hc : c ≠ 61) (h : a ∉ sgs ∨ b ∉ sgs ∨ c ∉ sgs) : Bad [a, b, c, 61]
  | last0 (a b c d : UInt8) (hd : d ≠ 61) (h : a ∉ sgs ∨ b ∉ sgs ∨ c ∉ sgs ∨ d ∉ sgs) : Bad [a, b, c, d]
  | here (a b c d : UInt8) (r : List UInt8) (hr : r ≠ []) (h : a ∉ sgs ∨ b ∉ sgs ∨ c ∉ sgs ∨ d ∉ sgs) : Bad (a :: b :: c :: d :: r)
  | more (a b c d : Nat) (ha : a < 64) (hb : b < 64) (hc : c < 64) (hd : d < 64) (r : List UInt8) (hr : r ≠ []) (h : Bad r) : Bad (sg a :: sg b :: sg c :: sg d :: r)

theorem txt_or (n : Nat) : ∀ s : List UInt8, s.length = 4 * n → (∃ L z, Txt s L z) ∨ Bad s := by
  induction n with
  | zero =>
    intro s hs
    obtain rfl : s = [] := List.eq_nil_of_length_eq_zero (by omega)
    exact .inl ⟨_, _, .nil⟩
  | succ n ih =>
    intro s hs
    match s, hs with
    | a :: b :: c :: d :: r, hs =>
      simp only [List.length_cons] at hs
      by_cases hr : r = []
      · subst hr
        rcases sg_or a with ⟨va, ha, rfl⟩ | ha
        · rcases sg_or b with ⟨vb, hb, rfl⟩ | hb
          · by_cases hd : d = 61
            · subst hd
              by_cases hc : c = 61
              · subst hc; exact .inl ⟨_, _, .two va vb ha hb⟩
              · rcases sg_or c with ⟨vc, hc', rfl⟩ | hc'
                · exact .inl ⟨_, _, .three va vb vc ha hb hc'⟩
                · exact .inr (.last1 _ _ _ hc (.inr (.inr hc')))
            · rcases sg_or c with ⟨vc, hc', rfl⟩ | hc'
              · rcases sg_or d with ⟨vd, hd', rfl⟩ | hd'
                · exact .inl ⟨_, _, .four va vb vc vd ha hb hc' hd'⟩
                · exact .inr (.last0 _ _ _ _ hd (.inr (.inr (.inr hd'))))
              · exact .inr (.last0 _ _ _ _ hd (.inr (.inr (.inl hc'))))
          · by_cases hd : d = 61
            · subst hd
              by_cases hc : c = 61
              · subst hc; exact .inr (.last2 _ _ (.inr hb))
              · exact .inr (.last1 _ _ _ hc (.inr (.inl hb)))
            · exact .inr (.last0 _ _ _ _ hd (.inr (.inl hb)))
        · by_cases hd : d = 61
          · subst hd
            by_cases hc : c = 61
            · subst hc; exact .inr (.last2 _ _ (.inl ha))
            · exact .inr (.last1 _ _ _ hc (.inl ha))
          · exact .inr (.last0 _ _ _ _ hd (.inl ha))
      · rcases sg_or a with ⟨va, ha, rfl⟩ | ha
        · rcases sg_or b with ⟨vb, hb, rfl⟩ | hb
          · rcases sg_or c with ⟨vc, hc, rfl⟩ | hc
            · rcases sg_or d with ⟨vd, hd, rfl⟩ | hd
              · rcases ih r (by omega) with ⟨L, z, h⟩ | h
                · exact .inl ⟨_, _, .more va vb vc vd ha hb hc hd r L z hr h⟩
                · exact .inr (.more va vb vc vd ha hb hc hd r hr h)
              · exact .inr (.here _ _ _ _ _ hr (.inr (.inr (.inr hd))))
            · exact .inr (.here _ _ _ _ _ hr (.inr (.inr (.inl hc))))
          · exact .inr (.here _ _ _ _ _ hr (.inr (.inl hb)))
        · exact .inr (.here _ _ _ _ _ hr (.inl ha))

/-- The bits of a sign's number, and of a byte. -/
def six (v : Nat) : List Nat := [v / 32 % 2, v / 16 % 2, v / 8 % 2, v / 4 % 2, v / 2 % 2, v % 2]
def bits8 (x : UInt8) : List Nat := [x.toNat / 128 % 2, x.toNat / 64 % 2, x.toNat / 32 % 2, x.toNat / 16 % 2, x.toNat / 8 % 2, x.toNat / 4 % 2, x.toNat / 2 % 2, x.toNat % 2]

/-- What a text is, sign by sign and bit by bit: its signs' numbers, how many = follow, the bits left over. -/
def Bits (s L : List UInt8) (z : Nat) (vs : List Nat) (p : Nat) (left : List Nat) : Prop :=
  s = vs.map sg ++ List.replicate p 61 ∧ (∀ v ∈ vs, v < 64) ∧ p ≤ 2 ∧ (s = [] ∨ 2 ≤ vs.length) ∧ vs.flatMap six = L.flatMap bits8 ++ left ∧ left.length < 8 ∧ (z = 0 ↔ ∀ x ∈ left, x = 0)

theorem cons_append6 {α : Type} (a : List α) (b c d : List α) : a ++ (b ++ (c ++ d)) = (a ++ b ++ c) ++ d := by simp

theorem txt_bits {s L : List UInt8} {z : Nat} (h : Txt s L z) : ∃ vs p left, Bits s L z vs p left := by
  induction h with
  | nil => exact ⟨[], 0, [], rfl, by simp, by omega, .inl rfl, rfl, by decide, by simp⟩
  | two a b ha hb =>
    refine ⟨[a, b], 2, [b / 8 % 2, b / 4 % 2, b / 2 % 2, b % 2], rfl, by simp [ha, hb], by omega, .inr (by simp), ?_, by simp, by simp; omega⟩
    simp [six, bits8, by1_nat a b ha hb]
    omega
  | three a b c ha hb hc =>
    refine ⟨[a, b, c], 1, [c / 2 % 2, c % 2], rfl, by simp [ha, hb, hc], by omega, .inr (by simp), ?_, by simp, by simp; omega⟩
    simp [six, bits8, by1_nat a b ha hb, by2_nat b c hb hc]
    omega
  | four a b c d ha hb hc hd =>
    refine ⟨[a, b, c, d], 0, [], rfl, by simp [ha, hb, hc, hd], by omega, .inr (by simp), ?_, by simp, by simp⟩
    simp [six, bits8, by1_nat a b ha hb, by2_nat b c hb hc, by3_nat c d hc hd]
    omega
  | more a b c d ha hb hc hd r L z hr h ih =>
    obtain ⟨vs, p, left, h1, h2, h3, h4, h5, h6, h7⟩ := ih
    refine ⟨a :: b :: c :: d :: vs, p, left, by rw [h1]; rfl, by simpa [ha, hb, hc, hd] using h2, h3, .inr (by simp), ?_, h6, h7⟩
    have e : six a ++ (six b ++ (six c ++ six d)) = bits8 (by1 a b) ++ (bits8 (by2 b c) ++ bits8 (by3 c d)) := by
      simp [six, bits8, by1_nat a b ha hb, by2_nat b c hb hc, by3_nat c d hc hd]
      omega
    simp only [List.flatMap_cons, h5]
    rw [← List.append_assoc, ← List.append_assoc, ← List.append_assoc, ← List.append_assoc, ← List.append_assoc, ← List.append_assoc]
    congr 2

end Go.Proofs.Ytfiagknmieegaaa.Six
