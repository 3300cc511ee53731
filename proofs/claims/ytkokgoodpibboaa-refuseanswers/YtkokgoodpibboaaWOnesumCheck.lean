
/- The walk of law18.OnesumCheck. -/
import Derived.Test.YtkokgoodpibboaaSumB
namespace Go.Proofs.Ytkokgoodpibboaa
open Go.RowKit
set_option maxRecDepth 100000

theorem set_get {α : Type} (l : List α) (k : Nat) (x : α) (h : k < l.length) : (l.set k x)[k]? = some x := by simp [h]

/-- The sum's words with a word put at an even place where there were two bytes 0. -/
theorem raw_word (l : List UInt8) (at_ n : Nat) (h0 : l[2 * at_]? = some 0) (h1 : l[2 * at_ + 1]? = some 0) (hn : n ≤ 65535) :
    raw true ((l.set (2 * at_) (UInt8.ofNat (n / 256))).set (2 * at_ + 1) (UInt8.ofNat (n % 256))) = raw true l + n := by
  have e1 := raw_set l true (2 * at_) 0 (UInt8.ofNat (n / 256)) h0
  have h1' : (l.set (2 * at_) (UInt8.ofNat (n / 256)))[2 * at_ + 1]? = some 0 := by rw [List.getElem?_set_ne (by omega)]; exact h1
  have e2 := raw_set (l.set (2 * at_) (UInt8.ofNat (n / 256))) true (2 * at_ + 1) 0 (UInt8.ofNat (n % 256)) h1'
  rw [if_pos (show 2 * at_ % 2 = 0 by omega)] at e1
  rw [if_neg (show ¬ (2 * at_ + 1) % 2 = 0 by omega)] at e2
  have a1 : (UInt8.ofNat (n / 256)).toNat = n / 256 := by simp; omega
  have a2 : (UInt8.ofNat (n % 256)).toNat = n % 256 := by simp
  rw [a1] at e1
  rw [a2] at e2
  simp at e1 e2
  omega

/-- What is checked is good. -/
theorem checked_good (l : List UInt8) (at_ : Nat) (h0 : l[2 * at_]? = some 0) (h1 : l[2 * at_ + 1]? = some 0) :
    osum ((l.set (2 * at_) (UInt8.ofNat ((65535 - osum l) / 256))).set (2 * at_ + 1) (UInt8.ofNat ((65535 - osum l) % 256))) = 65535 := by
  unfold osum
  rw [raw_word l at_ _ h0 h1 (by omega), foldN_full]
  generalize raw true l = R
  unfold foldN
  split <;> omega

theorem two_pow_cases (t : Nat) (h : t < 8) : 2 ^ (7 - t) = 1 ∨ 2 ^ (7 - t) = 2 ∨ 2 ^ (7 - t) = 4 ∨ 2 ^ (7 - t) = 8 ∨ 2 ^ (7 - t) = 16 ∨ 2 ^ (7 - t) = 32 ∨ 2 ^ (7 - t) = 64 ∨ 2 ^ (7 - t) = 128 := by
  have : t = 0 ∨ t = 1 ∨ t = 2 ∨ t = 3 ∨ t = 4 ∨ t = 5 ∨ t = 6 ∨ t = 7 := by omega
  rcases this with rfl | rfl | rfl | rfl | rfl | rfl | rfl | rfl <;> simp

/-- What is good is not good any more with one bit turned. -/
theorem turned_bad (l : List UInt8) (bit : Nat) (hb : bit < 8 * l.length) (hg : osum l = 65535) : osum (turned l bit) ≠ 65535 := by
  have hk : bit / 8 < l.length := by omega
  have hx : l[bit / 8]? = some l[bit / 8] := List.getElem?_eq_getElem hk
  have hxl := (l[bit / 8]).toNat_lt
  have hT : turned l bit = l.set (bit / 8) (UInt8.ofNat (turnN (l[bit / 8]).toNat (bit % 8))) := by unfold turned; rw [hx]; rfl
  have e := raw_set l true (bit / 8) l[bit / 8] (UInt8.ofNat (turnN (l[bit / 8]).toNat (bit % 8))) hx
  have hc := turnN_cases (l[bit / 8]).toNat (bit % 8) hxl (by omega)
  have hl := turnN_lt (l[bit / 8]).toNat (bit % 8) hxl (by omega)
  have hp := two_pow_cases (bit % 8) (by omega)
  rw [← hT, show (UInt8.ofNat (turnN (l[bit / 8]).toNat (bit % 8))).toNat = turnN (l[bit / 8]).toNat (bit % 8) by simp; omega] at e
  unfold osum at *
  rw [foldN_full] at hg
  rw [Ne, foldN_full]
  obtain ⟨F, hF, e⟩ : ∃ F : Nat, (F = 256 ∨ F = 1) ∧ raw true (turned l bit) + F * (l[bit / 8]).toNat = raw true l + F * turnN (l[bit / 8]).toNat (bit % 8) := ⟨_, by split <;> simp, e⟩
  generalize turnN (l[bit / 8]).toNat (bit % 8) = T at *
  generalize 2 ^ (7 - bit % 8) = M at *
  generalize (l[bit / 8]).toNat = x at *
  generalize raw true (turned l bit) = R' at *
  generalize raw true l = R at *
  rintro ⟨q1, q2⟩
  clear hT hx
  rcases hF with rfl | rfl <;> rcases hc with ⟨_, c1⟩ | ⟨_, c1, _⟩ <;> rcases hp with rfl | rfl | rfl | rfl | rfl | rfl | rfl | rfl <;> omega

end Go.Proofs.Ytkokgoodpibboaa
