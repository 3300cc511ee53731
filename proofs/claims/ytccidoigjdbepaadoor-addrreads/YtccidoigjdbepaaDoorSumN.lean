
/- Plain mathematics of layer 18: the sum of words. No program. -/
import Derived.WalkKit
import Derived.Laws.BitsAllLaws
import Derived.Laws.Bits64
namespace Go.Proofs.YtccidoigjdbepaaDoor

/-- What is above 16 bits, added to these, till nothing is. -/
def foldN (n : Nat) : Nat := if n = 0 then 0 else (n - 1) % 65535 + 1

theorem foldN_le (n : Nat) : foldN n ≤ 65535 := by unfold foldN; split <;> omega
theorem foldN_id (n : Nat) (h : n ≤ 65535) : foldN n = n := by unfold foldN; split <;> omega
theorem foldN_step (n : Nat) (h : 65535 < n) : foldN (n / 65536 + n % 65536) = foldN n := by
  unfold foldN
  rw [if_neg (by omega), if_neg (by omega)]
  omega
theorem foldN_full (n : Nat) : foldN n = 65535 ↔ 0 < n ∧ n % 65535 = 0 := by unfold foldN; split <;> omega
theorem foldN_add (a b : Nat) : foldN (foldN a + b) = foldN (a + b) := by
  unfold foldN
  by_cases ha : a = 0
  · simp [ha]
  · rw [if_neg ha, if_neg (by omega), if_neg (by omega)]
    omega

/-- The words of bytes, added; hi: the first byte is a word's higher one. -/
def raw : Bool → List UInt8 → Nat
  | _, [] => 0
  | hi, c :: t => (if hi then 256 * c.toNat else c.toNat) + raw (!hi) t

def evenLen (l : List UInt8) : Bool := l.length % 2 == 0

theorem raw_append (hi : Bool) (a b : List UInt8) : raw hi (a ++ b) = raw hi a + raw (if evenLen a then hi else !hi) b := by
  induction a generalizing hi with
  | nil => simp [raw, evenLen]
  | cons c t ih =>
    simp only [List.cons_append, raw, ih]
    have : (if evenLen t = true then !hi else !(!hi)) = (if evenLen (c :: t) = true then hi else !hi) := by
      unfold evenLen
      rw [List.length_cons]
      rcases Nat.mod_two_eq_zero_or_one t.length with h | h
      · have h2 : (t.length + 1) % 2 = 1 := by omega
        simp [h, h2]
      · have h2 : (t.length + 1) % 2 = 0 := by omega
        simp [h, h2]
    rw [this]
    omega
theorem raw_snoc (a : List UInt8) (c : UInt8) : raw true (a ++ [c]) = raw true a + (if evenLen a then 256 * c.toNat else c.toNat) := by
  rw [raw_append]
  cases evenLen a <;> simp [raw]
theorem evenLen_snoc (a : List UInt8) (c : UInt8) : evenLen (a ++ [c]) = !evenLen a := by
  unfold evenLen
  rw [List.length_append, List.length_singleton]
  rcases Nat.mod_two_eq_zero_or_one a.length with h | h
  · have h2 : (a.length + 1) % 2 = 1 := by omega
    simp [h, h2]
  · have h2 : (a.length + 1) % 2 = 0 := by omega
    simp [h, h2]
theorem raw_lt (hi : Bool) (l : List UInt8) : raw hi l ≤ 65536 * l.length := by
  induction l generalizing hi with
  | nil => simp [raw]
  | cons c t ih =>
    have := ih (!hi)
    have hc := c.toNat_lt
    simp only [raw, List.length_cons]
    split <;> omega

/-- The sum of bytes. -/
def osum (l : List UInt8) : Nat := foldN (raw true l)

theorem osum_le (l : List UInt8) : osum l ≤ 65535 := foldN_le _

theorem and_ffff (x : Nat) (h : x < 18446744073709551616) : bits BinOp.and IntKind.u64 (x : Int) 65535 = ((x % 65536 : Nat) : Int) := by
  rw [show (65535 : Int) = ((65535 : Nat) : Int) from rfl, u64_and_nat _ _ (by omega) (by omega)]
  have := Nat.and_two_pow_sub_one_eq_mod x 16
  rw [show (65535 : Nat) = 2 ^ 16 - 1 from rfl, this]

/-- A byte at a place taken out and another put in: what the sum of the words comes to. -/
theorem raw_set (l : List UInt8) : ∀ (hi : Bool) (k : Nat) (x y : UInt8), l[k]? = some x →
    raw hi (l.set k y) + (if (if k % 2 = 0 then hi else !hi) then 256 else 1) * x.toNat = raw hi l + (if (if k % 2 = 0 then hi else !hi) then 256 else 1) * y.toNat := by
  induction l with
  | nil => intro hi k x y h; simp at h
  | cons c t ih =>
    intro hi k x y h
    match k with
    | 0 =>
      simp at h; subst h
      cases hi <;> simp [raw] <;> omega
    | k + 1 =>
      have h' : t[k]? = some x := by simpa using h
      have := ih (!hi) k x y h'
      have e : (if k % 2 = 0 then !hi else !(!hi)) = (if (k + 1) % 2 = 0 then hi else !hi) := by
        rcases Nat.mod_two_eq_zero_or_one k with q | q
        · have h2 : (k + 1) % 2 = 1 := by omega
          simp [q, h2]
        · have h2 : (k + 1) % 2 = 0 := by omega
          simp [q, h2]
      rw [e] at this
      simp only [List.set_cons_succ, raw]
      omega

end Go.Proofs.YtccidoigjdbepaaDoor
