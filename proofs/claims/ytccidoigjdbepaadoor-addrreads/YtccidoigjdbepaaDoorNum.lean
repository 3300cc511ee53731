
/- Plain mathematics of layer 1: bytes and numbers. No program. -/
import Derived.WalkKit
import Derived.Laws.BitsAllLaws
import Derived.Laws.Bits64
namespace Go.Proofs.YtccidoigjdbepaaDoor

/-- The number of bytes, the lowest first. -/
def leNat : List UInt8 → Nat
  | [] => 0
  | c :: t => c.toNat + 256 * leNat t

/-- Byte number i of a number. -/
def byteAt (n i : Nat) : UInt8 := UInt8.ofNat (n / 256 ^ i)

/-- A number in bytes, the lowest first. -/
def leBytes (n size : Nat) : List UInt8 := (List.range size).map (byteAt n)

theorem leBytes_len (n size : Nat) : (leBytes n size).length = size := by simp [leBytes]

theorem leBytes_succ (n k : Nat) : leBytes n (k + 1) = leBytes n k ++ [byteAt n k] := by simp [leBytes, List.range_succ]

theorem leNat_append (a b : List UInt8) : leNat (a ++ b) = leNat a + 256 ^ a.length * leNat b := by
  induction a with
  | nil => simp [leNat]
  | cons c t ih => simp only [List.cons_append, leNat, ih, List.length_cons, Nat.pow_succ]; rw [Nat.mul_add]; rw [← Nat.mul_assoc, Nat.mul_comm 256 (256 ^ t.length)]; omega

theorem leNat_lt (l : List UInt8) : leNat l < 256 ^ l.length := by
  induction l with
  | nil => simp [leNat]
  | cons c t ih =>
    have := c.toNat_lt
    simp only [leNat, List.length_cons, Nat.pow_succ]
    omega

theorem byteAt_toNat (n i : Nat) : (byteAt n i).toNat = n / 256 ^ i % 256 := by simp [byteAt]

theorem leNat_leBytes (n size : Nat) : leNat (leBytes n size) = n % 256 ^ size := by
  induction size with
  | zero => simp [leBytes, leNat, Nat.mod_one]
  | succ k ih =>
    rw [leBytes_succ, leNat_append, ih, leBytes_len]
    simp only [leNat, byteAt_toNat]
    rw [Nat.pow_succ, Nat.mod_mul]
    simp

/-- Reading the bytes of a list again. -/
theorem leBytes_leNat (l : List UInt8) : leBytes (leNat l) l.length = l := by
  induction l with
  | nil => simp [leBytes]
  | cons c t ih =>
    have hc := c.toNat_lt
    have h0 : ∀ i, byteAt (leNat (c :: t)) (i + 1) = byteAt (leNat t) i := by
      intro i
      simp only [byteAt, leNat, Nat.pow_succ]
      rw [Nat.mul_comm (256 ^ i) 256, ← Nat.div_div_eq_div_mul]
      congr 2
      omega
    have h1 : byteAt (leNat (c :: t)) 0 = c := by
      apply UInt8.toNat_inj.1
      rw [byteAt_toNat]
      simp only [leNat, Nat.pow_zero, Nat.div_one]
      omega
    rw [List.length_cons]
    unfold leBytes
    rw [List.range_succ_eq_map, List.map_cons, List.map_map, h1]
    congr 1
    refine Eq.trans (List.map_congr_left fun i _ => ?_) ih
    exact h0 i

theorem two_pow_8 (k : Nat) : 2 ^ (8 * k) = 256 ^ k := by rw [Nat.pow_mul]

theorem two_pow_8i (k : Nat) : (2 : Int) ^ (8 * k) = ((256 ^ k : Nat) : Int) := by rw [← two_pow_8]; simp

/-- One byte more on top of a number. -/
theorem or_on_top (q x k : Nat) (hq : q < 256 ^ k) (hx : x < 256) (hk : k < 8) :
    bits BinOp.or IntKind.u64 (q : Int) (IntKind.u64.wrap ((x : Int) * 2 ^ (8 * k))) = ((q + x * 256 ^ k : Nat) : Int) := by
  have h7 : 256 ^ k ≤ 256 ^ 7 := Nat.pow_le_pow_right (by omega) (by omega)
  have hm : x * 256 ^ k ≤ 255 * 256 ^ 7 := Nat.mul_le_mul (by omega) h7
  rw [two_pow_8i, ← Int.natCast_mul, IntWalk.u64_in _ (by omega), u64_or_nat _ _ (by omega) (by omega), Nat.or_comm,
    nat_join (8 * k) _ _ (by rw [two_pow_8]; exact Nat.mul_mod_left _ _) (by rw [two_pow_8]; exact hq), Nat.add_comm]

/-- One byte more below a number. -/
theorem or_below (q x : Nat) (hq : q < 72057594037927936) (hx : x < 256) :
    bits BinOp.or IntKind.u64 (IntKind.u64.wrap ((q : Int) * 256)) (x : Int) = ((x + 256 * q : Nat) : Int) := by
  rw [show (q : Int) * 256 = ((q * 256 : Nat) : Int) by omega, IntWalk.u64_in _ (by omega), u64_or_nat _ _ (by omega) (by omega),
    nat_join 8 _ _ (Nat.mul_mod_left _ _) hx, Nat.add_comm, Nat.mul_comm]

theorem leNat_take_succ (l : List UInt8) (k : Nat) (x : UInt8) (h : l[k]? = some x) : leNat (l.take (k + 1)) = leNat (l.take k) + x.toNat * 256 ^ k := by
  obtain ⟨hk, rfl⟩ := List.getElem?_eq_some_iff.1 h
  rw [List.take_succ_eq_append_getElem hk, leNat_append, List.length_take, Nat.min_eq_left (by omega)]
  simp [leNat, Nat.mul_comm]

theorem leNat_rev_succ (l : List UInt8) (k : Nat) (x : UInt8) (h : l[k]? = some x) : leNat (l.take (k + 1)).reverse = x.toNat + 256 * leNat (l.take k).reverse := by
  obtain ⟨hk, rfl⟩ := List.getElem?_eq_some_iff.1 h
  rw [List.take_succ_eq_append_getElem hk, List.reverse_append]
  rfl

theorem leNat_take_lt (l : List UInt8) (k : Nat) : leNat (l.take k) < 256 ^ k :=
  Nat.lt_of_lt_of_le (leNat_lt _) (Nat.pow_le_pow_right (by omega) (by simp; omega))

theorem leNat_rev_lt (l : List UInt8) (k : Nat) : leNat (l.take k).reverse < 256 ^ k :=
  Nat.lt_of_lt_of_le (leNat_lt _) (Nat.pow_le_pow_right (by omega) (by simp; omega))

/-- 32 bits turned by m places. -/
def rot (n m : Nat) : Nat := n * 2 ^ m % 4294967296 + n / 2 ^ (32 - m)

/-- A number in two pieces, turned: the pieces change places. -/
theorem rot_pieces (a b m : Nat) (hm : m ≤ 32) (hb : b < 2 ^ (32 - m)) : rot (a * 2 ^ (32 - m) + b) m = b * 2 ^ m + a := by
  have h32 : 2 ^ (32 - m) * 2 ^ m = 4294967296 := by rw [← Nat.pow_add, Nat.sub_add_cancel hm]
  have hp : 0 < 2 ^ (32 - m) := Nat.two_pow_pos _
  have hpm : 0 < 2 ^ m := Nat.two_pow_pos _
  unfold rot
  have h1 : (a * 2 ^ (32 - m) + b) * 2 ^ m = b * 2 ^ m + 4294967296 * a := by
    rw [Nat.add_mul, Nat.mul_assoc, h32, Nat.mul_comm a]; omega
  have h2 : b * 2 ^ m < 4294967296 := by rw [← h32]; exact Nat.mul_lt_mul_of_pos_right hb hpm
  rw [h1, Nat.add_mul_mod_self_left, Nat.mod_eq_of_lt h2]
  congr 1
  rw [Nat.mul_comm, Nat.mul_add_div hp, Nat.div_eq_of_lt hb, Nat.add_zero]

theorem rot_cut (n m : Nat) (hn : n < 4294967296) (hm : m ≤ 32) : ∃ a b, n = a * 2 ^ (32 - m) + b ∧ a < 2 ^ m ∧ b < 2 ^ (32 - m) := by
  have h32 : 2 ^ (32 - m) * 2 ^ m = 4294967296 := by rw [← Nat.pow_add, Nat.sub_add_cancel hm]
  refine ⟨n / 2 ^ (32 - m), n % 2 ^ (32 - m), ?_, ?_, Nat.mod_lt _ (Nat.two_pow_pos _)⟩
  · rw [Nat.mul_comm]; exact (Nat.div_add_mod _ _).symm
  · rw [Nat.div_lt_iff_lt_mul (Nat.two_pow_pos _), Nat.mul_comm, h32]; exact hn

theorem rot_lt (n m : Nat) (hn : n < 4294967296) (hm : m ≤ 32) : rot n m < 4294967296 := by
  obtain ⟨a, b, rfl, ha, hb⟩ := rot_cut n m hn hm
  rw [rot_pieces a b m hm hb]
  have h32 : 2 ^ (32 - m) * 2 ^ m = 4294967296 := by rw [← Nat.pow_add, Nat.sub_add_cancel hm]
  have h1 : (b + 1) * 2 ^ m ≤ 2 ^ (32 - m) * 2 ^ m := Nat.mul_le_mul_right _ hb
  rw [Nat.add_mul, h32] at h1
  omega

/-- There and back. -/
theorem rot_back (n m : Nat) (hn : n < 4294967296) (hm : m ≤ 32) : rot (rot n m) (32 - m) = n := by
  obtain ⟨a, b, rfl, ha, hb⟩ := rot_cut n m hn hm
  rw [rot_pieces a b m hm hb]
  have e : 32 - (32 - m) = m := by omega
  have := rot_pieces b a (32 - m) (by omega) (by rw [e]; exact ha)
  rw [e] at this
  exact this

theorem rot_zero (n : Nat) (hn : n < 4294967296) : rot n 0 = n := by unfold rot; simp; omega

theorem rot_succ (n m : Nat) (hn : n < 4294967296) (hm : m < 32) : rot n (m + 1) = (rot n m * 2 + rot n m / 2147483648) % 4294967296 := by
  obtain ⟨a, b, rfl, ha, hb⟩ := rot_cut n (m + 1) hn (by omega)
  rw [rot_pieces a b (m + 1) (by omega) hb]
  -- the lower bit of a goes over
  have e1 : 2 ^ (32 - m) = 2 ^ (32 - (m + 1)) * 2 := by rw [← Nat.pow_succ]; congr 1; omega
  have e2 : a * 2 ^ (32 - (m + 1)) + b = (a / 2) * 2 ^ (32 - m) + (a % 2 * 2 ^ (32 - (m + 1)) + b) := by
    have := Nat.div_add_mod a 2
    rw [e1]
    generalize 2 ^ (32 - (m + 1)) = P at *
    have h3 : a * P = (2 * (a / 2) + a % 2) * P := by rw [this]
    rw [h3, Nat.add_mul]
    have h4 : a / 2 * (P * 2) = 2 * (a / 2) * P := by rw [Nat.mul_comm P 2, ← Nat.mul_assoc, Nat.mul_comm (a / 2) 2]
    omega
  have ha2 : a / 2 < 2 ^ m := by rw [Nat.pow_succ] at ha; omega
  have hb2 : a % 2 * 2 ^ (32 - (m + 1)) + b < 2 ^ (32 - m) := by
    rw [e1]
    rcases Nat.mod_two_eq_zero_or_one a with h | h <;> rw [h] <;> omega
  rw [e2, rot_pieces _ _ m (by omega) hb2]
  have h32 : 2 ^ (32 - (m + 1)) * 2 ^ m = 2147483648 := by rw [← Nat.pow_add]; rw [show 32 - (m + 1) + m = 31 by omega]
  have hbm : b * 2 ^ m + 2 ^ m ≤ 2147483648 := by
    have h1 : (b + 1) * 2 ^ m ≤ 2 ^ (32 - (m + 1)) * 2 ^ m := Nat.mul_le_mul_right _ hb
    rw [Nat.add_mul, h32] at h1
    omega
  have h5 : (a % 2 * 2 ^ (32 - (m + 1)) + b) * 2 ^ m = a % 2 * 2147483648 + b * 2 ^ m := by rw [Nat.add_mul, Nat.mul_assoc, h32]
  have h6 : b * 2 ^ (m + 1) = 2 * (b * 2 ^ m) := by rw [Nat.pow_succ, ← Nat.mul_assoc, Nat.mul_comm]
  rw [h5, h6]
  have hd := Nat.div_add_mod a 2
  generalize b * 2 ^ m = X at *
  generalize 2 ^ m = M at *
  clear h5 h6 h32 e1 e2 hb2 hn
  generalize a / 2 = g at *
  rcases Nat.mod_two_eq_zero_or_one a with h | h <;> rw [h] at hd ⊢
  · have q : (0 * 2147483648 + X + g) / 2147483648 = 0 := Nat.div_eq_of_lt (by omega)
    rw [q, Nat.mod_eq_of_lt (by omega)]; omega
  · have q : (1 * 2147483648 + X + g) / 2147483648 = 1 := by omega
    have q2 : ((1 * 2147483648 + X + g) * 2 + 1) = 4294967296 * 1 + (2 * X + 2 * g + 1) := by omega
    rw [q, q2, Nat.mul_add_mod, Nat.mod_eq_of_lt (by omega)]; omega

theorem turn_num (n m : Nat) (hn : n < 4294967296) (hm : m ≤ 32) :
    bits BinOp.or IntKind.u32 (IntKind.u32.wrap ((n : Int) * 2 ^ m)) ((n : Int) / 2 ^ (32 - m)) = (rot n m : Int) := by
  have e1 : (2 : Int) ^ m = ((2 ^ m : Nat) : Int) := by simp
  have e2 : (2 : Int) ^ (32 - m) = ((2 ^ (32 - m) : Nat) : Int) := by simp
  have h32 : 2 ^ (32 - m) * 2 ^ m = 4294967296 := by rw [← Nat.pow_add, Nat.sub_add_cancel hm]
  have hq : n / 2 ^ (32 - m) < 2 ^ m := by rw [Nat.div_lt_iff_lt_mul (Nat.two_pow_pos _), Nat.mul_comm, h32]; exact hn
  have hq2 : n / 2 ^ (32 - m) ≤ n := Nat.div_le_self _ _
  rw [e1, e2, IntKind.wrap_u32, ← Int.natCast_mul, show (4294967296 : Int) = ((4294967296 : Nat) : Int) from rfl, ← Int.natCast_emod, ← Int.natCast_ediv,
    u32_or_nat _ _ (Nat.mod_lt _ (by omega)) (by omega), nat_join m _ _ ?_ hq]
  · rfl
  · rw [Nat.mod_mod_of_dvd _ (by rw [← h32]; exact Nat.dvd_mul_left _ _)]
    exact Nat.mul_mod_left _ _

theorem and31 (b : Int) : bits BinOp.and IntKind.u64 (IntKind.u64.wrap b) 31 = (((b % 32).toNat : Nat) : Int) := by
  rw [IntKind.wrap_u64]
  obtain ⟨k, hk⟩ := Int.eq_ofNat_of_zero_le (show 0 ≤ b % 18446744073709551616 by omega)
  rw [hk, show (31 : Int) = ((31 : Nat) : Int) from rfl, u64_and_nat _ _ (by omega) (by omega), nat_mask5]
  omega

end Go.Proofs.YtccidoigjdbepaaDoor
