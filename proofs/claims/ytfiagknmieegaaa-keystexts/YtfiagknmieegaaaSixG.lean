
/- Contracts: ref04.Signs, Value, Encode. -/
import Derived.Test.YtfiagknmieegaaaSixF
import Derived.Test.YtfiagknmieegaaaEndF
namespace Go.Proofs.Ytfiagknmieegaaa.Six
open Go.RowKit

theorem signs_any (w : World) : Calls Try.prog 57 #[] w fun e w' => e = .returned (.string sgt) ∧ w = w' := by
  go_enter Try.func57, Try.ntmps57
  go_wp2
  go_ret
  exact ⟨rfl, rfl⟩

theorem value_good (v : Nat) (h : v < 64) (w : World) :
    Calls Try.prog 82 #[.int .u8 ((sg v).toNat : Int)] w fun e w' => e = .returned (.int .i64 (v : Int)) ∧ w = w' := by
  have hsz := sgt_size
  have Hget := Lib.hid sg_get
  have HS := Lib.hid signs_any
  have HN := Lib.hid (fun k (hk : k < v) => byte_ne4 (fun e => absurd (sg_inj k v (by omega) h e) (by omega)))
  generalize sgt = s at *
  go_enter Try.func82, Try.ntmps82
  go_wp2_with fail
  refine (HS.out _).mono ?_; rintro e w1 ⟨rfl, rfl⟩
  go_wp2
  go_loop [4] (fun i => ∃ k : Nat, k ≤ v ∧ i = .int .i64 k) (fun i => 64 - (intOf i).toNat)
  case atStart => exact ⟨0, Nat.zero_le _, rfl⟩
  case round =>
    obtain ⟨k, hk, rfl⟩ := hrel
    have hc := Hget.out k (by omega)
    by_cases hlt : k < v
    · have hne := HN.out k hlt
      go_wp2
      go_round
      case rel => exact ⟨k + 1, by omega, by go_num⟩
      case measure => simp [intOf] <;> omega
    · obtain rfl : k = v := by omega
      go_wp2
      go_ret
      exact ⟨rfl, rfl⟩

theorem value_bad (c : UInt8) (h : c ∉ sgs) (w : World) :
    Calls Try.prog 82 #[.int .u8 (c.toNat : Int)] w fun e w' => e = .returned (.int .i64 (-1)) ∧ w = w' := by
  have hsz := sgt_size
  have Hget := Lib.hid sg_get
  have HS := Lib.hid signs_any
  have HN := Lib.hid (fun k (hk : k < 64) => byte_ne4 (fun e : sg k = c => h (e ▸ sg_mem k hk)))
  generalize sgt = s at *
  go_enter Try.func82, Try.ntmps82
  go_wp2_with fail
  refine (HS.out _).mono ?_; rintro e w1 ⟨rfl, rfl⟩
  go_wp2
  go_loop [4] (fun i => ∃ k : Nat, k ≤ 64 ∧ i = .int .i64 k) (fun i => 64 - (intOf i).toNat)
  case atStart => exact ⟨0, Nat.zero_le _, rfl⟩
  case round =>
    obtain ⟨k, hk, rfl⟩ := hrel
    by_cases hlt : k < 64
    · have hc := Hget.out k (by omega)
      have hne := HN.out k hlt
      go_wp2
      go_round
      case rel => exact ⟨k + 1, by omega, by go_num⟩
      case measure => simp [intOf] <;> omega
    · obtain rfl : k = 64 := by omega
      go_wp2
      go_ret
      exact ⟨rfl, rfl⟩

/-- Six bits of bytes, the first t of them. -/
def xs (l : List UInt8) (j : Nat) : Nat → Nat
  | 0 => 0
  | t + 1 => 2 * xs l j t + bitAt l (6 * j + t)
theorem bitAt_le (l : List UInt8) (k : Nat) : bitAt l k ≤ 1 := by unfold bitAt; omega
theorem xs_lt (l : List UInt8) (j t : Nat) : xs l j t < 2 ^ t := by
  induction t with
  | zero => simp [xs]
  | succ t ih =>
    have := bitAt_le l (6 * j + t)
    simp only [xs, Nat.pow_succ]
    omega
theorem bitAt_past (l : List UInt8) (k : Nat) (h : 8 * l.length ≤ k) : bitAt l k = 0 := by
  unfold bitAt
  rw [List.getElem?_eq_none (by omega)]
  simp
theorem bitAt_on (x y z : UInt8) (r : List UInt8) (k : Nat) : bitAt (x :: y :: z :: r) (24 + k) = bitAt r k := by
  unfold bitAt
  rw [show (24 + k) / 8 = k / 8 + 3 by omega, show (24 + k) % 8 = k % 8 by omega]
  rfl
theorem xs_on (x y z : UInt8) (r : List UInt8) (j t : Nat) : xs (x :: y :: z :: r) (j + 4) t = xs r j t := by
  induction t with
  | zero => rfl
  | succ t ih => simp only [xs, ih, show 6 * (j + 4) + t = 24 + (6 * j + t) by omega, bitAt_on]

theorem enc_at : ∀ (l : List UInt8) (j : Nat), 6 * j < 8 * l.length → (enc l)[j]? = some (sg (xs l j 6))
  | [], j, h => by simp at h
  | [x], j, h => by
    have hx := x.toNat_lt
    have hj : j = 0 ∨ j = 1 := by simp at h; omega
    rcases hj with rfl | rfl
    · simp only [enc, List.getElem?_cons_zero, Option.some.injEq]
      refine congrArg sg ?_
      simp [xs, bitAt]
      omega
    · simp only [enc, List.getElem?_cons_succ, List.getElem?_cons_zero, Option.some.injEq]
      refine congrArg sg ?_
      simp [xs, bitAt]
      omega
  | [x, y], j, h => by
    have hx := x.toNat_lt
    have hy := y.toNat_lt
    have hj : j = 0 ∨ j = 1 ∨ j = 2 := by simp at h; omega
    rcases hj with rfl | rfl | rfl
    · simp only [enc, List.getElem?_cons_zero, Option.some.injEq]
      refine congrArg sg ?_
      simp [xs, bitAt]
      omega
    · simp only [enc, List.getElem?_cons_succ, List.getElem?_cons_zero, Option.some.injEq]
      refine congrArg sg ?_
      simp [xs, bitAt]
      omega
    · simp only [enc, List.getElem?_cons_succ, List.getElem?_cons_zero, Option.some.injEq]
      refine congrArg sg ?_
      simp [xs, bitAt]
      omega
  | x :: y :: z :: r, j, h => by
    have hx := x.toNat_lt
    have hy := y.toNat_lt
    have hz := z.toNat_lt
    match j with
    | 0 =>
      simp only [enc, List.getElem?_cons_zero, Option.some.injEq]
      refine congrArg sg ?_
      simp [xs, bitAt]
      omega
    | 1 =>
      simp only [enc, List.getElem?_cons_succ, List.getElem?_cons_zero, Option.some.injEq]
      refine congrArg sg ?_
      simp [xs, bitAt]
      omega
    | 2 =>
      simp only [enc, List.getElem?_cons_succ, List.getElem?_cons_zero, Option.some.injEq]
      refine congrArg sg ?_
      simp [xs, bitAt]
      omega
    | 3 =>
      simp only [enc, List.getElem?_cons_succ, List.getElem?_cons_zero, Option.some.injEq]
      refine congrArg sg ?_
      simp [xs, bitAt]
      omega
    | j + 4 =>
      rw [xs_on]
      simp only [enc, List.getElem?_cons_succ]
      exact enc_at r j (by simp at h; omega)

theorem enc_pad : ∀ (l : List UInt8) (q : Nat), 8 * l.length ≤ 6 * q → q < (enc l).length → (enc l)[q]? = some 61
  | [], q, _, h => by simp [enc] at h
  | [x], q, h1, h2 => by
    simp [enc] at h1 h2
    have hq : q = 2 ∨ q = 3 := by omega
    rcases hq with rfl | rfl <;> rfl
  | [x, y], q, h1, h2 => by
    simp [enc] at h1 h2
    have hq : q = 3 := by omega
    subst hq; rfl
  | x :: y :: z :: r, q, h1, h2 => by
    simp [enc] at h1 h2
    obtain ⟨q', rfl⟩ : ∃ q', q = q' + 4 := ⟨q - 4, by omega⟩
    simp only [enc, List.getElem?_cons_succ]
    exact enc_pad r q' (by omega) (by omega)

theorem sg_cut (n : Nat) (h : n < 64) : sgt.extract n (n + 1) = ⟨⟨[sg n]⟩⟩ := by
  have : ∀ m : Fin 64, (sgt.extract m.val (m.val + 1)).data = (⟨[sg m.val]⟩ : Array UInt8) := by decide +kernel
  have h2 := this ⟨n, h⟩
  cases hx : sgt.extract n (n + 1) with
  | mk d => rw [hx] at h2; simp only at h2; rw [h2]

theorem take_next (s : List UInt8) (j : Nat) (c : UInt8) (h : s[j]? = some c) : s.take (j + 1) = s.take j ++ [c] := by
  obtain ⟨hj, rfl⟩ := List.getElem?_eq_some_iff.1 h
  exact List.take_succ_eq_append_getElem hj

end Go.Proofs.Ytfiagknmieegaaa.Six
