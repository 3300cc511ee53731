/- The walk of law01.EndianMasks. -/
import Derived.Test.YtmnkikkffmhnjaaEndG
namespace Go.Proofs.Ytmnkikkffmhnjaa
open Go.RowKit

theorem two_want (k : Nat) (h : k < 64) : IntKind.u64.wrap (2 * ((2 ^ k - 1 : Nat) : Int)) = ((2 ^ (k + 1) - 2 : Nat) : Int) := by
  have h1 : 1 ≤ 2 ^ k := Nat.one_le_two_pow
  have h2 : 2 ^ k ≤ 2 ^ 63 := Nat.pow_le_pow_right (by omega) (by omega)
  rw [IntWalk.u64_in _ (by omega), Nat.pow_succ]
  omega

theorem one_want (k : Nat) (h : k < 64) : IntKind.u64.wrap (((2 ^ (k + 1) - 2 : Nat) : Int) + 1) = ((2 ^ (k + 1) - 1 : Nat) : Int) := by
  have h1 : 2 ^ 1 ≤ 2 ^ (k + 1) := Nat.pow_le_pow_right (by omega) (by omega)
  have h2 : 2 ^ (k + 1) ≤ 2 ^ 64 := Nat.pow_le_pow_right (by omega) (by omega)
  rw [IntWalk.u64_in _ (by omega)]
  omega

theorem walk_EndianMasks (n : Int) (_w0 : (Lit.int .i64 n).wf = true) (w : World) :
    Calls Try.prog 5 #[.int .i64 n] w fun e w' => e = .returned (.bool true) ∧ Below w.heap.size w w' := by
  have HO := Lib.hid (show ones n = 2 ^ (min n.toNat 64) - 1 from rfl)
  have hK : min n.toNat 64 ≤ 64 := by omega
  have hKn : ∀ k : Nat, k < min n.toNat 64 ↔ (k : Int) < 64 ∧ (k : Int) < n := by intro k; omega
  have HK := Lib.hid hKn
  clear hKn
  generalize hm : min n.toNat 64 = K at *
  have Hm := Lib.hid hm
  clear hm
  go_enter Try.func5, Try.ntmps5
  go_wp2
  go_loop [3, 4] (fun x i => ∃ k : Nat, k ≤ K ∧ i = .int .i64 k ∧ x = .int .u64 ((2 ^ k - 1 : Nat) : Int)) (fun _ i => K - (intOf i).toNat)
  case atStart => exact ⟨0, Nat.zero_le _, rfl, rfl⟩
  case round =>
    obtain ⟨k, hk, rfl, rfl⟩ := hrel
    by_cases hlt : k < K
    · obtain ⟨h64, hn⟩ := (HK.out k).1 hlt
      have e1 := two_want k (by omega)
      have e2 := one_want k (by omega)
      generalize 2 ^ (k + 1) - 2 = q2 at *
      generalize hq : 2 ^ (k + 1) - 1 = q1 at *
      have Hq := Lib.hid hq
      clear hq
      generalize 2 ^ k - 1 = q at *
      go_wp2
      go_round
      case rel => exact ⟨k + 1, by omega, by go_num, by rw [Hq.out]⟩
      case measure => simp [intOf] <;> omega
    · obtain rfl : k = K := by omega
      have hno : (¬ (k : Int) < 64) ∨ ((k : Int) < 64 ∧ ¬ (k : Int) < n) := by
        have := HK.out k
        omega
      rw [← HO.out]
      rcases hno with h | ⟨h, h'⟩
      · have hd : decide ((k : Int) < 64) = false := by simp; omega
        go_wp2_with (first | (go_at_call 22; refine (mask_any _ _).mono ?_; rintro e w' ⟨rfl, rfl⟩) | (go_at_call 18; refine (alive1 _).mono ?_; rintro e w' ⟨rfl, hb⟩))
        go_ret
        exact ⟨rfl, hb⟩
      · have hd : decide ((k : Int) < n) = false := by simp; omega
        go_wp2_with (first | (go_at_call 22; refine (mask_any _ _).mono ?_; rintro e w' ⟨rfl, rfl⟩) | (go_at_call 18; refine (alive1 _).mono ?_; rintro e w' ⟨rfl, hb⟩))
        go_ret
        exact ⟨rfl, hb⟩

end Go.Proofs.Ytmnkikkffmhnjaa
