/- The walk of law01.EndianTurns. -/
import Derived.Test.YtmnkikkffmhnjaaEndG
namespace Go.Proofs.Ytmnkikkffmhnjaa
open Go.RowKit

theorem turn_step (q : Nat) (hq : q < 4294967296) : (q : Int) * 2 % 4294967296 + (q : Int) / 2147483648 = (((q * 2 + q / 2147483648) % 4294967296 : Nat) : Int) := by
  rcases Nat.lt_or_ge q 2147483648 with h | h
  · rw [Nat.div_eq_of_lt h]
    omega
  · have e : q / 2147483648 = 1 := by omega
    rw [e]
    omega

theorem tmod_parts (b : Int) : ∃ K : Nat, K < 32 ∧ b % 32 = (K : Int) ∧ (b.tmod 32 = (K : Int) ∨ (b.tmod 32 < 0 ∧ b.tmod 32 = (K : Int) - 32)) := by
  refine ⟨(b % 32).toNat, by omega, by omega, ?_⟩
  rcases Int.lt_or_le b 0 with h | h
  · have e : b.tmod 32 = -((-b) % 32) := by
      rw [← Int.tmod_eq_emod_of_nonneg (by omega), Int.neg_tmod, Int.neg_neg]
    omega
  · rw [Int.tmod_eq_emod_of_nonneg h]
    omega

theorem walk_EndianTurns (n b : Int) (w0 : (Lit.int .u32 n).wf = true) (w1 : (Lit.int .i64 b).wf = true) (w : World) :
    Calls Try.prog 6 #[.int .u32 n, .int .i64 b] w fun e w' => e = .returned (.bool true) ∧ Below w.heap.size w w' := by
  obtain ⟨hn0, hn1⟩ := bounds_u32 w0
  obtain ⟨hb0, hb1⟩ := bounds_i64 w1
  obtain ⟨N, rfl⟩ := Int.eq_ofNat_of_zero_le hn0
  have hN : N < 4294967296 := by omega
  obtain ⟨K, hK, hbK, hpart⟩ := tmod_parts b
  have HbK := Lib.hid hbK
  have hnK : ∃ M : Nat, (-(K : Int)) % 32 = (M : Int) ∧ rot (rot N K) M = N := by
    rcases Nat.eq_zero_or_pos K with h | h
    · exact ⟨0, by omega, by rw [h, rot_zero _ hN, rot_zero _ hN]⟩
    · exact ⟨32 - K, by omega, rot_back N K hN (by omega)⟩
  obtain ⟨M, hM, hback⟩ := hnK
  have HM := Lib.hid hM
  have HB := Lib.hid hback
  have hrl := rot_lt N K hN (by omega)
  have HKK := Lib.hid (show (K : Int) % 32 = (K : Int) by omega)
  clear hbK hM hback w0 w1
  have d0 : decide ((K : Int) < 0) = false := by simp
  have d1 : decide ((K : Int) - 32 < 0) = true := by simp; omega
  rcases hpart with ht | ⟨hneg, ht⟩
  all_goals
    go_enter Try.func6, Try.ntmps6
    go_wp2_with fail
    go_loop [6, 7] (fun x i => ∃ k : Nat, k ≤ K ∧ i = .int .i64 k ∧ x = .int .u32 (rot N k : Int)) (fun _ i => K - (intOf i).toNat)
    case atStart => exact ⟨0, Nat.zero_le _, rfl, by rw [rot_zero N hN]⟩
    case round =>
      obtain ⟨k, hk, rfl, rfl⟩ := hrel
      by_cases hlt : k < K
      · have hq := rot_lt N k hN (by omega)
        have Hs := Lib.hid ((turn_step (rot N k) hq).trans (congrArg Int.ofNat (rot_succ N k hN (by omega)).symm))
        clear hrl
        generalize rot N k = q at *
        go_wp2
        go_round
        case rel => exact ⟨k + 1, by omega, by go_num, congrArg (Value.int .u32) Hs.out⟩
        case measure => simp [intOf] <;> omega
      · obtain rfl : k = K := by omega
        go_wp2_with fail
        refine (turn_m N b k _ hN HbK.out).mono ?_
        rintro e w1 ⟨rfl, rfl⟩
        generalize hR : rot N k = R at *
        have HR := Lib.hid hR
        clear hR
        go_wp2_with fail
        refine (turn_m R (-(k : Int)) M _ hrl HM.out).mono ?_
        rintro e w1 ⟨rfl, rfl⟩
        rw [HB.out]
        go_wp2_with fail
        refine (turn_m N (k : Int) k _ hN HKK.out).mono ?_
        rintro e w1 ⟨rfl, rfl⟩
        rw [HR.out]
        go_wp2_with fail
        refine (alive1 _).mono ?_
        rintro e w1 ⟨rfl, hb⟩
        go_wp2
        go_ret
        exact ⟨rfl, hb⟩

end Go.Proofs.Ytmnkikkffmhnjaa
