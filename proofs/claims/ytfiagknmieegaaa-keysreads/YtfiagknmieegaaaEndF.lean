
/- Contracts: ref01.Bit, Ones; endian.Ones; law01's alive. -/
import Derived.Test.YtfiagknmieegaaaEndE
namespace Go.Proofs.Ytfiagknmieegaaa
open Go.RowKit

/-- One bit of bytes, from the highest one of the first byte on. -/
def bitAt (l : List UInt8) (i : Nat) : Nat := (l[i / 8]?.getD 0).toNat / 2 ^ (7 - i % 8) % 2

/-- r bits are 1, and then comes a 0 or the end. -/
def IsLead (l : List UInt8) (r : Nat) : Prop := r ≤ 8 * l.length ∧ (∀ j, j < r → bitAt l j = 1) ∧ (r < 8 * l.length → bitAt l r = 0)

theorem lead_from (l : List UInt8) (d : Nat) : ∀ k, k + d = 8 * l.length → (∀ j, j < k → bitAt l j = 1) → ∃ r, IsLead l r := by
  induction d with
  | zero => exact fun k h hj => ⟨k, by omega, hj, fun h' => absurd h' (by omega)⟩
  | succ d ih =>
    intro k h hj
    by_cases hb : bitAt l k = 1
    · refine ih (k + 1) (by omega) fun j hj' => ?_
      by_cases e : j = k
      · rw [e]; exact hb
      · exact hj j (by omega)
    · refine ⟨k, by omega, hj, fun _ => ?_⟩
      unfold bitAt at *
      omega

theorem lead_some (l : List UInt8) : ∃ r, IsLead l r := lead_from l (8 * l.length) 0 (by omega) (fun j h => absurd h (by omega))

theorem bit_any (A : Option Addr) (n c i : Nat) (l : List UInt8) (w : World) (hi : i < 8 * n) (hn : n ≤ 1000000) (h : Shows w w.heap.size A n l) :
    Calls Try.prog 56 #[.slice A n c, .int .i64 (i : Int)] w fun e w' => e = .returned (.int .i64 (bitAt l i : Int)) ∧ w = w' := by
  obtain ⟨b, off, x, rfl, hb, hc, hx, hlx⟩ := h.byte (k := i / 8) (by omega)
  have HB := Lib.hid (show bitAt l i = x.toNat / 2 ^ (7 - i % 8) % 2 by unfold bitAt; rw [hlx]; rfl)
  clear hlx h
  have hi8 : i / 8 < n := by omega
  go_enter Try.func56, Try.ntmps56
  go_wp2
  go_loop [5, 6] (fun v k => ∃ t : Nat, i % 8 ≤ t ∧ t ≤ 7 ∧ k = .int .i64 t ∧ v = .int .i64 ((x.toNat / 2 ^ (7 - t) : Nat) : Int)) (fun _ k => (intOf k).toNat)
  case atStart => exact ⟨7, by omega, by omega, rfl, by simp⟩
  case round =>
    obtain ⟨t, h1, h2, rfl, rfl⟩ := hrel
    have hle : x.toNat / 2 ^ (7 - t) ≤ x.toNat := Nat.div_le_self _ _
    by_cases ht : i % 8 < t
    · have Hs := Lib.hid (show x.toNat / 2 ^ (7 - (t - 1)) = x.toNat / 2 ^ (7 - t) / 2 by rw [Nat.div_div_eq_div_mul, ← Nat.pow_succ]; congr 2; omega)
      generalize x.toNat / 2 ^ (7 - t) = q at *
      go_wp2
      go_round
      case rel => exact ⟨t - 1, by omega, by omega, by go_num, by rw [Hs.out]; go_num⟩
      case measure => simp [intOf] <;> omega
    · obtain rfl : t = i % 8 := by omega
      generalize x.toNat / 2 ^ (7 - i % 8) = q at *
      go_wp2
      go_ret
      exact ⟨ret_int (by rw [HB.out]; omega), rfl⟩

theorem mask_t (t : Nat) (h : t < 8) : 128 / 2 ^ t = 2 ^ (7 - t) := by
  have : t = 0 ∨ t = 1 ∨ t = 2 ∨ t = 3 ∨ t = 4 ∨ t = 5 ∨ t = 6 ∨ t = 7 := by omega
  rcases this with rfl | rfl | rfl | rfl | rfl | rfl | rfl | rfl <;> rfl

theorem and_mask (x : Nat) (hx : x < 256) (t : Nat) (h : t < 8) : bits BinOp.and IntKind.u8 (x : Int) ((128 / 2 ^ t : Nat) : Int) = ((x / 2 ^ (7 - t) % 2 * 2 ^ (7 - t) : Nat) : Int) := by
  have hm : 2 ^ (7 - t) ≤ 2 ^ 7 := Nat.pow_le_pow_right (by omega) (by omega)
  rw [mask_t t h, u8_and_nat _ _ hx (by omega), nat_bit]

theorem bitAt_byte (l : List UInt8) (k t : Nat) (x : UInt8) (h : l[k]? = some x) (ht : t < 8) : bitAt l (8 * k + t) = x.toNat / 2 ^ (7 - t) % 2 := by
  unfold bitAt
  rw [show (8 * k + t) / 8 = k by omega, show (8 * k + t) % 8 = t by omega, h]
  rfl

end Go.Proofs.Ytfiagknmieegaaa
