
/- Contracts: ref01.Bit, Ones; endian.Ones; law01's alive. -/
import Derived.Test.YtccidoigjdbepaaDoorEndE
namespace Go.Proofs.YtccidoigjdbepaaDoor
open Go.RowKit
set_option maxRecDepth 100000

/-- One bit of bytes, from the highest one of the first byte on. -/
def bitAt (l : List UInt8) (i : Nat) : Nat := (l[i / 8]?.getD 0).toNat / 2 ^ (7 - i % 8) % 2

/-- r bits are 1, and then comes a 0 or the end. -/
def IsLead (l : List UInt8) (r : Nat) : Prop := r ≤ 8 * l.length ∧ (∀ j, j < r → bitAt l j = 1) ∧ (r < 8 * l.length → bitAt l r = 0)

theorem lead_from (l : List UInt8) (d : Nat) : ∀ k, k + d = 8 * l.length → (∀ j, j < k → bitAt l j = 1) → ∃ r, IsLead l r := by
  induction d with
  | zero => exact fun k h hj => ⟨k, by omega, hj, fun h' => absurd h' (by omega)⟩
  | succ d ih =>
    intro k h hj
    by_cases hb : bitAt l k = 1
    · refine ih (k + 1) (by omega) fun j hj' => ?_
      by_cases e : j = k
      · rw [e]; exact hb
      · exact hj j (by omega)
    · refine ⟨k, by omega, hj, fun _ => ?_⟩
      unfold bitAt at *
      omega

theorem lead_some (l : List UInt8) : ∃ r, IsLead l r := lead_from l (8 * l.length) 0 (by omega) (fun j h => absurd h (by omega))

theorem mask_t (t : Nat) (h : t < 8) : 128 / 2 ^ t = 2 ^ (7 - t) := by
  have : t = 0 ∨ t = 1 ∨ t = 2 ∨ t = 3 ∨ t = 4 ∨ t = 5 ∨ t = 6 ∨ t = 7 := by omega
  rcases this with rfl | rfl | rfl | rfl | rfl | rfl | rfl | rfl <;> rfl

theorem end_and_mask (x : Nat) (hx : x < 256) (t : Nat) (h : t < 8) : bits BinOp.and IntKind.u8 (x : Int) ((128 / 2 ^ t : Nat) : Int) = ((x / 2 ^ (7 - t) % 2 * 2 ^ (7 - t) : Nat) : Int) := by
  have hm : 2 ^ (7 - t) ≤ 2 ^ 7 := Nat.pow_le_pow_right (by omega) (by omega)
  rw [mask_t t h, u8_and_nat _ _ hx (by omega), nat_bit]

theorem bitAt_byte (l : List UInt8) (k t : Nat) (x : UInt8) (h : l[k]? = some x) (ht : t < 8) : bitAt l (8 * k + t) = x.toNat / 2 ^ (7 - t) % 2 := by
  unfold bitAt
  rw [show (8 * k + t) / 8 = k by omega, show (8 * k + t) % 8 = t by omega, h]
  rfl

theorem ones_any (A : Option Addr) (n c r : Nat) (l : List UInt8) (w : World) (hn : n ≤ 1000000) (h : Shows w w.heap.size A n l) (hr : IsLead l r) :
    Calls Tryd.prog 83 #[.slice A n c] w fun e w' => e = .returned (.int .i64 (r : Int)) ∧ w = w' := by
  obtain ⟨hr1, hr2, hr3⟩ := hr
  have hl := h.len
  rw [hl] at hr1 hr3
  have H2 := Lib.hid hr2
  have H3 := Lib.hid hr3
  clear hr2 hr3 hl
  go_enter Tryd.func83, Tryd.ntmps83
  go_wp2
  go_loop [3, 9] (fun v i => ∃ k : Nat, k ≤ n ∧ 8 * k ≤ r ∧ i = .int .i64 k ∧ v = .int .i64 (8 * (k : Int))) (fun _ i => n - (intOf i).toNat)
  case atStart => exact ⟨0, Nat.zero_le _, Nat.zero_le _, rfl, rfl⟩
  case round =>
    obtain ⟨k, hk, hkr, rfl, rfl⟩ := hrel
    by_cases hlt : k < n
    · obtain ⟨b, off, x, rfl, hb, hc, hx, hlx⟩ := h.byte hlt
      have Hlx := Lib.hid hlx
      clear hlx
      go_wp2
      go_loop [3, 6] (fun v m => ∃ t : Nat, t ≤ 8 ∧ 8 * k + t ≤ r ∧ m = .int .u8 ((128 / 2 ^ t : Nat) : Int) ∧ v = .int .i64 (8 * (k : Int) + (t : Int))) (fun _ m => (intOf m).toNat)
      case atStart => exact ⟨0, by omega, by omega, by simp, by simp⟩
      case round =>
        obtain ⟨t, ht, htr, rfl, rfl⟩ := hrel
        by_cases ht8 : t < 8
        · have hA := end_and_mask x.toNat hx t ht8
          have HBt := Lib.hid (bitAt_byte l k t x Hlx.out ht8)
          have hm0 : 0 < 128 / 2 ^ t := by rw [mask_t t ht8]; exact Nat.two_pow_pos _
          have hm1 : 128 / 2 ^ t ≤ 128 := Nat.div_le_self _ _
          have hp : 0 < 2 ^ (7 - t) := Nat.two_pow_pos _
          have Hs := Lib.hid (show 128 / 2 ^ (t + 1) = 128 / 2 ^ t / 2 by rw [Nat.div_div_eq_div_mul, ← Nat.pow_succ])
          by_cases hb1 : 8 * k + t < r
          · have hone := H2.out _ hb1
            rw [HBt.out] at hone
            rw [hone, Nat.one_mul] at hA
            clear hone
            generalize 128 / 2 ^ t = M at *
            generalize 2 ^ (7 - t) = P at *
            go_wp2
            go_round
            case rel => exact ⟨t + 1, by omega, by omega, by rw [Hs.out]; go_num, by go_num⟩
            case measure => simp [intOf] <;> omega
          · obtain rfl : r = 8 * k + t := by omega
            have hzero := H3.out (by omega)
            rw [HBt.out] at hzero
            rw [hzero, Nat.zero_mul] at hA
            clear hzero
            generalize 128 / 2 ^ t = M at *
            generalize 2 ^ (7 - t) = P at *
            go_wp2
            go_ret
            exact ⟨ret_int (by omega), rfl⟩
        · obtain rfl : t = 8 := by omega
          go_wp2
          go_round
          case rel => exact ⟨k + 1, by omega, by omega, by go_num, by go_num⟩
          case measure => simp [intOf] <;> omega
    · obtain rfl : k = n := by omega
      go_wp2
      go_ret
      exact ⟨ret_int (by omega), rfl⟩

end Go.Proofs.YtccidoigjdbepaaDoor
