
/- Contracts: endian.Mask at any number, fits, OfLittle, OfBig, Turn. -/
import Derived.Test.YtkokgoodpibboaaEndB
namespace Go.Proofs.Ytkokgoodpibboaa
open Go.RowKit
set_option maxRecDepth 100000

/-- So many ones: what Mask answers. -/
def ones (n : Int) : Nat := 2 ^ (min n.toNat 64) - 1

theorem mask_any (n : Int) (w : World) : Calls Try.prog 126 #[.int .i64 n] w fun e w' => e = .returned (.int .u64 (ones n : Int)) ∧ w = w' := by
  rcases Int.lt_or_le n 0 with h | h
  · have e : ones n = 0 := by
      unfold ones; rw [show n.toNat = 0 by omega]; rfl
    rw [e]
    exact mask_low n w h
  · rcases Int.lt_or_le 64 n with h' | h'
    · have e : ones n = 18446744073709551615 := by
        unfold ones; rw [Nat.min_eq_right (by omega)]
      rw [e]
      exact mask_high n w h'
    · obtain ⟨k, rfl⟩ := Int.eq_ofNat_of_zero_le h
      have e : ones (k : Int) = 2 ^ k - 1 := by
        unfold ones; rw [Int.toNat_natCast, Nat.min_eq_left (by omega)]
      rw [e]
      exact mask_mid k w (by omega)

theorem fits_arg (n size : Int) (w : World) (h : size < 1 ∨ 8 < size) :
    Calls Try.prog 106 #[.int .u64 n, .int .i64 size] w fun e w' => e = .returned (.int .i64 1) ∧ w = w' := by
  go_enter Try.func106, Try.ntmps106
  go_wp2_with (go_at_call 125; refine (sized_no _ _ h).mono ?_; rintro e w' ⟨rfl, rfl⟩)
  go_ret
  exact ⟨rfl, rfl⟩

theorem fits_range (n size : Int) (w : World) (h1 : 1 ≤ size) (h8 : size ≤ 8) (hn : (ones (8 * size) : Int) < n) :
    Calls Try.prog 106 #[.int .u64 n, .int .i64 size] w fun e w' => e = .returned (.int .i64 6) ∧ w = w' := by
  go_enter Try.func106, Try.ntmps106
  go_wp2_with (first | (go_at_call 125; refine (sized_yes _ _ h1 h8).mono ?_; rintro e w' ⟨rfl, rfl⟩) | (go_at_call 126; refine (mask_any _ _).mono ?_; rintro e w' ⟨rfl, rfl⟩))
  go_ret
  exact ⟨rfl, rfl⟩

theorem fits_ok (n size : Int) (w : World) (h1 : 1 ≤ size) (h8 : size ≤ 8) (hn : n ≤ (ones (8 * size) : Int)) :
    Calls Try.prog 106 #[.int .u64 n, .int .i64 size] w fun e w' => e = .returned (.int .i64 0) ∧ w = w' := by
  go_enter Try.func106, Try.ntmps106
  go_wp2_with (first | (go_at_call 125; refine (sized_yes _ _ h1 h8).mono ?_; rintro e w' ⟨rfl, rfl⟩) | (go_at_call 126; refine (mask_any _ _).mono ?_; rintro e w' ⟨rfl, rfl⟩))
  go_ret
  exact ⟨rfl, rfl⟩

theorem ofBig_arg (A : Option Addr) (n c : Nat) (w : World) (h : n < 1 ∨ 8 < n) (hn : n ≤ maxLen) :
    Calls Try.prog 111 #[.slice A n c] w fun e w' => e = .returned (.tuple #[.int .u64 0, .int .i64 1]) ∧ w = w' := by
  unfold maxLen at hn
  go_enter Try.func111, Try.ntmps111
  go_wp2_with (go_at_call 125; refine (sized_no _ _ (by omega)).mono ?_; rintro e w' ⟨rfl, rfl⟩)
  go_ret2
  exact ⟨rfl, rfl⟩

theorem ofBig_any (A : Option Addr) (n c : Nat) (l : List UInt8) (w : World) (h1 : 1 ≤ n) (h8 : n ≤ 8) (h : Shows w w.heap.size A n l) :
    Calls Try.prog 111 #[.slice A n c] w fun e w' => e = .returned (.tuple #[.int .u64 (leNat l.reverse : Int), .int .i64 0]) ∧ w = w' := by
  go_enter Try.func111, Try.ntmps111
  go_wp2_with (go_at_call 125; refine (sized_yes _ _ (by omega) (by omega)).mono ?_; rintro e w' ⟨rfl, rfl⟩)
  go_loop [4, 13] (fun x i => ∃ k : Nat, k ≤ n ∧ i = .int .i64 k ∧ x = .int .u64 (leNat (l.take k).reverse : Int)) (fun _ i => n - (intOf i).toNat)
  case atStart => exact ⟨0, Nat.zero_le _, rfl, rfl⟩
  case round =>
    obtain ⟨k, hk, rfl, rfl⟩ := hrel
    by_cases hlt : k < n
    · obtain ⟨b, off, x, rfl, hb, hc, hx, hlx⟩ := h.byte hlt
      have hq : leNat (l.take k).reverse < 72057594037927936 := by
        have h1 := leNat_rev_lt l k
        have h7 : 256 ^ k ≤ 256 ^ 7 := Nat.pow_le_pow_right (by omega) (by omega)
        omega
      have Hs := Lib.hid ((or_below (leNat (l.take k).reverse) x.toNat hq hx).trans (congrArg Int.ofNat (leNat_rev_succ l k x hlx).symm))
      clear hlx h hq
      generalize leNat (l.take k).reverse = q at *
      go_wp2
      go_round
      case rel => exact ⟨k + 1, by omega, by go_num, congrArg (Value.int .u64) Hs.out⟩
      case measure => simp [intOf] <;> omega
    · obtain rfl : k = n := by omega
      have hfull : l.take k = l := List.take_of_length_le (by have := h.len; omega)
      rw [hfull]
      clear hfull
      go_wp2
      go_ret2
      exact ⟨rfl, rfl⟩

end Go.Proofs.Ytkokgoodpibboaa
