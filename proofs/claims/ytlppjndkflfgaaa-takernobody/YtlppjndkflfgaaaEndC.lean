
/- Contracts: endian.Mask at any number, fits, OfLittle, OfBig, Turn. -/
import Derived.Test.YtlppjndkflfgaaaEndB
namespace Go.Proofs.Ytlppjndkflfgaaa
open Go.RowKit

/-- So many ones: what Mask answers. -/
def ones (n : Int) : Nat := 2 ^ (min n.toNat 64) - 1

theorem ofLittle_arg (A : Option Addr) (n c : Nat) (w : World) (h : n < 1 ∨ 8 < n) (hn : n ≤ maxLen) :
    Calls Try.prog 17 #[.slice A n c] w fun e w' => e = .returned (.tuple #[.int .u64 0, .int .i64 1]) ∧ w = w' := by
  unfold maxLen at hn
  go_enter Try.func17, Try.ntmps17
  go_wp2_with (go_at_call 25; refine (sized_no _ _ (by omega)).mono ?_; rintro e w' ⟨rfl, rfl⟩)
  go_ret2
  exact ⟨rfl, rfl⟩

theorem ofBig_arg (A : Option Addr) (n c : Nat) (w : World) (h : n < 1 ∨ 8 < n) (hn : n ≤ maxLen) :
    Calls Try.prog 18 #[.slice A n c] w fun e w' => e = .returned (.tuple #[.int .u64 0, .int .i64 1]) ∧ w = w' := by
  unfold maxLen at hn
  go_enter Try.func18, Try.ntmps18
  go_wp2_with (go_at_call 25; refine (sized_no _ _ (by omega)).mono ?_; rintro e w' ⟨rfl, rfl⟩)
  go_ret2
  exact ⟨rfl, rfl⟩

theorem ofLittle_any (A : Option Addr) (n c : Nat) (l : List UInt8) (w : World) (h1 : 1 ≤ n) (h8 : n ≤ 8) (h : Shows w w.heap.size A n l) :
    Calls Try.prog 17 #[.slice A n c] w fun e w' => e = .returned (.tuple #[.int .u64 (leNat l : Int), .int .i64 0]) ∧ w = w' := by
  go_enter Try.func17, Try.ntmps17
  go_wp2_with (go_at_call 25; refine (sized_yes _ _ (by omega) (by omega)).mono ?_; rintro e w' ⟨rfl, rfl⟩)
  go_loop [4, 13] (fun x i => ∃ k : Nat, k ≤ n ∧ i = .int .i64 k ∧ x = .int .u64 (leNat (l.take k) : Int)) (fun _ i => n - (intOf i).toNat)
  case atStart => exact ⟨0, Nat.zero_le _, rfl, rfl⟩
  case round =>
    obtain ⟨k, hk, rfl, rfl⟩ := hrel
    by_cases hlt : k < n
    · obtain ⟨b, off, x, rfl, hb, hc, hx, hlx⟩ := h.byte hlt
      have Hs := Lib.hid ((or_on_top (leNat (l.take k)) x.toNat k (leNat_take_lt l k) hx (by omega)).trans (congrArg Int.ofNat (leNat_take_succ l k x hlx).symm))
      clear hlx h
      generalize leNat (l.take k) = q at *
      go_wp2
      go_round
      case rel => exact ⟨k + 1, by omega, by go_num, congrArg (Value.int .u64) Hs.out⟩
      case measure => simp [intOf] <;> omega
    · obtain rfl : k = n := by omega
      have hfull : l.take k = l := List.take_of_length_le (by have := h.len; omega)
      rw [hfull]
      clear hfull
      go_wp2
      go_ret2
      exact ⟨rfl, rfl⟩

theorem ofBig_any (A : Option Addr) (n c : Nat) (l : List UInt8) (w : World) (h1 : 1 ≤ n) (h8 : n ≤ 8) (h : Shows w w.heap.size A n l) :
    Calls Try.prog 18 #[.slice A n c] w fun e w' => e = .returned (.tuple #[.int .u64 (leNat l.reverse : Int), .int .i64 0]) ∧ w = w' := by
  go_enter Try.func18, Try.ntmps18
  go_wp2_with (go_at_call 25; refine (sized_yes _ _ (by omega) (by omega)).mono ?_; rintro e w' ⟨rfl, rfl⟩)
  go_loop [4, 13] (fun x i => ∃ k : Nat, k ≤ n ∧ i = .int .i64 k ∧ x = .int .u64 (leNat (l.take k).reverse : Int)) (fun _ i => n - (intOf i).toNat)
  case atStart => exact ⟨0, Nat.zero_le _, rfl, rfl⟩
  case round =>
    obtain ⟨k, hk, rfl, rfl⟩ := hrel
    by_cases hlt : k < n
    · obtain ⟨b, off, x, rfl, hb, hc, hx, hlx⟩ := h.byte hlt
      have hq : leNat (l.take k).reverse < 72057594037927936 := by
        have h1 := leNat_rev_lt l k
        have h7 : 256 ^ k ≤ 256 ^ 7 := Nat.pow_le_pow_right (by omega) (by omega)
        omega
      have Hs := Lib.hid ((or_below (leNat (l.take k).reverse) x.toNat hq hx).trans (congrArg Int.ofNat (leNat_rev_succ l k x hlx).symm))
      clear hlx h hq
      generalize leNat (l.take k).reverse = q at *
      go_wp2
      go_round
      case rel => exact ⟨k + 1, by omega, by go_num, congrArg (Value.int .u64) Hs.out⟩
      case measure => simp [intOf] <;> omega
    · obtain rfl : k = n := by omega
      have hfull : l.take k = l := List.take_of_length_le (by have := h.len; omega)
      rw [hfull]
      clear hfull
      go_wp2
      go_ret2
      exact ⟨rfl, rfl⟩

end Go.Proofs.Ytlppjndkflfgaaa
