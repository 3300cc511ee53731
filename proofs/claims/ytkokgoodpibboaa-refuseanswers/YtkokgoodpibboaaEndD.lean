
/- Contracts: endian.Little, Big. -/
import Derived.Test.YtkokgoodpibboaaEndC
namespace Go.Proofs.Ytkokgoodpibboaa
open Go.RowKit
set_option maxRecDepth 100000

theorem byte_of (n i : Nat) : (n : Int) / 2 ^ (8 * i) % 256 = (((byteAt n i).toNat : Nat) : Int) := by
  rw [two_pow_8i, byteAt_toNat]
  rw [← Int.natCast_ediv]
  omega

theorem fill_next (L : List UInt8) (size k : Nat) (x : UInt8) (hL : L.length = size) (h : L[k]? = some x) :
    (L.take k ++ List.replicate (size - k) 0).set k x = L.take (k + 1) ++ List.replicate (size - (k + 1)) 0 := by
  obtain ⟨hk, rfl⟩ := List.getElem?_eq_some_iff.1 h
  have hl : (L.take k).length = k := by simp; omega
  rw [show size - k = size - (k + 1) + 1 by omega, List.take_succ_eq_append_getElem hk]
  have := set_next (L.take k) (size - (k + 1)) L[k]
  rw [hl] at this
  exact this

theorem leBytes_at (n size k : Nat) (h : k < size) : (leBytes n size)[k]? = some (byteAt n k) := by simp [leBytes, h]
theorem beBytes_at (n size k : Nat) (h : k < size) : (leBytes n size).reverse[k]? = some (byteAt n (size - 1 - k)) := by
  rw [List.getElem?_reverse (by rw [leBytes_len]; exact h), leBytes_len, leBytes_at _ _ _ (by omega)]

theorem big_arg (n size : Int) (w : World) (h : size < 1 ∨ 8 < size) :
    Calls Try.prog 68 #[.int .u64 n, .int .i64 size] w fun e w' => e = .returned (.tuple #[.slice none 0 0, .int .i64 1]) ∧ w = w' := by
  go_enter Try.func68, Try.ntmps68
  go_wp2_with (go_at_call 106; refine (fits_arg _ _ _ h).mono ?_; rintro e w' ⟨rfl, rfl⟩)
  go_ret2
  exact ⟨rfl, rfl⟩

theorem big_range (n size : Int) (w : World) (h1 : 1 ≤ size) (h8 : size ≤ 8) (hn : (ones (8 * size) : Int) < n) :
    Calls Try.prog 68 #[.int .u64 n, .int .i64 size] w fun e w' => e = .returned (.tuple #[.slice none 0 0, .int .i64 6]) ∧ w = w' := by
  go_enter Try.func68, Try.ntmps68
  go_wp2_with (go_at_call 106; refine (fits_range _ _ _ h1 h8 hn).mono ?_; rintro e w' ⟨rfl, rfl⟩)
  go_ret2
  exact ⟨rfl, rfl⟩

theorem big_ok (n size : Nat) (w : World) (h1 : 1 ≤ size) (h8 : size ≤ 8) (hn : (n : Int) ≤ (ones (8 * (size : Int)) : Int)) :
    Calls Try.prog 68 #[.int .u64 (n : Int), .int .i64 (size : Int)] w fun e w' =>
      e = .returned (.tuple #[.slice (some ⟨w.heap.size, 0, none⟩) size size, .int .i64 0]) ∧ Own w' w.heap.size (.slice (some ⟨w.heap.size, 0, none⟩) size size) size (leBytes n size).reverse ∧ Below w.heap.size w w' := by
  have Hn := Lib.hid hn
  clear hn
  go_enter Try.func68, Try.ntmps68
  go_wp2_with (first | (go_at_call 106; refine (fits_ok _ _ _ (by omega) (by omega) Hn.out).mono ?_; rintro e w' ⟨rfl, rfl⟩) | (at_make; refine wpList_mk _ rfl _ _ rfl w.heap.size size _ _ rfl rfl rfl rfl (by omega) (Nat.le_refl _) ?_; intro w1 hown hgrow))
  go_loopw [19] (fun i wr => ∃ k : Nat, k ≤ size ∧ i = .int .i64 k ∧ Own wr w.heap.size (.slice (some ⟨w.heap.size, 0, none⟩) size size) size ((leBytes n size).reverse.take k ++ List.replicate (size - k) 0) ∧ Below w.heap.size w wr) (fun i _ => size - (intOf i).toNat)
  case atStart => exact ⟨0, Nat.zero_le _, rfl, hown, (Below.refl _ _).grown hgrow (Nat.le_refl _) (fun k hk => by cases hk)⟩
  case round =>
    clear hown hgrow
    obtain ⟨k, hk, rfl, hown, hbel⟩ := hrel
    by_cases hlt : k < size
    · obtain ⟨old, hc, _⟩ := hown.at hlt
      have hf := World.ownsRow.frozenAt hown k
      have hput := hown.put k (byteAt n (size - 1 - k))
      rw [fill_next _ size k _ (by simp [leBytes_len]) (beBytes_at n size k hlt)] at hput
      unfold bv at hput
      rw [← byte_of n (size - 1 - k)] at hput
      have Hp := Lib.hid hput
      clear hput hown
      go_wp2
      go_roundw
      case rel => exact ⟨k + 1, by omega, by go_num, Hp.out.1, hbel.grown Hp.out.2 hbel.size (fun g hg => by injection hg with hg; omega)⟩
      case measure => simp [intOf] <;> omega
    · obtain rfl : k = size := by omega
      go_wp2
      go_ret2
      exact ⟨rfl, by simpa [List.take_of_length_le (Nat.le_of_eq (show (leBytes n k).reverse.length = k by simp [leBytes_len]))] using hown, hbel⟩

end Go.Proofs.Ytkokgoodpibboaa
