
/- Contracts: endian.Mask at any number, fits; ref01.Same, Reversed, Get. -/
import Derived.Test.YtffdgknfllpnoaaEndA
import Derived.Test.YtffdgknfllpnoaaNum
import Derived.Test.YtffdgknfllpnoaaSame
namespace Go.Proofs.Ytffdgknfllpnoaa
open Go.RowKit

theorem drop_pred (l : List UInt8) (k : Nat) (c : UInt8) (h : l[k]? = some c) : l.drop k = c :: l.drop (k + 1) := by
  obtain ⟨hk, rfl⟩ := List.getElem?_eq_some_iff.1 h
  exact List.drop_eq_getElem_cons hk

/-- The number of up to 8 bytes. -/
theorem get_any (A : Option Addr) (n c : Nat) (l : List UInt8) (w : World) (hn : n ≤ 8) (h : Shows w w.heap.size A n l) :
    Calls Try.prog 32 #[.slice A n c] w fun e w' => e = .returned (.int .u64 (leNat l : Int)) ∧ w = w' := by
  go_enter Try.func32, Try.ntmps32
  go_wp2
  go_loop [3, 4] (fun x i => ∃ k : Nat, k ≤ n ∧ i = .int .i64 ((k : Int) - 1) ∧ x = .int .u64 (leNat (l.drop k) : Int)) (fun _ i => ((intOf i) + 1).toNat)
  case atStart => exact ⟨n, Nat.le_refl _, rfl, by rw [List.drop_of_length_le (by have := h.len; omega)]; rfl⟩
  case round =>
    obtain ⟨k, hk, rfl, rfl⟩ := hrel
    rcases Nat.eq_zero_or_pos k with hz | hz
    · subst hz
      go_wp2
      go_ret
      exact ⟨rfl, rfl⟩
    · obtain ⟨j, rfl⟩ : ∃ j, k = j + 1 := ⟨k - 1, by omega⟩
      obtain ⟨b, off, x, rfl, hb, hc, hx, hlx⟩ := h.byte (k := j) (by omega)
      have hd := Lib.hid (drop_pred l j x hlx)
      have hlt := leNat_lt (l.drop (j + 1))
      have hp : 256 ^ (l.drop (j + 1)).length ≤ 256 ^ 7 := Nat.pow_le_pow_right (by omega) (by simp; have := h.len; omega)
      have hv : leNat (l.drop (j + 1)) < 72057594037927936 := by omega
      clear hlt hp hlx h
      generalize hq : leNat (l.drop (j + 1)) = q at *
      have Hq := Lib.hid hq
      clear hq
      go_wp2
      go_round
      case rel => exact ⟨j, by omega, by go_num, by rw [hd.out]; simp only [leNat]; rw [Hq.out]; go_num⟩
      case measure => simp [intOf] <;> omega

end Go.Proofs.Ytffdgknfllpnoaa
