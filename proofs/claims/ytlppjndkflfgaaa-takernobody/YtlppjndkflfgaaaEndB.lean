
/- Contracts: endian.Mask at any number, fits; ref01.Same, Reversed, Get. -/
import Derived.Test.YtlppjndkflfgaaaEndA
import Derived.Test.YtlppjndkflfgaaaNum
import Derived.Test.YtlppjndkflfgaaaSame
namespace Go.Proofs.Ytlppjndkflfgaaa
open Go.RowKit

theorem drop_pred (l : List UInt8) (k : Nat) (c : UInt8) (h : l[k]? = some c) : l.drop k = c :: l.drop (k + 1) := by
  obtain ⟨hk, rfl⟩ := List.getElem?_eq_some_iff.1 h
  exact List.drop_eq_getElem_cons hk

/-- The number of up to 8 bytes. -/
theorem get_any (A : Option Addr) (n c : Nat) (l : List UInt8) (w : World) (hn : n ≤ 8) (h : Shows w w.heap.size A n l) :
    Calls Try.prog 28 #[.slice A n c] w fun e w' => e = .returned (.int .u64 (leNat l : Int)) ∧ w = w' := by
  go_enter Try.func28, Try.ntmps28
  go_wp2
  go_loop [3, 4] (fun x i => ∃ k : Nat, k ≤ n ∧ i = .int .i64 ((k : Int) - 1) ∧ x = .int .u64 (leNat (l.drop k) : Int)) (fun _ i => ((intOf i) + 1).toNat)
  case atStart => exact ⟨n, Nat.le_refl _, rfl, by rw [List.drop_of_length_le (by have := h.len; omega)]; rfl⟩
  case round =>
    obtain ⟨k, hk, rfl, rfl⟩ := hrel
    rcases Nat.eq_zero_or_pos k with hz | hz
    · subst hz
      go_wp2
      go_ret
      exact ⟨rfl, rfl⟩
    · obtain ⟨j, rfl⟩ : ∃ j, k = j + 1 := ⟨k - 1, by omega⟩
      obtain ⟨b, off, x, rfl, hb, hc, hx, hlx⟩ := h.byte (k := j) (by omega)
      have hd := Lib.hid (drop_pred l j x hlx)
      have hlt := leNat_lt (l.drop (j + 1))
      have hp : 256 ^ (l.drop (j + 1)).length ≤ 256 ^ 7 := Nat.pow_le_pow_right (by omega) (by simp; have := h.len; omega)
      have hv : leNat (l.drop (j + 1)) < 72057594037927936 := by omega
      clear hlt hp hlx h
      generalize hq : leNat (l.drop (j + 1)) = q at *
      have Hq := Lib.hid hq
      clear hq
      go_wp2
      go_round
      case rel => exact ⟨j, by omega, by go_num, by rw [hd.out]; simp only [leNat]; rw [Hq.out]; go_num⟩
      case measure => simp [intOf] <;> omega

/-- Bytes from the last one to the first one. -/
theorem reversed_any (A : Option Addr) (n c : Nat) (l : List UInt8) (w : World) (hn : n ≤ 1000000) (h : Shows w w.heap.size A n l) :
    Calls Try.prog 27 #[.slice A n c] w fun e w' => (∃ v, e = .returned v ∧ Own w' w.heap.size v n l.reverse) ∧ Below w.heap.size w w' := by
  go_enter Try.func27, Try.ntmps27
  go_wp2
  go_loopw [3, 4] (fun v i wr => ∃ k : Nat, k ≤ n ∧ i = .int .i64 ((k : Int) - 1) ∧ Own wr w.heap.size v (n - k) (l.drop k).reverse ∧ Below w.heap.size w wr) (fun _ i _ => ((intOf i) + 1).toNat)
  case atStart => exact ⟨n, Nat.le_refl _, rfl, by rw [List.drop_of_length_le (by have := h.len; omega), Nat.sub_self]; exact World.ownsRow_nil _ _ _ _, Below.refl _ _⟩
  case round =>
    obtain ⟨k, hk, rfl, hown, hbel⟩ := hrel
    rcases Nat.eq_zero_or_pos k with hz | hz
    · subst hz
      go_wp2
      go_ret
      exact ⟨⟨_, rfl, hown⟩, hbel⟩
    · obtain ⟨j, rfl⟩ : ∃ j, k = j + 1 := ⟨k - 1, by omega⟩
      obtain ⟨b, off, x, rfl, hb, hc, hx, hlx⟩ := (h.below hbel).byte (k := j) (by omega)
      have hd := Lib.hid (drop_pred l j x hlx)
      have hsz := hbel.size
      clear hlx
      go_wp2_with (at_builtin; refine wpList_app1 _ rfl _ _ rfl w.heap.size _ _ _ rfl (hown.alloc _) ⟨wr.heap.size, 0, none⟩ 1 x rfl ?c1 ?c2 ?c3 ?_)
      case c1 => simp
      case c2 => omega
      case c3 => simp; omega
      intro v' w1 hown' hgrow
      have hb1 : Below w.heap.size w w1 := (hbel.alloc hsz _).grown hgrow (by simp; omega) (fun g hg => (hown.lt g hg).1)
      clear hown hbel hgrow
      go_wp2
      go_roundw
      case rel => exact ⟨j, by omega, by go_num, by rw [hd.out]; simpa [show n - j = n - (j + 1) + 1 by omega] using hown', hb1⟩
      case measure => simp [intOf] <;> omega

end Go.Proofs.Ytlppjndkflfgaaa
