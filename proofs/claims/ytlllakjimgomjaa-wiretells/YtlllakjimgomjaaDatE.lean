
/- Contracts: bytes.Equal, ref01.Same of bytes that differ, data.Same, ref16.Same. -/
import Derived.Test.YtlllakjimgomjaaDatD
namespace Go.Proofs.Ytlllakjimgomjaa
open Go.RowKit

theorem same_no (A A' : Option Addr) (n c n' c' : Nat) (l l' : List UInt8) (w : World) (hn : n ≤ maxLen) (hn' : n' ≤ maxLen) (h : Shows w w.heap.size A n l) (h' : Shows w w.heap.size A' n' l') (hne : l ≠ l') :
    Calls Try.prog 15 #[.slice A n c, .slice A' n' c'] w fun e w' => e = .returned (.bool false) ∧ Below w.heap.size w w' := by
  unfold maxLen at hn hn'
  by_cases hnn : n = n'
  · subst hnn
    rcases first_apart l l' (h.len.trans h'.len.symm) with he | ⟨K, x, y, hx, hy, hxy, hlow⟩
    · exact absurd he hne
    have hKn : K < n := by have := h.len; have := (List.getElem?_eq_some_iff.1 hx).1; omega
    have Hx := Lib.hid hx
    have Hy := Lib.hid hy
    have Hlow := Lib.hid hlow
    have hxy' : x.toNat ≠ y.toNat := fun e => hxy (UInt8.toNat_inj.1 e)
    clear hne hx hy hlow
    go_enter Try.func15, Try.ntmps15
    go_wp2
    go_loopw [5] (fun i wr => ∃ k m : Nat, k ≤ K ∧ i = .int .i64 k ∧ wr = w.drewN m) (fun i _ => n - (intOf i).toNat)
    case atStart => exact ⟨0, 0, Nat.zero_le _, rfl, rfl⟩
    case round =>
      obtain ⟨k, m, hk, rfl, rfl⟩ := hrel
      by_cases hlt : k < K
      · obtain ⟨b, off, u, rfl, hb, hc, hu, hlu⟩ := h.byte (k := k) (by omega)
        obtain ⟨b', off', u', rfl, hb', hc', hu', hlu'⟩ := h'.byte (k := k) (by omega)
        obtain rfl : u = u' := by have := Hlow.out k hlt; rw [hlu, hlu'] at this; injection this
        clear hlu hlu' h h'
        go_wp2
        go_quiet (fail)
        go_wp2
        go_roundw
        case rel => exact ⟨k + 1, _, by omega, by go_num, rfl⟩
        case measure => simp [intOf] <;> omega
      · obtain rfl : k = K := by omega
        obtain ⟨b, off, u, rfl, hb, hc, hu, hlu⟩ := h.byte (k := k) (by omega)
        obtain ⟨b', off', u', rfl, hb', hc', hu', hlu'⟩ := h'.byte (k := k) (by omega)
        obtain rfl : u = x := by have := Hx.out; rw [hlu] at this; injection this
        obtain rfl : u' = y := by have := Hy.out; rw [hlu'] at this; injection this
        have hd : decide ((u.toNat : Int) = (u'.toNat : Int)) = false := decide_eq_false (by omega)
        clear hlu hlu' h h'
        go_wp2
        go_quiet (fail)
        go_wp2
        go_ret
        exact ⟨rfl, below_draw (below_draw (Below.refl _ _) m) _⟩
  · have hd : decide ((n : Int) = (n' : Int)) = false := decide_eq_false (by omega)
    go_enter Try.func15, Try.ntmps15
    go_wp2
    go_ret
    exact ⟨rfl, Below.refl _ _⟩

theorem same_dec (A A' : Option Addr) (n c n' c' : Nat) (l l' : List UInt8) (w : World) (hn : n ≤ maxLen) (hn' : n' ≤ maxLen) (h : Shows w w.heap.size A n l) (h' : Shows w w.heap.size A' n' l') :
    Calls Try.prog 15 #[.slice A n c, .slice A' n' c'] w fun e w' => e = .returned (.bool (decide (l = l'))) ∧ Below w.heap.size w w' := by
  by_cases hll : l = l'
  · subst hll
    obtain rfl : n = n' := h.len.symm.trans h'.len
    rw [decide_eq_true rfl]
    exact same_below A A' n c c' l w hn h h'
  · rw [decide_eq_false hll]
    exact same_no A A' n c n' c' l l' w hn hn' h h' hll

set_option maxRecDepth 100000 in
theorem equal_dec (A A' : Option Addr) (n c n' c' : Nat) (l l' : List UInt8) (w : World) (h : Shows w w.heap.size A n l) (h' : Shows w w.heap.size A' n' l') :
    Calls Try.prog 63 #[.slice A n c, .slice A' n' c'] w fun e w' => e = .returned (.bool (decide (l = l'))) ∧ Below w.heap.size w w' := by
  have t1 := run_text w A n c l h
  have t2 := run_text w A' n' c' l' h'
  go_enter Try.func63, Try.ntmps63
  go_wp2
  go_ret
  refine ⟨?_, Below.refl _ _⟩
  congr 2
  by_cases hll : l = l'
  · subst hll; simp
  · simp [hll]

end Go.Proofs.Ytlllakjimgomjaa
