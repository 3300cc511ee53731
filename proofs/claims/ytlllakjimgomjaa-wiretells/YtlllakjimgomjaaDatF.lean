
/- Contracts: data.Same, ref16.Same; law16's alive. -/
import Derived.Test.YtlllakjimgomjaaDatE
namespace Go.Proofs.Ytlllakjimgomjaa
open Go.RowKit
set_option linter.unusedVariables false

theorem dataSame_eq (r k : Nat) (A A' : Option Addr) (n c n' c' : Nat) (R : Bool) (w : World)
    (hE : ∀ W : World, Below w.heap.size w W → Calls Try.prog 63 #[.slice A n c, .slice A' n' c'] W fun e w' => e = .returned (.bool R) ∧ Below W.heap.size W w') :
    Calls Try.prog 52 #[.agg (trv r k A n c), .agg (trv r k A' n' c')] w fun e w' => e = .returned (.bool R) ∧ Below w.heap.size w w' := by
  have hb : Below w.heap.size w ((w.alloc (.cells (trv r k A n c) 56)).alloc (.cells (trv r k A' n' c') 56)) := ((Below.refl _ _).alloc (Nat.le_refl _) _).alloc (by simp) _
  have HE := Lib.hid hE
  clear hE
  go_enter Try.func52, Try.ntmps52
  go_wp2_with fail
  refine (HE.out _ hb).mono ?_
  rintro e w1 ⟨rfl, hb1⟩
  have hb2 := Below.on hb hb.size hb1
  clear hb hb1 HE
  go_wp2
  go_ret
  exact ⟨rfl, hb2⟩
theorem dataSame_ne (r k r' k' : Nat) (A A' : Option Addr) (n c n' c' : Nat) (w : World) (h : r ≠ r' ∨ k ≠ k') :
    Calls Try.prog 52 #[.agg (trv r k A n c), .agg (trv r' k' A' n' c')] w fun e w' => e = .returned (.bool false) ∧ Below w.heap.size w w' := by
  have hb : Below w.heap.size w ((w.alloc (.cells (trv r k A n c) 56)).alloc (.cells (trv r' k' A' n' c') 56)) := ((Below.refl _ _).alloc (Nat.le_refl _) _).alloc (by simp) _
  by_cases hr : r = r'
  · subst hr
    have hk : ¬ k = k' := by rcases h with h | h; exact absurd rfl h; exact h
    have hd : decide ((k : Int) = (k' : Int)) = false := decide_eq_false (by omega)
    go_enter Try.func52, Try.ntmps52
    go_wp2
    go_ret
    exact ⟨rfl, hb⟩
  · have hd : decide ((r : Int) = (r' : Int)) = false := decide_eq_false (by omega)
    go_enter Try.func52, Try.ntmps52
    go_wp2
    go_ret
    exact ⟨rfl, hb⟩
theorem dataSame_dec (r k r' k' : Nat) (A A' : Option Addr) (n c n' c' : Nat) (l l' : List UInt8) (w : World) (hn : n ≤ maxLen) (hn' : n' ≤ maxLen) (h : Shows w w.heap.size A n l) (h' : Shows w w.heap.size A' n' l') :
    Calls Try.prog 52 #[.agg (trv r k A n c), .agg (trv r' k' A' n' c')] w fun e w' => e = .returned (.bool (decide (r = r' ∧ k = k' ∧ l = l'))) ∧ Below w.heap.size w w' := by
  by_cases hrk : r = r' ∧ k = k'
  · obtain ⟨rfl, rfl⟩ := hrk
    have := dataSame_eq r k A A' n c n' c' (decide (l = l')) w (fun W hW => equal_dec A A' n c n' c' l l' W ((h.below hW).up hW.size) ((h'.below hW).up hW.size))
    simpa using this
  · rw [decide_eq_false (fun e => hrk ⟨e.1, e.2.1⟩)]
    exact dataSame_ne r k r' k' A A' n c n' c' w (by omega)

theorem ref16Same_eq (r k : Nat) (A A' : Option Addr) (n c n' c' : Nat) (R : Bool) (w : World)
    (hE : ∀ W : World, Below w.heap.size w W → Calls Try.prog 15 #[.slice A n c, .slice A' n' c'] W fun e w' => e = .returned (.bool R) ∧ Below W.heap.size W w') :
    Calls Try.prog 51 #[.agg (trv r k A n c), .agg (trv r k A' n' c')] w fun e w' => e = .returned (.bool R) ∧ Below w.heap.size w w' := by
  have hb : Below w.heap.size w ((w.alloc (.cells (trv r k A n c) 56)).alloc (.cells (trv r k A' n' c') 56)) := ((Below.refl _ _).alloc (Nat.le_refl _) _).alloc (by simp) _
  have HE := Lib.hid hE
  clear hE
  go_enter Try.func51, Try.ntmps51
  go_wp2_with fail
  refine (HE.out _ hb).mono ?_
  rintro e w1 ⟨rfl, hb1⟩
  have hb2 := Below.on hb hb.size hb1
  clear hb hb1 HE
  go_wp2
  go_ret
  exact ⟨rfl, hb2⟩
theorem ref16Same_ne (r k r' k' : Nat) (A A' : Option Addr) (n c n' c' : Nat) (w : World) (h : r ≠ r' ∨ k ≠ k') :
    Calls Try.prog 51 #[.agg (trv r k A n c), .agg (trv r' k' A' n' c')] w fun e w' => e = .returned (.bool false) ∧ Below w.heap.size w w' := by
  have hb : Below w.heap.size w ((w.alloc (.cells (trv r k A n c) 56)).alloc (.cells (trv r' k' A' n' c') 56)) := ((Below.refl _ _).alloc (Nat.le_refl _) _).alloc (by simp) _
  by_cases hr : r = r'
  · subst hr
    have hk : ¬ k = k' := by rcases h with h | h; exact absurd rfl h; exact h
    have hd : decide ((k : Int) = (k' : Int)) = false := decide_eq_false (by omega)
    go_enter Try.func51, Try.ntmps51
    go_wp2
    go_ret
    exact ⟨rfl, hb⟩
  · have hd : decide ((r : Int) = (r' : Int)) = false := decide_eq_false (by omega)
    go_enter Try.func51, Try.ntmps51
    go_wp2
    go_ret
    exact ⟨rfl, hb⟩
theorem ref16Same_dec (r k r' k' : Nat) (A A' : Option Addr) (n c n' c' : Nat) (l l' : List UInt8) (w : World) (hn : n ≤ maxLen) (hn' : n' ≤ maxLen) (h : Shows w w.heap.size A n l) (h' : Shows w w.heap.size A' n' l') :
    Calls Try.prog 51 #[.agg (trv r k A n c), .agg (trv r' k' A' n' c')] w fun e w' => e = .returned (.bool (decide (r = r' ∧ k = k' ∧ l = l'))) ∧ Below w.heap.size w w' := by
  by_cases hrk : r = r' ∧ k = k'
  · obtain ⟨rfl, rfl⟩ := hrk
    have := ref16Same_eq r k A A' n c n' c' (decide (l = l')) w (fun W hW => same_dec A A' n c n' c' l l' W hn hn' ((h.below hW).up hW.size) ((h'.below hW).up hW.size))
    simpa using this
  · rw [decide_eq_false (fun e => hrk ⟨e.1, e.2.1⟩)]
    exact ref16Same_ne r k r' k' A A' n c n' c' w (by omega)

end Go.Proofs.Ytlllakjimgomjaa
