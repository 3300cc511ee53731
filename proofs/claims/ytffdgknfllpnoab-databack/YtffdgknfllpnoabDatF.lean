
/- Contracts: data.Same, ref16.Same; law16's alive. -/
import Derived.Test.YtffdgknfllpnoabDatE
namespace Go.Proofs.Ytffdgknfllpnoab
open Go.RowKit
set_option linter.unusedVariables false

theorem dataSame_eq (r k : Nat) (A A' : Option Addr) (n c n' c' : Nat) (R : Bool) (w : World)
    (hE : ∀ W : World, Below w.heap.size w W → Calls Try.prog 23 #[.slice A n c, .slice A' n' c'] W fun e w' => e = .returned (.bool R) ∧ Below W.heap.size W w') :
    Calls Try.prog 13 #[.agg (trv r k A n c), .agg (trv r k A' n' c')] w fun e w' => e = .returned (.bool R) ∧ Below w.heap.size w w' := by
  have hb : Below w.heap.size w ((w.alloc (.cells (trv r k A n c) 26)).alloc (.cells (trv r k A' n' c') 26)) := ((Below.refl _ _).alloc (Nat.le_refl _) _).alloc (by simp) _
  have HE := Lib.hid hE
  clear hE
  go_enter Try.func13, Try.ntmps13
  go_wp2_with fail
  refine (HE.out _ hb).mono ?_
  rintro e w1 ⟨rfl, hb1⟩
  have hb2 := Below.on hb hb.size hb1
  clear hb hb1 HE
  go_wp2
  go_ret
  exact ⟨rfl, hb2⟩
theorem dataSame_ne (r k r' k' : Nat) (A A' : Option Addr) (n c n' c' : Nat) (w : World) (h : r ≠ r' ∨ k ≠ k') :
    Calls Try.prog 13 #[.agg (trv r k A n c), .agg (trv r' k' A' n' c')] w fun e w' => e = .returned (.bool false) ∧ Below w.heap.size w w' := by
  have hb : Below w.heap.size w ((w.alloc (.cells (trv r k A n c) 26)).alloc (.cells (trv r' k' A' n' c') 26)) := ((Below.refl _ _).alloc (Nat.le_refl _) _).alloc (by simp) _
  by_cases hr : r = r'
  · subst hr
    have hk : ¬ k = k' := by rcases h with h | h; exact absurd rfl h; exact h
    have hd : decide ((k : Int) = (k' : Int)) = false := decide_eq_false (by omega)
    go_enter Try.func13, Try.ntmps13
    go_wp2
    go_ret
    exact ⟨rfl, hb⟩
  · have hd : decide ((r : Int) = (r' : Int)) = false := decide_eq_false (by omega)
    go_enter Try.func13, Try.ntmps13
    go_wp2
    go_ret
    exact ⟨rfl, hb⟩
theorem dataSame_dec (r k r' k' : Nat) (A A' : Option Addr) (n c n' c' : Nat) (l l' : List UInt8) (w : World) (hn : n ≤ maxLen) (hn' : n' ≤ maxLen) (h : Shows w w.heap.size A n l) (h' : Shows w w.heap.size A' n' l') :
    Calls Try.prog 13 #[.agg (trv r k A n c), .agg (trv r' k' A' n' c')] w fun e w' => e = .returned (.bool (decide (r = r' ∧ k = k' ∧ l = l'))) ∧ Below w.heap.size w w' := by
  by_cases hrk : r = r' ∧ k = k'
  · obtain ⟨rfl, rfl⟩ := hrk
    have := dataSame_eq r k A A' n c n' c' (decide (l = l')) w (fun W hW => equal_dec A A' n c n' c' l l' W ((h.below hW).up hW.size) ((h'.below hW).up hW.size))
    simpa using this
  · rw [decide_eq_false (fun e => hrk ⟨e.1, e.2.1⟩)]
    exact dataSame_ne r k r' k' A A' n c n' c' w (by omega)

theorem ref16Same_eq (r k : Nat) (A A' : Option Addr) (n c n' c' : Nat) (R : Bool) (w : World)
    (hE : ∀ W : World, Below w.heap.size w W → Calls Try.prog 10 #[.slice A n c, .slice A' n' c'] W fun e w' => e = .returned (.bool R) ∧ Below W.heap.size W w') :
    Calls Try.prog 12 #[.agg (trv r k A n c), .agg (trv r k A' n' c')] w fun e w' => e = .returned (.bool R) ∧ Below w.heap.size w w' := by
  have hb : Below w.heap.size w ((w.alloc (.cells (trv r k A n c) 26)).alloc (.cells (trv r k A' n' c') 26)) := ((Below.refl _ _).alloc (Nat.le_refl _) _).alloc (by simp) _
  have HE := Lib.hid hE
  clear hE
  go_enter Try.func12, Try.ntmps12
  go_wp2_with fail
  refine (HE.out _ hb).mono ?_
  rintro e w1 ⟨rfl, hb1⟩
  have hb2 := Below.on hb hb.size hb1
  clear hb hb1 HE
  go_wp2
  go_ret
  exact ⟨rfl, hb2⟩
theorem ref16Same_ne (r k r' k' : Nat) (A A' : Option Addr) (n c n' c' : Nat) (w : World) (h : r ≠ r' ∨ k ≠ k') :
    Calls Try.prog 12 #[.agg (trv r k A n c), .agg (trv r' k' A' n' c')] w fun e w' => e = .returned (.bool false) ∧ Below w.heap.size w w' := by
  have hb : Below w.heap.size w ((w.alloc (.cells (trv r k A n c) 26)).alloc (.cells (trv r' k' A' n' c') 26)) := ((Below.refl _ _).alloc (Nat.le_refl _) _).alloc (by simp) _
  by_cases hr : r = r'
  · subst hr
    have hk : ¬ k = k' := by rcases h with h | h; exact absurd rfl h; exact h
    have hd : decide ((k : Int) = (k' : Int)) = false := decide_eq_false (by omega)
    go_enter Try.func12, Try.ntmps12
    go_wp2
    go_ret
    exact ⟨rfl, hb⟩
  · have hd : decide ((r : Int) = (r' : Int)) = false := decide_eq_false (by omega)
    go_enter Try.func12, Try.ntmps12
    go_wp2
    go_ret
    exact ⟨rfl, hb⟩
theorem ref16Same_dec (r k r' k' : Nat) (A A' : Option Addr) (n c n' c' : Nat) (l l' : List UInt8) (w : World) (hn : n ≤ maxLen) (hn' : n' ≤ maxLen) (h : Shows w w.heap.size A n l) (h' : Shows w w.heap.size A' n' l') :
    Calls Try.prog 12 #[.agg (trv r k A n c), .agg (trv r' k' A' n' c')] w fun e w' => e = .returned (.bool (decide (r = r' ∧ k = k' ∧ l = l'))) ∧ Below w.heap.size w w' := by
  by_cases hrk : r = r' ∧ k = k'
  · obtain ⟨rfl, rfl⟩ := hrk
    have := ref16Same_eq r k A A' n c n' c' (decide (l = l')) w (fun W hW => same_dec A A' n c n' c' l l' W hn hn' ((h.below hW).up hW.size) ((h'.below hW).up hW.size))
    simpa using this
  · rw [decide_eq_false (fun e => hrk ⟨e.1, e.2.1⟩)]
    exact ref16Same_ne r k r' k' A A' n c n' c' w (by omega)

set_option maxHeartbeats 1000000 in
theorem alive16 (w : World) : Calls Try.prog 7 #[] w fun e w' => e = .returned (.bool true) ∧ Below w.heap.size w w' := by
  go_enter Try.func7, Try.ntmps7
  go_wp2_with (at_make; refine wpList_mk _ rfl _ _ rfl w.heap.size 31 _ _ rfl rfl rfl rfl (by omega) (Nat.le_refl _) ?_)
  intro w0 ho0 hg0
  have hb0 : Below w.heap.size w w0 := (Below.refl _ _).grown hg0 (Nat.le_refl _) (fun k hk => by cases hk)
  clear ho0 hg0
  go_wp2_with fail
  refine (dataParse_err _ 31 31 3 w0 rfl (fun W _ => (take_short _ 31 31 4 32 65567 W (by omega) (by omega)).mono fun e w' ⟨he, hw⟩ => ⟨he, hw ▸ Below.refl _ _⟩)).mono ?_
  rintro e w1 ⟨rfl, hb1⟩
  have hb01 := Below.on hb0 hb0.size hb1
  clear hb0 hb1
  go_wp2_with (first
    | (refine wpList_allocStore (cs := trv 0 0 none 0 0) rfl rfl 26 ?ho (.tmp 1) (.tmp 8) ?ho2 Try.zeroTr rfl ?hx ?hy ?hn ?h1 ?_
       case ho => with_reducible rfl
       case ho2 => rfl
       case hx => rfl
       case hy => rfl
       case hn => rfl
       case h1 => exact one_trv 0 0 none 0 0)
    | (at_make; refine wpList_mk _ rfl _ _ rfl (w1.heap.size + 1) 16 _ _ rfl rfl rfl rfl (by omega) (by simp) ?_))
  intro w3 ho3 hg3
  have hb03 : Below w.heap.size w w3 := (hb01.alloc hb01.size _).grown hg3 (by have := hb01.size; simp; omega) (fun k hk => by cases hk)
  have hs3 := ho3.shown
  clear ho3 hg3 hb01
  go_wp2_with fail
  refine (dataBytes_ok 0 0 ⟨w1.heap.size + 1, 0, none⟩ 16 16 _ w3 (by omega) (by omega) (by omega) (by omega) hs3).mono ?_
  rintro e w4 ⟨v, rfl, ho4, hb4⟩
  have hb04 := Below.on hb03 hb03.size hb4
  obtain ⟨a4, c4, rfl, hc4, hs4⟩ := ho4.at_some (by omega)
  obtain ⟨b, off, e, hb, hcell⟩ := hs4.2 (by omega)
  injection e with e
  subst e
  have c0 := hcell 0 (by rw [dataL_len]; simp)
  simp only [dataL, List.cons_append, List.getElem_cons_zero, Nat.add_zero] at c0
  clear hs3 hb03 hb4 ho4 hs4 hcell
  go_wp2
  go_ret
  exact ⟨rfl, hb04⟩

end Go.Proofs.Ytffdgknfllpnoab
