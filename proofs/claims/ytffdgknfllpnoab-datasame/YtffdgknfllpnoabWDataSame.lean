
/- The walk of law16.DataSame. -/
import Derived.Test.YtffdgknfllpnoabDatF
namespace Go.Proofs.Ytffdgknfllpnoab
open Go.RowKit

theorem quiet_loadBlk {P : Program} {g : Nat} {t : TypeId} {cs : Array Value} {o : Oper} {a : Act} {C : World → Prop} {K : Act → Prop} (ty : TypeId) (x : Operand) (ho : o.op = .load ty x) (hx : a.eval x = .pointer (some ⟨g, 0, none⟩)) (hA : ∀ w, C w → Blk w g t cs)
    (d : TypeDesc) (hu : P.underlying ty = some d) (hd : (match d with | .struct _ | .array _ _ => true | _ => false) = true)
    (hi : (P.info? ty).map (·.size) = some cs.size) (hk : K (a.put o.dst (.agg cs))) : o.quiet P a C K :=
  ⟨_, fun w hw => by
    unfold Oper.quietAt execOp
    simp only [ho, hx, Instr.loadAt, Instr.sureAddr, Sem.run_bind, Sem.run_pure, Result.andThen_ok, run_loadVar_row w g t ty cs (0, 0) d (hA w hw) hu hd hi]
    exact ⟨rfl, rfl⟩, hk⟩

theorem dataSame_main (r k r' k' : Nat) (A A' : Option Addr) (n c n' c' : Nat) (l l' : List UInt8) (w : World) (hn : n ≤ 1000) (hn' : n' ≤ 1000) (h : Shows w w.heap.size A n l) (h' : Shows w w.heap.size A' n' l') :
    Calls Try.prog 6 #[.agg (trv r k A n c), .agg (trv r' k' A' n' c')] w fun e w' => e = .returned (.bool true) ∧ Below w.heap.size w w' := by
  have mx : n ≤ maxLen := by unfold maxLen; omega
  have mx' : n' ≤ maxLen := by unfold maxLen; omega
  have hb0 : Below w.heap.size w ((w.alloc (.cells (trv r k A n c) 26)).alloc (.cells (trv r' k' A' n' c') 26)) := ((Below.refl _ _).alloc (Nat.le_refl _) _).alloc (by simp) _
  have k1 := (blk_new w 26 (trv r k A n c)).alloc (.cells (trv r' k' A' n' c') 26)
  have k2 := blk_new' (w.alloc (.cells (trv r k A n c) 26)) 26 (trv r' k' A' n' c') (w.heap.size + 1) (by simp)
  have HS1 := Lib.hid (fun (W : World) (hW : Below w.heap.size w W) => dataSame_dec r k r' k' A A' n c n' c' l l' W mx mx' ((h.below hW).up hW.size) ((h'.below hW).up hW.size))
  have HS2 := Lib.hid (fun (W : World) (hW : Below w.heap.size w W) => ref16Same_dec r k r' k' A A' n c n' c' l l' W mx mx' ((h.below hW).up hW.size) ((h'.below hW).up hW.size))
  have HS3 := Lib.hid (fun (W : World) (hW : Below w.heap.size w W) => dataSame_dec r k r k A A n c n c l l W mx mx ((h.below hW).up hW.size) ((h.below hW).up hW.size))
  rw [decide_eq_true (by simp)] at HS3
  generalize decide (r = r' ∧ k = k' ∧ l = l') = R at *
  have hi1 : (n : Int) ≤ 1000 := by omega
  have hi2 : (n' : Int) ≤ 1000 := by omega
  clear h h'
  go_enter Try.func6, Try.ntmps6
  go_wp2_with fail
  generalize hW2 : (w.alloc (.cells (trv r k A n c) 26)).alloc (.cells (trv r' k' A' n' c') 26) = w2 at *
  have hup : ∀ W : World, Below w2.heap.size w2 W → Below w.heap.size w W := fun W hW => Below.on hb0 hb0.size hW
  have hsz0 := hb0.size
  clear hW2
  generalize w.heap.size + 1 = g2 at *
  generalize hg1 : w.heap.size = g1 at *
  refine wp_region_below w2.heap.size (by kernel_rfl) (by kernel_rfl) ?_
  cases R
  all_goals
    repeat (first
      | go_big_quiet_skip
      | (go_big_quiet_want
         first
           | (refine quiet_loadBlk (g := g1) (t := 26) (cs := trv r k A n c) 26 (.tmp 2) ?ho ?hx ?hA _ Try.underlying26 rfl Try.infoTr ?_
              case ho => with_reducible rfl
              case hx => rfl
              case hA => exact fun w' hw' => k1.on hw'
              go_big_quiet_on
              simp only [Act.put, List.setIfInBounds_toArray, List.set_cons_succ, List.set_cons_zero])
           | (refine quiet_loadBlk (g := g2) (t := 26) (cs := trv r' k' A' n' c') 26 (.tmp 3) ?ho ?hx ?hA _ Try.underlying26 rfl Try.infoTr ?_
              case ho => with_reducible rfl
              case hx => rfl
              case hA => exact fun w' hw' => k2.on hw'
              go_big_quiet_on
              simp only [Act.put, List.setIfInBounds_toArray, List.set_cons_succ, List.set_cons_zero])
           | (go_big_quiet_op
              first
                | go_big_quiet_on
                | (with_reducible refine ⟨_, fun _ _ => rfl, ?_⟩; go_big_quiet_on)
                | (apply Exists.intro
                   refine ⟨fun w' hw' => ?_, ?_⟩
                   · first
                       | (go_at_call 13; with_reducible refine (HS1.out _ ?hu).mono ?_; (case hu => exact hup _ hw'); exact fun _ _ h => ⟨h.1, Below.on hw' hw'.size h.2⟩)
                       | (go_at_call 13; with_reducible refine (HS3.out _ ?hu).mono ?_; (case hu => exact hup _ hw'); exact fun _ _ h => ⟨h.1, Below.on hw' hw'.size h.2⟩)
                       | (go_at_call 12; refine (HS2.out _ ?hu).mono ?_; (case hu => exact hup _ hw'); exact fun _ _ h => ⟨h.1, Below.on hw' hw'.size h.2⟩)
                       | (go_at_call 7; refine (alive16 _).mono ?_; exact fun _ _ h => ⟨h.1, Below.on hw' hw'.size h.2⟩)
                   go_big_quiet_on))))
  all_goals
    refine wpQuiet_nil ?_
    intro w3 hw3
    go_wp2
    go_ret
    exact ⟨rfl, by rw [hg1]; exact hup _ hw3⟩

theorem walk_DataSame (r k : Nat) (A : Option Addr) (n c : Nat) (l : List UInt8) (r' k' : Nat) (A' : Option Addr) (n' c' : Nat) (l' : List UInt8) (w : World) (_ : r < 4294967296) (_ : k < 18446744073709551616) (hc : n ≤ c ∧ c ≤ maxLen) (h : Shows w w.heap.size A n l)
    (_ : r' < 4294967296) (_ : k' < 18446744073709551616) (hc' : n' ≤ c' ∧ c' ≤ maxLen) (h' : Shows w w.heap.size A' n' l') :
    Calls Try.prog 6 #[.agg (trv r k A n c), .agg (trv r' k' A' n' c')] w fun e w' => e = .returned (.bool true) ∧ Below w.heap.size w w' := by
  have hm : n ≤ 9223372036854775807 := by have := Nat.le_trans hc.1 hc.2; unfold maxLen at this; omega
  have hm' : n' ≤ 9223372036854775807 := by have := Nat.le_trans hc'.1 hc'.2; unfold maxLen at this; omega
  have hb0 : Below w.heap.size w ((w.alloc (.cells (trv r k A n c) 26)).alloc (.cells (trv r' k' A' n' c') 26)) := ((Below.refl _ _).alloc (Nat.le_refl _) _).alloc (by simp) _
  by_cases h1 : 1000 < n
  · have hd : decide (1000 < (n : Int)) = true := decide_eq_true (by omega)
    clear h h'
    go_enter Try.func6, Try.ntmps6
    go_wp2_with fail
    refine (alive16 _).mono ?_
    rintro e w1 ⟨rfl, hb1⟩
    have hb2 := Below.on hb0 hb0.size hb1
    clear hb0 hb1
    go_wp2
    go_ret
    exact ⟨rfl, hb2⟩
  · by_cases h2 : 1000 < n'
    · have hd : decide (1000 < (n : Int)) = false := decide_eq_false (by omega)
      have hd' : decide (1000 < (n' : Int)) = true := decide_eq_true (by omega)
      clear h h'
      go_enter Try.func6, Try.ntmps6
      go_wp2_with fail
      refine (alive16 _).mono ?_
      rintro e w1 ⟨rfl, hb1⟩
      have hb2 := Below.on hb0 hb0.size hb1
      clear hb0 hb1
      go_wp2
      go_ret
      exact ⟨rfl, hb2⟩
    · exact dataSame_main r k r' k' A A' n c n' c' l l' w (by omega) (by omega) h h'

end Go.Proofs.Ytffdgknfllpnoab
