
/- Contracts: addr.Unspecified, addr.Multicast, crawlwayref10.Unspecified, crawlwayref10.Multicast. -/
import Derived.Test.YtkhlalodcgbciaaDoorRpA
import Derived.Test.YtkhlalodcgbciaaDoorSxA
namespace Go.Proofs.YtkhlalodcgbciaaDoor
open Go.RowKit
set_option maxRecDepth 100000
set_option linter.unusedSimpArgs false
set_option linter.unusedVariables false

/-- An address of nobody; of many. -/
def unsB (v : Int) (l : List UInt8) : Bool := (v == 4 && l == zb 4 ++ zb 12) || (v == 6 && l == zb 16)
def mulB (v : Int) (x : Nat) : Bool := if v = 6 then decide (x = 255) else decide (224 ≤ x ∧ x ≤ 239)

theorem eqlAny {P : Program} {w : World} {o : Oper} {a : Act} {ops : Array Oper} {rest : List Oper} {cs ds : Array Value} {b : Bool} {Q : Exit → Act → World → Prop} (hw : Region.wanted o (yielded ops a.tmps) = true) (ty rt : TypeId) (x y : Operand) (ho : o.op = .binOp .eql ty x y rt)
    (hx : a.eval x = .agg cs) (hy : a.eval y = .agg ds) (hm : P.eqGuardType P.depth ty = false) (he : ∀ w, (Op.equalIn 10000 ty (.agg cs) (.agg ds)).run P w = .ok b w)
    (h : wpList P ops Q rest (a.put o.dst (.bool b)) w) : wpList P ops Q (o :: rest) a w := by
  refine wpList_on hw ?_
  unfold Oper.wp execOp
  simp only [ho, hx, hy, Sem.run_bind, run_eqGuard_agg w .eql ty x y _ _ hm, Result.andThen_ok, run_eql_struct, he w, Sem.run_pure]
  exact h
theorem Tryd.infoA16 : (Tryd.prog.info? 32).map (·.size) = some 16 := by kernel_rfl
theorem Tryd.plainA16 : Tryd.prog.eqGuardType Tryd.prog.depth 32 = false := by kernel_rfl
theorem adr_e0 (l l' : List UInt8) (hl : l.length = 16) (hl' : l'.length = 16) (w : World) : (Op.equalIn 10000 32 (.agg (l.map bv).toArray) (.agg (l'.map bv).toArray)).run Tryd.prog w = .ok (l == l') w :=
  run_equalIn_bytes (P := Tryd.prog) w 9998 32 5 16 Tryd.underlying32 Tryd.underlying5 (fun w => by
    have hs := Tryd.sizeU8
    cases hq : Tryd.prog.info? 5 with
    | none => simp [hq] at hs
    | some i => simp [sizeOf, typeInfo, hq] at *; exact hs) l l' hl hl'

set_option maxHeartbeats 1000000 in
theorem uns_any (v : Int) (l : List UInt8) (hl : l.length = 16) (w : World) :
    Calls Tryd.prog 39 #[.agg (adv v l)] w fun e w' => e = .returned (.bool (unsB v l)) ∧ Below w.heap.size w w' := by
  have k0 : Blk (w.alloc (.cells (adv v l) 34)) w.heap.size 34 (adv v l) := blk_new _ _ _
  have hb0 : Below w.heap.size w (w.alloc (.cells (adv v l) 34)) := (Below.refl _ _).alloc (Nat.le_refl _) _
  have hz := Adr_size v l hl
  have HF := Lib.hid (fun W => four_any (zb 4) rfl W)
  have HS := Lib.hid (fun W => addrSix_any (zb 16) rfl W)
  have HE1 := Lib.hid (fun W => adr_eq v 4 l (zb 4 ++ zb 12) hl rfl W)
  have HE2 := Lib.hid (fun W => adr_eq v 6 l (zb 16) hl rfl W)
  have HU := Lib.hid (show unsB v l = ((v == 4 && l == zb 4 ++ zb 12) || (v == 6 && l == zb 16)) from rfl)
  generalize unsB v l = U at *
  generalize (v == 4 && l == zb 4 ++ zb 12) = B1 at *
  generalize (v == 6 && l == zb 16) = B2 at *
  generalize adv v l = X at *
  generalize adv 4 (zb 4 ++ zb 12) = X4 at *
  generalize adv 6 (zb 16) = X6 at *
  cases B1
  all_goals
    go_enter Tryd.func39, Tryd.ntmps39
    go_wp2_with fail
    have hup : ∀ W : World, Below (w.alloc (.cells X 34)).heap.size (w.alloc (.cells X 34)) W → Below w.heap.size w W := fun W hW => Below.on hb0 hb0.size hW
    generalize w.alloc (.cells X 34) = w2 at *
    generalize hg1 : w.heap.size = g1 at *
    refine wp_region_below w2.heap.size (by kernel_rfl) (by kernel_rfl) ?_
    repeat (first
      | go_big_quiet_skip
      | (go_big_quiet_want
         first
           | (refine qb_load (g := g1) (t := 34) (cs := X) 34 (.tmp 1) ?ho ?hx ?hA _ Tryd.underlying34 rfl hz ?_
              case ho => with_reducible rfl
              case hx => rfl
              case hA => exact fun w' hw' => k0.on hw'
              go_big_quiet_on
              simp only [Act.put, List.setIfInBounds_toArray, List.set_cons_succ, List.set_cons_zero])
           | (refine qe_eql (cs := X) (ds := X4) (b := false) 34 34 (.tmp 3) (.tmp 5) ?ho ?hx ?hy Tryd.plainAddr ?he ?_
              case ho => with_reducible rfl
              case hx => rfl
              case hy => rfl
              case he => exact HE1.out
              go_big_quiet_on
              simp only [Act.put, List.setIfInBounds_toArray, List.set_cons_succ, List.set_cons_zero])
           | (refine qe_eql (cs := X) (ds := X4) (b := true) 34 34 (.tmp 3) (.tmp 5) ?ho ?hx ?hy Tryd.plainAddr ?he ?_
              case ho => with_reducible rfl
              case hx => rfl
              case hy => rfl
              case he => exact HE1.out
              go_big_quiet_on
              simp only [Act.put, List.setIfInBounds_toArray, List.set_cons_succ, List.set_cons_zero])
           | (refine qe_eql (cs := X) (ds := X6) (b := B2) 34 34 (.tmp 8) (.tmp 10) ?ho ?hx ?hy Tryd.plainAddr ?he ?_
              case ho => with_reducible rfl
              case hx => rfl
              case hy => rfl
              case he => exact HE2.out
              go_big_quiet_on
              simp only [Act.put, List.setIfInBounds_toArray, List.set_cons_succ, List.set_cons_zero])
           | (go_big_quiet_op
              first
                | go_big_quiet_on
                | (with_reducible refine ⟨_, fun _ _ => rfl, ?_⟩; go_big_quiet_on)
                | (apply Exists.intro
                   refine ⟨fun w' hw' => ?_, ?_⟩
                   · (go_at_call 27; refine (HF.out _).mono ?_; exact fun _ _ h => ⟨h.1, Below.on hw' hw'.size h.2⟩)
                   go_big_quiet_on)
                | (apply Exists.intro
                   refine ⟨fun w' hw' => ?_, ?_⟩
                   · (go_at_call 28; refine (HS.out _).mono ?_; exact fun _ _ h => ⟨h.1, Below.on hw' hw'.size h.2⟩)
                   go_big_quiet_on))))
    refine wpQuiet_nil ?_
    intro w3 hw3
    go_wp2
    go_ret
    exact ⟨by rw [HU.out]; rfl, by rw [hg1]; exact hup _ hw3⟩

set_option maxHeartbeats 1000000 in
theorem refUns_any (v : Int) (l : List UInt8) (hl : l.length = 16) (hok : okA v l = true) (w : World) :
    Calls Tryd.prog 40 #[.agg (adv v l)] w fun e w' => e = .returned (.bool (l == zb 16)) ∧ Below w.heap.size w w' := by
  have k0 : Blk (w.alloc (.cells (adv v l) 34)) w.heap.size 34 (adv v l) := blk_new _ _ _
  have hb0 : Below w.heap.size w (w.alloc (.cells (adv v l) 34)) := (Below.refl _ _).alloc (Nat.le_refl _) _
  have hz := Adr_size v l hl
  have HR := Lib.hid (fun W => refRight_any v l hl W)
  rw [hok] at HR
  have hR1 := fun (W : World) (h : Blk W w.heap.size 34 (adv v l)) => show W.rangeAt w.heap.size 1 (l.map bv).toArray.toList by
    have := h.advRange 16 (by omega)
    rw [List.take_of_length_le (by omega)] at this
    exact this
  have HE := Lib.hid (fun W => adr_e0 l (zb 16) hl rfl W)
  have hsz : (Tryd.prog.info? 32).map (·.size) = some (l.map bv).toArray.size := by
    have : (l.map bv).toArray.size = 16 := by simp [hl]
    rw [this]; exact Tryd.infoA16
  generalize (l == zb 16) = B at *
  generalize (l.map bv).toArray = LB at *
  generalize adv v l = X at *
  go_enter Tryd.func40, Tryd.ntmps40
  go_wp2_with (first
    | (refine wpList_loadBlk (g := w.heap.size) (t := 34) (cs := X) rfl 34 (.tmp 1) ?ho ?hx ?hA _ Tryd.underlying34 rfl ?hi ?_
       case ho => with_reducible rfl
       case hx => rfl
       case hA => exact k0
       case hi => exact hz)
    | fail)
  refine (HR.out _).mono ?_
  rintro e w1 ⟨rfl, hb1⟩
  have k1 := k0.on hb1
  have b1 := Below.on hb0 hb0.size hb1
  clear k0 hb0 hb1 HR
  cases B
  all_goals
    go_wp2_with (first
      | (refine wpList_loadPart (g := w.heap.size) rfl 32 (.tmp 6) ?ho 1 ?hx LB _ (hR1 _ k1) Tryd.underlying32 rfl ?hi ?_
         case ho => with_reducible rfl
         case hx => rfl
         case hi => exact hsz)
      | (refine eqlAny (b := false) (cs := LB) (ds := ((zb 16).map bv).toArray) rfl 32 32 (.tmp 7) (.tmp 8) ?ho ?hx ?hy Tryd.plainA16 ?he ?_
         case ho => with_reducible rfl
         case hx => rfl
         case hy => rfl
         case he => exact HE.out)
      | (refine eqlAny (b := true) (cs := LB) (ds := ((zb 16).map bv).toArray) rfl 32 32 (.tmp 7) (.tmp 8) ?ho ?hx ?hy Tryd.plainA16 ?he ?_
         case ho => with_reducible rfl
         case hx => rfl
         case hy => rfl
         case he => exact HE.out))
    go_ret
    exact ⟨rfl, b1⟩

set_option maxHeartbeats 1000000 in
theorem mul_any (v : Int) (l : List UInt8) (hl : l.length = 16) (hok : okA v l = true) (hv : v = 4 ∨ v = 6) (w : World) :
    Calls Tryd.prog 41 #[.agg (adv v l)] w fun e w' => e = .returned (.bool (mulB v ((l[0]?).getD 0).toNat)) ∧ Below w.heap.size w w' := by
  have k0 : Blk (w.alloc (.cells (adv v l) 34)) w.heap.size 34 (adv v l) := blk_new _ _ _
  have hb0 : Below w.heap.size w (w.alloc (.cells (adv v l) 34)) := (Below.refl _ _).alloc (Nat.le_refl _) _
  have hz := Adr_size v l hl
  have HS := Lib.hid (fun W => size_any v l hl W)
  have m1 : (adv v l)[1]? = some (.int .u8 (((l[0]?).getD 0).toNat : Int)) := by
    have h0 : l[0]? = some l[0] := List.getElem?_eq_getElem (by omega)
    rw [h0]
    exact adv_b v l 0 _ h0
  have hx := ((l[0]?).getD 0).toNat_lt
  generalize ((l[0]?).getD 0).toNat = x at *
  rcases hv with rfl | rfl
  · have e0 : sizeA 4 l = 4 := by simp [sizeA, hok]
    rw [e0] at HS
    generalize adv 4 l = X at *
    have hM : mulB 4 x = decide (224 ≤ x ∧ x ≤ 239) := rfl
    have hd : decide ((x : Int) / 16 = 14) = mulB 4 x := by
      rw [hM]
      by_cases h : 224 ≤ x ∧ x ≤ 239
      · rw [decide_eq_true h, decide_eq_true (by omega)]
      · rw [decide_eq_false h, decide_eq_false (by omega)]
    have hd' : ((x : Int) / 16 == 14) = mulB 4 x := hd
    generalize mulB 4 x = MB at *
    go_enter Tryd.func41, Tryd.ntmps41
    go_wp2_with (first
      | (refine wpList_loadBlk (g := w.heap.size) (t := 34) (cs := X) rfl 34 (.tmp 1) ?ho ?hx ?hA _ Tryd.underlying34 rfl ?hi ?_
         case ho => with_reducible rfl
         case hx => rfl
         case hA => exact k0
         case hi => exact hz)
      | fail)
    refine (HS.out _).mono ?_
    rintro e w1 ⟨rfl, hb1⟩
    have k1 := k0.on hb1
    have b1 := Below.on hb0 hb0.size hb1
    have c1 := (k1.cellA 1).trans m1
    clear k0 hb0 hb1 HS hM
    go_wp2
    go_ret
    exact ⟨by first | rfl | rw [← hd] | rw [hd'] | rw [hd], b1⟩
  · have e0 : sizeA 6 l = 16 := by simp [sizeA, hok]
    rw [e0] at HS
    generalize adv 6 l = X at *
    have hd : decide ((x : Int) = 255) = mulB 6 x := by
      rw [show mulB 6 x = decide (x = 255) from rfl]
      by_cases h : x = 255
      · rw [decide_eq_true h, decide_eq_true (by omega)]
      · rw [decide_eq_false h, decide_eq_false (by omega)]
    have hd' : ((x : Int) == 255) = mulB 6 x := hd
    generalize mulB 6 x = MB at *
    go_enter Tryd.func41, Tryd.ntmps41
    go_wp2_with (first
      | (refine wpList_loadBlk (g := w.heap.size) (t := 34) (cs := X) rfl 34 (.tmp 1) ?ho ?hx ?hA _ Tryd.underlying34 rfl ?hi ?_
         case ho => with_reducible rfl
         case hx => rfl
         case hA => exact k0
         case hi => exact hz)
      | fail)
    refine (HS.out _).mono ?_
    rintro e w1 ⟨rfl, hb1⟩
    have k1 := k0.on hb1
    have b1 := Below.on hb0 hb0.size hb1
    have c1 := (k1.cellA 1).trans m1
    clear k0 hb0 hb1 HS
    go_wp2
    go_ret
    exact ⟨by first | rfl | rw [← hd] | rw [hd'] | rw [hd], b1⟩

set_option maxHeartbeats 1000000 in
theorem refMul_any (v : Int) (l : List UInt8) (hl : l.length = 16) (hok : okA v l = true) (hv : v = 4 ∨ v = 6) (w : World) :
    Calls Tryd.prog 42 #[.agg (adv v l)] w fun e w' => e = .returned (.bool (mulB v ((l[0]?).getD 0).toNat)) ∧ Below w.heap.size w w' := by
  have k0 : Blk (w.alloc (.cells (adv v l) 34)) w.heap.size 34 (adv v l) := blk_new _ _ _
  have hb0 : Below w.heap.size w (w.alloc (.cells (adv v l) 34)) := (Below.refl _ _).alloc (Nat.le_refl _) _
  have hz := Adr_size v l hl
  have HS := Lib.hid (fun W => refRight_any v l hl W)
  rw [hok] at HS
  have m1 : (adv v l)[1]? = some (.int .u8 (((l[0]?).getD 0).toNat : Int)) := by
    have h0 : l[0]? = some l[0] := List.getElem?_eq_getElem (by omega)
    rw [h0]
    exact adv_b v l 0 _ h0
  have m0 := adv_v v l
  have c0 := (k0.cellA 0).trans m0
  have cc1 := (k0.cellA 1).trans m1
  have hx := ((l[0]?).getD 0).toNat_lt
  generalize ((l[0]?).getD 0).toNat = x at *
  rcases hv with rfl | rfl
  · generalize adv 4 l = X at *
    have hM : mulB 4 x = decide (224 ≤ x ∧ x ≤ 239) := rfl
    by_cases h1 : 224 ≤ x
    · by_cases h2 : x ≤ 239
      · have hR : mulB 4 x = true := by rw [hM]; exact decide_eq_true ⟨h1, h2⟩
        have d1 : decide ((224 : Int) ≤ (x : Int)) = true := decide_eq_true (by omega)
        have d2 : decide ((x : Int) ≤ 239) = true := decide_eq_true (by omega)
        rw [hR]
        clear hM hR h1 h2
        go_enter Tryd.func42, Tryd.ntmps42
        go_wp2_with (first
          | (refine wpList_loadBlk (g := w.heap.size) (t := 34) (cs := X) rfl 34 (.tmp 1) ?ho ?hx ?hA _ Tryd.underlying34 rfl ?hi ?_
             case ho => with_reducible rfl
             case hx => rfl
             case hA => exact k0
             case hi => exact hz)
          | fail)
        refine (HS.out _).mono ?_
        rintro e w1 ⟨rfl, hb1⟩
        have b1 := Below.on hb0 hb0.size hb1
        have c1 := ((k0.on hb1).cellA 1).trans m1
        clear k0 hb0 hb1 HS
        go_wp2
        go_ret
        exact ⟨rfl, b1⟩
      · have hR : mulB 4 x = false := by rw [hM]; exact decide_eq_false (by omega)
        have d1 : decide ((224 : Int) ≤ (x : Int)) = true := decide_eq_true (by omega)
        have d2 : decide ((x : Int) ≤ 239) = false := decide_eq_false (by omega)
        rw [hR]
        clear hM hR h1 h2
        go_enter Tryd.func42, Tryd.ntmps42
        go_wp2_with (first
          | (refine wpList_loadBlk (g := w.heap.size) (t := 34) (cs := X) rfl 34 (.tmp 1) ?ho ?hx ?hA _ Tryd.underlying34 rfl ?hi ?_
             case ho => with_reducible rfl
             case hx => rfl
             case hA => exact k0
             case hi => exact hz)
          | fail)
        refine (HS.out _).mono ?_
        rintro e w1 ⟨rfl, hb1⟩
        have b1 := Below.on hb0 hb0.size hb1
        have c1 := ((k0.on hb1).cellA 1).trans m1
        clear k0 hb0 hb1 HS
        go_wp2
        go_ret
        exact ⟨rfl, b1⟩
    · have hR : mulB 4 x = false := by rw [hM]; exact decide_eq_false (by omega)
      have d1 : decide ((224 : Int) ≤ (x : Int)) = false := decide_eq_false (by omega)
      rw [hR]
      clear hM hR h1
      go_enter Tryd.func42, Tryd.ntmps42
      go_wp2_with (first
        | (refine wpList_loadBlk (g := w.heap.size) (t := 34) (cs := X) rfl 34 (.tmp 1) ?ho ?hx ?hA _ Tryd.underlying34 rfl ?hi ?_
           case ho => with_reducible rfl
           case hx => rfl
           case hA => exact k0
           case hi => exact hz)
        | fail)
      refine (HS.out _).mono ?_
      rintro e w1 ⟨rfl, hb1⟩
      have b1 := Below.on hb0 hb0.size hb1
      have c1 := ((k0.on hb1).cellA 1).trans m1
      clear k0 hb0 hb1 HS
      go_wp2
      go_ret
      exact ⟨rfl, b1⟩
  · generalize adv 6 l = X at *
    have hd : decide ((x : Int) = 255) = mulB 6 x := by
      rw [show mulB 6 x = decide (x = 255) from rfl]
      by_cases h : x = 255
      · rw [decide_eq_true h, decide_eq_true (by omega)]
      · rw [decide_eq_false h, decide_eq_false (by omega)]
    have hd' : ((x : Int) == 255) = mulB 6 x := hd
    generalize mulB 6 x = MB at *
    clear k0
    go_enter Tryd.func42, Tryd.ntmps42
    go_wp2
    go_ret
    exact ⟨by first | rfl | rw [← hd] | rw [hd'] | rw [hd], hb0⟩

end Go.Proofs.YtkhlalodcgbciaaDoor
