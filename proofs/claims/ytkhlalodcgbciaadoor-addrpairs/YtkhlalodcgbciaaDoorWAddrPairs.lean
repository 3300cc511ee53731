
/- The walk of law10.AddrPairs. -/
import Derived.Test.YtkhlalodcgbciaaDoorMkL
import Derived.Test.YtkhlalodcgbciaaDoorOpnA
namespace Go.Proofs.YtkhlalodcgbciaaDoor
open Go.RowKit Dec Qd
set_option maxRecDepth 100000
set_option linter.unusedSimpArgs false
set_option linter.unusedVariables false

set_option maxHeartbeats 1000000 in
theorem pairs_no (v v' : Int) (l l' : List UInt8) (w : World) (hl : l.length = 16) (hl' : l'.length = 16) (h : okA v l = false ∨ okA v' l' = false) (htab : Tab w) :
    Calls Tryd.prog 8 #[.agg (adv v l), .agg (adv v' l')] w fun e w' => e = .returned (.bool true) ∧ Below w.heap.size w w' := by
  have Htab := Lib.hid htab
  have hz := Adr_size v l hl
  have hz' := Adr_size v' l' hl'
  have hno : okA v l = false ∨ okA v' l' = false ∨ v ≠ v' := by
    rcases h with h | h
    · exact .inl h
    · exact .inr (.inl h)
  have H1 := Lib.hid (fun W => common_no v v' l l' hl hl' hno W)
  have H2 := Lib.hid (fun W => refCommon_no v v' l l' hl hl' hno W)
  have H3 := Lib.hid (fun W => refRight_any v l hl W)
  have H4 := Lib.hid (fun W => refRight_any v' l' hl' W)
  have hcase : okA v l = false ∨ (okA v l = true ∧ okA v' l' = false) := by
    cases h1 : okA v l
    · exact .inl rfl
    · rcases h with h | h
      · rw [h1] at h; cases h
      · exact .inr ⟨rfl, h⟩
  clear htab hno h hl hl'
  generalize okA v l = P at *
  generalize okA v' l' = Q at *
  generalize adv v l = X at *
  generalize adv v' l' = Y at *
  have b0 : Below w.heap.size w ((w.alloc (.cells X 34)).alloc (.cells Y 34)) := ((Below.refl _ _).alloc (Nat.le_refl _) _).alloc (by simp) _
  have k0 : Blk ((w.alloc (.cells X 34)).alloc (.cells Y 34)) w.heap.size 34 X := (blk_new _ _ _).alloc _
  have j0 : Blk ((w.alloc (.cells X 34)).alloc (.cells Y 34)) (w.heap.size + 1) 34 Y := blk_new' _ _ _ _ (by simp)
  go_enter Tryd.func8, Tryd.ntmps8
  go_wp2_with (first
    | (refine wpList_loadBlk (g := w.heap.size) (t := 34) (cs := X) rfl 34 (.tmp 2) ?ho ?hx ?hA _ Tryd.underlying34 rfl ?hi ?_
       case ho => with_reducible rfl
       case hx => rfl
       case hA => exact k0
       case hi => exact hz)
    | (refine wpList_loadBlk (g := w.heap.size + 1) (t := 34) (cs := Y) rfl 34 (.tmp 3) ?ho ?hx ?hA _ Tryd.underlying34 rfl ?hi ?_
       case ho => with_reducible rfl
       case hx => rfl
       case hA => exact j0
       case hi => exact hz')
    | fail)
  refine (H1.out _).mono ?_; rintro e w1 ⟨rfl, hb1⟩
  have b1 := Below.on b0 b0.size (by exact hb1)
  have k1 := k0.on (by exact hb1)
  have j1 := j0.on (by exact hb1)
  clear hb1
  clear k0 j0 b0
  go_wp2_with (first
    | (refine wpList_loadBlk (g := w.heap.size) (t := 34) (cs := X) rfl 34 (.tmp 2) ?ho ?hx ?hA _ Tryd.underlying34 rfl ?hi ?_
       case ho => with_reducible rfl
       case hx => rfl
       case hA => exact k1
       case hi => exact hz)
    | (refine wpList_loadBlk (g := w.heap.size + 1) (t := 34) (cs := Y) rfl 34 (.tmp 3) ?ho ?hx ?hA _ Tryd.underlying34 rfl ?hi ?_
       case ho => with_reducible rfl
       case hx => rfl
       case hA => exact j1
       case hi => exact hz')
    | fail)
  refine (H2.out _).mono ?_; rintro e w2 ⟨rfl, hb2⟩
  have b2 := Below.on b1 b1.size (by exact hb2)
  have k2 := k1.on (by exact hb2)
  have j2 := j1.on (by exact hb2)
  clear hb2
  go_wp2_with (first
    | (refine wpList_loadBlk (g := w.heap.size) (t := 34) (cs := X) rfl 34 (.tmp 2) ?ho ?hx ?hA _ Tryd.underlying34 rfl ?hi ?_
       case ho => with_reducible rfl
       case hx => rfl
       case hA => exact k2
       case hi => exact hz)
    | (refine wpList_loadBlk (g := w.heap.size + 1) (t := 34) (cs := Y) rfl 34 (.tmp 3) ?ho ?hx ?hA _ Tryd.underlying34 rfl ?hi ?_
       case ho => with_reducible rfl
       case hx => rfl
       case hA => exact j2
       case hi => exact hz')
    | fail)
  rcases hcase with rfl | ⟨rfl, rfl⟩
  · refine (H3.out _).mono ?_; rintro e w3 ⟨rfl, hb3⟩
    have b3 := Below.on b2 b2.size (by exact hb3)
    have k3 := k2.on (by exact hb3)
    have j3 := j2.on (by exact hb3)
    clear hb3
    go_wp2_with fail
    refine (alive10 _ (Htab.out.on b3)).mono ?_; rintro e w4 ⟨rfl, hb4⟩
    have b4 := Below.on b3 b3.size hb4
    go_wp2
    go_ret
    exact ⟨rfl, b4⟩
  · refine (H3.out _).mono ?_; rintro e w3 ⟨rfl, hb3⟩
    have b3 := Below.on b2 b2.size (by exact hb3)
    have k3 := k2.on (by exact hb3)
    have j3 := j2.on (by exact hb3)
    clear hb3
    go_wp2_with (first
      | (refine wpList_loadBlk (g := w.heap.size) (t := 34) (cs := X) rfl 34 (.tmp 2) ?ho ?hx ?hA _ Tryd.underlying34 rfl ?hi ?_
         case ho => with_reducible rfl
         case hx => rfl
         case hA => exact k3
         case hi => exact hz)
      | (refine wpList_loadBlk (g := w.heap.size + 1) (t := 34) (cs := Y) rfl 34 (.tmp 3) ?ho ?hx ?hA _ Tryd.underlying34 rfl ?hi ?_
         case ho => with_reducible rfl
         case hx => rfl
         case hA => exact j3
         case hi => exact hz')
      | fail)
    refine (H4.out _).mono ?_; rintro e w4 ⟨rfl, hb4⟩
    have b4 := Below.on b3 b3.size (by exact hb4)
    have k4 := k3.on (by exact hb4)
    have j4 := j3.on (by exact hb4)
    clear hb4
    go_wp2_with fail
    refine (alive10 _ (Htab.out.on b4)).mono ?_; rintro e w5 ⟨rfl, hb5⟩
    have b5 := Below.on b4 b4.size hb5
    go_wp2
    go_ret
    exact ⟨rfl, b5⟩

set_option maxHeartbeats 2000000 in
theorem pairs_apart (v v' : Int) (l l' : List UInt8) (w : World) (hl : l.length = 16) (hl' : l'.length = 16) (h1 : okA v l = true) (h2 : okA v' l' = true) (hv : v ≠ v') (htab : Tab w) :
    Calls Tryd.prog 8 #[.agg (adv v l), .agg (adv v' l')] w fun e w' => e = .returned (.bool true) ∧ Below w.heap.size w w' := by
  have Htab := Lib.hid htab
  have hz := Adr_size v l hl
  have hz' := Adr_size v' l' hl'
  have H1 := Lib.hid (fun W => common_no v v' l l' hl hl' (.inr (.inr hv)) W)
  have H2 := Lib.hid (fun W => refCommon_no v v' l l' hl hl' (.inr (.inr hv)) W)
  have h3 := fun W => refRight_any v l hl W
  have h4 := fun W => refRight_any v' l' hl' W
  rw [h1] at h3
  rw [h2] at h4
  have H3 := Lib.hid h3
  have H4 := Lib.hid h4
  have H5 := Lib.hid (fun W => less_apart v v' l l' hv W)
  have H6 := Lib.hid (fun W => refLess_apart v v' l l' hv W)
  clear htab h1 h2 hl hl' h3 h4
  generalize decide (v < v') = D at *
  generalize adv v l = X at *
  generalize adv v' l' = Y at *
  have b0 : Below w.heap.size w ((w.alloc (.cells X 34)).alloc (.cells Y 34)) := ((Below.refl _ _).alloc (Nat.le_refl _) _).alloc (by simp) _
  have k0 : Blk ((w.alloc (.cells X 34)).alloc (.cells Y 34)) w.heap.size 34 X := (blk_new _ _ _).alloc _
  have j0 : Blk ((w.alloc (.cells X 34)).alloc (.cells Y 34)) (w.heap.size + 1) 34 Y := blk_new' _ _ _ _ (by simp)
  go_enter Tryd.func8, Tryd.ntmps8
  go_wp2_with (first
    | (refine wpList_loadBlk (g := w.heap.size) (t := 34) (cs := X) rfl 34 (.tmp 2) ?ho ?hx ?hA _ Tryd.underlying34 rfl ?hi ?_
       case ho => with_reducible rfl
       case hx => rfl
       case hA => exact k0
       case hi => exact hz)
    | (refine wpList_loadBlk (g := w.heap.size + 1) (t := 34) (cs := Y) rfl 34 (.tmp 3) ?ho ?hx ?hA _ Tryd.underlying34 rfl ?hi ?_
       case ho => with_reducible rfl
       case hx => rfl
       case hA => exact j0
       case hi => exact hz')
    | fail)
  refine (H1.out _).mono ?_; rintro e w1 ⟨rfl, hb1⟩
  have b1 := Below.on b0 b0.size (by exact hb1)
  have k1 := k0.on (by exact hb1)
  have j1 := j0.on (by exact hb1)
  clear hb1
  clear k0 j0 b0
  go_wp2_with (first
    | (refine wpList_loadBlk (g := w.heap.size) (t := 34) (cs := X) rfl 34 (.tmp 2) ?ho ?hx ?hA _ Tryd.underlying34 rfl ?hi ?_
       case ho => with_reducible rfl
       case hx => rfl
       case hA => exact k1
       case hi => exact hz)
    | (refine wpList_loadBlk (g := w.heap.size + 1) (t := 34) (cs := Y) rfl 34 (.tmp 3) ?ho ?hx ?hA _ Tryd.underlying34 rfl ?hi ?_
       case ho => with_reducible rfl
       case hx => rfl
       case hA => exact j1
       case hi => exact hz')
    | fail)
  refine (H2.out _).mono ?_; rintro e w2 ⟨rfl, hb2⟩
  have b2 := Below.on b1 b1.size (by exact hb2)
  have k2 := k1.on (by exact hb2)
  have j2 := j1.on (by exact hb2)
  clear hb2
  go_wp2_with (first
    | (refine wpList_loadBlk (g := w.heap.size) (t := 34) (cs := X) rfl 34 (.tmp 2) ?ho ?hx ?hA _ Tryd.underlying34 rfl ?hi ?_
       case ho => with_reducible rfl
       case hx => rfl
       case hA => exact k2
       case hi => exact hz)
    | (refine wpList_loadBlk (g := w.heap.size + 1) (t := 34) (cs := Y) rfl 34 (.tmp 3) ?ho ?hx ?hA _ Tryd.underlying34 rfl ?hi ?_
       case ho => with_reducible rfl
       case hx => rfl
       case hA => exact j2
       case hi => exact hz')
    | fail)
  refine (H3.out _).mono ?_; rintro e w3 ⟨rfl, hb3⟩
  have b3 := Below.on b2 b2.size (by exact hb3)
  have k3 := k2.on (by exact hb3)
  have j3 := j2.on (by exact hb3)
  clear hb3
  go_wp2_with (first
    | (refine wpList_loadBlk (g := w.heap.size) (t := 34) (cs := X) rfl 34 (.tmp 2) ?ho ?hx ?hA _ Tryd.underlying34 rfl ?hi ?_
       case ho => with_reducible rfl
       case hx => rfl
       case hA => exact k3
       case hi => exact hz)
    | (refine wpList_loadBlk (g := w.heap.size + 1) (t := 34) (cs := Y) rfl 34 (.tmp 3) ?ho ?hx ?hA _ Tryd.underlying34 rfl ?hi ?_
       case ho => with_reducible rfl
       case hx => rfl
       case hA => exact j3
       case hi => exact hz')
    | fail)
  refine (H4.out _).mono ?_; rintro e w4 ⟨rfl, hb4⟩
  have b4 := Below.on b3 b3.size (by exact hb4)
  have k4 := k3.on (by exact hb4)
  have j4 := j3.on (by exact hb4)
  clear hb4
  go_wp2_with fail
  have kN := k4
  have jN := j4
  have hTw5 : ∀ W : World, Below w4.heap.size w4 W → Tab W := fun W hW => Htab.out.on (Below.on b4 b4.size hW)
  try simp only [Act.put, List.setIfInBounds_toArray, List.set_cons_succ, List.set_cons_zero]
  refine wp_region_below w4.heap.size (by kernel_rfl) (by kernel_rfl) ?_
  repeat (first
      | go_big_quiet_skip
      | (go_big_quiet_want
         first
           | (refine qb_load (g := w.heap.size) (t := 34) (cs := X) 34 (.tmp 2) ?ho ?hx ?hA _ Tryd.underlying34 rfl hz ?_
              case ho => with_reducible rfl
              case hx => rfl
              case hA => exact fun w' hw' => kN.on hw'
              go_big_quiet_on
              simp only [Act.put, List.setIfInBounds_toArray, List.set_cons_succ, List.set_cons_zero])
           | (refine qb_load (g := w.heap.size + 1) (t := 34) (cs := Y) 34 (.tmp 3) ?ho ?hx ?hA _ Tryd.underlying34 rfl hz' ?_
              case ho => with_reducible rfl
              case hx => rfl
              case hA => exact fun w' hw' => jN.on hw'
              go_big_quiet_on
              simp only [Act.put, List.setIfInBounds_toArray, List.set_cons_succ, List.set_cons_zero])
           | (go_big_quiet_op
              first
                | go_big_quiet_on
                | (with_reducible refine ⟨_, fun _ _ => rfl, ?_⟩; go_big_quiet_on)
                | (apply Exists.intro
                   refine ⟨fun w' hw' => ?_, ?_⟩
                   · (go_at_call 37; with_reducible refine (H5.out _).mono ?_; exact fun _ _ h => ⟨h.1, Below.on hw' hw'.size h.2⟩)
                   go_big_quiet_on)
                | (apply Exists.intro
                   refine ⟨fun w' hw' => ?_, ?_⟩
                   · (go_at_call 38; with_reducible refine (H6.out _).mono ?_; exact fun _ _ h => ⟨h.1, Below.on hw' hw'.size h.2⟩)
                   go_big_quiet_on)
                | fail))
      | fail)
  refine wpQuiet_nil ?_
  intro w5 hw5
  have b5 := Below.on b4 b4.size hw5
  have k5 := kN.on hw5
  have j5 := jN.on hw5
  clear kN jN hTw5
  go_wp2_with fail
  have kN := k5
  have jN := j5
  have hTw6 : ∀ W : World, Below w5.heap.size w5 W → Tab W := fun W hW => Htab.out.on (Below.on b5 b5.size hW)
  try simp only [Act.put, List.setIfInBounds_toArray, List.set_cons_succ, List.set_cons_zero]
  refine wp_region_below w5.heap.size (by kernel_rfl) (by kernel_rfl) ?_
  repeat (first
      | go_big_quiet_skip
      | (go_big_quiet_want
         first
           | (refine qb_load (g := w.heap.size) (t := 34) (cs := X) 34 (.tmp 2) ?ho ?hx ?hA _ Tryd.underlying34 rfl hz ?_
              case ho => with_reducible rfl
              case hx => rfl
              case hA => exact fun w' hw' => kN.on hw'
              go_big_quiet_on
              simp only [Act.put, List.setIfInBounds_toArray, List.set_cons_succ, List.set_cons_zero])
           | (refine qb_load (g := w.heap.size + 1) (t := 34) (cs := Y) 34 (.tmp 3) ?ho ?hx ?hA _ Tryd.underlying34 rfl hz' ?_
              case ho => with_reducible rfl
              case hx => rfl
              case hA => exact fun w' hw' => jN.on hw'
              go_big_quiet_on
              simp only [Act.put, List.setIfInBounds_toArray, List.set_cons_succ, List.set_cons_zero])
           | (go_big_quiet_op
              first
                | go_big_quiet_on
                | (with_reducible refine ⟨_, fun _ _ => rfl, ?_⟩; go_big_quiet_on)
                | (apply Exists.intro
                   refine ⟨fun w' hw' => ?_, ?_⟩
                   · (go_at_call 24; with_reducible refine (alive10 _ (hTw6 _ hw')).mono ?_; exact fun _ _ h => ⟨h.1, Below.on hw' hw'.size h.2⟩)
                   go_big_quiet_on)
                | fail))
      | fail)
  refine wpQuiet_nil ?_
  intro w6 hw6
  have b6 := Below.on b5 b5.size hw6
  have k6 := kN.on hw6
  have j6 := jN.on hw6
  clear kN jN hTw6
  go_wp2
  go_ret
  exact ⟨rfl, b6⟩

set_option maxHeartbeats 2000000 in
theorem pairs_same (v : Int) (l l' : List UInt8) (w : World) (hv : in64 v) (hl : l.length = 16) (hl' : l'.length = 16) (h1 : okA v l = true) (h2 : okA v l' = true) (htab : Tab w) :
    Calls Tryd.prog 8 #[.agg (adv v l), .agg (adv v l')] w fun e w' => e = .returned (.bool true) ∧ Below w.heap.size w w' := by
  have Htab := Lib.hid htab
  have hz := Adr_size v l hl
  have hz' := Adr_size v l' hl'
  have hm := sizeA_le v l
  obtain ⟨r, hr⟩ := comm_some (sizeA v l) l l'
  obtain ⟨f1, f2, f3⟩ := comm_facts _ l l' hl hl' hm r hr
  have hss : sizeA v l' = sizeA v l := by unfold sizeA; rw [h1, h2]
  have H1 := Lib.hid (fun W => common_yes v l l' hl hl' h1 h2 r hr W)
  have H2 := Lib.hid (fun W => refCommon_yes v l l' hl hl' h1 h2 r hr W)
  have h3 := fun W => refRight_any v l hl W
  have h4 := fun W => refRight_any v l' hl' W
  rw [h1] at h3
  rw [h2] at h4
  have H3 := Lib.hid h3
  have H4 := Lib.hid h4
  have H5 := Lib.hid (fun W => less_same v l l' hl hl' W)
  have H6 := Lib.hid (fun W => refLess_same v l l' hl hl' W)
  have h7 := fun W => mask_ok v (r : Int) l hl h1 (by omega) (by omega) W
  have h8 := fun W => mask_ok v (r : Int) l' hl' h2 (by omega) (by omega) W
  rw [Int.toNat_natCast] at h7 h8
  rw [← mL_eq l l' (by omega) r f2] at h8
  have H7 := Lib.hid h7
  have H8 := Lib.hid h8
  have H9 := Lib.hid (fun W => refWidthA_any v l hl W)
  have he := adr_eq v v (mL r l) (mL r l) (by rw [mL_len, hl]) (by rw [mL_len, hl])
  rw [show (v == v && mL r l == mL r l) = true by simp] at he
  have HE := Lib.hid he
  have HB1 := Lib.hid (fun (h : r < 8 * sizeA v l) W => bit_yes v l hl r h W)
  have HB2 := Lib.hid (fun (h : r < 8 * sizeA v l) W => bit_yes v l' hl' r (by rw [hss]; exact h) W)
  have hx1 := bitL_lt l r
  have hx2 := bitL_lt l' r
  clear htab h1 h2 h3 h4 h7 h8 he f2 hr hss hv hl hl'
  generalize lexB l l' = D at *
  generalize bitL l r = P at *
  generalize bitL l' r = Q at *
  generalize sizeA v l = m at *
  generalize adv v (mL r l) = M at *
  generalize adv v l = X at *
  generalize adv v l' = Y at *
  have hr0 : decide ((r : Int) < 0) = false := by rw [decide_eq_false_iff_not]; omega
  have hr1 : (r : Int) ≤ 128 := by omega
  by_cases hend : r = 8 * m
  · have hI : (r : Int) = 8 * (m : Int) := by omega
    have hI2 : (((r : Nat) : Int) == 8 * (m : Int)) = true := by rw [hI]; simp
    clear HB1 HB2 f3 hend hI
    have b0 : Below w.heap.size w ((w.alloc (.cells X 34)).alloc (.cells Y 34)) := ((Below.refl _ _).alloc (Nat.le_refl _) _).alloc (by simp) _
    have k0 : Blk ((w.alloc (.cells X 34)).alloc (.cells Y 34)) w.heap.size 34 X := (blk_new _ _ _).alloc _
    have j0 : Blk ((w.alloc (.cells X 34)).alloc (.cells Y 34)) (w.heap.size + 1) 34 Y := blk_new' _ _ _ _ (by simp)
    go_enter Tryd.func8, Tryd.ntmps8
    go_wp2_with (first
      | (refine wpList_loadBlk (g := w.heap.size) (t := 34) (cs := X) rfl 34 (.tmp 2) ?ho ?hx ?hA _ Tryd.underlying34 rfl ?hi ?_
         case ho => with_reducible rfl
         case hx => rfl
         case hA => exact k0
         case hi => exact hz)
      | (refine wpList_loadBlk (g := w.heap.size + 1) (t := 34) (cs := Y) rfl 34 (.tmp 3) ?ho ?hx ?hA _ Tryd.underlying34 rfl ?hi ?_
         case ho => with_reducible rfl
         case hx => rfl
         case hA => exact j0
         case hi => exact hz')
      | fail)
    refine (H1.out _).mono ?_; rintro e w1 ⟨rfl, hb1⟩
    have b1 := Below.on b0 b0.size (by exact hb1)
    have k1 := k0.on (by exact hb1)
    have j1 := j0.on (by exact hb1)
    clear hb1
    clear k0 j0 b0
    go_wp2_with (first
      | (refine wpList_loadBlk (g := w.heap.size) (t := 34) (cs := X) rfl 34 (.tmp 2) ?ho ?hx ?hA _ Tryd.underlying34 rfl ?hi ?_
         case ho => with_reducible rfl
         case hx => rfl
         case hA => exact k1
         case hi => exact hz)
      | (refine wpList_loadBlk (g := w.heap.size + 1) (t := 34) (cs := Y) rfl 34 (.tmp 3) ?ho ?hx ?hA _ Tryd.underlying34 rfl ?hi ?_
         case ho => with_reducible rfl
         case hx => rfl
         case hA => exact j1
         case hi => exact hz')
      | fail)
    refine (H2.out _).mono ?_; rintro e w2 ⟨rfl, hb2⟩
    have b2 := Below.on b1 b1.size (by exact hb2)
    have k2 := k1.on (by exact hb2)
    have j2 := j1.on (by exact hb2)
    clear hb2
    go_wp2_with (first
      | (refine wpList_loadBlk (g := w.heap.size) (t := 34) (cs := X) rfl 34 (.tmp 2) ?ho ?hx ?hA _ Tryd.underlying34 rfl ?hi ?_
         case ho => with_reducible rfl
         case hx => rfl
         case hA => exact k2
         case hi => exact hz)
      | (refine wpList_loadBlk (g := w.heap.size + 1) (t := 34) (cs := Y) rfl 34 (.tmp 3) ?ho ?hx ?hA _ Tryd.underlying34 rfl ?hi ?_
         case ho => with_reducible rfl
         case hx => rfl
         case hA => exact j2
         case hi => exact hz')
      | fail)
    refine (H3.out _).mono ?_; rintro e w3 ⟨rfl, hb3⟩
    have b3 := Below.on b2 b2.size (by exact hb3)
    have k3 := k2.on (by exact hb3)
    have j3 := j2.on (by exact hb3)
    clear hb3
    go_wp2_with (first
      | (refine wpList_loadBlk (g := w.heap.size) (t := 34) (cs := X) rfl 34 (.tmp 2) ?ho ?hx ?hA _ Tryd.underlying34 rfl ?hi ?_
         case ho => with_reducible rfl
         case hx => rfl
         case hA => exact k3
         case hi => exact hz)
      | (refine wpList_loadBlk (g := w.heap.size + 1) (t := 34) (cs := Y) rfl 34 (.tmp 3) ?ho ?hx ?hA _ Tryd.underlying34 rfl ?hi ?_
         case ho => with_reducible rfl
         case hx => rfl
         case hA => exact j3
         case hi => exact hz')
      | fail)
    refine (H4.out _).mono ?_; rintro e w4 ⟨rfl, hb4⟩
    have b4 := Below.on b3 b3.size (by exact hb4)
    have k4 := k3.on (by exact hb4)
    have j4 := j3.on (by exact hb4)
    clear hb4
    go_wp2_with fail
    have kN := k4
    have jN := j4
    have hTw5 : ∀ W : World, Below w4.heap.size w4 W → Tab W := fun W hW => Htab.out.on (Below.on b4 b4.size hW)
    try simp only [Act.put, List.setIfInBounds_toArray, List.set_cons_succ, List.set_cons_zero]
    refine wp_region_below w4.heap.size (by kernel_rfl) (by kernel_rfl) ?_
    repeat (first
        | go_big_quiet_skip
        | (go_big_quiet_want
           first
             | (refine qb_load (g := w.heap.size) (t := 34) (cs := X) 34 (.tmp 2) ?ho ?hx ?hA _ Tryd.underlying34 rfl hz ?_
                case ho => with_reducible rfl
                case hx => rfl
                case hA => exact fun w' hw' => kN.on hw'
                go_big_quiet_on
                simp only [Act.put, List.setIfInBounds_toArray, List.set_cons_succ, List.set_cons_zero])
             | (refine qb_load (g := w.heap.size + 1) (t := 34) (cs := Y) 34 (.tmp 3) ?ho ?hx ?hA _ Tryd.underlying34 rfl hz' ?_
                case ho => with_reducible rfl
                case hx => rfl
                case hA => exact fun w' hw' => jN.on hw'
                go_big_quiet_on
                simp only [Act.put, List.setIfInBounds_toArray, List.set_cons_succ, List.set_cons_zero])
             | (go_big_quiet_op
                first
                  | go_big_quiet_on
                  | (with_reducible refine ⟨_, fun _ _ => rfl, ?_⟩; go_big_quiet_on)
                  | (apply Exists.intro
                     refine ⟨fun w' hw' => ?_, ?_⟩
                     · (go_at_call 37; with_reducible refine (H5.out _).mono ?_; exact fun _ _ h => ⟨h.1, Below.on hw' hw'.size h.2⟩)
                     go_big_quiet_on)
                  | (apply Exists.intro
                     refine ⟨fun w' hw' => ?_, ?_⟩
                     · (go_at_call 38; with_reducible refine (H6.out _).mono ?_; exact fun _ _ h => ⟨h.1, Below.on hw' hw'.size h.2⟩)
                     go_big_quiet_on)
                  | fail))
        | fail)
    refine wpQuiet_nil ?_
    intro w5 hw5
    have b5 := Below.on b4 b4.size hw5
    have k5 := kN.on hw5
    have j5 := jN.on hw5
    clear kN jN hTw5
    go_wp2_with fail
    have kN := k5
    have jN := j5
    have hTw6 : ∀ W : World, Below w5.heap.size w5 W → Tab W := fun W hW => Htab.out.on (Below.on b5 b5.size hW)
    try simp only [Act.put, List.setIfInBounds_toArray, List.set_cons_succ, List.set_cons_zero]
    refine wp_region_below w5.heap.size (by kernel_rfl) (by kernel_rfl) ?_
    repeat (first
        | go_big_quiet_skip
        | (go_big_quiet_want
           first
             | (refine qb_load (g := w.heap.size) (t := 34) (cs := X) 34 (.tmp 2) ?ho ?hx ?hA _ Tryd.underlying34 rfl hz ?_
                case ho => with_reducible rfl
                case hx => rfl
                case hA => exact fun w' hw' => kN.on hw'
                go_big_quiet_on
                simp only [Act.put, List.setIfInBounds_toArray, List.set_cons_succ, List.set_cons_zero])
             | (refine qb_load (g := w.heap.size + 1) (t := 34) (cs := Y) 34 (.tmp 3) ?ho ?hx ?hA _ Tryd.underlying34 rfl hz' ?_
                case ho => with_reducible rfl
                case hx => rfl
                case hA => exact fun w' hw' => jN.on hw'
                go_big_quiet_on
                simp only [Act.put, List.setIfInBounds_toArray, List.set_cons_succ, List.set_cons_zero])
             | (refine qe_eql (cs := M) (ds := M) (b := true) 34 34 (.tmp 39) (.tmp 42) ?ho ?hx ?hy Tryd.plainAddr ?he ?_
                case ho => with_reducible rfl
                case hx => rfl
                case hy => rfl
                case he => exact HE.out
                go_big_quiet_on
                simp only [Act.put, List.setIfInBounds_toArray, List.set_cons_succ, List.set_cons_zero])
             | (go_big_quiet_op
                first
                  | go_big_quiet_on
                  | (with_reducible refine ⟨_, fun _ _ => rfl, ?_⟩; go_big_quiet_on)
                  | (apply Exists.intro
                     refine ⟨fun w' hw' => ?_, ?_⟩
                     · (go_at_call 31; with_reducible refine (H7.out _).mono ?_; exact fun _ _ h => ⟨h.1, Below.on hw' hw'.size h.2⟩)
                     go_big_quiet_on)
                  | (apply Exists.intro
                     refine ⟨fun w' hw' => ?_, ?_⟩
                     · (go_at_call 31; with_reducible refine (H8.out _).mono ?_; exact fun _ _ h => ⟨h.1, Below.on hw' hw'.size h.2⟩)
                     go_big_quiet_on)
                  | (apply Exists.intro
                     refine ⟨fun w' hw' => ?_, ?_⟩
                     · (go_at_call 23; with_reducible refine (H9.out _).mono ?_; exact fun _ _ h => ⟨h.1, Below.on hw' hw'.size h.2⟩)
                     go_big_quiet_on)
                  | (apply Exists.intro
                     refine ⟨fun w' hw' => ?_, ?_⟩
                     · (go_at_call 24; with_reducible refine (alive10 _ (hTw6 _ hw')).mono ?_; exact fun _ _ h => ⟨h.1, Below.on hw' hw'.size h.2⟩)
                     go_big_quiet_on)
                  | fail))
        | fail)
    refine wpQuiet_nil ?_
    intro w6 hw6
    have b6 := Below.on b5 b5.size hw6
    have k6 := kN.on hw6
    have j6 := jN.on hw6
    clear kN jN hTw6
    go_wp2
    go_ret
    exact ⟨rfl, b6⟩
  · have hlt : r < 8 * m := by omega
    have E1 := Lib.hid (HB1.out hlt)
    have E2 := Lib.hid (HB2.out hlt)
    have hPQ := f3 hlt
    have hI2 : (((r : Nat) : Int) == 8 * (m : Int)) = false := by rw [beq_eq_false_iff_ne]; omega
    have hI3 : (((P : Nat) : Int) != ((Q : Nat) : Int)) = true := by rw [bne_iff_ne]; omega
    clear HB1 HB2 f3 hend hlt hPQ
    have b0 : Below w.heap.size w ((w.alloc (.cells X 34)).alloc (.cells Y 34)) := ((Below.refl _ _).alloc (Nat.le_refl _) _).alloc (by simp) _
    have k0 : Blk ((w.alloc (.cells X 34)).alloc (.cells Y 34)) w.heap.size 34 X := (blk_new _ _ _).alloc _
    have j0 : Blk ((w.alloc (.cells X 34)).alloc (.cells Y 34)) (w.heap.size + 1) 34 Y := blk_new' _ _ _ _ (by simp)
    go_enter Tryd.func8, Tryd.ntmps8
    go_wp2_with (first
      | (refine wpList_loadBlk (g := w.heap.size) (t := 34) (cs := X) rfl 34 (.tmp 2) ?ho ?hx ?hA _ Tryd.underlying34 rfl ?hi ?_
         case ho => with_reducible rfl
         case hx => rfl
         case hA => exact k0
         case hi => exact hz)
      | (refine wpList_loadBlk (g := w.heap.size + 1) (t := 34) (cs := Y) rfl 34 (.tmp 3) ?ho ?hx ?hA _ Tryd.underlying34 rfl ?hi ?_
         case ho => with_reducible rfl
         case hx => rfl
         case hA => exact j0
         case hi => exact hz')
      | fail)
    refine (H1.out _).mono ?_; rintro e w1 ⟨rfl, hb1⟩
    have b1 := Below.on b0 b0.size (by exact hb1)
    have k1 := k0.on (by exact hb1)
    have j1 := j0.on (by exact hb1)
    clear hb1
    clear k0 j0 b0
    go_wp2_with (first
      | (refine wpList_loadBlk (g := w.heap.size) (t := 34) (cs := X) rfl 34 (.tmp 2) ?ho ?hx ?hA _ Tryd.underlying34 rfl ?hi ?_
         case ho => with_reducible rfl
         case hx => rfl
         case hA => exact k1
         case hi => exact hz)
      | (refine wpList_loadBlk (g := w.heap.size + 1) (t := 34) (cs := Y) rfl 34 (.tmp 3) ?ho ?hx ?hA _ Tryd.underlying34 rfl ?hi ?_
         case ho => with_reducible rfl
         case hx => rfl
         case hA => exact j1
         case hi => exact hz')
      | fail)
    refine (H2.out _).mono ?_; rintro e w2 ⟨rfl, hb2⟩
    have b2 := Below.on b1 b1.size (by exact hb2)
    have k2 := k1.on (by exact hb2)
    have j2 := j1.on (by exact hb2)
    clear hb2
    go_wp2_with (first
      | (refine wpList_loadBlk (g := w.heap.size) (t := 34) (cs := X) rfl 34 (.tmp 2) ?ho ?hx ?hA _ Tryd.underlying34 rfl ?hi ?_
         case ho => with_reducible rfl
         case hx => rfl
         case hA => exact k2
         case hi => exact hz)
      | (refine wpList_loadBlk (g := w.heap.size + 1) (t := 34) (cs := Y) rfl 34 (.tmp 3) ?ho ?hx ?hA _ Tryd.underlying34 rfl ?hi ?_
         case ho => with_reducible rfl
         case hx => rfl
         case hA => exact j2
         case hi => exact hz')
      | fail)
    refine (H3.out _).mono ?_; rintro e w3 ⟨rfl, hb3⟩
    have b3 := Below.on b2 b2.size (by exact hb3)
    have k3 := k2.on (by exact hb3)
    have j3 := j2.on (by exact hb3)
    clear hb3
    go_wp2_with (first
      | (refine wpList_loadBlk (g := w.heap.size) (t := 34) (cs := X) rfl 34 (.tmp 2) ?ho ?hx ?hA _ Tryd.underlying34 rfl ?hi ?_
         case ho => with_reducible rfl
         case hx => rfl
         case hA => exact k3
         case hi => exact hz)
      | (refine wpList_loadBlk (g := w.heap.size + 1) (t := 34) (cs := Y) rfl 34 (.tmp 3) ?ho ?hx ?hA _ Tryd.underlying34 rfl ?hi ?_
         case ho => with_reducible rfl
         case hx => rfl
         case hA => exact j3
         case hi => exact hz')
      | fail)
    refine (H4.out _).mono ?_; rintro e w4 ⟨rfl, hb4⟩
    have b4 := Below.on b3 b3.size (by exact hb4)
    have k4 := k3.on (by exact hb4)
    have j4 := j3.on (by exact hb4)
    clear hb4
    go_wp2_with fail
    have kN := k4
    have jN := j4
    have hTw5 : ∀ W : World, Below w4.heap.size w4 W → Tab W := fun W hW => Htab.out.on (Below.on b4 b4.size hW)
    try simp only [Act.put, List.setIfInBounds_toArray, List.set_cons_succ, List.set_cons_zero]
    refine wp_region_below w4.heap.size (by kernel_rfl) (by kernel_rfl) ?_
    repeat (first
        | go_big_quiet_skip
        | (go_big_quiet_want
           first
             | (refine qb_load (g := w.heap.size) (t := 34) (cs := X) 34 (.tmp 2) ?ho ?hx ?hA _ Tryd.underlying34 rfl hz ?_
                case ho => with_reducible rfl
                case hx => rfl
                case hA => exact fun w' hw' => kN.on hw'
                go_big_quiet_on
                simp only [Act.put, List.setIfInBounds_toArray, List.set_cons_succ, List.set_cons_zero])
             | (refine qb_load (g := w.heap.size + 1) (t := 34) (cs := Y) 34 (.tmp 3) ?ho ?hx ?hA _ Tryd.underlying34 rfl hz' ?_
                case ho => with_reducible rfl
                case hx => rfl
                case hA => exact fun w' hw' => jN.on hw'
                go_big_quiet_on
                simp only [Act.put, List.setIfInBounds_toArray, List.set_cons_succ, List.set_cons_zero])
             | (go_big_quiet_op
                first
                  | go_big_quiet_on
                  | (with_reducible refine ⟨_, fun _ _ => rfl, ?_⟩; go_big_quiet_on)
                  | (apply Exists.intro
                     refine ⟨fun w' hw' => ?_, ?_⟩
                     · (go_at_call 37; with_reducible refine (H5.out _).mono ?_; exact fun _ _ h => ⟨h.1, Below.on hw' hw'.size h.2⟩)
                     go_big_quiet_on)
                  | (apply Exists.intro
                     refine ⟨fun w' hw' => ?_, ?_⟩
                     · (go_at_call 38; with_reducible refine (H6.out _).mono ?_; exact fun _ _ h => ⟨h.1, Below.on hw' hw'.size h.2⟩)
                     go_big_quiet_on)
                  | fail))
        | fail)
    refine wpQuiet_nil ?_
    intro w5 hw5
    have b5 := Below.on b4 b4.size hw5
    have k5 := kN.on hw5
    have j5 := jN.on hw5
    clear kN jN hTw5
    go_wp2_with fail
    have kN := k5
    have jN := j5
    have hTw6 : ∀ W : World, Below w5.heap.size w5 W → Tab W := fun W hW => Htab.out.on (Below.on b5 b5.size hW)
    try simp only [Act.put, List.setIfInBounds_toArray, List.set_cons_succ, List.set_cons_zero]
    refine wp_region_below w5.heap.size (by kernel_rfl) (by kernel_rfl) ?_
    repeat (first
        | go_big_quiet_skip
        | (go_big_quiet_want
           first
             | (refine qb_load (g := w.heap.size) (t := 34) (cs := X) 34 (.tmp 2) ?ho ?hx ?hA _ Tryd.underlying34 rfl hz ?_
                case ho => with_reducible rfl
                case hx => rfl
                case hA => exact fun w' hw' => kN.on hw'
                go_big_quiet_on
                simp only [Act.put, List.setIfInBounds_toArray, List.set_cons_succ, List.set_cons_zero])
             | (refine qb_load (g := w.heap.size + 1) (t := 34) (cs := Y) 34 (.tmp 3) ?ho ?hx ?hA _ Tryd.underlying34 rfl hz' ?_
                case ho => with_reducible rfl
                case hx => rfl
                case hA => exact fun w' hw' => jN.on hw'
                go_big_quiet_on
                simp only [Act.put, List.setIfInBounds_toArray, List.set_cons_succ, List.set_cons_zero])
             | (refine qe_eql (cs := M) (ds := M) (b := true) 34 34 (.tmp 39) (.tmp 42) ?ho ?hx ?hy Tryd.plainAddr ?he ?_
                case ho => with_reducible rfl
                case hx => rfl
                case hy => rfl
                case he => exact HE.out
                go_big_quiet_on
                simp only [Act.put, List.setIfInBounds_toArray, List.set_cons_succ, List.set_cons_zero])
             | (go_big_quiet_op
                first
                  | go_big_quiet_on
                  | (with_reducible refine ⟨_, fun _ _ => rfl, ?_⟩; go_big_quiet_on)
                  | (apply Exists.intro
                     refine ⟨fun w' hw' => ?_, ?_⟩
                     · (go_at_call 31; with_reducible refine (H7.out _).mono ?_; exact fun _ _ h => ⟨h.1, Below.on hw' hw'.size h.2⟩)
                     go_big_quiet_on)
                  | (apply Exists.intro
                     refine ⟨fun w' hw' => ?_, ?_⟩
                     · (go_at_call 31; with_reducible refine (H8.out _).mono ?_; exact fun _ _ h => ⟨h.1, Below.on hw' hw'.size h.2⟩)
                     go_big_quiet_on)
                  | (apply Exists.intro
                     refine ⟨fun w' hw' => ?_, ?_⟩
                     · (go_at_call 23; with_reducible refine (H9.out _).mono ?_; exact fun _ _ h => ⟨h.1, Below.on hw' hw'.size h.2⟩)
                     go_big_quiet_on)
                  | (apply Exists.intro
                     refine ⟨fun w' hw' => ?_, ?_⟩
                     · (go_at_call 32; with_reducible refine (E1.out _).mono ?_; exact fun _ _ h => ⟨h.1, Below.on hw' hw'.size h.2⟩)
                     go_big_quiet_on)
                  | (apply Exists.intro
                     refine ⟨fun w' hw' => ?_, ?_⟩
                     · (go_at_call 32; with_reducible refine (E2.out _).mono ?_; exact fun _ _ h => ⟨h.1, Below.on hw' hw'.size h.2⟩)
                     go_big_quiet_on)
                  | (apply Exists.intro
                     refine ⟨fun w' hw' => ?_, ?_⟩
                     · (go_at_call 24; with_reducible refine (alive10 _ (hTw6 _ hw')).mono ?_; exact fun _ _ h => ⟨h.1, Below.on hw' hw'.size h.2⟩)
                     go_big_quiet_on)
                  | fail))
        | fail)
    refine wpQuiet_nil ?_
    intro w6 hw6
    have b6 := Below.on b5 b5.size hw6
    have k6 := kN.on hw6
    have j6 := jN.on hw6
    clear kN jN hTw6
    go_wp2
    go_ret
    exact ⟨rfl, b6⟩

theorem walk_AddrPairs (v : Int) (l : List UInt8) (v' : Int) (l' : List UInt8) (w : World) (hv : in64 v) (hl : l.length = 16) (hv' : in64 v') (hl' : l'.length = 16) (htab : Tab w) :
    Calls Tryd.prog 8 #[.agg (adv v l), .agg (adv v' l')] w fun e w' => e = .returned (.bool true) ∧ Below w.heap.size w w' := by
  cases h1 : okA v l
  · exact pairs_no v v' l l' w hl hl' (.inl h1) htab
  · cases h2 : okA v' l'
    · exact pairs_no v v' l l' w hl hl' (.inr h2) htab
    · by_cases h : v = v'
      · subst h
        exact pairs_same v l l' w hv hl hl' h1 h2 htab
      · exact pairs_apart v v' l l' w hl hl' h1 h2 h htab

end Go.Proofs.YtkhlalodcgbciaaDoor
