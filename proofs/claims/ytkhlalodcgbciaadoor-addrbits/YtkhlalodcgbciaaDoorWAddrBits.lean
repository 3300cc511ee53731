
/- The walk of law10.AddrBits. -/
import Derived.Test.YtkhlalodcgbciaaDoorMkZ
import Derived.Test.YtkhlalodcgbciaaDoorOpnA
namespace Go.Proofs.YtkhlalodcgbciaaDoor
open Go.RowKit Dec Qd
set_option maxRecDepth 100000
set_option linter.unusedSimpArgs false
set_option linter.unusedVariables false

theorem okA_mL (v : Int) (l : List UInt8) (n : Nat) (hl : l.length = 16) (h : okA v l = true) : okA v (mL n l) = true := by
  rcases okA_v v l h with rfl | rfl
  · have hd : l.drop 4 = zb 12 := by
      unfold okA at h
      simpa using h
    have : (mL n l).drop 4 = zb 12 := by
      apply List.ext_getElem?
      intro j
      rw [List.getElem?_drop]
      by_cases hj : j < 12
      · have hb : l[4 + j]? = some 0 := by
          have h1 : (l.drop 4)[j]? = (zb 12)[j]? := by rw [hd]
          rw [List.getElem?_drop] at h1
          rw [h1, zb, List.getElem?_replicate, if_pos hj]
        rw [mL_at n (4 + j) l 0 hb, mB_z _ (kpt_le _ _), zb, List.getElem?_replicate, if_pos hj]
      · rw [List.getElem?_eq_none (by rw [mL_len]; omega), List.getElem?_eq_none (by simp [zb]; omega)]
    unfold okA
    rw [this]
    rfl
  · unfold okA; rfl
theorem okA_zero : okA 0 (zb 16) = false := by decide

/-- What masks and bits come to, whatever the address and the number. -/
theorem bits_any (v : Int) (l : List UInt8) (hl : l.length = 16) (i : Int) (h1 : -9223372036854775808 ≤ i) (h2 : i ≤ 9223372036854775807) : ∃ (v1 : Int) (l1 : List UInt8) (b : Int), l1.length = 16 ∧
    (∀ w : World, Calls Tryd.prog 31 #[.agg (adv v l), .int .i64 i] w fun e w' => e = .returned (.agg (adv v1 l1)) ∧ Below w.heap.size w w') ∧
    (∀ w : World, Calls Tryd.prog 34 #[.agg (adv v l), .int .i64 i] w fun e w' => e = .returned (.agg (adv v1 l1)) ∧ Below w.heap.size w w') ∧
    (∀ w : World, Calls Tryd.prog 31 #[.agg (adv v1 l1), .int .i64 i] w fun e w' => e = .returned (.agg (adv v1 l1)) ∧ Below w.heap.size w w') ∧
    (∀ w : World, Calls Tryd.prog 32 #[.agg (adv v l), .int .i64 i] w fun e w' => e = .returned (.int .i64 b) ∧ Below w.heap.size w w') ∧
    (∀ w : World, Calls Tryd.prog 33 #[.agg (adv v l), .int .i64 i] w fun e w' => e = .returned (.int .i64 b) ∧ Below w.heap.size w w') := by
  have hbit : ∃ b : Int, (∀ w : World, Calls Tryd.prog 32 #[.agg (adv v l), .int .i64 i] w fun e w' => e = .returned (.int .i64 b) ∧ Below w.heap.size w w') ∧
    (∀ w : World, Calls Tryd.prog 33 #[.agg (adv v l), .int .i64 i] w fun e w' => e = .returned (.int .i64 b) ∧ Below w.heap.size w w') := by
    by_cases h : i < 0 ∨ (8 * sizeA v l : Int) ≤ i
    · exact ⟨-1, bit_no v l hl i h h1 h2, refBit_no v l hl i h h1 h2⟩
    · obtain ⟨n, rfl⟩ := Int.eq_ofNat_of_zero_le (show 0 ≤ i by omega)
      exact ⟨_, bit_yes v l hl n (by omega), refBit_yes v l hl n (by omega)⟩
  obtain ⟨b, hb1, hb2⟩ := hbit
  cases hok : okA v l
  · exact ⟨0, zb 16, b, zb_len 16, mask_no v i l hl hok, refMask_no v i l hl hok, mask_no 0 i (zb 16) (zb_len 16) okA_zero, hb1, hb2⟩
  · refine ⟨v, mL i.toNat l, b, by rw [mL_len, hl], mask_ok v i l hl hok h1 h2, refMask_ok v i l hl hok h1 h2, fun w => ?_, hb1, hb2⟩
    have := mask_ok v i (mL i.toNat l) (by rw [mL_len, hl]) (okA_mL v l _ hl hok) h1 h2 w
    rwa [mL_twice] at this

set_option maxHeartbeats 1000000 in
theorem walk_AddrBits (v : Int) (l : List UInt8) (i : Int) (w : World) (hv : in64 v) (hl : l.length = 16) (wi : (Lit.int .i64 i).wf = true) (htab : Tab w) :
    Calls Tryd.prog 7 #[.agg (adv v l), .int .i64 i] w fun e w' => e = .returned (.bool true) ∧ Below w.heap.size w w' := by
  obtain ⟨i1, i2⟩ := bounds_i64 wi
  obtain ⟨v1, l1, b, hl1, h1, h2, h3, h4, h5⟩ := bits_any v l hl i (by omega) (by omega)
  have H1 := Lib.hid h1
  have H2 := Lib.hid h2
  have H3 := Lib.hid h3
  have H4 := Lib.hid h4
  have H5 := Lib.hid h5
  have Htab := Lib.hid htab
  have k0 : Blk (w.alloc (.cells (adv v l) 34)) w.heap.size 34 (adv v l) := blk_new _ _ _
  have hb0 : Below w.heap.size w (w.alloc (.cells (adv v l) 34)) := (Below.refl _ _).alloc (Nat.le_refl _) _
  have hz := Adr_size v l hl
  have hz1 := Adr_size v1 l1 hl1
  have sz1 := adv_size v1 l1 hl1
  have one1 := adv_one v1 l1
  have he := adr_eq v1 v1 l1 l1 hl1 hl1
  rw [show (v1 == v1 && l1 == l1) = true by simp] at he
  have HE := Lib.hid he
  have hz0 := (zero_of_info Tryd.zeroAddr).1
  have hzne : ¬ adv 0 (zb 16) = #[] := by unfold adv; simp
  clear h1 h2 h3 h4 h5 htab hv hl he hl1 wi i1 i2
  generalize adv v l = X at *
  generalize adv v1 l1 = Y at *
  go_enter Tryd.func7, Tryd.ntmps7
  go_wp2_with (first
    | (refine wpList_loadBlk (g := w.heap.size) (t := 34) (cs := X) rfl 34 (.tmp 2) ?ho ?hx ?hA _ Tryd.underlying34 rfl ?hi ?_
       case ho => with_reducible rfl
       case hx => rfl
       case hA => exact k0
       case hi => exact hz)
    | fail)
  refine (H1.out _).mono ?_; rintro e w1 ⟨rfl, hb1⟩
  have b1 := Below.on hb0 hb0.size (by exact hb1)
  have k1 := k0.on (by exact hb1)
  have b2 := b1.alloc b1.size (.cells Y 34)
  have k2 := k1.alloc (.cells Y 34)
  have j2 : Blk (w1.alloc (.cells Y 34)) w1.heap.size 34 Y := blk_new _ _ _
  clear k0 hb0 hb1
  go_wp2_with (first
    | (refine wpList_allocStore (cs := Y) rfl rfl 34 ?ho (.tmp 5) (.tmp 8) ?ho2 Tryd.zeroAddr ?hz ?hx ?hy ?hn ?h1 ?_
       case ho => with_reducible rfl
       case ho2 => rfl
       case hz => rfl
       case hx => rfl
       case hy => rfl
       case hn => exact sz1
       case h1 => exact one1)
    | fail)
  have hup : ∀ W : World, Below (w1.alloc (.cells Y 34)).heap.size (w1.alloc (.cells Y 34)) W → Below w.heap.size w W := fun W hW => Below.on b2 b2.size hW
  have hT : ∀ W : World, Below (w1.alloc (.cells Y 34)).heap.size (w1.alloc (.cells Y 34)) W → Tab W := fun W hW => Htab.out.on (hup W hW)
  generalize hg5 : w1.heap.size = g5 at *
  generalize w1.alloc (.cells Y 34) = w2 at *
  generalize hg1 : w.heap.size = g1 at *
  try simp only [Act.put, List.setIfInBounds_toArray, List.set_cons_succ, List.set_cons_zero]
  refine wp_region_below w2.heap.size (by kernel_rfl) (by kernel_rfl) ?_
  repeat (first
    | go_big_quiet_skip
    | (go_big_quiet_want
       first
         | (refine qb_load (g := g1) (t := 34) (cs := X) 34 (.tmp 2) ?ho ?hx ?hA _ Tryd.underlying34 rfl hz ?_
            case ho => with_reducible rfl
            case hx => rfl
            case hA => exact fun w' hw' => k2.on hw'
            go_big_quiet_on
            simp only [Act.put, List.setIfInBounds_toArray, List.set_cons_succ, List.set_cons_zero])
         | (refine qb_load (g := g5) (t := 34) (cs := Y) 34 (.tmp 5) ?ho ?hx ?hA _ Tryd.underlying34 rfl hz1 ?_
            case ho => with_reducible rfl
            case hx => rfl
            case hA => exact fun w' hw' => j2.on hw'
            go_big_quiet_on
            simp only [Act.put, List.setIfInBounds_toArray, List.set_cons_succ, List.set_cons_zero])
         | (refine qe_eql (cs := Y) (ds := Y) (b := true) 34 34 (.tmp 17) (.tmp 20) ?ho ?hx ?hy Tryd.plainAddr ?he ?_
            case ho => with_reducible rfl
            case hx => rfl
            case hy => rfl
            case he => exact HE.out
            go_big_quiet_on
            simp only [Act.put, List.setIfInBounds_toArray, List.set_cons_succ, List.set_cons_zero])
         | (refine qe_eql (cs := Y) (ds := Y) (b := true) 34 34 (.tmp 26) (.tmp 27) ?ho ?hx ?hy Tryd.plainAddr ?he ?_
            case ho => with_reducible rfl
            case hx => rfl
            case hy => rfl
            case he => exact HE.out
            go_big_quiet_on
            simp only [Act.put, List.setIfInBounds_toArray, List.set_cons_succ, List.set_cons_zero])
         | (go_big_quiet_op
            first
              | go_big_quiet_on
              | (with_reducible refine ⟨_, fun _ _ => rfl, ?_⟩; go_big_quiet_on)
              | (apply Exists.intro
                 refine ⟨fun w' hw' => ?_, ?_⟩
                 · (go_at_call 32; with_reducible refine (H4.out _).mono ?_; exact fun _ _ h => ⟨h.1, Below.on hw' hw'.size h.2⟩)
                 go_big_quiet_on)
              | (apply Exists.intro
                 refine ⟨fun w' hw' => ?_, ?_⟩
                 · (go_at_call 33; with_reducible refine (H5.out _).mono ?_; exact fun _ _ h => ⟨h.1, Below.on hw' hw'.size h.2⟩)
                 go_big_quiet_on)
              | (apply Exists.intro
                 refine ⟨fun w' hw' => ?_, ?_⟩
                 · (go_at_call 34; with_reducible refine (H2.out _).mono ?_; exact fun _ _ h => ⟨h.1, Below.on hw' hw'.size h.2⟩)
                 go_big_quiet_on)
              | (apply Exists.intro
                 refine ⟨fun w' hw' => ?_, ?_⟩
                 · (go_at_call 31; with_reducible refine (H3.out _).mono ?_; exact fun _ _ h => ⟨h.1, Below.on hw' hw'.size h.2⟩)
                 go_big_quiet_on)
              | (apply Exists.intro
                 refine ⟨fun w' hw' => ?_, ?_⟩
                 · (go_at_call 24; with_reducible refine (alive10 _ (hT _ hw')).mono ?_; exact fun _ _ h => ⟨h.1, Below.on hw' hw'.size h.2⟩)
                 go_big_quiet_on))))
  refine wpQuiet_nil ?_
  intro w3 hw3
  go_wp2
  go_ret
  exact ⟨rfl, by rw [hg1]; exact hup _ hw3⟩

end Go.Proofs.YtkhlalodcgbciaaDoor
