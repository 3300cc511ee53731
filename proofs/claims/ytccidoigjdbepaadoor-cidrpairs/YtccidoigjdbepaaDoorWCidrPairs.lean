
/- The walk of law11.CidrPairs. -/
import Derived.Test.YtccidoigjdbepaaDoorCxF
import Derived.Test.YtccidoigjdbepaaDoorOpnPx
import Derived.Test.YtccidoigjdbepaaDoorWCidrOf
namespace Go.Proofs.YtccidoigjdbepaaDoor
open Go.RowKit Dec Lin Qd
set_option maxRecDepth 100000
set_option linter.unusedVariables false
set_option linter.unusedSimpArgs false

theorem cov_back (p q : Pfx) (hp : rightP p = true) (hq : rightP q = true) (h : covB p q = true) : covB q p = pfxEq p q := by
  obtain ⟨_, f2, _, f4⟩ := right_facts p hp
  obtain ⟨_, g2, _, g4⟩ := right_facts q hq
  have e1 : covB p q = (decide (p.bits ≤ q.bits) && (q.v == p.v && mL p.bits.toNat q.l == p.l)) := by unfold covB; rw [hp, hq]; rfl
  have e2 : covB q p = (decide (q.bits ≤ p.bits) && (p.v == q.v && mL q.bits.toNat p.l == q.l)) := by unfold covB; rw [hp, hq]; rfl
  rw [e1] at h
  simp at h
  obtain ⟨h1, h2, h3⟩ := h
  rw [e2]
  unfold pfxEq
  rw [h2]
  by_cases hb : q.bits ≤ p.bits
  · have hbb : p.bits = q.bits := by omega
    rw [hbb] at h3
    rw [g4] at h3
    rw [decide_eq_true hb, hbb, ← h3, g4]
    simp
  · have hne : (p.bits == q.bits) = false := by rw [beq_eq_false_iff_ne]; omega
    rw [decide_eq_false hb, hne]
    simp

set_option maxHeartbeats 8000000 in
theorem pr_f (p q : Pfx) (w : World) (hp : pfxOk p) (hq : pfxOk q) (htab : Tab w) (hm : Cl.HasM w) (hrp : rightP p = false) (hc : covB p q = false) :
    Calls Tryd.prog 7 #[.agg (pf p), .agg (pf q)] w fun e w' => e = .returned (.bool true) ∧ Below w.heap.size w w' := by
  have HM := Lib.hid hm
  have Htab := Lib.hid htab
  have hpos := hm.pos
  have h1 := fun W => ccovers_any p q hp hq W
  have h2 := fun W => refccovers_any p q hp hq W
  have h3 := fun W => refcright_any p hp W
  have h4 := fun W => refcright_any q hq W
  have h5 := fun W => ccovers_any q p hq hp W
  have h6 := fun W => cless_any p q hp hq W
  have h7 := fun W => refcless_any p q hp hq W
  rw [hc] at h1 h2
  rw [hrp] at h3
  have H1 := Lib.hid h1
  have H2 := Lib.hid h2
  have H3 := Lib.hid h3
  have H4 := Lib.hid h4
  have H5 := Lib.hid h5
  have H6 := Lib.hid h6
  have H7 := Lib.hid h7
  have zp : (Tryd.prog.info? 45).map (·.size) = some (pf p).size := by rw [pf_size p hp.2.1]; exact Tryd.infoPfx
  have zq : (Tryd.prog.info? 45).map (·.size) = some (pf q).size := by rw [pf_size q hq.2.1]; exact Tryd.infoPfx
  have he := pf_eq p q hp.2.1 hq.2.1
  have HE := Lib.hid he
  have k0 : Blk ((w.alloc (.cells (pf p) 45)).alloc (.cells (pf q) 45)) w.heap.size 45 (pf p) := (blk_new _ _ _).alloc _
  have j0 : Blk ((w.alloc (.cells (pf p) 45)).alloc (.cells (pf q) 45)) (w.heap.size + 1) 45 (pf q) := blk_new' _ _ _ _ (by simp)
  have b0 : Below w.heap.size w ((w.alloc (.cells (pf p) 45)).alloc (.cells (pf q) 45)) := ((Below.refl _ _).alloc (Nat.le_refl _) _).alloc (by simp) _
  clear h1 h2 h3 h4 h5 h6 h7 hm htab he hp hq hrp hc
  generalize pf p = P at *
  generalize pf q = Q at *
  go_enter Tryd.func7, Tryd.ntmps7
  go_wp2_with fail
  generalize (w.alloc (.cells P 45)).alloc (.cells Q 45) = w0 at *
  have hu0 : ∀ W, Below w0.heap.size w0 W → Below w.heap.size w W := fun W hW => Below.on b0 b0.size hW
  generalize hg1 : w.heap.size = g1 at *
  refine wp_region_below w0.heap.size (by kernel_rfl) (by kernel_rfl) ?_
  repeat (first
    | go_big_quiet_skip
    | (go_big_quiet_want
       first
         | (refine qb_load (g := g1) (t := 45) (cs := P) 45 (.tmp 2) ?ho ?hx ?hA _ Tryd.underlying45 rfl zp ?_
            case ho => with_reducible rfl
            case hx => rfl
            case hA => exact fun w' hw' => k0.on hw'
            go_big_quiet_on
            simp only [Act.put, List.setIfInBounds_toArray, List.set_cons_succ, List.set_cons_zero])
         | (refine qb_load (g := (g1 + 1)) (t := 45) (cs := Q) 45 (.tmp 3) ?ho ?hx ?hA _ Tryd.underlying45 rfl zq ?_
            case ho => with_reducible rfl
            case hx => rfl
            case hA => exact fun w' hw' => j0.on hw'
            go_big_quiet_on
            simp only [Act.put, List.setIfInBounds_toArray, List.set_cons_succ, List.set_cons_zero])
         | (go_big_quiet_op
            first
              | go_big_quiet_on
              | (with_reducible refine ⟨_, fun _ _ => rfl, ?_⟩; go_big_quiet_on)
              | (apply Exists.intro
                 refine ⟨fun w' hw' => ?_, ?_⟩
                 · (go_at_call 36; with_reducible refine (H1.out _).mono ?_; exact fun _ _ h => ⟨h.1, Below.on hw' hw'.size h.2⟩)
                 go_big_quiet_on)
              | (apply Exists.intro
                 refine ⟨fun w' hw' => ?_, ?_⟩
                 · (go_at_call 37; with_reducible refine (H2.out _).mono ?_; exact fun _ _ h => ⟨h.1, Below.on hw' hw'.size h.2⟩)
                 go_big_quiet_on))))
  refine wpQuiet_nil ?_
  intro w1 hw1
  subst hg1
  have k1 := k0.on hw1
  have j1 := j0.on hw1
  have b1 := hu0 _ hw1
  clear k0 j0 b0 hu0 hw1
  go_wp2_with (first
    | (refine wpList_loadBlk (g := w.heap.size) (t := 45) (cs := P) ?hw 45 (.tmp 2) ?ho ?hx ?hA _ Tryd.underlying45 rfl ?hi ?_
       case hw => rfl
       case ho => with_reducible rfl
       case hx => rfl
       case hA => exact k1
       case hi => exact zp)
    | fail)
  refine (H3.out _).mono ?_; rintro e w2 ⟨rfl, hb2⟩
  have k2 := k1.on (by exact hb2)
  have j2 := j1.on (by exact hb2)
  have b2 := Below.on b1 b1.size (by exact hb2)
  clear hb2 k1 j1 b1
  go_wp2_with (first
    | (refine wpList_loadBlk (g := w.heap.size) (t := 45) (cs := P) ?hw 45 (.tmp 2) ?ho ?hx ?hA _ Tryd.underlying45 rfl ?hi ?_
       case hw => rfl
       case ho => with_reducible rfl
       case hx => rfl
       case hA => exact k2
       case hi => exact zp)
    | (refine wpList_loadBlk (g := w.heap.size + 1) (t := 45) (cs := Q) ?hw 45 (.tmp 3) ?ho ?hx ?hA _ Tryd.underlying45 rfl ?hi ?_
       case hw => rfl
       case ho => with_reducible rfl
       case hx => rfl
       case hA => exact j2
       case hi => exact zq)
    | fail)
  refine (H1.out _).mono ?_; rintro e w4 ⟨rfl, hb4⟩
  have b4 := Below.on b2 b2.size (by exact hb4)
  go_wp2_with fail
  refine (alive11 _ (Htab.out.on b4) (HM.out.on b4 hpos)).mono ?_; rintro e w5 ⟨rfl, hb5⟩
  have b5 := Below.on b4 b4.size (by exact hb5)
  go_wp2
  go_ret
  exact ⟨rfl, b5⟩

set_option maxHeartbeats 8000000 in
theorem pr_tf (p q : Pfx) (w : World) (hp : pfxOk p) (hq : pfxOk q) (htab : Tab w) (hm : Cl.HasM w) (hrp : rightP p = true) (hrq : rightP q = false) (hc : covB p q = false) :
    Calls Tryd.prog 7 #[.agg (pf p), .agg (pf q)] w fun e w' => e = .returned (.bool true) ∧ Below w.heap.size w w' := by
  have HM := Lib.hid hm
  have Htab := Lib.hid htab
  have hpos := hm.pos
  have h1 := fun W => ccovers_any p q hp hq W
  have h2 := fun W => refccovers_any p q hp hq W
  have h3 := fun W => refcright_any p hp W
  have h4 := fun W => refcright_any q hq W
  have h5 := fun W => ccovers_any q p hq hp W
  have h6 := fun W => cless_any p q hp hq W
  have h7 := fun W => refcless_any p q hp hq W
  rw [hc] at h1 h2
  rw [hrp] at h3
  rw [hrq] at h4
  have H1 := Lib.hid h1
  have H2 := Lib.hid h2
  have H3 := Lib.hid h3
  have H4 := Lib.hid h4
  have H5 := Lib.hid h5
  have H6 := Lib.hid h6
  have H7 := Lib.hid h7
  have zp : (Tryd.prog.info? 45).map (·.size) = some (pf p).size := by rw [pf_size p hp.2.1]; exact Tryd.infoPfx
  have zq : (Tryd.prog.info? 45).map (·.size) = some (pf q).size := by rw [pf_size q hq.2.1]; exact Tryd.infoPfx
  have he := pf_eq p q hp.2.1 hq.2.1
  have HE := Lib.hid he
  have k0 : Blk ((w.alloc (.cells (pf p) 45)).alloc (.cells (pf q) 45)) w.heap.size 45 (pf p) := (blk_new _ _ _).alloc _
  have j0 : Blk ((w.alloc (.cells (pf p) 45)).alloc (.cells (pf q) 45)) (w.heap.size + 1) 45 (pf q) := blk_new' _ _ _ _ (by simp)
  have b0 : Below w.heap.size w ((w.alloc (.cells (pf p) 45)).alloc (.cells (pf q) 45)) := ((Below.refl _ _).alloc (Nat.le_refl _) _).alloc (by simp) _
  clear h1 h2 h3 h4 h5 h6 h7 hm htab he hp hq hrp hc hrq
  generalize pf p = P at *
  generalize pf q = Q at *
  go_enter Tryd.func7, Tryd.ntmps7
  go_wp2_with fail
  generalize (w.alloc (.cells P 45)).alloc (.cells Q 45) = w0 at *
  have hu0 : ∀ W, Below w0.heap.size w0 W → Below w.heap.size w W := fun W hW => Below.on b0 b0.size hW
  generalize hg1 : w.heap.size = g1 at *
  refine wp_region_below w0.heap.size (by kernel_rfl) (by kernel_rfl) ?_
  repeat (first
    | go_big_quiet_skip
    | (go_big_quiet_want
       first
         | (refine qb_load (g := g1) (t := 45) (cs := P) 45 (.tmp 2) ?ho ?hx ?hA _ Tryd.underlying45 rfl zp ?_
            case ho => with_reducible rfl
            case hx => rfl
            case hA => exact fun w' hw' => k0.on hw'
            go_big_quiet_on
            simp only [Act.put, List.setIfInBounds_toArray, List.set_cons_succ, List.set_cons_zero])
         | (refine qb_load (g := (g1 + 1)) (t := 45) (cs := Q) 45 (.tmp 3) ?ho ?hx ?hA _ Tryd.underlying45 rfl zq ?_
            case ho => with_reducible rfl
            case hx => rfl
            case hA => exact fun w' hw' => j0.on hw'
            go_big_quiet_on
            simp only [Act.put, List.setIfInBounds_toArray, List.set_cons_succ, List.set_cons_zero])
         | (go_big_quiet_op
            first
              | go_big_quiet_on
              | (with_reducible refine ⟨_, fun _ _ => rfl, ?_⟩; go_big_quiet_on)
              | (apply Exists.intro
                 refine ⟨fun w' hw' => ?_, ?_⟩
                 · (go_at_call 36; with_reducible refine (H1.out _).mono ?_; exact fun _ _ h => ⟨h.1, Below.on hw' hw'.size h.2⟩)
                 go_big_quiet_on)
              | (apply Exists.intro
                 refine ⟨fun w' hw' => ?_, ?_⟩
                 · (go_at_call 37; with_reducible refine (H2.out _).mono ?_; exact fun _ _ h => ⟨h.1, Below.on hw' hw'.size h.2⟩)
                 go_big_quiet_on))))
  refine wpQuiet_nil ?_
  intro w1 hw1
  subst hg1
  have k1 := k0.on hw1
  have j1 := j0.on hw1
  have b1 := hu0 _ hw1
  clear k0 j0 b0 hu0 hw1
  go_wp2_with (first
    | (refine wpList_loadBlk (g := w.heap.size) (t := 45) (cs := P) ?hw 45 (.tmp 2) ?ho ?hx ?hA _ Tryd.underlying45 rfl ?hi ?_
       case hw => rfl
       case ho => with_reducible rfl
       case hx => rfl
       case hA => exact k1
       case hi => exact zp)
    | fail)
  refine (H3.out _).mono ?_; rintro e w2 ⟨rfl, hb2⟩
  have k2 := k1.on (by exact hb2)
  have j2 := j1.on (by exact hb2)
  have b2 := Below.on b1 b1.size (by exact hb2)
  clear hb2 k1 j1 b1
  go_wp2_with (first
    | (refine wpList_loadBlk (g := w.heap.size + 1) (t := 45) (cs := Q) ?hw 45 (.tmp 3) ?ho ?hx ?hA _ Tryd.underlying45 rfl ?hi ?_
       case hw => rfl
       case ho => with_reducible rfl
       case hx => rfl
       case hA => exact j2
       case hi => exact zq)
    | fail)
  refine (H4.out _).mono ?_; rintro e w3 ⟨rfl, hb3⟩
  have k3 := k2.on (by exact hb3)
  have j3 := j2.on (by exact hb3)
  have b3 := Below.on b2 b2.size (by exact hb3)
  clear hb3 k2 j2 b2
  go_wp2_with (first
    | (refine wpList_loadBlk (g := w.heap.size) (t := 45) (cs := P) ?hw 45 (.tmp 2) ?ho ?hx ?hA _ Tryd.underlying45 rfl ?hi ?_
       case hw => rfl
       case ho => with_reducible rfl
       case hx => rfl
       case hA => exact k3
       case hi => exact zp)
    | (refine wpList_loadBlk (g := w.heap.size + 1) (t := 45) (cs := Q) ?hw 45 (.tmp 3) ?ho ?hx ?hA _ Tryd.underlying45 rfl ?hi ?_
       case hw => rfl
       case ho => with_reducible rfl
       case hx => rfl
       case hA => exact j3
       case hi => exact zq)
    | fail)
  refine (H1.out _).mono ?_; rintro e w4 ⟨rfl, hb4⟩
  have b4 := Below.on b3 b3.size (by exact hb4)
  go_wp2_with fail
  refine (alive11 _ (Htab.out.on b4) (HM.out.on b4 hpos)).mono ?_; rintro e w5 ⟨rfl, hb5⟩
  have b5 := Below.on b4 b4.size (by exact hb5)
  go_wp2
  go_ret
  exact ⟨rfl, b5⟩

set_option maxHeartbeats 8000000 in
theorem pr_ttf_false (p q : Pfx) (w : World) (hp : pfxOk p) (hq : pfxOk q) (htab : Tab w) (hm : Cl.HasM w) (hrp : rightP p = true) (hrq : rightP q = true) (hc : covB p q = false) (hL : lessP p q = false) :
    Calls Tryd.prog 7 #[.agg (pf p), .agg (pf q)] w fun e w' => e = .returned (.bool true) ∧ Below w.heap.size w w' := by
  have HM := Lib.hid hm
  have Htab := Lib.hid htab
  have hpos := hm.pos
  have h1 := fun W => ccovers_any p q hp hq W
  have h2 := fun W => refccovers_any p q hp hq W
  have h3 := fun W => refcright_any p hp W
  have h4 := fun W => refcright_any q hq W
  have h5 := fun W => ccovers_any q p hq hp W
  have h6 := fun W => cless_any p q hp hq W
  have h7 := fun W => refcless_any p q hp hq W
  rw [hc] at h1 h2
  rw [hrp] at h3
  rw [hrq] at h4
  rw [hL] at h6 h7
  have H1 := Lib.hid h1
  have H2 := Lib.hid h2
  have H3 := Lib.hid h3
  have H4 := Lib.hid h4
  have H5 := Lib.hid h5
  have H6 := Lib.hid h6
  have H7 := Lib.hid h7
  have zp : (Tryd.prog.info? 45).map (·.size) = some (pf p).size := by rw [pf_size p hp.2.1]; exact Tryd.infoPfx
  have zq : (Tryd.prog.info? 45).map (·.size) = some (pf q).size := by rw [pf_size q hq.2.1]; exact Tryd.infoPfx
  have he := pf_eq p q hp.2.1 hq.2.1
  have HE := Lib.hid he
  have k0 : Blk ((w.alloc (.cells (pf p) 45)).alloc (.cells (pf q) 45)) w.heap.size 45 (pf p) := (blk_new _ _ _).alloc _
  have j0 : Blk ((w.alloc (.cells (pf p) 45)).alloc (.cells (pf q) 45)) (w.heap.size + 1) 45 (pf q) := blk_new' _ _ _ _ (by simp)
  have b0 : Below w.heap.size w ((w.alloc (.cells (pf p) 45)).alloc (.cells (pf q) 45)) := ((Below.refl _ _).alloc (Nat.le_refl _) _).alloc (by simp) _
  clear h1 h2 h3 h4 h5 h6 h7 hm htab he hp hq hrp hc hrq hL
  generalize pf p = P at *
  generalize pf q = Q at *
  go_enter Tryd.func7, Tryd.ntmps7
  go_wp2_with fail
  generalize (w.alloc (.cells P 45)).alloc (.cells Q 45) = w0 at *
  have hu0 : ∀ W, Below w0.heap.size w0 W → Below w.heap.size w W := fun W hW => Below.on b0 b0.size hW
  generalize hg1 : w.heap.size = g1 at *
  refine wp_region_below w0.heap.size (by kernel_rfl) (by kernel_rfl) ?_
  repeat (first
    | go_big_quiet_skip
    | (go_big_quiet_want
       first
         | (refine qb_load (g := g1) (t := 45) (cs := P) 45 (.tmp 2) ?ho ?hx ?hA _ Tryd.underlying45 rfl zp ?_
            case ho => with_reducible rfl
            case hx => rfl
            case hA => exact fun w' hw' => k0.on hw'
            go_big_quiet_on
            simp only [Act.put, List.setIfInBounds_toArray, List.set_cons_succ, List.set_cons_zero])
         | (refine qb_load (g := (g1 + 1)) (t := 45) (cs := Q) 45 (.tmp 3) ?ho ?hx ?hA _ Tryd.underlying45 rfl zq ?_
            case ho => with_reducible rfl
            case hx => rfl
            case hA => exact fun w' hw' => j0.on hw'
            go_big_quiet_on
            simp only [Act.put, List.setIfInBounds_toArray, List.set_cons_succ, List.set_cons_zero])
         | (go_big_quiet_op
            first
              | go_big_quiet_on
              | (with_reducible refine ⟨_, fun _ _ => rfl, ?_⟩; go_big_quiet_on)
              | (apply Exists.intro
                 refine ⟨fun w' hw' => ?_, ?_⟩
                 · (go_at_call 36; with_reducible refine (H1.out _).mono ?_; exact fun _ _ h => ⟨h.1, Below.on hw' hw'.size h.2⟩)
                 go_big_quiet_on)
              | (apply Exists.intro
                 refine ⟨fun w' hw' => ?_, ?_⟩
                 · (go_at_call 37; with_reducible refine (H2.out _).mono ?_; exact fun _ _ h => ⟨h.1, Below.on hw' hw'.size h.2⟩)
                 go_big_quiet_on))))
  refine wpQuiet_nil ?_
  intro w1 hw1
  subst hg1
  have k1 := k0.on hw1
  have j1 := j0.on hw1
  have b1 := hu0 _ hw1
  clear k0 j0 b0 hu0 hw1
  go_wp2_with (first
    | (refine wpList_loadBlk (g := w.heap.size) (t := 45) (cs := P) ?hw 45 (.tmp 2) ?ho ?hx ?hA _ Tryd.underlying45 rfl ?hi ?_
       case hw => rfl
       case ho => with_reducible rfl
       case hx => rfl
       case hA => exact k1
       case hi => exact zp)
    | fail)
  refine (H3.out _).mono ?_; rintro e w2 ⟨rfl, hb2⟩
  have k2 := k1.on (by exact hb2)
  have j2 := j1.on (by exact hb2)
  have b2 := Below.on b1 b1.size (by exact hb2)
  clear hb2 k1 j1 b1
  go_wp2_with (first
    | (refine wpList_loadBlk (g := w.heap.size + 1) (t := 45) (cs := Q) ?hw 45 (.tmp 3) ?ho ?hx ?hA _ Tryd.underlying45 rfl ?hi ?_
       case hw => rfl
       case ho => with_reducible rfl
       case hx => rfl
       case hA => exact j2
       case hi => exact zq)
    | fail)
  refine (H4.out _).mono ?_; rintro e w3 ⟨rfl, hb3⟩
  have k3 := k2.on (by exact hb3)
  have j3 := j2.on (by exact hb3)
  have b3 := Below.on b2 b2.size (by exact hb3)
  clear hb3 k2 j2 b2
  go_wp2_with fail
  have hu3 : ∀ W, Below w3.heap.size w3 W → Below w.heap.size w W := fun W hW => Below.on b3 b3.size hW
  generalize hg1 : w.heap.size = g1 at *
  refine wp_region_below w3.heap.size (by kernel_rfl) (by kernel_rfl) ?_
  repeat (first
    | go_big_quiet_skip
    | (go_big_quiet_want
       first
         | (refine qb_load (g := g1) (t := 45) (cs := P) 45 (.tmp 2) ?ho ?hx ?hA _ Tryd.underlying45 rfl zp ?_
            case ho => with_reducible rfl
            case hx => rfl
            case hA => exact fun w' hw' => k3.on hw'
            go_big_quiet_on
            simp only [Act.put, List.setIfInBounds_toArray, List.set_cons_succ, List.set_cons_zero])
         | (refine qb_load (g := (g1 + 1)) (t := 45) (cs := Q) 45 (.tmp 3) ?ho ?hx ?hA _ Tryd.underlying45 rfl zq ?_
            case ho => with_reducible rfl
            case hx => rfl
            case hA => exact fun w' hw' => j3.on hw'
            go_big_quiet_on
            simp only [Act.put, List.setIfInBounds_toArray, List.set_cons_succ, List.set_cons_zero])
         | (go_big_quiet_op
            first
              | go_big_quiet_on
              | (with_reducible refine ⟨_, fun _ _ => rfl, ?_⟩; go_big_quiet_on)
              | (apply Exists.intro
                 refine ⟨fun w' hw' => ?_, ?_⟩
                 · (go_at_call 36; with_reducible refine (H1.out _).mono ?_; exact fun _ _ h => ⟨h.1, Below.on hw' hw'.size h.2⟩)
                 go_big_quiet_on))))
  refine wpQuiet_nil ?_
  intro w4 hw4
  subst hg1
  have k4 := k3.on hw4
  have j4 := j3.on hw4
  have b4 := hu3 _ hw4
  clear k3 j3 b3 hu3 hw4
  go_wp2_with fail
  have hup : ∀ W, Below w4.heap.size w4 W → Below w.heap.size w W := fun W hW => Below.on b4 b4.size hW
  have hT : ∀ W, Below w4.heap.size w4 W → Tab W := fun W hW => Htab.out.on (hup W hW)
  have hH : ∀ W, Below w4.heap.size w4 W → Cl.HasM W := fun W hW => HM.out.on (hup W hW) hpos
  generalize hg1 : w.heap.size = g1 at *
  refine wp_region_below w4.heap.size (by kernel_rfl) (by kernel_rfl) ?_
  repeat (first
    | go_big_quiet_skip
    | (go_big_quiet_want
       first
         | (refine qb_load (g := g1) (t := 45) (cs := P) 45 (.tmp 2) ?ho ?hx ?hA _ Tryd.underlying45 rfl zp ?_
            case ho => with_reducible rfl
            case hx => rfl
            case hA => exact fun w' hw' => k4.on hw'
            go_big_quiet_on
            simp only [Act.put, List.setIfInBounds_toArray, List.set_cons_succ, List.set_cons_zero])
         | (refine qb_load (g := (g1 + 1)) (t := 45) (cs := Q) 45 (.tmp 3) ?ho ?hx ?hA _ Tryd.underlying45 rfl zq ?_
            case ho => with_reducible rfl
            case hx => rfl
            case hA => exact fun w' hw' => j4.on hw'
            go_big_quiet_on
            simp only [Act.put, List.setIfInBounds_toArray, List.set_cons_succ, List.set_cons_zero])
         | (go_big_quiet_op
            first
              | go_big_quiet_on
              | (with_reducible refine ⟨_, fun _ _ => rfl, ?_⟩; go_big_quiet_on)
              | (apply Exists.intro
                 refine ⟨fun w' hw' => ?_, ?_⟩
                 · (go_at_call 38; with_reducible refine (H6.out _).mono ?_; exact fun _ _ h => ⟨h.1, Below.on hw' hw'.size h.2⟩)
                 go_big_quiet_on)
              | (apply Exists.intro
                 refine ⟨fun w' hw' => ?_, ?_⟩
                 · (go_at_call 39; with_reducible refine (H7.out _).mono ?_; exact fun _ _ h => ⟨h.1, Below.on hw' hw'.size h.2⟩)
                 go_big_quiet_on)
              | (apply Exists.intro
                 refine ⟨fun w' hw' => ?_, ?_⟩
                 · (go_at_call 32; with_reducible refine (alive11 _ (hT _ hw') (hH _ hw')).mono ?_; exact fun _ _ h => ⟨h.1, Below.on hw' hw'.size h.2⟩)
                 go_big_quiet_on))))
  refine wpQuiet_nil ?_
  intro wz hwz
  go_wp2
  go_ret
  exact ⟨rfl, by first | exact hup _ hwz | (rw [hg1]; exact hup _ hwz)⟩

set_option maxHeartbeats 8000000 in
theorem pr_ttt_false_false (p q : Pfx) (w : World) (hp : pfxOk p) (hq : pfxOk q) (htab : Tab w) (hm : Cl.HasM w) (hrp : rightP p = true) (hrq : rightP q = true) (hc : covB p q = true) (hL : lessP p q = false) (hd : covB q p = false) :
    Calls Tryd.prog 7 #[.agg (pf p), .agg (pf q)] w fun e w' => e = .returned (.bool true) ∧ Below w.heap.size w w' := by
  have HM := Lib.hid hm
  have Htab := Lib.hid htab
  have hpos := hm.pos
  have h1 := fun W => ccovers_any p q hp hq W
  have h2 := fun W => refccovers_any p q hp hq W
  have h3 := fun W => refcright_any p hp W
  have h4 := fun W => refcright_any q hq W
  have h5 := fun W => ccovers_any q p hq hp W
  have h6 := fun W => cless_any p q hp hq W
  have h7 := fun W => refcless_any p q hp hq W
  rw [hc] at h1 h2
  rw [hrp] at h3
  rw [hrq] at h4
  rw [hL] at h6 h7
  have hde := cov_back p q hrp hrq hc
  rw [hd] at h5 hde
  have H1 := Lib.hid h1
  have H2 := Lib.hid h2
  have H3 := Lib.hid h3
  have H4 := Lib.hid h4
  have H5 := Lib.hid h5
  have H6 := Lib.hid h6
  have H7 := Lib.hid h7
  have zp : (Tryd.prog.info? 45).map (·.size) = some (pf p).size := by rw [pf_size p hp.2.1]; exact Tryd.infoPfx
  have zq : (Tryd.prog.info? 45).map (·.size) = some (pf q).size := by rw [pf_size q hq.2.1]; exact Tryd.infoPfx
  have he := pf_eq p q hp.2.1 hq.2.1
  rw [← hde] at he
  have HE := Lib.hid he
  have k0 : Blk ((w.alloc (.cells (pf p) 45)).alloc (.cells (pf q) 45)) w.heap.size 45 (pf p) := (blk_new _ _ _).alloc _
  have j0 : Blk ((w.alloc (.cells (pf p) 45)).alloc (.cells (pf q) 45)) (w.heap.size + 1) 45 (pf q) := blk_new' _ _ _ _ (by simp)
  have b0 : Below w.heap.size w ((w.alloc (.cells (pf p) 45)).alloc (.cells (pf q) 45)) := ((Below.refl _ _).alloc (Nat.le_refl _) _).alloc (by simp) _
  clear h1 h2 h3 h4 h5 h6 h7 hm htab he hp hq hrp hc hrq hL hd hde
  generalize pf p = P at *
  generalize pf q = Q at *
  go_enter Tryd.func7, Tryd.ntmps7
  go_wp2_with fail
  generalize (w.alloc (.cells P 45)).alloc (.cells Q 45) = w0 at *
  have hu0 : ∀ W, Below w0.heap.size w0 W → Below w.heap.size w W := fun W hW => Below.on b0 b0.size hW
  generalize hg1 : w.heap.size = g1 at *
  refine wp_region_below w0.heap.size (by kernel_rfl) (by kernel_rfl) ?_
  repeat (first
    | go_big_quiet_skip
    | (go_big_quiet_want
       first
         | (refine qb_load (g := g1) (t := 45) (cs := P) 45 (.tmp 2) ?ho ?hx ?hA _ Tryd.underlying45 rfl zp ?_
            case ho => with_reducible rfl
            case hx => rfl
            case hA => exact fun w' hw' => k0.on hw'
            go_big_quiet_on
            simp only [Act.put, List.setIfInBounds_toArray, List.set_cons_succ, List.set_cons_zero])
         | (refine qb_load (g := (g1 + 1)) (t := 45) (cs := Q) 45 (.tmp 3) ?ho ?hx ?hA _ Tryd.underlying45 rfl zq ?_
            case ho => with_reducible rfl
            case hx => rfl
            case hA => exact fun w' hw' => j0.on hw'
            go_big_quiet_on
            simp only [Act.put, List.setIfInBounds_toArray, List.set_cons_succ, List.set_cons_zero])
         | (go_big_quiet_op
            first
              | go_big_quiet_on
              | (with_reducible refine ⟨_, fun _ _ => rfl, ?_⟩; go_big_quiet_on)
              | (apply Exists.intro
                 refine ⟨fun w' hw' => ?_, ?_⟩
                 · (go_at_call 36; with_reducible refine (H1.out _).mono ?_; exact fun _ _ h => ⟨h.1, Below.on hw' hw'.size h.2⟩)
                 go_big_quiet_on)
              | (apply Exists.intro
                 refine ⟨fun w' hw' => ?_, ?_⟩
                 · (go_at_call 37; with_reducible refine (H2.out _).mono ?_; exact fun _ _ h => ⟨h.1, Below.on hw' hw'.size h.2⟩)
                 go_big_quiet_on))))
  refine wpQuiet_nil ?_
  intro w1 hw1
  subst hg1
  have k1 := k0.on hw1
  have j1 := j0.on hw1
  have b1 := hu0 _ hw1
  clear k0 j0 b0 hu0 hw1
  go_wp2_with (first
    | (refine wpList_loadBlk (g := w.heap.size) (t := 45) (cs := P) ?hw 45 (.tmp 2) ?ho ?hx ?hA _ Tryd.underlying45 rfl ?hi ?_
       case hw => rfl
       case ho => with_reducible rfl
       case hx => rfl
       case hA => exact k1
       case hi => exact zp)
    | fail)
  refine (H3.out _).mono ?_; rintro e w2 ⟨rfl, hb2⟩
  have k2 := k1.on (by exact hb2)
  have j2 := j1.on (by exact hb2)
  have b2 := Below.on b1 b1.size (by exact hb2)
  clear hb2 k1 j1 b1
  go_wp2_with (first
    | (refine wpList_loadBlk (g := w.heap.size + 1) (t := 45) (cs := Q) ?hw 45 (.tmp 3) ?ho ?hx ?hA _ Tryd.underlying45 rfl ?hi ?_
       case hw => rfl
       case ho => with_reducible rfl
       case hx => rfl
       case hA => exact j2
       case hi => exact zq)
    | fail)
  refine (H4.out _).mono ?_; rintro e w3 ⟨rfl, hb3⟩
  have k3 := k2.on (by exact hb3)
  have j3 := j2.on (by exact hb3)
  have b3 := Below.on b2 b2.size (by exact hb3)
  clear hb3 k2 j2 b2
  go_wp2_with fail
  have hu3 : ∀ W, Below w3.heap.size w3 W → Below w.heap.size w W := fun W hW => Below.on b3 b3.size hW
  generalize hg1 : w.heap.size = g1 at *
  refine wp_region_below w3.heap.size (by kernel_rfl) (by kernel_rfl) ?_
  repeat (first
    | go_big_quiet_skip
    | (go_big_quiet_want
       first
         | (refine qb_load (g := g1) (t := 45) (cs := P) 45 (.tmp 2) ?ho ?hx ?hA _ Tryd.underlying45 rfl zp ?_
            case ho => with_reducible rfl
            case hx => rfl
            case hA => exact fun w' hw' => k3.on hw'
            go_big_quiet_on
            simp only [Act.put, List.setIfInBounds_toArray, List.set_cons_succ, List.set_cons_zero])
         | (refine qb_load (g := (g1 + 1)) (t := 45) (cs := Q) 45 (.tmp 3) ?ho ?hx ?hA _ Tryd.underlying45 rfl zq ?_
            case ho => with_reducible rfl
            case hx => rfl
            case hA => exact fun w' hw' => j3.on hw'
            go_big_quiet_on
            simp only [Act.put, List.setIfInBounds_toArray, List.set_cons_succ, List.set_cons_zero])
         | (refine qe_eql (cs := P) (ds := Q) (b := false) 45 45 (.tmp 34) (.tmp 35) ?ho ?hx ?hy Tryd.plainPfx ?he ?_
            case ho => with_reducible rfl
            case hx => rfl
            case hy => rfl
            case he => exact HE.out
            go_big_quiet_on
            simp only [Act.put, List.setIfInBounds_toArray, List.set_cons_succ, List.set_cons_zero])
         | (go_big_quiet_op
            first
              | go_big_quiet_on
              | (with_reducible refine ⟨_, fun _ _ => rfl, ?_⟩; go_big_quiet_on)
              | (apply Exists.intro
                 refine ⟨fun w' hw' => ?_, ?_⟩
                 · (go_at_call 36; with_reducible refine (H1.out _).mono ?_; exact fun _ _ h => ⟨h.1, Below.on hw' hw'.size h.2⟩)
                 go_big_quiet_on)
              | (apply Exists.intro
                 refine ⟨fun w' hw' => ?_, ?_⟩
                 · (go_at_call 36; with_reducible refine (H5.out _).mono ?_; exact fun _ _ h => ⟨h.1, Below.on hw' hw'.size h.2⟩)
                 go_big_quiet_on))))
  refine wpQuiet_nil ?_
  intro w4 hw4
  subst hg1
  have k4 := k3.on hw4
  have j4 := j3.on hw4
  have b4 := hu3 _ hw4
  clear k3 j3 b3 hu3 hw4
  go_wp2_with fail
  have hup : ∀ W, Below w4.heap.size w4 W → Below w.heap.size w W := fun W hW => Below.on b4 b4.size hW
  have hT : ∀ W, Below w4.heap.size w4 W → Tab W := fun W hW => Htab.out.on (hup W hW)
  have hH : ∀ W, Below w4.heap.size w4 W → Cl.HasM W := fun W hW => HM.out.on (hup W hW) hpos
  generalize hg1 : w.heap.size = g1 at *
  refine wp_region_below w4.heap.size (by kernel_rfl) (by kernel_rfl) ?_
  repeat (first
    | go_big_quiet_skip
    | (go_big_quiet_want
       first
         | (refine qb_load (g := g1) (t := 45) (cs := P) 45 (.tmp 2) ?ho ?hx ?hA _ Tryd.underlying45 rfl zp ?_
            case ho => with_reducible rfl
            case hx => rfl
            case hA => exact fun w' hw' => k4.on hw'
            go_big_quiet_on
            simp only [Act.put, List.setIfInBounds_toArray, List.set_cons_succ, List.set_cons_zero])
         | (refine qb_load (g := (g1 + 1)) (t := 45) (cs := Q) 45 (.tmp 3) ?ho ?hx ?hA _ Tryd.underlying45 rfl zq ?_
            case ho => with_reducible rfl
            case hx => rfl
            case hA => exact fun w' hw' => j4.on hw'
            go_big_quiet_on
            simp only [Act.put, List.setIfInBounds_toArray, List.set_cons_succ, List.set_cons_zero])
         | (go_big_quiet_op
            first
              | go_big_quiet_on
              | (with_reducible refine ⟨_, fun _ _ => rfl, ?_⟩; go_big_quiet_on)
              | (apply Exists.intro
                 refine ⟨fun w' hw' => ?_, ?_⟩
                 · (go_at_call 38; with_reducible refine (H6.out _).mono ?_; exact fun _ _ h => ⟨h.1, Below.on hw' hw'.size h.2⟩)
                 go_big_quiet_on)
              | (apply Exists.intro
                 refine ⟨fun w' hw' => ?_, ?_⟩
                 · (go_at_call 39; with_reducible refine (H7.out _).mono ?_; exact fun _ _ h => ⟨h.1, Below.on hw' hw'.size h.2⟩)
                 go_big_quiet_on)
              | (apply Exists.intro
                 refine ⟨fun w' hw' => ?_, ?_⟩
                 · (go_at_call 32; with_reducible refine (alive11 _ (hT _ hw') (hH _ hw')).mono ?_; exact fun _ _ h => ⟨h.1, Below.on hw' hw'.size h.2⟩)
                 go_big_quiet_on))))
  refine wpQuiet_nil ?_
  intro wz hwz
  go_wp2
  go_ret
  exact ⟨rfl, by first | exact hup _ hwz | (rw [hg1]; exact hup _ hwz)⟩

set_option maxHeartbeats 8000000 in
theorem pr_ttt_false_true (p q : Pfx) (w : World) (hp : pfxOk p) (hq : pfxOk q) (htab : Tab w) (hm : Cl.HasM w) (hrp : rightP p = true) (hrq : rightP q = true) (hc : covB p q = true) (hL : lessP p q = false) (hd : covB q p = true) :
    Calls Tryd.prog 7 #[.agg (pf p), .agg (pf q)] w fun e w' => e = .returned (.bool true) ∧ Below w.heap.size w w' := by
  have HM := Lib.hid hm
  have Htab := Lib.hid htab
  have hpos := hm.pos
  have h1 := fun W => ccovers_any p q hp hq W
  have h2 := fun W => refccovers_any p q hp hq W
  have h3 := fun W => refcright_any p hp W
  have h4 := fun W => refcright_any q hq W
  have h5 := fun W => ccovers_any q p hq hp W
  have h6 := fun W => cless_any p q hp hq W
  have h7 := fun W => refcless_any p q hp hq W
  rw [hc] at h1 h2
  rw [hrp] at h3
  rw [hrq] at h4
  rw [hL] at h6 h7
  have hde := cov_back p q hrp hrq hc
  rw [hd] at h5 hde
  have H1 := Lib.hid h1
  have H2 := Lib.hid h2
  have H3 := Lib.hid h3
  have H4 := Lib.hid h4
  have H5 := Lib.hid h5
  have H6 := Lib.hid h6
  have H7 := Lib.hid h7
  have zp : (Tryd.prog.info? 45).map (·.size) = some (pf p).size := by rw [pf_size p hp.2.1]; exact Tryd.infoPfx
  have zq : (Tryd.prog.info? 45).map (·.size) = some (pf q).size := by rw [pf_size q hq.2.1]; exact Tryd.infoPfx
  have he := pf_eq p q hp.2.1 hq.2.1
  rw [← hde] at he
  have HE := Lib.hid he
  have k0 : Blk ((w.alloc (.cells (pf p) 45)).alloc (.cells (pf q) 45)) w.heap.size 45 (pf p) := (blk_new _ _ _).alloc _
  have j0 : Blk ((w.alloc (.cells (pf p) 45)).alloc (.cells (pf q) 45)) (w.heap.size + 1) 45 (pf q) := blk_new' _ _ _ _ (by simp)
  have b0 : Below w.heap.size w ((w.alloc (.cells (pf p) 45)).alloc (.cells (pf q) 45)) := ((Below.refl _ _).alloc (Nat.le_refl _) _).alloc (by simp) _
  clear h1 h2 h3 h4 h5 h6 h7 hm htab he hp hq hrp hc hrq hL hd hde
  generalize pf p = P at *
  generalize pf q = Q at *
  go_enter Tryd.func7, Tryd.ntmps7
  go_wp2_with fail
  generalize (w.alloc (.cells P 45)).alloc (.cells Q 45) = w0 at *
  have hu0 : ∀ W, Below w0.heap.size w0 W → Below w.heap.size w W := fun W hW => Below.on b0 b0.size hW
  generalize hg1 : w.heap.size = g1 at *
  refine wp_region_below w0.heap.size (by kernel_rfl) (by kernel_rfl) ?_
  repeat (first
    | go_big_quiet_skip
    | (go_big_quiet_want
       first
         | (refine qb_load (g := g1) (t := 45) (cs := P) 45 (.tmp 2) ?ho ?hx ?hA _ Tryd.underlying45 rfl zp ?_
            case ho => with_reducible rfl
            case hx => rfl
            case hA => exact fun w' hw' => k0.on hw'
            go_big_quiet_on
            simp only [Act.put, List.setIfInBounds_toArray, List.set_cons_succ, List.set_cons_zero])
         | (refine qb_load (g := (g1 + 1)) (t := 45) (cs := Q) 45 (.tmp 3) ?ho ?hx ?hA _ Tryd.underlying45 rfl zq ?_
            case ho => with_reducible rfl
            case hx => rfl
            case hA => exact fun w' hw' => j0.on hw'
            go_big_quiet_on
            simp only [Act.put, List.setIfInBounds_toArray, List.set_cons_succ, List.set_cons_zero])
         | (go_big_quiet_op
            first
              | go_big_quiet_on
              | (with_reducible refine ⟨_, fun _ _ => rfl, ?_⟩; go_big_quiet_on)
              | (apply Exists.intro
                 refine ⟨fun w' hw' => ?_, ?_⟩
                 · (go_at_call 36; with_reducible refine (H1.out _).mono ?_; exact fun _ _ h => ⟨h.1, Below.on hw' hw'.size h.2⟩)
                 go_big_quiet_on)
              | (apply Exists.intro
                 refine ⟨fun w' hw' => ?_, ?_⟩
                 · (go_at_call 37; with_reducible refine (H2.out _).mono ?_; exact fun _ _ h => ⟨h.1, Below.on hw' hw'.size h.2⟩)
                 go_big_quiet_on))))
  refine wpQuiet_nil ?_
  intro w1 hw1
  subst hg1
  have k1 := k0.on hw1
  have j1 := j0.on hw1
  have b1 := hu0 _ hw1
  clear k0 j0 b0 hu0 hw1
  go_wp2_with (first
    | (refine wpList_loadBlk (g := w.heap.size) (t := 45) (cs := P) ?hw 45 (.tmp 2) ?ho ?hx ?hA _ Tryd.underlying45 rfl ?hi ?_
       case hw => rfl
       case ho => with_reducible rfl
       case hx => rfl
       case hA => exact k1
       case hi => exact zp)
    | fail)
  refine (H3.out _).mono ?_; rintro e w2 ⟨rfl, hb2⟩
  have k2 := k1.on (by exact hb2)
  have j2 := j1.on (by exact hb2)
  have b2 := Below.on b1 b1.size (by exact hb2)
  clear hb2 k1 j1 b1
  go_wp2_with (first
    | (refine wpList_loadBlk (g := w.heap.size + 1) (t := 45) (cs := Q) ?hw 45 (.tmp 3) ?ho ?hx ?hA _ Tryd.underlying45 rfl ?hi ?_
       case hw => rfl
       case ho => with_reducible rfl
       case hx => rfl
       case hA => exact j2
       case hi => exact zq)
    | fail)
  refine (H4.out _).mono ?_; rintro e w3 ⟨rfl, hb3⟩
  have k3 := k2.on (by exact hb3)
  have j3 := j2.on (by exact hb3)
  have b3 := Below.on b2 b2.size (by exact hb3)
  clear hb3 k2 j2 b2
  go_wp2_with fail
  have hu3 : ∀ W, Below w3.heap.size w3 W → Below w.heap.size w W := fun W hW => Below.on b3 b3.size hW
  generalize hg1 : w.heap.size = g1 at *
  refine wp_region_below w3.heap.size (by kernel_rfl) (by kernel_rfl) ?_
  repeat (first
    | go_big_quiet_skip
    | (go_big_quiet_want
       first
         | (refine qb_load (g := g1) (t := 45) (cs := P) 45 (.tmp 2) ?ho ?hx ?hA _ Tryd.underlying45 rfl zp ?_
            case ho => with_reducible rfl
            case hx => rfl
            case hA => exact fun w' hw' => k3.on hw'
            go_big_quiet_on
            simp only [Act.put, List.setIfInBounds_toArray, List.set_cons_succ, List.set_cons_zero])
         | (refine qb_load (g := (g1 + 1)) (t := 45) (cs := Q) 45 (.tmp 3) ?ho ?hx ?hA _ Tryd.underlying45 rfl zq ?_
            case ho => with_reducible rfl
            case hx => rfl
            case hA => exact fun w' hw' => j3.on hw'
            go_big_quiet_on
            simp only [Act.put, List.setIfInBounds_toArray, List.set_cons_succ, List.set_cons_zero])
         | (refine qe_eql (cs := P) (ds := Q) (b := true) 45 45 (.tmp 34) (.tmp 35) ?ho ?hx ?hy Tryd.plainPfx ?he ?_
            case ho => with_reducible rfl
            case hx => rfl
            case hy => rfl
            case he => exact HE.out
            go_big_quiet_on
            simp only [Act.put, List.setIfInBounds_toArray, List.set_cons_succ, List.set_cons_zero])
         | (go_big_quiet_op
            first
              | go_big_quiet_on
              | (with_reducible refine ⟨_, fun _ _ => rfl, ?_⟩; go_big_quiet_on)
              | (apply Exists.intro
                 refine ⟨fun w' hw' => ?_, ?_⟩
                 · (go_at_call 36; with_reducible refine (H1.out _).mono ?_; exact fun _ _ h => ⟨h.1, Below.on hw' hw'.size h.2⟩)
                 go_big_quiet_on)
              | (apply Exists.intro
                 refine ⟨fun w' hw' => ?_, ?_⟩
                 · (go_at_call 36; with_reducible refine (H5.out _).mono ?_; exact fun _ _ h => ⟨h.1, Below.on hw' hw'.size h.2⟩)
                 go_big_quiet_on))))
  refine wpQuiet_nil ?_
  intro w4 hw4
  subst hg1
  have k4 := k3.on hw4
  have j4 := j3.on hw4
  have b4 := hu3 _ hw4
  clear k3 j3 b3 hu3 hw4
  go_wp2_with fail
  have hup : ∀ W, Below w4.heap.size w4 W → Below w.heap.size w W := fun W hW => Below.on b4 b4.size hW
  have hT : ∀ W, Below w4.heap.size w4 W → Tab W := fun W hW => Htab.out.on (hup W hW)
  have hH : ∀ W, Below w4.heap.size w4 W → Cl.HasM W := fun W hW => HM.out.on (hup W hW) hpos
  generalize hg1 : w.heap.size = g1 at *
  refine wp_region_below w4.heap.size (by kernel_rfl) (by kernel_rfl) ?_
  repeat (first
    | go_big_quiet_skip
    | (go_big_quiet_want
       first
         | (refine qb_load (g := g1) (t := 45) (cs := P) 45 (.tmp 2) ?ho ?hx ?hA _ Tryd.underlying45 rfl zp ?_
            case ho => with_reducible rfl
            case hx => rfl
            case hA => exact fun w' hw' => k4.on hw'
            go_big_quiet_on
            simp only [Act.put, List.setIfInBounds_toArray, List.set_cons_succ, List.set_cons_zero])
         | (refine qb_load (g := (g1 + 1)) (t := 45) (cs := Q) 45 (.tmp 3) ?ho ?hx ?hA _ Tryd.underlying45 rfl zq ?_
            case ho => with_reducible rfl
            case hx => rfl
            case hA => exact fun w' hw' => j4.on hw'
            go_big_quiet_on
            simp only [Act.put, List.setIfInBounds_toArray, List.set_cons_succ, List.set_cons_zero])
         | (go_big_quiet_op
            first
              | go_big_quiet_on
              | (with_reducible refine ⟨_, fun _ _ => rfl, ?_⟩; go_big_quiet_on)
              | (apply Exists.intro
                 refine ⟨fun w' hw' => ?_, ?_⟩
                 · (go_at_call 38; with_reducible refine (H6.out _).mono ?_; exact fun _ _ h => ⟨h.1, Below.on hw' hw'.size h.2⟩)
                 go_big_quiet_on)
              | (apply Exists.intro
                 refine ⟨fun w' hw' => ?_, ?_⟩
                 · (go_at_call 39; with_reducible refine (H7.out _).mono ?_; exact fun _ _ h => ⟨h.1, Below.on hw' hw'.size h.2⟩)
                 go_big_quiet_on)
              | (apply Exists.intro
                 refine ⟨fun w' hw' => ?_, ?_⟩
                 · (go_at_call 32; with_reducible refine (alive11 _ (hT _ hw') (hH _ hw')).mono ?_; exact fun _ _ h => ⟨h.1, Below.on hw' hw'.size h.2⟩)
                 go_big_quiet_on))))
  refine wpQuiet_nil ?_
  intro wz hwz
  go_wp2
  go_ret
  exact ⟨rfl, by first | exact hup _ hwz | (rw [hg1]; exact hup _ hwz)⟩

set_option maxHeartbeats 8000000 in
theorem pr_ttf_true (p q : Pfx) (w : World) (hp : pfxOk p) (hq : pfxOk q) (htab : Tab w) (hm : Cl.HasM w) (hrp : rightP p = true) (hrq : rightP q = true) (hc : covB p q = false) (hL : lessP p q = true) :
    Calls Tryd.prog 7 #[.agg (pf p), .agg (pf q)] w fun e w' => e = .returned (.bool true) ∧ Below w.heap.size w w' := by
  have HM := Lib.hid hm
  have Htab := Lib.hid htab
  have hpos := hm.pos
  have h1 := fun W => ccovers_any p q hp hq W
  have h2 := fun W => refccovers_any p q hp hq W
  have h3 := fun W => refcright_any p hp W
  have h4 := fun W => refcright_any q hq W
  have h5 := fun W => ccovers_any q p hq hp W
  have h6 := fun W => cless_any p q hp hq W
  have h7 := fun W => refcless_any p q hp hq W
  rw [hc] at h1 h2
  rw [hrp] at h3
  rw [hrq] at h4
  rw [hL] at h6 h7
  have H1 := Lib.hid h1
  have H2 := Lib.hid h2
  have H3 := Lib.hid h3
  have H4 := Lib.hid h4
  have H5 := Lib.hid h5
  have H6 := Lib.hid h6
  have H7 := Lib.hid h7
  have zp : (Tryd.prog.info? 45).map (·.size) = some (pf p).size := by rw [pf_size p hp.2.1]; exact Tryd.infoPfx
  have zq : (Tryd.prog.info? 45).map (·.size) = some (pf q).size := by rw [pf_size q hq.2.1]; exact Tryd.infoPfx
  have he := pf_eq p q hp.2.1 hq.2.1
  have HE := Lib.hid he
  have k0 : Blk ((w.alloc (.cells (pf p) 45)).alloc (.cells (pf q) 45)) w.heap.size 45 (pf p) := (blk_new _ _ _).alloc _
  have j0 : Blk ((w.alloc (.cells (pf p) 45)).alloc (.cells (pf q) 45)) (w.heap.size + 1) 45 (pf q) := blk_new' _ _ _ _ (by simp)
  have b0 : Below w.heap.size w ((w.alloc (.cells (pf p) 45)).alloc (.cells (pf q) 45)) := ((Below.refl _ _).alloc (Nat.le_refl _) _).alloc (by simp) _
  clear h1 h2 h3 h4 h5 h6 h7 hm htab he hp hq hrp hc hrq hL
  generalize pf p = P at *
  generalize pf q = Q at *
  go_enter Tryd.func7, Tryd.ntmps7
  go_wp2_with fail
  generalize (w.alloc (.cells P 45)).alloc (.cells Q 45) = w0 at *
  have hu0 : ∀ W, Below w0.heap.size w0 W → Below w.heap.size w W := fun W hW => Below.on b0 b0.size hW
  generalize hg1 : w.heap.size = g1 at *
  refine wp_region_below w0.heap.size (by kernel_rfl) (by kernel_rfl) ?_
  repeat (first
    | go_big_quiet_skip
    | (go_big_quiet_want
       first
         | (refine qb_load (g := g1) (t := 45) (cs := P) 45 (.tmp 2) ?ho ?hx ?hA _ Tryd.underlying45 rfl zp ?_
            case ho => with_reducible rfl
            case hx => rfl
            case hA => exact fun w' hw' => k0.on hw'
            go_big_quiet_on
            simp only [Act.put, List.setIfInBounds_toArray, List.set_cons_succ, List.set_cons_zero])
         | (refine qb_load (g := (g1 + 1)) (t := 45) (cs := Q) 45 (.tmp 3) ?ho ?hx ?hA _ Tryd.underlying45 rfl zq ?_
            case ho => with_reducible rfl
            case hx => rfl
            case hA => exact fun w' hw' => j0.on hw'
            go_big_quiet_on
            simp only [Act.put, List.setIfInBounds_toArray, List.set_cons_succ, List.set_cons_zero])
         | (go_big_quiet_op
            first
              | go_big_quiet_on
              | (with_reducible refine ⟨_, fun _ _ => rfl, ?_⟩; go_big_quiet_on)
              | (apply Exists.intro
                 refine ⟨fun w' hw' => ?_, ?_⟩
                 · (go_at_call 36; with_reducible refine (H1.out _).mono ?_; exact fun _ _ h => ⟨h.1, Below.on hw' hw'.size h.2⟩)
                 go_big_quiet_on)
              | (apply Exists.intro
                 refine ⟨fun w' hw' => ?_, ?_⟩
                 · (go_at_call 37; with_reducible refine (H2.out _).mono ?_; exact fun _ _ h => ⟨h.1, Below.on hw' hw'.size h.2⟩)
                 go_big_quiet_on))))
  refine wpQuiet_nil ?_
  intro w1 hw1
  subst hg1
  have k1 := k0.on hw1
  have j1 := j0.on hw1
  have b1 := hu0 _ hw1
  clear k0 j0 b0 hu0 hw1
  go_wp2_with (first
    | (refine wpList_loadBlk (g := w.heap.size) (t := 45) (cs := P) ?hw 45 (.tmp 2) ?ho ?hx ?hA _ Tryd.underlying45 rfl ?hi ?_
       case hw => rfl
       case ho => with_reducible rfl
       case hx => rfl
       case hA => exact k1
       case hi => exact zp)
    | fail)
  refine (H3.out _).mono ?_; rintro e w2 ⟨rfl, hb2⟩
  have k2 := k1.on (by exact hb2)
  have j2 := j1.on (by exact hb2)
  have b2 := Below.on b1 b1.size (by exact hb2)
  clear hb2 k1 j1 b1
  go_wp2_with (first
    | (refine wpList_loadBlk (g := w.heap.size + 1) (t := 45) (cs := Q) ?hw 45 (.tmp 3) ?ho ?hx ?hA _ Tryd.underlying45 rfl ?hi ?_
       case hw => rfl
       case ho => with_reducible rfl
       case hx => rfl
       case hA => exact j2
       case hi => exact zq)
    | fail)
  refine (H4.out _).mono ?_; rintro e w3 ⟨rfl, hb3⟩
  have k3 := k2.on (by exact hb3)
  have j3 := j2.on (by exact hb3)
  have b3 := Below.on b2 b2.size (by exact hb3)
  clear hb3 k2 j2 b2
  go_wp2_with fail
  have hu3 : ∀ W, Below w3.heap.size w3 W → Below w.heap.size w W := fun W hW => Below.on b3 b3.size hW
  generalize hg1 : w.heap.size = g1 at *
  refine wp_region_below w3.heap.size (by kernel_rfl) (by kernel_rfl) ?_
  repeat (first
    | go_big_quiet_skip
    | (go_big_quiet_want
       first
         | (refine qb_load (g := g1) (t := 45) (cs := P) 45 (.tmp 2) ?ho ?hx ?hA _ Tryd.underlying45 rfl zp ?_
            case ho => with_reducible rfl
            case hx => rfl
            case hA => exact fun w' hw' => k3.on hw'
            go_big_quiet_on
            simp only [Act.put, List.setIfInBounds_toArray, List.set_cons_succ, List.set_cons_zero])
         | (refine qb_load (g := (g1 + 1)) (t := 45) (cs := Q) 45 (.tmp 3) ?ho ?hx ?hA _ Tryd.underlying45 rfl zq ?_
            case ho => with_reducible rfl
            case hx => rfl
            case hA => exact fun w' hw' => j3.on hw'
            go_big_quiet_on
            simp only [Act.put, List.setIfInBounds_toArray, List.set_cons_succ, List.set_cons_zero])
         | (go_big_quiet_op
            first
              | go_big_quiet_on
              | (with_reducible refine ⟨_, fun _ _ => rfl, ?_⟩; go_big_quiet_on)
              | (apply Exists.intro
                 refine ⟨fun w' hw' => ?_, ?_⟩
                 · (go_at_call 36; with_reducible refine (H1.out _).mono ?_; exact fun _ _ h => ⟨h.1, Below.on hw' hw'.size h.2⟩)
                 go_big_quiet_on))))
  refine wpQuiet_nil ?_
  intro w4 hw4
  subst hg1
  have k4 := k3.on hw4
  have j4 := j3.on hw4
  have b4 := hu3 _ hw4
  clear k3 j3 b3 hu3 hw4
  go_wp2_with fail
  have hup : ∀ W, Below w4.heap.size w4 W → Below w.heap.size w W := fun W hW => Below.on b4 b4.size hW
  have hT : ∀ W, Below w4.heap.size w4 W → Tab W := fun W hW => Htab.out.on (hup W hW)
  have hH : ∀ W, Below w4.heap.size w4 W → Cl.HasM W := fun W hW => HM.out.on (hup W hW) hpos
  generalize hg1 : w.heap.size = g1 at *
  refine wp_region_below w4.heap.size (by kernel_rfl) (by kernel_rfl) ?_
  repeat (first
    | go_big_quiet_skip
    | (go_big_quiet_want
       first
         | (refine qb_load (g := g1) (t := 45) (cs := P) 45 (.tmp 2) ?ho ?hx ?hA _ Tryd.underlying45 rfl zp ?_
            case ho => with_reducible rfl
            case hx => rfl
            case hA => exact fun w' hw' => k4.on hw'
            go_big_quiet_on
            simp only [Act.put, List.setIfInBounds_toArray, List.set_cons_succ, List.set_cons_zero])
         | (refine qb_load (g := (g1 + 1)) (t := 45) (cs := Q) 45 (.tmp 3) ?ho ?hx ?hA _ Tryd.underlying45 rfl zq ?_
            case ho => with_reducible rfl
            case hx => rfl
            case hA => exact fun w' hw' => j4.on hw'
            go_big_quiet_on
            simp only [Act.put, List.setIfInBounds_toArray, List.set_cons_succ, List.set_cons_zero])
         | (go_big_quiet_op
            first
              | go_big_quiet_on
              | (with_reducible refine ⟨_, fun _ _ => rfl, ?_⟩; go_big_quiet_on)
              | (apply Exists.intro
                 refine ⟨fun w' hw' => ?_, ?_⟩
                 · (go_at_call 38; with_reducible refine (H6.out _).mono ?_; exact fun _ _ h => ⟨h.1, Below.on hw' hw'.size h.2⟩)
                 go_big_quiet_on)
              | (apply Exists.intro
                 refine ⟨fun w' hw' => ?_, ?_⟩
                 · (go_at_call 39; with_reducible refine (H7.out _).mono ?_; exact fun _ _ h => ⟨h.1, Below.on hw' hw'.size h.2⟩)
                 go_big_quiet_on)
              | (apply Exists.intro
                 refine ⟨fun w' hw' => ?_, ?_⟩
                 · (go_at_call 32; with_reducible refine (alive11 _ (hT _ hw') (hH _ hw')).mono ?_; exact fun _ _ h => ⟨h.1, Below.on hw' hw'.size h.2⟩)
                 go_big_quiet_on))))
  refine wpQuiet_nil ?_
  intro wz hwz
  go_wp2
  go_ret
  exact ⟨rfl, by first | exact hup _ hwz | (rw [hg1]; exact hup _ hwz)⟩

set_option maxHeartbeats 8000000 in
theorem pr_ttt_true_false (p q : Pfx) (w : World) (hp : pfxOk p) (hq : pfxOk q) (htab : Tab w) (hm : Cl.HasM w) (hrp : rightP p = true) (hrq : rightP q = true) (hc : covB p q = true) (hL : lessP p q = true) (hd : covB q p = false) :
    Calls Tryd.prog 7 #[.agg (pf p), .agg (pf q)] w fun e w' => e = .returned (.bool true) ∧ Below w.heap.size w w' := by
  have HM := Lib.hid hm
  have Htab := Lib.hid htab
  have hpos := hm.pos
  have h1 := fun W => ccovers_any p q hp hq W
  have h2 := fun W => refccovers_any p q hp hq W
  have h3 := fun W => refcright_any p hp W
  have h4 := fun W => refcright_any q hq W
  have h5 := fun W => ccovers_any q p hq hp W
  have h6 := fun W => cless_any p q hp hq W
  have h7 := fun W => refcless_any p q hp hq W
  rw [hc] at h1 h2
  rw [hrp] at h3
  rw [hrq] at h4
  rw [hL] at h6 h7
  have hde := cov_back p q hrp hrq hc
  rw [hd] at h5 hde
  have H1 := Lib.hid h1
  have H2 := Lib.hid h2
  have H3 := Lib.hid h3
  have H4 := Lib.hid h4
  have H5 := Lib.hid h5
  have H6 := Lib.hid h6
  have H7 := Lib.hid h7
  have zp : (Tryd.prog.info? 45).map (·.size) = some (pf p).size := by rw [pf_size p hp.2.1]; exact Tryd.infoPfx
  have zq : (Tryd.prog.info? 45).map (·.size) = some (pf q).size := by rw [pf_size q hq.2.1]; exact Tryd.infoPfx
  have he := pf_eq p q hp.2.1 hq.2.1
  rw [← hde] at he
  have HE := Lib.hid he
  have k0 : Blk ((w.alloc (.cells (pf p) 45)).alloc (.cells (pf q) 45)) w.heap.size 45 (pf p) := (blk_new _ _ _).alloc _
  have j0 : Blk ((w.alloc (.cells (pf p) 45)).alloc (.cells (pf q) 45)) (w.heap.size + 1) 45 (pf q) := blk_new' _ _ _ _ (by simp)
  have b0 : Below w.heap.size w ((w.alloc (.cells (pf p) 45)).alloc (.cells (pf q) 45)) := ((Below.refl _ _).alloc (Nat.le_refl _) _).alloc (by simp) _
  clear h1 h2 h3 h4 h5 h6 h7 hm htab he hp hq hrp hc hrq hL hd hde
  generalize pf p = P at *
  generalize pf q = Q at *
  go_enter Tryd.func7, Tryd.ntmps7
  go_wp2_with fail
  generalize (w.alloc (.cells P 45)).alloc (.cells Q 45) = w0 at *
  have hu0 : ∀ W, Below w0.heap.size w0 W → Below w.heap.size w W := fun W hW => Below.on b0 b0.size hW
  generalize hg1 : w.heap.size = g1 at *
  refine wp_region_below w0.heap.size (by kernel_rfl) (by kernel_rfl) ?_
  repeat (first
    | go_big_quiet_skip
    | (go_big_quiet_want
       first
         | (refine qb_load (g := g1) (t := 45) (cs := P) 45 (.tmp 2) ?ho ?hx ?hA _ Tryd.underlying45 rfl zp ?_
            case ho => with_reducible rfl
            case hx => rfl
            case hA => exact fun w' hw' => k0.on hw'
            go_big_quiet_on
            simp only [Act.put, List.setIfInBounds_toArray, List.set_cons_succ, List.set_cons_zero])
         | (refine qb_load (g := (g1 + 1)) (t := 45) (cs := Q) 45 (.tmp 3) ?ho ?hx ?hA _ Tryd.underlying45 rfl zq ?_
            case ho => with_reducible rfl
            case hx => rfl
            case hA => exact fun w' hw' => j0.on hw'
            go_big_quiet_on
            simp only [Act.put, List.setIfInBounds_toArray, List.set_cons_succ, List.set_cons_zero])
         | (go_big_quiet_op
            first
              | go_big_quiet_on
              | (with_reducible refine ⟨_, fun _ _ => rfl, ?_⟩; go_big_quiet_on)
              | (apply Exists.intro
                 refine ⟨fun w' hw' => ?_, ?_⟩
                 · (go_at_call 36; with_reducible refine (H1.out _).mono ?_; exact fun _ _ h => ⟨h.1, Below.on hw' hw'.size h.2⟩)
                 go_big_quiet_on)
              | (apply Exists.intro
                 refine ⟨fun w' hw' => ?_, ?_⟩
                 · (go_at_call 37; with_reducible refine (H2.out _).mono ?_; exact fun _ _ h => ⟨h.1, Below.on hw' hw'.size h.2⟩)
                 go_big_quiet_on))))
  refine wpQuiet_nil ?_
  intro w1 hw1
  subst hg1
  have k1 := k0.on hw1
  have j1 := j0.on hw1
  have b1 := hu0 _ hw1
  clear k0 j0 b0 hu0 hw1
  go_wp2_with (first
    | (refine wpList_loadBlk (g := w.heap.size) (t := 45) (cs := P) ?hw 45 (.tmp 2) ?ho ?hx ?hA _ Tryd.underlying45 rfl ?hi ?_
       case hw => rfl
       case ho => with_reducible rfl
       case hx => rfl
       case hA => exact k1
       case hi => exact zp)
    | fail)
  refine (H3.out _).mono ?_; rintro e w2 ⟨rfl, hb2⟩
  have k2 := k1.on (by exact hb2)
  have j2 := j1.on (by exact hb2)
  have b2 := Below.on b1 b1.size (by exact hb2)
  clear hb2 k1 j1 b1
  go_wp2_with (first
    | (refine wpList_loadBlk (g := w.heap.size + 1) (t := 45) (cs := Q) ?hw 45 (.tmp 3) ?ho ?hx ?hA _ Tryd.underlying45 rfl ?hi ?_
       case hw => rfl
       case ho => with_reducible rfl
       case hx => rfl
       case hA => exact j2
       case hi => exact zq)
    | fail)
  refine (H4.out _).mono ?_; rintro e w3 ⟨rfl, hb3⟩
  have k3 := k2.on (by exact hb3)
  have j3 := j2.on (by exact hb3)
  have b3 := Below.on b2 b2.size (by exact hb3)
  clear hb3 k2 j2 b2
  go_wp2_with fail
  have hu3 : ∀ W, Below w3.heap.size w3 W → Below w.heap.size w W := fun W hW => Below.on b3 b3.size hW
  generalize hg1 : w.heap.size = g1 at *
  refine wp_region_below w3.heap.size (by kernel_rfl) (by kernel_rfl) ?_
  repeat (first
    | go_big_quiet_skip
    | (go_big_quiet_want
       first
         | (refine qb_load (g := g1) (t := 45) (cs := P) 45 (.tmp 2) ?ho ?hx ?hA _ Tryd.underlying45 rfl zp ?_
            case ho => with_reducible rfl
            case hx => rfl
            case hA => exact fun w' hw' => k3.on hw'
            go_big_quiet_on
            simp only [Act.put, List.setIfInBounds_toArray, List.set_cons_succ, List.set_cons_zero])
         | (refine qb_load (g := (g1 + 1)) (t := 45) (cs := Q) 45 (.tmp 3) ?ho ?hx ?hA _ Tryd.underlying45 rfl zq ?_
            case ho => with_reducible rfl
            case hx => rfl
            case hA => exact fun w' hw' => j3.on hw'
            go_big_quiet_on
            simp only [Act.put, List.setIfInBounds_toArray, List.set_cons_succ, List.set_cons_zero])
         | (refine qe_eql (cs := P) (ds := Q) (b := false) 45 45 (.tmp 34) (.tmp 35) ?ho ?hx ?hy Tryd.plainPfx ?he ?_
            case ho => with_reducible rfl
            case hx => rfl
            case hy => rfl
            case he => exact HE.out
            go_big_quiet_on
            simp only [Act.put, List.setIfInBounds_toArray, List.set_cons_succ, List.set_cons_zero])
         | (go_big_quiet_op
            first
              | go_big_quiet_on
              | (with_reducible refine ⟨_, fun _ _ => rfl, ?_⟩; go_big_quiet_on)
              | (apply Exists.intro
                 refine ⟨fun w' hw' => ?_, ?_⟩
                 · (go_at_call 36; with_reducible refine (H1.out _).mono ?_; exact fun _ _ h => ⟨h.1, Below.on hw' hw'.size h.2⟩)
                 go_big_quiet_on)
              | (apply Exists.intro
                 refine ⟨fun w' hw' => ?_, ?_⟩
                 · (go_at_call 36; with_reducible refine (H5.out _).mono ?_; exact fun _ _ h => ⟨h.1, Below.on hw' hw'.size h.2⟩)
                 go_big_quiet_on))))
  refine wpQuiet_nil ?_
  intro w4 hw4
  subst hg1
  have k4 := k3.on hw4
  have j4 := j3.on hw4
  have b4 := hu3 _ hw4
  clear k3 j3 b3 hu3 hw4
  go_wp2_with fail
  have hup : ∀ W, Below w4.heap.size w4 W → Below w.heap.size w W := fun W hW => Below.on b4 b4.size hW
  have hT : ∀ W, Below w4.heap.size w4 W → Tab W := fun W hW => Htab.out.on (hup W hW)
  have hH : ∀ W, Below w4.heap.size w4 W → Cl.HasM W := fun W hW => HM.out.on (hup W hW) hpos
  generalize hg1 : w.heap.size = g1 at *
  refine wp_region_below w4.heap.size (by kernel_rfl) (by kernel_rfl) ?_
  repeat (first
    | go_big_quiet_skip
    | (go_big_quiet_want
       first
         | (refine qb_load (g := g1) (t := 45) (cs := P) 45 (.tmp 2) ?ho ?hx ?hA _ Tryd.underlying45 rfl zp ?_
            case ho => with_reducible rfl
            case hx => rfl
            case hA => exact fun w' hw' => k4.on hw'
            go_big_quiet_on
            simp only [Act.put, List.setIfInBounds_toArray, List.set_cons_succ, List.set_cons_zero])
         | (refine qb_load (g := (g1 + 1)) (t := 45) (cs := Q) 45 (.tmp 3) ?ho ?hx ?hA _ Tryd.underlying45 rfl zq ?_
            case ho => with_reducible rfl
            case hx => rfl
            case hA => exact fun w' hw' => j4.on hw'
            go_big_quiet_on
            simp only [Act.put, List.setIfInBounds_toArray, List.set_cons_succ, List.set_cons_zero])
         | (go_big_quiet_op
            first
              | go_big_quiet_on
              | (with_reducible refine ⟨_, fun _ _ => rfl, ?_⟩; go_big_quiet_on)
              | (apply Exists.intro
                 refine ⟨fun w' hw' => ?_, ?_⟩
                 · (go_at_call 38; with_reducible refine (H6.out _).mono ?_; exact fun _ _ h => ⟨h.1, Below.on hw' hw'.size h.2⟩)
                 go_big_quiet_on)
              | (apply Exists.intro
                 refine ⟨fun w' hw' => ?_, ?_⟩
                 · (go_at_call 39; with_reducible refine (H7.out _).mono ?_; exact fun _ _ h => ⟨h.1, Below.on hw' hw'.size h.2⟩)
                 go_big_quiet_on)
              | (apply Exists.intro
                 refine ⟨fun w' hw' => ?_, ?_⟩
                 · (go_at_call 32; with_reducible refine (alive11 _ (hT _ hw') (hH _ hw')).mono ?_; exact fun _ _ h => ⟨h.1, Below.on hw' hw'.size h.2⟩)
                 go_big_quiet_on))))
  refine wpQuiet_nil ?_
  intro wz hwz
  go_wp2
  go_ret
  exact ⟨rfl, by first | exact hup _ hwz | (rw [hg1]; exact hup _ hwz)⟩

set_option maxHeartbeats 8000000 in
theorem pr_ttt_true_true (p q : Pfx) (w : World) (hp : pfxOk p) (hq : pfxOk q) (htab : Tab w) (hm : Cl.HasM w) (hrp : rightP p = true) (hrq : rightP q = true) (hc : covB p q = true) (hL : lessP p q = true) (hd : covB q p = true) :
    Calls Tryd.prog 7 #[.agg (pf p), .agg (pf q)] w fun e w' => e = .returned (.bool true) ∧ Below w.heap.size w w' := by
  have HM := Lib.hid hm
  have Htab := Lib.hid htab
  have hpos := hm.pos
  have h1 := fun W => ccovers_any p q hp hq W
  have h2 := fun W => refccovers_any p q hp hq W
  have h3 := fun W => refcright_any p hp W
  have h4 := fun W => refcright_any q hq W
  have h5 := fun W => ccovers_any q p hq hp W
  have h6 := fun W => cless_any p q hp hq W
  have h7 := fun W => refcless_any p q hp hq W
  rw [hc] at h1 h2
  rw [hrp] at h3
  rw [hrq] at h4
  rw [hL] at h6 h7
  have hde := cov_back p q hrp hrq hc
  rw [hd] at h5 hde
  have H1 := Lib.hid h1
  have H2 := Lib.hid h2
  have H3 := Lib.hid h3
  have H4 := Lib.hid h4
  have H5 := Lib.hid h5
  have H6 := Lib.hid h6
  have H7 := Lib.hid h7
  have zp : (Tryd.prog.info? 45).map (·.size) = some (pf p).size := by rw [pf_size p hp.2.1]; exact Tryd.infoPfx
  have zq : (Tryd.prog.info? 45).map (·.size) = some (pf q).size := by rw [pf_size q hq.2.1]; exact Tryd.infoPfx
  have he := pf_eq p q hp.2.1 hq.2.1
  rw [← hde] at he
  have HE := Lib.hid he
  have k0 : Blk ((w.alloc (.cells (pf p) 45)).alloc (.cells (pf q) 45)) w.heap.size 45 (pf p) := (blk_new _ _ _).alloc _
  have j0 : Blk ((w.alloc (.cells (pf p) 45)).alloc (.cells (pf q) 45)) (w.heap.size + 1) 45 (pf q) := blk_new' _ _ _ _ (by simp)
  have b0 : Below w.heap.size w ((w.alloc (.cells (pf p) 45)).alloc (.cells (pf q) 45)) := ((Below.refl _ _).alloc (Nat.le_refl _) _).alloc (by simp) _
  clear h1 h2 h3 h4 h5 h6 h7 hm htab he hp hq hrp hc hrq hL hd hde
  generalize pf p = P at *
  generalize pf q = Q at *
  go_enter Tryd.func7, Tryd.ntmps7
  go_wp2_with fail
  generalize (w.alloc (.cells P 45)).alloc (.cells Q 45) = w0 at *
  have hu0 : ∀ W, Below w0.heap.size w0 W → Below w.heap.size w W := fun W hW => Below.on b0 b0.size hW
  generalize hg1 : w.heap.size = g1 at *
  refine wp_region_below w0.heap.size (by kernel_rfl) (by kernel_rfl) ?_
  repeat (first
    | go_big_quiet_skip
    | (go_big_quiet_want
       first
         | (refine qb_load (g := g1) (t := 45) (cs := P) 45 (.tmp 2) ?ho ?hx ?hA _ Tryd.underlying45 rfl zp ?_
            case ho => with_reducible rfl
            case hx => rfl
            case hA => exact fun w' hw' => k0.on hw'
            go_big_quiet_on
            simp only [Act.put, List.setIfInBounds_toArray, List.set_cons_succ, List.set_cons_zero])
         | (refine qb_load (g := (g1 + 1)) (t := 45) (cs := Q) 45 (.tmp 3) ?ho ?hx ?hA _ Tryd.underlying45 rfl zq ?_
            case ho => with_reducible rfl
            case hx => rfl
            case hA => exact fun w' hw' => j0.on hw'
            go_big_quiet_on
            simp only [Act.put, List.setIfInBounds_toArray, List.set_cons_succ, List.set_cons_zero])
         | (go_big_quiet_op
            first
              | go_big_quiet_on
              | (with_reducible refine ⟨_, fun _ _ => rfl, ?_⟩; go_big_quiet_on)
              | (apply Exists.intro
                 refine ⟨fun w' hw' => ?_, ?_⟩
                 · (go_at_call 36; with_reducible refine (H1.out _).mono ?_; exact fun _ _ h => ⟨h.1, Below.on hw' hw'.size h.2⟩)
                 go_big_quiet_on)
              | (apply Exists.intro
                 refine ⟨fun w' hw' => ?_, ?_⟩
                 · (go_at_call 37; with_reducible refine (H2.out _).mono ?_; exact fun _ _ h => ⟨h.1, Below.on hw' hw'.size h.2⟩)
                 go_big_quiet_on))))
  refine wpQuiet_nil ?_
  intro w1 hw1
  subst hg1
  have k1 := k0.on hw1
  have j1 := j0.on hw1
  have b1 := hu0 _ hw1
  clear k0 j0 b0 hu0 hw1
  go_wp2_with (first
    | (refine wpList_loadBlk (g := w.heap.size) (t := 45) (cs := P) ?hw 45 (.tmp 2) ?ho ?hx ?hA _ Tryd.underlying45 rfl ?hi ?_
       case hw => rfl
       case ho => with_reducible rfl
       case hx => rfl
       case hA => exact k1
       case hi => exact zp)
    | fail)
  refine (H3.out _).mono ?_; rintro e w2 ⟨rfl, hb2⟩
  have k2 := k1.on (by exact hb2)
  have j2 := j1.on (by exact hb2)
  have b2 := Below.on b1 b1.size (by exact hb2)
  clear hb2 k1 j1 b1
  go_wp2_with (first
    | (refine wpList_loadBlk (g := w.heap.size + 1) (t := 45) (cs := Q) ?hw 45 (.tmp 3) ?ho ?hx ?hA _ Tryd.underlying45 rfl ?hi ?_
       case hw => rfl
       case ho => with_reducible rfl
       case hx => rfl
       case hA => exact j2
       case hi => exact zq)
    | fail)
  refine (H4.out _).mono ?_; rintro e w3 ⟨rfl, hb3⟩
  have k3 := k2.on (by exact hb3)
  have j3 := j2.on (by exact hb3)
  have b3 := Below.on b2 b2.size (by exact hb3)
  clear hb3 k2 j2 b2
  go_wp2_with fail
  have hu3 : ∀ W, Below w3.heap.size w3 W → Below w.heap.size w W := fun W hW => Below.on b3 b3.size hW
  generalize hg1 : w.heap.size = g1 at *
  refine wp_region_below w3.heap.size (by kernel_rfl) (by kernel_rfl) ?_
  repeat (first
    | go_big_quiet_skip
    | (go_big_quiet_want
       first
         | (refine qb_load (g := g1) (t := 45) (cs := P) 45 (.tmp 2) ?ho ?hx ?hA _ Tryd.underlying45 rfl zp ?_
            case ho => with_reducible rfl
            case hx => rfl
            case hA => exact fun w' hw' => k3.on hw'
            go_big_quiet_on
            simp only [Act.put, List.setIfInBounds_toArray, List.set_cons_succ, List.set_cons_zero])
         | (refine qb_load (g := (g1 + 1)) (t := 45) (cs := Q) 45 (.tmp 3) ?ho ?hx ?hA _ Tryd.underlying45 rfl zq ?_
            case ho => with_reducible rfl
            case hx => rfl
            case hA => exact fun w' hw' => j3.on hw'
            go_big_quiet_on
            simp only [Act.put, List.setIfInBounds_toArray, List.set_cons_succ, List.set_cons_zero])
         | (refine qe_eql (cs := P) (ds := Q) (b := true) 45 45 (.tmp 34) (.tmp 35) ?ho ?hx ?hy Tryd.plainPfx ?he ?_
            case ho => with_reducible rfl
            case hx => rfl
            case hy => rfl
            case he => exact HE.out
            go_big_quiet_on
            simp only [Act.put, List.setIfInBounds_toArray, List.set_cons_succ, List.set_cons_zero])
         | (go_big_quiet_op
            first
              | go_big_quiet_on
              | (with_reducible refine ⟨_, fun _ _ => rfl, ?_⟩; go_big_quiet_on)
              | (apply Exists.intro
                 refine ⟨fun w' hw' => ?_, ?_⟩
                 · (go_at_call 36; with_reducible refine (H1.out _).mono ?_; exact fun _ _ h => ⟨h.1, Below.on hw' hw'.size h.2⟩)
                 go_big_quiet_on)
              | (apply Exists.intro
                 refine ⟨fun w' hw' => ?_, ?_⟩
                 · (go_at_call 36; with_reducible refine (H5.out _).mono ?_; exact fun _ _ h => ⟨h.1, Below.on hw' hw'.size h.2⟩)
                 go_big_quiet_on))))
  refine wpQuiet_nil ?_
  intro w4 hw4
  subst hg1
  have k4 := k3.on hw4
  have j4 := j3.on hw4
  have b4 := hu3 _ hw4
  clear k3 j3 b3 hu3 hw4
  go_wp2_with fail
  have hup : ∀ W, Below w4.heap.size w4 W → Below w.heap.size w W := fun W hW => Below.on b4 b4.size hW
  have hT : ∀ W, Below w4.heap.size w4 W → Tab W := fun W hW => Htab.out.on (hup W hW)
  have hH : ∀ W, Below w4.heap.size w4 W → Cl.HasM W := fun W hW => HM.out.on (hup W hW) hpos
  generalize hg1 : w.heap.size = g1 at *
  refine wp_region_below w4.heap.size (by kernel_rfl) (by kernel_rfl) ?_
  repeat (first
    | go_big_quiet_skip
    | (go_big_quiet_want
       first
         | (refine qb_load (g := g1) (t := 45) (cs := P) 45 (.tmp 2) ?ho ?hx ?hA _ Tryd.underlying45 rfl zp ?_
            case ho => with_reducible rfl
            case hx => rfl
            case hA => exact fun w' hw' => k4.on hw'
            go_big_quiet_on
            simp only [Act.put, List.setIfInBounds_toArray, List.set_cons_succ, List.set_cons_zero])
         | (refine qb_load (g := (g1 + 1)) (t := 45) (cs := Q) 45 (.tmp 3) ?ho ?hx ?hA _ Tryd.underlying45 rfl zq ?_
            case ho => with_reducible rfl
            case hx => rfl
            case hA => exact fun w' hw' => j4.on hw'
            go_big_quiet_on
            simp only [Act.put, List.setIfInBounds_toArray, List.set_cons_succ, List.set_cons_zero])
         | (go_big_quiet_op
            first
              | go_big_quiet_on
              | (with_reducible refine ⟨_, fun _ _ => rfl, ?_⟩; go_big_quiet_on)
              | (apply Exists.intro
                 refine ⟨fun w' hw' => ?_, ?_⟩
                 · (go_at_call 38; with_reducible refine (H6.out _).mono ?_; exact fun _ _ h => ⟨h.1, Below.on hw' hw'.size h.2⟩)
                 go_big_quiet_on)
              | (apply Exists.intro
                 refine ⟨fun w' hw' => ?_, ?_⟩
                 · (go_at_call 39; with_reducible refine (H7.out _).mono ?_; exact fun _ _ h => ⟨h.1, Below.on hw' hw'.size h.2⟩)
                 go_big_quiet_on)
              | (apply Exists.intro
                 refine ⟨fun w' hw' => ?_, ?_⟩
                 · (go_at_call 32; with_reducible refine (alive11 _ (hT _ hw') (hH _ hw')).mono ?_; exact fun _ _ h => ⟨h.1, Below.on hw' hw'.size h.2⟩)
                 go_big_quiet_on))))
  refine wpQuiet_nil ?_
  intro wz hwz
  go_wp2
  go_ret
  exact ⟨rfl, by first | exact hup _ hwz | (rw [hg1]; exact hup _ hwz)⟩

theorem walk_CidrPairs (p q : Pfx) (w : World) (hp : pfxOk p) (hq : pfxOk q) (htab : Tab w) (hm : Cl.HasM w) :
    Calls Tryd.prog 7 #[.agg (pf p), .agg (pf q)] w fun e w' => e = .returned (.bool true) ∧ Below w.heap.size w w' := by
  cases hrp : rightP p with
  | false => exact pr_f p q w hp hq htab hm hrp (by unfold covB; rw [hrp]; rfl)
  | true =>
    cases hrq : rightP q with
    | false => exact pr_tf p q w hp hq htab hm hrp hrq (by unfold covB; rw [hrp, hrq]; rfl)
    | true =>
      cases hc : covB p q with
      | false =>
        cases hL : lessP p q with
        | false => exact pr_ttf_false p q w hp hq htab hm hrp hrq hc hL
        | true => exact pr_ttf_true p q w hp hq htab hm hrp hrq hc hL
      | true =>
        cases hL : lessP p q with
        | false =>
          cases hd : covB q p with
          | false => exact pr_ttt_false_false p q w hp hq htab hm hrp hrq hc hL hd
          | true => exact pr_ttt_false_true p q w hp hq htab hm hrp hrq hc hL hd
        | true =>
          cases hd : covB q p with
          | false => exact pr_ttt_true_false p q w hp hq htab hm hrp hrq hc hL hd
          | true => exact pr_ttt_true_true p q w hp hq htab hm hrp hrq hc hL hd
end Go.Proofs.YtccidoigjdbepaaDoor
