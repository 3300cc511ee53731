
/- The walk of law12.HostportTexts. -/
import Derived.Test.YtccidoigjdbepaaDoorHxD
import Derived.Test.YtccidoigjdbepaaDoorOpnPx
import Derived.Test.YtccidoigjdbepaaDoorWCidrOf
namespace Go.Proofs.YtccidoigjdbepaaDoor
open Go.RowKit Dec Lin Qd
set_option maxRecDepth 100000
set_option linter.unusedVariables false
set_option linter.unusedSimpArgs false

theorem q_build {P : Program} {o : Oper} {a : Act} {v : Value} {C : World → Prop} {K : Act → Prop} (ty : TypeId) (fs : Array (Nat × Operand)) (ho : o.op = .build ty fs)
    (hr : ∀ w, (execOp a.eval o).run P w = .ok (.value v) w) (hk : K (a.put o.dst v)) : o.quiet P a C K :=
  ⟨_, fun w hw => by
    unfold Oper.quietAt
    rw [hr w]
    exact ⟨rfl, rfl⟩, hk⟩

set_option maxHeartbeats 8000000 in
theorem ht_false_false (p : Pfx) (w : World) (hp : pfxOk p) (htab : Tab w) (hm : Cl.HasM w) (hr : rightH p = false) (hN : pfxEq p zP = false) :
    Calls Tryd.prog 10 #[.agg (pf p)] w fun e w' => e = .returned (.bool true) ∧ Below w.heap.size w w' := by
  have HM := Lib.hid hm
  have Htab := Lib.hid htab
  have hpos := hm.pos
  have hl := hp.2.1
  have htl := txH_len p hl
  have H1 := Lib.hid (fun W h => htext_any p hp W h)
  have H2 := Lib.hid (fun W => refhtext_any p hp W)
  have h3 := fun W => hright_any p hp W
  have h3' := fun W => refhright_any p hp W
  have h5 := fun W => hnone_any p hl W
  have H4 := Lib.hid (fun W h => hparse_any (txH p) (by omega) W h)
  rw [hr] at h3 h3'
  rw [hN] at h5
  have H3 := Lib.hid h3
  have H3' := Lib.hid h3'
  have H5 := Lib.hid h5
  have heN := ef_eq p zP hl rfl
  rw [hN] at heN
  rw [show txH p = [] by unfold txH; rw [hr]; rfl] at H1 H2
  have x18 := pf_size p hl
  have ox := pf_one p
  have zp : (Tryd.prog.info? 60).map (·.size) = some (pf p).size := by rw [x18]; exact Tryd.infoEnd
  have he := ef_eq p p hl hl
  rw [pfxEq_self] at he
  have k0 : Blk (w.alloc (.cells (pf p) 60)) w.heap.size 60 (pf p) := blk_new _ _ _
  have b0 : Below w.heap.size w (w.alloc (.cells (pf p) 60)) := (Below.refl _ _).alloc (Nat.le_refl _) _
  clear hm htab htl h3 h3' h5 hr hN hp hl
  unfold sv at H1 H2 H4

  generalize pf p = P at *
  generalize hZ : pf zP = Z at *
  have HZ := Lib.hid hZ
  clear hZ
  go_enter Tryd.func10, Tryd.ntmps10
  go_wp2_with (first
    | (refine wpList_loadBlk (g := w.heap.size) (t := 60) (cs := P) ?hw 60 (.tmp 1) ?ho ?hx ?hA _ Tryd.underlying60 rfl ?hi ?_
       case hw => rfl
       case ho => with_reducible rfl
       case hx => rfl
       case hA => exact k0
       case hi => exact zp)
    | fail)
  refine (H1.out _ (Htab.out.on (by exact b0))).mono ?_; rintro e w1 ⟨rfl, hb1⟩
  have k1 := k0.on (by exact hb1)
  have b1 := Below.on b0 b0.size (by exact hb1)
  clear hb1 k0 b0
  go_wp2_with (first
    | (refine wpList_loadBlk (g := w.heap.size) (t := 60) (cs := P) ?hw 60 (.tmp 1) ?ho ?hx ?hA _ Tryd.underlying60 rfl ?hi ?_
       case hw => rfl
       case ho => with_reducible rfl
       case hx => rfl
       case hA => exact k1
       case hi => exact zp)
    | fail)
  refine (H3'.out _).mono ?_; rintro e w2 ⟨rfl, hb2⟩
  have k2 := k1.on (by exact hb2)
  have b2 := Below.on b1 b1.size (by exact hb2)
  clear hb2 k1 b1
  go_wp2_with fail
  have hu2 : ∀ W, Below w2.heap.size w2 W → Below w.heap.size w W := fun W hW => Below.on b2 b2.size hW
  generalize hg1 : w.heap.size = g1 at *
  refine wp_region_below w2.heap.size (by kernel_rfl) (by kernel_rfl) ?_
  repeat (first
    | go_big_quiet_skip
    | (go_big_quiet_want
       first
         | (refine qb_load (g := g1) (t := 60) (cs := P) 60 (.tmp 1) ?ho ?hx ?hA _ Tryd.underlying60 rfl zp ?_
            case ho => with_reducible rfl
            case hx => rfl
            case hA => exact fun w' hw' => k2.on hw'
            go_big_quiet_on
            simp only [Act.put, List.setIfInBounds_toArray, List.set_cons_succ, List.set_cons_zero])
         | (refine q_build (v := .agg Z) 60 ?fs ?ho ?hr ?_
            case ho => with_reducible rfl
            case hr =>
              intro W
              have e1 := HZ.out
              rw [← e1]
              change _ = _
              kernel_rfl
            go_big_quiet_on
            simp only [Act.put, List.setIfInBounds_toArray, List.set_cons_succ, List.set_cons_zero])
         | (refine qe_eql (cs := P) (ds := Z) (b := false) 60 60 (.tmp 24) (.tmp 25) ?ho ?hx ?hy Tryd.plainEnd ?he ?_
            case ho => with_reducible rfl
            case hx => rfl
            case hy => rfl
            case he => exact heN
            go_big_quiet_on
            simp only [Act.put, List.setIfInBounds_toArray, List.set_cons_succ, List.set_cons_zero])
         | (go_big_quiet_op
            first
              | go_big_quiet_on
              | (with_reducible refine ⟨_, fun _ _ => rfl, ?_⟩; go_big_quiet_on)
              | (apply Exists.intro
                 refine ⟨fun w' hw' => ?_, ?_⟩
                 · (go_at_call 46; with_reducible refine (H3.out _).mono ?_; exact fun _ _ h => ⟨h.1, Below.on hw' hw'.size h.2⟩)
                 go_big_quiet_on)
              | (apply Exists.intro
                 refine ⟨fun w' hw' => ?_, ?_⟩
                 · (go_at_call 47; with_reducible refine (H2.out _).mono ?_; exact fun _ _ h => ⟨h.1, Below.on hw' hw'.size h.2⟩)
                 go_big_quiet_on)
              | (apply Exists.intro
                 refine ⟨fun w' hw' => ?_, ?_⟩
                 · (go_at_call 48; with_reducible refine (H5.out _).mono ?_; exact fun _ _ h => ⟨h.1, Below.on hw' hw'.size h.2⟩)
                 go_big_quiet_on))))
  refine wpQuiet_nil ?_
  intro w4 hw4
  subst hg1
  have k4 := k2.on hw4
  have b4 := hu2 _ hw4
  clear k2 b2 hu2 hw4
  go_wp2_with fail
  refine (alive12 _ (Htab.out.on b4) (HM.out.on b4 hpos)).mono ?_; rintro e w5 ⟨rfl, hb5⟩
  have b5 := Below.on b4 b4.size (by exact hb5)
  go_wp2
  go_ret
  exact ⟨rfl, b5⟩

set_option maxHeartbeats 8000000 in
theorem ht_false_true (p : Pfx) (w : World) (hp : pfxOk p) (htab : Tab w) (hm : Cl.HasM w) (hr : rightH p = false) (hN : pfxEq p zP = true) :
    Calls Tryd.prog 10 #[.agg (pf p)] w fun e w' => e = .returned (.bool true) ∧ Below w.heap.size w w' := by
  have HM := Lib.hid hm
  have Htab := Lib.hid htab
  have hpos := hm.pos
  have hl := hp.2.1
  have htl := txH_len p hl
  have H1 := Lib.hid (fun W h => htext_any p hp W h)
  have H2 := Lib.hid (fun W => refhtext_any p hp W)
  have h3 := fun W => hright_any p hp W
  have h3' := fun W => refhright_any p hp W
  have h5 := fun W => hnone_any p hl W
  have H4 := Lib.hid (fun W h => hparse_any (txH p) (by omega) W h)
  rw [hr] at h3 h3'
  rw [hN] at h5
  have H3 := Lib.hid h3
  have H3' := Lib.hid h3'
  have H5 := Lib.hid h5
  have heN := ef_eq p zP hl rfl
  rw [hN] at heN
  rw [show txH p = [] by unfold txH; rw [hr]; rfl] at H1 H2
  have x18 := pf_size p hl
  have ox := pf_one p
  have zp : (Tryd.prog.info? 60).map (·.size) = some (pf p).size := by rw [x18]; exact Tryd.infoEnd
  have he := ef_eq p p hl hl
  rw [pfxEq_self] at he
  have k0 : Blk (w.alloc (.cells (pf p) 60)) w.heap.size 60 (pf p) := blk_new _ _ _
  have b0 : Below w.heap.size w (w.alloc (.cells (pf p) 60)) := (Below.refl _ _).alloc (Nat.le_refl _) _
  clear hm htab htl h3 h3' h5 hr hN hp hl
  unfold sv at H1 H2 H4

  generalize pf p = P at *
  generalize hZ : pf zP = Z at *
  have HZ := Lib.hid hZ
  clear hZ
  go_enter Tryd.func10, Tryd.ntmps10
  go_wp2_with (first
    | (refine wpList_loadBlk (g := w.heap.size) (t := 60) (cs := P) ?hw 60 (.tmp 1) ?ho ?hx ?hA _ Tryd.underlying60 rfl ?hi ?_
       case hw => rfl
       case ho => with_reducible rfl
       case hx => rfl
       case hA => exact k0
       case hi => exact zp)
    | fail)
  refine (H1.out _ (Htab.out.on (by exact b0))).mono ?_; rintro e w1 ⟨rfl, hb1⟩
  have k1 := k0.on (by exact hb1)
  have b1 := Below.on b0 b0.size (by exact hb1)
  clear hb1 k0 b0
  go_wp2_with (first
    | (refine wpList_loadBlk (g := w.heap.size) (t := 60) (cs := P) ?hw 60 (.tmp 1) ?ho ?hx ?hA _ Tryd.underlying60 rfl ?hi ?_
       case hw => rfl
       case ho => with_reducible rfl
       case hx => rfl
       case hA => exact k1
       case hi => exact zp)
    | fail)
  refine (H3'.out _).mono ?_; rintro e w2 ⟨rfl, hb2⟩
  have k2 := k1.on (by exact hb2)
  have b2 := Below.on b1 b1.size (by exact hb2)
  clear hb2 k1 b1
  go_wp2_with fail
  have hu2 : ∀ W, Below w2.heap.size w2 W → Below w.heap.size w W := fun W hW => Below.on b2 b2.size hW
  generalize hg1 : w.heap.size = g1 at *
  refine wp_region_below w2.heap.size (by kernel_rfl) (by kernel_rfl) ?_
  repeat (first
    | go_big_quiet_skip
    | (go_big_quiet_want
       first
         | (refine qb_load (g := g1) (t := 60) (cs := P) 60 (.tmp 1) ?ho ?hx ?hA _ Tryd.underlying60 rfl zp ?_
            case ho => with_reducible rfl
            case hx => rfl
            case hA => exact fun w' hw' => k2.on hw'
            go_big_quiet_on
            simp only [Act.put, List.setIfInBounds_toArray, List.set_cons_succ, List.set_cons_zero])
         | (refine q_build (v := .agg Z) 60 ?fs ?ho ?hr ?_
            case ho => with_reducible rfl
            case hr =>
              intro W
              have e1 := HZ.out
              rw [← e1]
              change _ = _
              kernel_rfl
            go_big_quiet_on
            simp only [Act.put, List.setIfInBounds_toArray, List.set_cons_succ, List.set_cons_zero])
         | (refine qe_eql (cs := P) (ds := Z) (b := true) 60 60 (.tmp 24) (.tmp 25) ?ho ?hx ?hy Tryd.plainEnd ?he ?_
            case ho => with_reducible rfl
            case hx => rfl
            case hy => rfl
            case he => exact heN
            go_big_quiet_on
            simp only [Act.put, List.setIfInBounds_toArray, List.set_cons_succ, List.set_cons_zero])
         | (go_big_quiet_op
            first
              | go_big_quiet_on
              | (with_reducible refine ⟨_, fun _ _ => rfl, ?_⟩; go_big_quiet_on)
              | (apply Exists.intro
                 refine ⟨fun w' hw' => ?_, ?_⟩
                 · (go_at_call 46; with_reducible refine (H3.out _).mono ?_; exact fun _ _ h => ⟨h.1, Below.on hw' hw'.size h.2⟩)
                 go_big_quiet_on)
              | (apply Exists.intro
                 refine ⟨fun w' hw' => ?_, ?_⟩
                 · (go_at_call 47; with_reducible refine (H2.out _).mono ?_; exact fun _ _ h => ⟨h.1, Below.on hw' hw'.size h.2⟩)
                 go_big_quiet_on)
              | (apply Exists.intro
                 refine ⟨fun w' hw' => ?_, ?_⟩
                 · (go_at_call 48; with_reducible refine (H5.out _).mono ?_; exact fun _ _ h => ⟨h.1, Below.on hw' hw'.size h.2⟩)
                 go_big_quiet_on))))
  refine wpQuiet_nil ?_
  intro w4 hw4
  subst hg1
  have k4 := k2.on hw4
  have b4 := hu2 _ hw4
  clear k2 b2 hu2 hw4
  go_wp2_with fail
  refine (alive12 _ (Htab.out.on b4) (HM.out.on b4 hpos)).mono ?_; rintro e w5 ⟨rfl, hb5⟩
  have b5 := Below.on b4 b4.size (by exact hb5)
  go_wp2
  go_ret
  exact ⟨rfl, b5⟩

set_option maxHeartbeats 8000000 in
theorem ht_true_false (p : Pfx) (w : World) (hp : pfxOk p) (htab : Tab w) (hm : Cl.HasM w) (hr : rightH p = true) (hN : pfxEq p zP = false) :
    Calls Tryd.prog 10 #[.agg (pf p)] w fun e w' => e = .returned (.bool true) ∧ Below w.heap.size w w' := by
  have HM := Lib.hid hm
  have Htab := Lib.hid htab
  have hpos := hm.pos
  have hl := hp.2.1
  have htl := txH_len p hl
  have H1 := Lib.hid (fun W h => htext_any p hp W h)
  have H2 := Lib.hid (fun W => refhtext_any p hp W)
  have h3 := fun W => hright_any p hp W
  have h3' := fun W => refhright_any p hp W
  have h5 := fun W => hnone_any p hl W
  have H4 := Lib.hid (fun W h => hparse_any (txH p) (by omega) W h)
  rw [hr] at h3 h3'
  rw [hN] at h5
  have H3 := Lib.hid h3
  have H3' := Lib.hid h3'
  have H5 := Lib.hid h5
  have heN := ef_eq p zP hl rfl
  rw [hN] at heN
  rw [h_back p hl hr] at H4
  have x18 := pf_size p hl
  have ox := pf_one p
  have zp : (Tryd.prog.info? 60).map (·.size) = some (pf p).size := by rw [x18]; exact Tryd.infoEnd
  have he := ef_eq p p hl hl
  rw [pfxEq_self] at he
  have k0 : Blk (w.alloc (.cells (pf p) 60)) w.heap.size 60 (pf p) := blk_new _ _ _
  have b0 : Below w.heap.size w (w.alloc (.cells (pf p) 60)) := (Below.refl _ _).alloc (Nat.le_refl _) _
  clear hm htab htl h3 h3' h5 hr hN hp hl
  unfold sv at H1 H2 H4
  generalize ByteArray.mk ⟨txH p⟩ = s at *
  generalize pf p = P at *
  generalize hZ : pf zP = Z at *
  have HZ := Lib.hid hZ
  clear hZ
  go_enter Tryd.func10, Tryd.ntmps10
  go_wp2_with (first
    | (refine wpList_loadBlk (g := w.heap.size) (t := 60) (cs := P) ?hw 60 (.tmp 1) ?ho ?hx ?hA _ Tryd.underlying60 rfl ?hi ?_
       case hw => rfl
       case ho => with_reducible rfl
       case hx => rfl
       case hA => exact k0
       case hi => exact zp)
    | fail)
  refine (H1.out _ (Htab.out.on (by exact b0))).mono ?_; rintro e w1 ⟨rfl, hb1⟩
  have k1 := k0.on (by exact hb1)
  have b1 := Below.on b0 b0.size (by exact hb1)
  clear hb1 k0 b0
  go_wp2_with (first
    | (refine wpList_loadBlk (g := w.heap.size) (t := 60) (cs := P) ?hw 60 (.tmp 1) ?ho ?hx ?hA _ Tryd.underlying60 rfl ?hi ?_
       case hw => rfl
       case ho => with_reducible rfl
       case hx => rfl
       case hA => exact k1
       case hi => exact zp)
    | fail)
  refine (H3'.out _).mono ?_; rintro e w2 ⟨rfl, hb2⟩
  have k2 := k1.on (by exact hb2)
  have b2 := Below.on b1 b1.size (by exact hb2)
  clear hb2 k1 b1
  go_wp2_with fail
  have hu2 : ∀ W, Below w2.heap.size w2 W → Below w.heap.size w W := fun W hW => Below.on b2 b2.size hW
  generalize hg1 : w.heap.size = g1 at *
  refine wp_region_below w2.heap.size (by kernel_rfl) (by kernel_rfl) ?_
  repeat (first
    | go_big_quiet_skip
    | (go_big_quiet_want
       first
         | (refine qb_load (g := g1) (t := 60) (cs := P) 60 (.tmp 1) ?ho ?hx ?hA _ Tryd.underlying60 rfl zp ?_
            case ho => with_reducible rfl
            case hx => rfl
            case hA => exact fun w' hw' => k2.on hw'
            go_big_quiet_on
            simp only [Act.put, List.setIfInBounds_toArray, List.set_cons_succ, List.set_cons_zero])
         | (refine q_build (v := .agg Z) 60 ?fs ?ho ?hr ?_
            case ho => with_reducible rfl
            case hr =>
              intro W
              have e1 := HZ.out
              rw [← e1]
              change _ = _
              kernel_rfl
            go_big_quiet_on
            simp only [Act.put, List.setIfInBounds_toArray, List.set_cons_succ, List.set_cons_zero])
         | (refine qe_eql (cs := P) (ds := Z) (b := false) 60 60 (.tmp 24) (.tmp 25) ?ho ?hx ?hy Tryd.plainEnd ?he ?_
            case ho => with_reducible rfl
            case hx => rfl
            case hy => rfl
            case he => exact heN
            go_big_quiet_on
            simp only [Act.put, List.setIfInBounds_toArray, List.set_cons_succ, List.set_cons_zero])
         | (go_big_quiet_op
            first
              | go_big_quiet_on
              | (with_reducible refine ⟨_, fun _ _ => rfl, ?_⟩; go_big_quiet_on)
              | (apply Exists.intro
                 refine ⟨fun w' hw' => ?_, ?_⟩
                 · (go_at_call 46; with_reducible refine (H3.out _).mono ?_; exact fun _ _ h => ⟨h.1, Below.on hw' hw'.size h.2⟩)
                 go_big_quiet_on)
              | (apply Exists.intro
                 refine ⟨fun w' hw' => ?_, ?_⟩
                 · (go_at_call 47; with_reducible refine (H2.out _).mono ?_; exact fun _ _ h => ⟨h.1, Below.on hw' hw'.size h.2⟩)
                 go_big_quiet_on)
              | (apply Exists.intro
                 refine ⟨fun w' hw' => ?_, ?_⟩
                 · (go_at_call 48; with_reducible refine (H5.out _).mono ?_; exact fun _ _ h => ⟨h.1, Below.on hw' hw'.size h.2⟩)
                 go_big_quiet_on))))
  refine wpQuiet_nil ?_
  intro w4 hw4
  subst hg1
  have k4 := k2.on hw4
  have b4 := hu2 _ hw4
  clear k2 b2 hu2 hw4
  go_wp2_with fail
  refine (H4.out _ (HM.out.on b4 hpos)).mono ?_; rintro e w5 ⟨rfl, hb5⟩
  have k5 := (k4.on (by exact hb5)).alloc (.cells P 60)
  have j5 : Blk (w5.alloc (.cells P 60)) w5.heap.size 60 P := blk_new _ _ _
  have b5 := Below.on b4 b4.size (by exact hb5)
  have b5 := b5.alloc b5.size (.cells P 60)
  clear hb5 k4 b4
  go_wp2_with (first
    | (refine wpList_allocStore (cs := P) rfl rfl 60 ?ho (.tmp 5) (.tmp 39) ?ho2 Tryd.zeroEnd rfl ?hx ?hy ?hn ?h1 ?_
       case ho => with_reducible rfl
       case ho2 => with_reducible rfl
       case hx => rfl
       case hy => rfl
       case hn => exact x18
       case h1 => exact ox)
    | (refine wpList_loadBlk (g := w5.heap.size) (t := 60) (cs := P) ?hw 60 (.tmp 5) ?ho ?hx ?hA _ Tryd.underlying60 rfl ?hi ?_
       case hw => rfl
       case ho => with_reducible rfl
       case hx => rfl
       case hA => exact j5
       case hi => exact zp)
    | (refine wpList_loadBlk (g := w.heap.size) (t := 60) (cs := P) ?hw 60 (.tmp 1) ?ho ?hx ?hA _ Tryd.underlying60 rfl ?hi ?_
       case hw => rfl
       case ho => with_reducible rfl
       case hx => rfl
       case hA => exact k5
       case hi => exact zp)
    | (refine eqlAny (cs := P) (ds := P) (b := true) rfl 60 60 (.tmp 41) (.tmp 42) ?ho ?hx ?hy Tryd.plainEnd ?he ?_
       case ho => with_reducible rfl
       case hx => rfl
       case hy => rfl
       case he => exact he)
    | fail)
  refine (alive12 _ (Htab.out.on b5) (HM.out.on b5 hpos)).mono ?_; rintro e w6 ⟨rfl, hb6⟩
  have b6 := Below.on b5 b5.size (by exact hb6)
  go_wp2
  go_ret
  exact ⟨rfl, b6⟩

set_option maxHeartbeats 8000000 in
theorem ht_true_true (p : Pfx) (w : World) (hp : pfxOk p) (htab : Tab w) (hm : Cl.HasM w) (hr : rightH p = true) (hN : pfxEq p zP = true) :
    Calls Tryd.prog 10 #[.agg (pf p)] w fun e w' => e = .returned (.bool true) ∧ Below w.heap.size w w' := by
  have HM := Lib.hid hm
  have Htab := Lib.hid htab
  have hpos := hm.pos
  have hl := hp.2.1
  have htl := txH_len p hl
  have H1 := Lib.hid (fun W h => htext_any p hp W h)
  have H2 := Lib.hid (fun W => refhtext_any p hp W)
  have h3 := fun W => hright_any p hp W
  have h3' := fun W => refhright_any p hp W
  have h5 := fun W => hnone_any p hl W
  have H4 := Lib.hid (fun W h => hparse_any (txH p) (by omega) W h)
  rw [hr] at h3 h3'
  rw [hN] at h5
  have H3 := Lib.hid h3
  have H3' := Lib.hid h3'
  have H5 := Lib.hid h5
  have heN := ef_eq p zP hl rfl
  rw [hN] at heN
  rw [h_back p hl hr] at H4
  have x18 := pf_size p hl
  have ox := pf_one p
  have zp : (Tryd.prog.info? 60).map (·.size) = some (pf p).size := by rw [x18]; exact Tryd.infoEnd
  have he := ef_eq p p hl hl
  rw [pfxEq_self] at he
  have k0 : Blk (w.alloc (.cells (pf p) 60)) w.heap.size 60 (pf p) := blk_new _ _ _
  have b0 : Below w.heap.size w (w.alloc (.cells (pf p) 60)) := (Below.refl _ _).alloc (Nat.le_refl _) _
  clear hm htab htl h3 h3' h5 hr hN hp hl
  unfold sv at H1 H2 H4
  generalize ByteArray.mk ⟨txH p⟩ = s at *
  generalize pf p = P at *
  generalize hZ : pf zP = Z at *
  have HZ := Lib.hid hZ
  clear hZ
  go_enter Tryd.func10, Tryd.ntmps10
  go_wp2_with (first
    | (refine wpList_loadBlk (g := w.heap.size) (t := 60) (cs := P) ?hw 60 (.tmp 1) ?ho ?hx ?hA _ Tryd.underlying60 rfl ?hi ?_
       case hw => rfl
       case ho => with_reducible rfl
       case hx => rfl
       case hA => exact k0
       case hi => exact zp)
    | fail)
  refine (H1.out _ (Htab.out.on (by exact b0))).mono ?_; rintro e w1 ⟨rfl, hb1⟩
  have k1 := k0.on (by exact hb1)
  have b1 := Below.on b0 b0.size (by exact hb1)
  clear hb1 k0 b0
  go_wp2_with (first
    | (refine wpList_loadBlk (g := w.heap.size) (t := 60) (cs := P) ?hw 60 (.tmp 1) ?ho ?hx ?hA _ Tryd.underlying60 rfl ?hi ?_
       case hw => rfl
       case ho => with_reducible rfl
       case hx => rfl
       case hA => exact k1
       case hi => exact zp)
    | fail)
  refine (H3'.out _).mono ?_; rintro e w2 ⟨rfl, hb2⟩
  have k2 := k1.on (by exact hb2)
  have b2 := Below.on b1 b1.size (by exact hb2)
  clear hb2 k1 b1
  go_wp2_with fail
  have hu2 : ∀ W, Below w2.heap.size w2 W → Below w.heap.size w W := fun W hW => Below.on b2 b2.size hW
  generalize hg1 : w.heap.size = g1 at *
  refine wp_region_below w2.heap.size (by kernel_rfl) (by kernel_rfl) ?_
  repeat (first
    | go_big_quiet_skip
    | (go_big_quiet_want
       first
         | (refine qb_load (g := g1) (t := 60) (cs := P) 60 (.tmp 1) ?ho ?hx ?hA _ Tryd.underlying60 rfl zp ?_
            case ho => with_reducible rfl
            case hx => rfl
            case hA => exact fun w' hw' => k2.on hw'
            go_big_quiet_on
            simp only [Act.put, List.setIfInBounds_toArray, List.set_cons_succ, List.set_cons_zero])
         | (refine q_build (v := .agg Z) 60 ?fs ?ho ?hr ?_
            case ho => with_reducible rfl
            case hr =>
              intro W
              have e1 := HZ.out
              rw [← e1]
              change _ = _
              kernel_rfl
            go_big_quiet_on
            simp only [Act.put, List.setIfInBounds_toArray, List.set_cons_succ, List.set_cons_zero])
         | (refine qe_eql (cs := P) (ds := Z) (b := true) 60 60 (.tmp 24) (.tmp 25) ?ho ?hx ?hy Tryd.plainEnd ?he ?_
            case ho => with_reducible rfl
            case hx => rfl
            case hy => rfl
            case he => exact heN
            go_big_quiet_on
            simp only [Act.put, List.setIfInBounds_toArray, List.set_cons_succ, List.set_cons_zero])
         | (go_big_quiet_op
            first
              | go_big_quiet_on
              | (with_reducible refine ⟨_, fun _ _ => rfl, ?_⟩; go_big_quiet_on)
              | (apply Exists.intro
                 refine ⟨fun w' hw' => ?_, ?_⟩
                 · (go_at_call 46; with_reducible refine (H3.out _).mono ?_; exact fun _ _ h => ⟨h.1, Below.on hw' hw'.size h.2⟩)
                 go_big_quiet_on)
              | (apply Exists.intro
                 refine ⟨fun w' hw' => ?_, ?_⟩
                 · (go_at_call 47; with_reducible refine (H2.out _).mono ?_; exact fun _ _ h => ⟨h.1, Below.on hw' hw'.size h.2⟩)
                 go_big_quiet_on)
              | (apply Exists.intro
                 refine ⟨fun w' hw' => ?_, ?_⟩
                 · (go_at_call 48; with_reducible refine (H5.out _).mono ?_; exact fun _ _ h => ⟨h.1, Below.on hw' hw'.size h.2⟩)
                 go_big_quiet_on))))
  refine wpQuiet_nil ?_
  intro w4 hw4
  subst hg1
  have k4 := k2.on hw4
  have b4 := hu2 _ hw4
  clear k2 b2 hu2 hw4
  go_wp2_with fail
  refine (H4.out _ (HM.out.on b4 hpos)).mono ?_; rintro e w5 ⟨rfl, hb5⟩
  have k5 := (k4.on (by exact hb5)).alloc (.cells P 60)
  have j5 : Blk (w5.alloc (.cells P 60)) w5.heap.size 60 P := blk_new _ _ _
  have b5 := Below.on b4 b4.size (by exact hb5)
  have b5 := b5.alloc b5.size (.cells P 60)
  clear hb5 k4 b4
  go_wp2_with (first
    | (refine wpList_allocStore (cs := P) rfl rfl 60 ?ho (.tmp 5) (.tmp 39) ?ho2 Tryd.zeroEnd rfl ?hx ?hy ?hn ?h1 ?_
       case ho => with_reducible rfl
       case ho2 => with_reducible rfl
       case hx => rfl
       case hy => rfl
       case hn => exact x18
       case h1 => exact ox)
    | (refine wpList_loadBlk (g := w5.heap.size) (t := 60) (cs := P) ?hw 60 (.tmp 5) ?ho ?hx ?hA _ Tryd.underlying60 rfl ?hi ?_
       case hw => rfl
       case ho => with_reducible rfl
       case hx => rfl
       case hA => exact j5
       case hi => exact zp)
    | (refine wpList_loadBlk (g := w.heap.size) (t := 60) (cs := P) ?hw 60 (.tmp 1) ?ho ?hx ?hA _ Tryd.underlying60 rfl ?hi ?_
       case hw => rfl
       case ho => with_reducible rfl
       case hx => rfl
       case hA => exact k5
       case hi => exact zp)
    | (refine eqlAny (cs := P) (ds := P) (b := true) rfl 60 60 (.tmp 41) (.tmp 42) ?ho ?hx ?hy Tryd.plainEnd ?he ?_
       case ho => with_reducible rfl
       case hx => rfl
       case hy => rfl
       case he => exact he)
    | fail)
  refine (alive12 _ (Htab.out.on b5) (HM.out.on b5 hpos)).mono ?_; rintro e w6 ⟨rfl, hb6⟩
  have b6 := Below.on b5 b5.size (by exact hb6)
  go_wp2
  go_ret
  exact ⟨rfl, b6⟩

theorem walk_HostportTexts (p : Pfx) (w : World) (hp : pfxOk p) (htab : Tab w) (hm : Cl.HasM w) :
    Calls Tryd.prog 10 #[.agg (pf p)] w fun e w' => e = .returned (.bool true) ∧ Below w.heap.size w w' := by
  cases hr : rightH p with
  | false =>
    cases hN : pfxEq p zP with
    | false => exact ht_false_false p w hp htab hm hr hN
    | true => exact ht_false_true p w hp htab hm hr hN
  | true =>
    cases hN : pfxEq p zP with
    | false => exact ht_true_false p w hp htab hm hr hN
    | true => exact ht_true_true p w hp htab hm hr hN
end Go.Proofs.YtccidoigjdbepaaDoor
