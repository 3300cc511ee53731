
/- The walk of law11.CidrOf. -/
import Derived.Test.YtccidoigjdbepaaDoorCxF
import Derived.Test.YtccidoigjdbepaaDoorOpnPx
namespace Go.Proofs.YtccidoigjdbepaaDoor
open Go.RowKit Dec Lin Qd
set_option maxRecDepth 100000
set_option linter.unusedVariables false
set_option linter.unusedSimpArgs false

theorem hasM_of {W : World} (h : W.ShapedOpen Tryd.prog) : Cl.HasM W := by
  obtain ⟨m, hm⟩ := Tryd.laysM145.s1_3 W h
  exact ⟨m, hm⟩

set_option maxHeartbeats 8000000 in
theorem walk_CidrOf (v : Int) (l : List UInt8) (n : Int) (w : World) (hv : in64 v) (hl : l.length = 16) (wn : (Lit.int .i64 n).wf = true) (htab : Tab w) (hm : Cl.HasM w) :
    Calls Tryd.prog 5 #[.agg (adv v l), .int .i64 n] w fun e w' => e = .returned (.bool true) ∧ Below w.heap.size w w' := by
  obtain ⟨i1, i2⟩ := bounds_i64 wn
  have HM := Lib.hid hm
  have Htab := Lib.hid htab
  have hpos := hm.pos
  have hsz := sizeA_le v l
  have h1 := fun W => cof_any v l n hl (by omega) (by omega) W
  have h2 := fun W => refcof_any v l n hl (by omega) (by omega) W
  have H3 := Lib.hid (fun W => refWidthA_any v l hl W)
  have h4 := fun W => refcof_any v l (8 * sizeA v l : Int) hl (by omega) (by omega) W
  have H6 := Lib.hid (fun W => cwhole_any v l hl W)
  have hzx := Adr_size v l hl
  have hpl := ofP_len v l n hl
  have hwl := wlen v l hl
  have x18 := pf_size (ofP v l n) hpl
  have y18 := pf_size (whP v l) hwl
  have ox := pf_one (ofP v l n)
  have oy := pf_one (whP v l)
  have zx := hzx
  have zP1 : (Tryd.prog.info? 45).map (·.size) = some (pf (ofP v l n)).size := by rw [x18]; exact Tryd.infoPfx
  have zW1 : (Tryd.prog.info? 45).map (·.size) = some (pf (whP v l)).size := by rw [y18]; exact Tryd.infoPfx
  have z18 : (pf zP).size = (pf (whP v l)).size := by rw [y18]; rfl
  have he1 := pf_eq (ofP v l n) (ofP v l n) hpl hpl
  rw [pfxEq_self] at he1
  have he2 := pf_eq (whP v l) (whP v l) hwl hwl
  rw [pfxEq_self] at he2
  have hz := (zero_of_info Tryd.zeroPfx).1
  have hne : ¬ pf zP = #[] := by simp [pf, pfxC]
  have hcase : (ofE v l n = 0 ∧ rightP (ofP v l n) = true) ∨ ofE v l n = 1 ∨ ofE v l n = 6 := by
    rcases of_case v l n with ⟨_, e, _⟩ | ⟨_, _, e, _⟩ | ⟨_, _, _, e, _⟩ | ⟨_, _, _, e, _⟩
    · exact .inr (.inl e)
    · exact .inr (.inr e)
    · exact .inr (.inr e)
    · exact .inl ⟨e, of_right v l n hl e⟩
  have hpok : pfxOk (ofP v l n) := by
    have hzz : pfxOk zP := ⟨(by unfold in64; omega : in64 0), rfl, (by unfold in64; omega : in64 0)⟩
    rcases of_case v l n with ⟨_, _, e⟩ | ⟨_, _, _, e⟩ | ⟨_, _, _, _, e⟩ | ⟨_, _, _, _, e⟩
    · rw [e]; exact hzz
    · rw [e]; exact hzz
    · rw [e]; exact hzz
    · rw [e]; exact ⟨hv, by show (mL _ l).length = 16; rw [mL_len, hl], (by unfold in64; omega : in64 n)⟩
  have h5 := fun W => cright_any (ofP v l n) hpok W
  generalize hEw : ofE v l (8 * sizeA v l : Int) = EW at *
  have H4 : Hid (∀ W, Calls Tryd.prog 29 #[.agg (adv v l), .int .i64 (8 * sizeA v l : Int)] W fun e w' => e = .returned (.tuple #[.agg (pf (whP v l)), .int .i64 (EW : Int)]) ∧ Below W.heap.size W w') := Lib.hid h4
  have k0 : Blk (w.alloc (.cells (adv v l) 24)) w.heap.size 24 (adv v l) := blk_new _ _ _
  have b0 : Below w.heap.size w (w.alloc (.cells (adv v l) 24)) := (Below.refl _ _).alloc (Nat.le_refl _) _
  clear h4 hm htab hpl hwl hpok hv hl wn i1 i2 hEw hsz hzx
  generalize sizeA v l = m at *
  generalize adv v l = X at *
  generalize pf (whP v l) = Y at *
  generalize pf zP = Z at *
  generalize hRR : rightP (ofP v l n) = RR at *
  generalize pf (ofP v l n) = P at *
  rcases hcase with ⟨hE, rfl⟩ | hE | hE
  · rw [hE] at h1 h2
    have H1 := Lib.hid h1
    have H2 := Lib.hid h2
    have H5 := Lib.hid h5
    clear h1 h2 h5 hE hRR
    go_enter Tryd.func5, Tryd.ntmps5
    go_wp2_with (first
      | (refine wpList_loadBlk (g := w.heap.size) (t := 24) (cs := X) ?hw 24 (.tmp 2) ?ho ?hx ?hA _ Tryd.underlying24 rfl ?hi ?_
         case hw => rfl
         case ho => with_reducible rfl
         case hx => rfl
         case hA => exact k0
         case hi => exact zx)
      | fail)
    refine (H1.out _).mono ?_; rintro e w1 ⟨rfl, hb1⟩
    have k1 := (k0.on (by exact hb1)).alloc (.cells P 45)
    have p1 : Blk (w1.alloc (.cells P 45)) w1.heap.size 45 P := blk_new _ _ _
    have b1 := Below.on b0 b0.size (by exact hb1)
    have b1 := b1.alloc b1.size (.cells P 45)
    clear hb1 k0 b0
    go_wp2_with (first
      | (refine wpList_allocStore (cs := P) rfl rfl 45 ?ho (.tmp 5) (.tmp 15) ?ho2 Tryd.zeroPfx rfl ?hx ?hy ?hn ?h1 ?_
         case ho => with_reducible rfl
         case ho2 => with_reducible rfl
         case hx => rfl
         case hy => rfl
         case hn => exact x18
         case h1 => exact ox)
      | (refine wpList_loadBlk (g := w.heap.size) (t := 24) (cs := X) ?hw 24 (.tmp 2) ?ho ?hx ?hA _ Tryd.underlying24 rfl ?hi ?_
         case hw => rfl
         case ho => with_reducible rfl
         case hx => rfl
         case hA => exact k1
         case hi => exact zx)
      | fail)
    refine (H2.out _).mono ?_; rintro e w2 ⟨rfl, hb2⟩
    have k2 := (k1.on (by exact hb2)).alloc (.cells P 45)
    have p2 := (p1.on (by exact hb2)).alloc (.cells P 45)
    have q2 : Blk (w2.alloc (.cells P 45)) w2.heap.size 45 P := blk_new _ _ _
    have b2 := Below.on b1 b1.size (by exact hb2)
    have b2 := b2.alloc b2.size (.cells P 45)
    clear hb2 k1 b1 p1
    go_wp2_with (first
      | (refine wpList_allocStore (cs := P) rfl rfl 45 ?ho (.tmp 7) (.tmp 21) ?ho2 Tryd.zeroPfx rfl ?hx ?hy ?hn ?h1 ?_
         case ho => with_reducible rfl
         case ho2 => with_reducible rfl
         case hx => rfl
         case hy => rfl
         case hn => exact x18
         case h1 => exact ox)
      | fail)
    generalize hg5 : w1.heap.size = g5 at *
    generalize hg7 : w2.heap.size = g7 at *
    generalize w2.alloc (.cells P 45) = w3 at *
    clear hg5 hg7
    have kx_0 : Blk w3.drew w.heap.size 24 X := k2
    have kp_0 : Blk w3.drew g5 45 P := p2
    have kq_0 : Blk w3.drew g7 45 P := q2
    have bb : Below w.heap.size w w3.drew := b2.drew
    clear k2 p2 q2 b2
    refine wp_region_held_drew (S := fun W => Blk W w.heap.size 24 X) (by kernel_rfl) kx_0 ?_
    intro hS
    generalize w3.drew = W1 at *
    refine wpAnyH_take (i := 0) (oi := ?o1) (v := .agg X) ?hio1 (by kernel_rfl) (by kernel_rfl) (by kernel_rfl) ?hQo1 ?hyo1 hS ?_
    case hio1 => (simp only [List.getElem?_toArray, List.getElem?_cons_succ, List.getElem?_cons_zero]; rfl)
    case hQo1 => exact fun _ _ _ h => h
    case hyo1 => exact yieldsIf_load_mid (by rfl) 24 (.tmp 2) rfl w.heap.size 0 rfl X.toList _ (fun W hW => Blk.range0 hW) Tryd.underlying24 rfl (by simpa using zx)
    try simp only [Act.put, List.setIfInBounds_toArray, List.set_cons_zero, List.set_cons_succ]
    refine wpAnyH_take (i := 1) (oi := ?o2) (v := .agg X) ?hio2 (by kernel_rfl) (by kernel_rfl) (by kernel_rfl) ?hQo2 ?hyo2 hS ?_
    case hio2 => (simp only [List.getElem?_toArray, List.getElem?_cons_succ, List.getElem?_cons_zero]; rfl)
    case hQo2 => exact fun _ _ _ h => h
    case hyo2 => exact yieldsIf_load_mid (by rfl) 24 (.tmp 2) rfl w.heap.size 0 rfl X.toList _ (fun W hW => Blk.range0 hW) Tryd.underlying24 rfl (by simpa using zx)
    try simp only [Act.put, List.setIfInBounds_toArray, List.set_cons_zero, List.set_cons_succ]
    refine wpAnyH_ready (rs := [2, 7]) (by kernel_rfl) (by simp) ?_
    refine AllReadyH.cons (o := ?o24) ?hoo24 (fun K hK => ?ho24) (AllReadyH.cons (o := ?o25) ?hoo25 (fun K hK => ?ho25) AllReadyH.nil)
    case hoo24 => (simp only [List.getElem?_toArray, List.getElem?_cons_succ, List.getElem?_cons_zero]; rfl)
    case hoo25 => (simp only [List.getElem?_toArray, List.getElem?_cons_succ, List.getElem?_cons_zero]; rfl)
    case ho24 =>
      go_simp
      go_at_call 20
      with_reducible refine (H3.out _).mono ?_
      rintro e w101 ⟨rfl, hw101⟩
      have kx_101 := kx_0.on hw101
      have kp_101 := kp_0.on hw101
      have kq_101 := kq_0.on hw101
      have b101 := Below.on bb bb.size hw101
      refine hK.out _ _ kx_101 (fun hS101 => ?_)
      clear hK K hw101
      try simp only [Act.put, List.setIfInBounds_toArray, List.set_cons_zero, List.set_cons_succ]
      refine wpAnyH_ready (rs := [3, 7]) (by kernel_rfl) (by simp) ?_
      refine AllReadyH.cons (o := ?o15) ?hoo15 (fun K hK => ?ho15) (AllReadyH.cons (o := ?o16) ?hoo16 (fun K hK => ?ho16) AllReadyH.nil)
      case hoo15 => (simp only [List.getElem?_toArray, List.getElem?_cons_succ, List.getElem?_cons_zero]; rfl)
      case hoo16 => (simp only [List.getElem?_toArray, List.getElem?_cons_succ, List.getElem?_cons_zero]; rfl)
      case ho15 =>
        go_simp
        go_at_call 29
        with_reducible refine (H4.out _).mono ?_
        rintro e w102 ⟨rfl, hw102⟩
        have kx_102 := kx_101.on hw102
        have kp_102 := kp_101.on hw102
        have kq_102 := kq_101.on hw102
        have b102 := Below.on b101 b101.size hw102
        refine hK.out _ _ kx_102 (fun hS102 => ?_)
        clear hK K hw102
        try simp only [Act.put, List.setIfInBounds_toArray, List.set_cons_zero, List.set_cons_succ]
        refine wpAnyH_take (i := 4) (oi := ?o3) (v := .tuple #[.agg Y, .int .i64 (EW : Int)]) ?hio3 (by kernel_rfl) (by kernel_rfl) (by kernel_rfl) ?hQo3 ?hyo3 hS102 ?_
        case hio3 => (simp only [List.getElem?_toArray, List.getElem?_cons_succ, List.getElem?_cons_zero]; rfl)
        case hQo3 => exact fun _ _ _ h => h
        case hyo3 => exact Or.inl ⟨by rfl, fun W hW => by go_simp⟩
        try simp only [Act.put, List.setIfInBounds_toArray, List.set_cons_zero, List.set_cons_succ]
        refine wpAnyH_take (i := 5) (oi := ?o4) (v := .agg Y) ?hio4 (by kernel_rfl) (by kernel_rfl) (by kernel_rfl) ?hQo4 ?hyo4 hS102 ?_
        case hio4 => (simp only [List.getElem?_toArray, List.getElem?_cons_succ, List.getElem?_cons_zero]; rfl)
        case hQo4 => exact fun _ _ _ h => h
        case hyo4 => exact Or.inl ⟨by rfl, fun W hW => by go_simp⟩
        try simp only [Act.put, List.setIfInBounds_toArray, List.set_cons_zero, List.set_cons_succ]
        refine wpAnyH_take (i := 6) (oi := ?o5) (v := .int .i64 (EW : Int)) ?hio5 (by kernel_rfl) (by kernel_rfl) (by kernel_rfl) ?hQo5 ?hyo5 hS102 ?_
        case hio5 => (simp only [List.getElem?_toArray, List.getElem?_cons_succ, List.getElem?_cons_zero]; rfl)
        case hQo5 => exact fun _ _ _ h => h
        case hyo5 => exact Or.inl ⟨by rfl, fun W hW => by go_simp⟩
        try simp only [Act.put, List.setIfInBounds_toArray, List.set_cons_zero, List.set_cons_succ]
        refine wpAnyH_ready (rs := [7]) (by kernel_rfl) (by simp) ?_
        refine AllReadyH.cons (o := ?o8) ?hoo8 (fun K hK => ?ho8) AllReadyH.nil
        case hoo8 => (simp only [List.getElem?_toArray, List.getElem?_cons_succ, List.getElem?_cons_zero]; rfl)
        case ho8 =>
          go_simp
          have n103 : Blk (w102.alloc (.cells Z 45)) w102.heap.size 45 Z := blk_new _ _ _
          have kx_103 := kx_102.alloc (.cells Z 45)
          have lkx_103 := kx_102.lt
          have kp_103 := kp_102.alloc (.cells Z 45)
          have lkp_103 := kp_102.lt
          have kq_103 := kq_102.alloc (.cells Z 45)
          have lkq_103 := kq_102.lt
          have b103 := b102.alloc b102.size (.cells Z 45)
          refine hK.out _ _ kx_103 (fun hS103 => ?_)
          clear hK K
          try simp only [Act.put, List.setIfInBounds_toArray, List.set_cons_zero, List.set_cons_succ]
          refine wpAnyH_ready (rs := [8]) (by kernel_rfl) (by simp) ?_
          refine AllReadyH.cons (o := ?o7) ?hoo7 (fun K hK => ?ho7) AllReadyH.nil
          case hoo7 => (simp only [List.getElem?_toArray, List.getElem?_cons_succ, List.getElem?_cons_zero]; rfl)
          case ho7 =>
            refine step_storeBlk (g := w102.heap.size) (t := 45) (cs := Y) rfl 45 (.tmp 9) (.tmp 28) rfl rfl rfl Z n103 zW1 z18 oy ?_
            intro w104 n104 hg104
            have b104 : Below w.heap.size w w104 := b103.grown hg104 b103.size (fun j hj => by injection hj with hj; omega)
            have kx_104 := kx_103.grown hg104 (by omega)
            have kp_104 := kp_103.grown hg104 (by omega)
            have kq_104 := kq_103.grown hg104 (by omega)
            refine hK.out _ _ kx_104 (fun hS104 => ?_)
            clear hK K
            try simp only [Act.put, List.setIfInBounds_toArray, List.set_cons_zero, List.set_cons_succ]
            refine wpAnyH_take (i := 9) (oi := ?o6) (v := .int .i64 (EW : Int)) ?hio6 (by kernel_rfl) (by kernel_rfl) (by kernel_rfl) ?hQo6 ?hyo6 hS104 ?_
            case hio6 => (simp only [List.getElem?_toArray, List.getElem?_cons_succ, List.getElem?_cons_zero]; rfl)
            case hQo6 => exact fun _ _ _ h => h
            case hyo6 => exact Or.inl ⟨by rfl, fun W hW => by go_simp⟩
            try simp only [Act.put, List.setIfInBounds_toArray, List.set_cons_zero, List.set_cons_succ]
            refine wpAnyH_done (by kernel_rfl) ?_ _
            clear hS104
            go_wp2_with fail
            have hup : ∀ W, Below w104.heap.size w104 W → Below w.heap.size w W := fun W hW => Below.on b104 b104.size hW
            have hT : ∀ W, Below w104.heap.size w104 W → Tab W := fun W hW => Htab.out.on (hup W hW)
            have hH : ∀ W, Below w104.heap.size w104 W → Cl.HasM W := fun W hW => HM.out.on (hup W hW) hpos
            generalize hg9 : w102.heap.size = g9 at *
            generalize hg2 : w.heap.size = g2 at *
            refine wp_region_below w104.heap.size (by kernel_rfl) (by kernel_rfl) ?_
            repeat (first
              | go_big_quiet_skip
              | (go_big_quiet_want
                 first
                   | (refine qb_load (g := g5) (t := 45) (cs := P) 45 (.tmp 5) ?ho ?hx ?hA _ Tryd.underlying45 rfl zP1 ?_
                      case ho => with_reducible rfl
                      case hx => rfl
                      case hA => exact fun w' hw' => kp_104.on hw'
                      go_big_quiet_on
                      simp only [Act.put, List.setIfInBounds_toArray, List.set_cons_succ, List.set_cons_zero])
                   | (refine qb_load (g := g7) (t := 45) (cs := P) 45 (.tmp 7) ?ho ?hx ?hA _ Tryd.underlying45 rfl zP1 ?_
                      case ho => with_reducible rfl
                      case hx => rfl
                      case hA => exact fun w' hw' => kq_104.on hw'
                      go_big_quiet_on
                      simp only [Act.put, List.setIfInBounds_toArray, List.set_cons_succ, List.set_cons_zero])
                   | (refine qb_load (g := g9) (t := 45) (cs := Y) 45 (.tmp 9) ?ho ?hx ?hA _ Tryd.underlying45 rfl zW1 ?_
                      case ho => with_reducible rfl
                      case hx => rfl
                      case hA => exact fun w' hw' => n104.on hw'
                      go_big_quiet_on
                      simp only [Act.put, List.setIfInBounds_toArray, List.set_cons_succ, List.set_cons_zero])
                   | (refine qb_load (g := g2) (t := 24) (cs := X) 24 (.tmp 2) ?ho ?hx ?hA _ Tryd.underlying24 rfl zx ?_
                      case ho => with_reducible rfl
                      case hx => rfl
                      case hA => exact fun w' hw' => kx_104.on hw'
                      go_big_quiet_on
                      simp only [Act.put, List.setIfInBounds_toArray, List.set_cons_succ, List.set_cons_zero])
                   | (refine qe_eql (cs := P) (ds := P) (b := true) 45 45 (.tmp 30) (.tmp 31) ?ho ?hx ?hy Tryd.plainPfx ?he ?_
                      case ho => with_reducible rfl
                      case hx => rfl
                      case hy => rfl
                      case he => exact he1
                      go_big_quiet_on
                      simp only [Act.put, List.setIfInBounds_toArray, List.set_cons_succ, List.set_cons_zero])
                   | (refine qe_eql (cs := Y) (ds := Y) (b := true) 45 45 (.tmp 48) (.tmp 49) ?ho ?hx ?hy Tryd.plainPfx ?he ?_
                      case ho => with_reducible rfl
                      case hx => rfl
                      case hy => rfl
                      case he => exact he2
                      go_big_quiet_on
                      simp only [Act.put, List.setIfInBounds_toArray, List.set_cons_succ, List.set_cons_zero])
                   | (go_big_quiet_op
                      first
                        | go_big_quiet_on
                        | (with_reducible refine ⟨_, fun _ _ => rfl, ?_⟩; go_big_quiet_on)
                        | (apply Exists.intro
                           refine ⟨fun w' hw' => ?_, ?_⟩
                           · (go_at_call 30; with_reducible refine (H5.out _).mono ?_; exact fun _ _ h => ⟨h.1, Below.on hw' hw'.size h.2⟩)
                           go_big_quiet_on)
                        | (apply Exists.intro
                           refine ⟨fun w' hw' => ?_, ?_⟩
                           · (go_at_call 31; with_reducible refine (H6.out _).mono ?_; exact fun _ _ h => ⟨h.1, Below.on hw' hw'.size h.2⟩)
                           go_big_quiet_on)
                        | (apply Exists.intro
                           refine ⟨fun w' hw' => ?_, ?_⟩
                           · (go_at_call 32; with_reducible refine (alive11 _ (hT _ hw') (hH _ hw')).mono ?_; exact fun _ _ h => ⟨h.1, Below.on hw' hw'.size h.2⟩)
                           go_big_quiet_on))))
            refine wpQuiet_nil ?_
            intro wz hwz
            go_wp2
            go_ret
            exact ⟨rfl, by first | exact hup _ hwz | (rw [hg2]; exact hup _ hwz)⟩
      case ho16 =>
        go_simp
        have n105 : Blk (w101.alloc (.cells Z 45)) w101.heap.size 45 Z := blk_new _ _ _
        have kx_105 := kx_101.alloc (.cells Z 45)
        have lkx_105 := kx_101.lt
        have kp_105 := kp_101.alloc (.cells Z 45)
        have lkp_105 := kp_101.lt
        have kq_105 := kq_101.alloc (.cells Z 45)
        have lkq_105 := kq_101.lt
        have b105 := b101.alloc b101.size (.cells Z 45)
        refine hK.out _ _ kx_105 (fun hS105 => ?_)
        clear hK K
        try simp only [Act.put, List.setIfInBounds_toArray, List.set_cons_zero, List.set_cons_succ]
        refine wpAnyH_ready (rs := [3]) (by kernel_rfl) (by simp) ?_
        refine AllReadyH.cons (o := ?o14) ?hoo14 (fun K hK => ?ho14) AllReadyH.nil
        case hoo14 => (simp only [List.getElem?_toArray, List.getElem?_cons_succ, List.getElem?_cons_zero]; rfl)
        case ho14 =>
          go_simp
          go_at_call 29
          with_reducible refine (H4.out _).mono ?_
          rintro e w106 ⟨rfl, hw106⟩
          have kx_106 := kx_105.on hw106
          have kp_106 := kp_105.on hw106
          have kq_106 := kq_105.on hw106
          have b106 := Below.on b105 b105.size hw106
          have n106 := n105.on hw106
          refine hK.out _ _ kx_106 (fun hS106 => ?_)
          clear hK K hw106
          try simp only [Act.put, List.setIfInBounds_toArray, List.set_cons_zero, List.set_cons_succ]
          refine wpAnyH_take (i := 4) (oi := ?o9) (v := .tuple #[.agg Y, .int .i64 (EW : Int)]) ?hio9 (by kernel_rfl) (by kernel_rfl) (by kernel_rfl) ?hQo9 ?hyo9 hS106 ?_
          case hio9 => (simp only [List.getElem?_toArray, List.getElem?_cons_succ, List.getElem?_cons_zero]; rfl)
          case hQo9 => exact fun _ _ _ h => h
          case hyo9 => exact Or.inl ⟨by rfl, fun W hW => by go_simp⟩
          try simp only [Act.put, List.setIfInBounds_toArray, List.set_cons_zero, List.set_cons_succ]
          refine wpAnyH_take (i := 5) (oi := ?o10) (v := .agg Y) ?hio10 (by kernel_rfl) (by kernel_rfl) (by kernel_rfl) ?hQo10 ?hyo10 hS106 ?_
          case hio10 => (simp only [List.getElem?_toArray, List.getElem?_cons_succ, List.getElem?_cons_zero]; rfl)
          case hQo10 => exact fun _ _ _ h => h
          case hyo10 => exact Or.inl ⟨by rfl, fun W hW => by go_simp⟩
          try simp only [Act.put, List.setIfInBounds_toArray, List.set_cons_zero, List.set_cons_succ]
          refine wpAnyH_take (i := 6) (oi := ?o11) (v := .int .i64 (EW : Int)) ?hio11 (by kernel_rfl) (by kernel_rfl) (by kernel_rfl) ?hQo11 ?hyo11 hS106 ?_
          case hio11 => (simp only [List.getElem?_toArray, List.getElem?_cons_succ, List.getElem?_cons_zero]; rfl)
          case hQo11 => exact fun _ _ _ h => h
          case hyo11 => exact Or.inl ⟨by rfl, fun W hW => by go_simp⟩
          try simp only [Act.put, List.setIfInBounds_toArray, List.set_cons_zero, List.set_cons_succ]
          refine wpAnyH_ready (rs := [8]) (by kernel_rfl) (by simp) ?_
          refine AllReadyH.cons (o := ?o13) ?hoo13 (fun K hK => ?ho13) AllReadyH.nil
          case hoo13 => (simp only [List.getElem?_toArray, List.getElem?_cons_succ, List.getElem?_cons_zero]; rfl)
          case ho13 =>
            refine step_storeBlk (g := w101.heap.size) (t := 45) (cs := Y) rfl 45 (.tmp 9) (.tmp 28) rfl rfl rfl Z n106 zW1 z18 oy ?_
            intro w107 n107 hg107
            have b107 : Below w.heap.size w w107 := b106.grown hg107 b106.size (fun j hj => by injection hj with hj; omega)
            have kx_107 := kx_106.grown hg107 (by omega)
            have kp_107 := kp_106.grown hg107 (by omega)
            have kq_107 := kq_106.grown hg107 (by omega)
            refine hK.out _ _ kx_107 (fun hS107 => ?_)
            clear hK K
            try simp only [Act.put, List.setIfInBounds_toArray, List.set_cons_zero, List.set_cons_succ]
            refine wpAnyH_take (i := 9) (oi := ?o12) (v := .int .i64 (EW : Int)) ?hio12 (by kernel_rfl) (by kernel_rfl) (by kernel_rfl) ?hQo12 ?hyo12 hS107 ?_
            case hio12 => (simp only [List.getElem?_toArray, List.getElem?_cons_succ, List.getElem?_cons_zero]; rfl)
            case hQo12 => exact fun _ _ _ h => h
            case hyo12 => exact Or.inl ⟨by rfl, fun W hW => by go_simp⟩
            try simp only [Act.put, List.setIfInBounds_toArray, List.set_cons_zero, List.set_cons_succ]
            refine wpAnyH_done (by kernel_rfl) ?_ _
            clear hS107
            go_wp2_with fail
            have hup : ∀ W, Below w107.heap.size w107 W → Below w.heap.size w W := fun W hW => Below.on b107 b107.size hW
            have hT : ∀ W, Below w107.heap.size w107 W → Tab W := fun W hW => Htab.out.on (hup W hW)
            have hH : ∀ W, Below w107.heap.size w107 W → Cl.HasM W := fun W hW => HM.out.on (hup W hW) hpos
            generalize hg9 : w101.heap.size = g9 at *
            generalize hg2 : w.heap.size = g2 at *
            refine wp_region_below w107.heap.size (by kernel_rfl) (by kernel_rfl) ?_
            repeat (first
              | go_big_quiet_skip
              | (go_big_quiet_want
                 first
                   | (refine qb_load (g := g5) (t := 45) (cs := P) 45 (.tmp 5) ?ho ?hx ?hA _ Tryd.underlying45 rfl zP1 ?_
                      case ho => with_reducible rfl
                      case hx => rfl
                      case hA => exact fun w' hw' => kp_107.on hw'
                      go_big_quiet_on
                      simp only [Act.put, List.setIfInBounds_toArray, List.set_cons_succ, List.set_cons_zero])
                   | (refine qb_load (g := g7) (t := 45) (cs := P) 45 (.tmp 7) ?ho ?hx ?hA _ Tryd.underlying45 rfl zP1 ?_
                      case ho => with_reducible rfl
                      case hx => rfl
                      case hA => exact fun w' hw' => kq_107.on hw'
                      go_big_quiet_on
                      simp only [Act.put, List.setIfInBounds_toArray, List.set_cons_succ, List.set_cons_zero])
                   | (refine qb_load (g := g9) (t := 45) (cs := Y) 45 (.tmp 9) ?ho ?hx ?hA _ Tryd.underlying45 rfl zW1 ?_
                      case ho => with_reducible rfl
                      case hx => rfl
                      case hA => exact fun w' hw' => n107.on hw'
                      go_big_quiet_on
                      simp only [Act.put, List.setIfInBounds_toArray, List.set_cons_succ, List.set_cons_zero])
                   | (refine qb_load (g := g2) (t := 24) (cs := X) 24 (.tmp 2) ?ho ?hx ?hA _ Tryd.underlying24 rfl zx ?_
                      case ho => with_reducible rfl
                      case hx => rfl
                      case hA => exact fun w' hw' => kx_107.on hw'
                      go_big_quiet_on
                      simp only [Act.put, List.setIfInBounds_toArray, List.set_cons_succ, List.set_cons_zero])
                   | (refine qe_eql (cs := P) (ds := P) (b := true) 45 45 (.tmp 30) (.tmp 31) ?ho ?hx ?hy Tryd.plainPfx ?he ?_
                      case ho => with_reducible rfl
                      case hx => rfl
                      case hy => rfl
                      case he => exact he1
                      go_big_quiet_on
                      simp only [Act.put, List.setIfInBounds_toArray, List.set_cons_succ, List.set_cons_zero])
                   | (refine qe_eql (cs := Y) (ds := Y) (b := true) 45 45 (.tmp 48) (.tmp 49) ?ho ?hx ?hy Tryd.plainPfx ?he ?_
                      case ho => with_reducible rfl
                      case hx => rfl
                      case hy => rfl
                      case he => exact he2
                      go_big_quiet_on
                      simp only [Act.put, List.setIfInBounds_toArray, List.set_cons_succ, List.set_cons_zero])
                   | (go_big_quiet_op
                      first
                        | go_big_quiet_on
                        | (with_reducible refine ⟨_, fun _ _ => rfl, ?_⟩; go_big_quiet_on)
                        | (apply Exists.intro
                           refine ⟨fun w' hw' => ?_, ?_⟩
                           · (go_at_call 30; with_reducible refine (H5.out _).mono ?_; exact fun _ _ h => ⟨h.1, Below.on hw' hw'.size h.2⟩)
                           go_big_quiet_on)
                        | (apply Exists.intro
                           refine ⟨fun w' hw' => ?_, ?_⟩
                           · (go_at_call 31; with_reducible refine (H6.out _).mono ?_; exact fun _ _ h => ⟨h.1, Below.on hw' hw'.size h.2⟩)
                           go_big_quiet_on)
                        | (apply Exists.intro
                           refine ⟨fun w' hw' => ?_, ?_⟩
                           · (go_at_call 32; with_reducible refine (alive11 _ (hT _ hw') (hH _ hw')).mono ?_; exact fun _ _ h => ⟨h.1, Below.on hw' hw'.size h.2⟩)
                           go_big_quiet_on))))
            refine wpQuiet_nil ?_
            intro wz hwz
            go_wp2
            go_ret
            exact ⟨rfl, by first | exact hup _ hwz | (rw [hg2]; exact hup _ hwz)⟩
    case ho25 =>
      go_simp
      have n108 : Blk (W1.alloc (.cells Z 45)) W1.heap.size 45 Z := blk_new _ _ _
      have kx_108 := kx_0.alloc (.cells Z 45)
      have lkx_108 := kx_0.lt
      have kp_108 := kp_0.alloc (.cells Z 45)
      have lkp_108 := kp_0.lt
      have kq_108 := kq_0.alloc (.cells Z 45)
      have lkq_108 := kq_0.lt
      have b108 := bb.alloc bb.size (.cells Z 45)
      refine hK.out _ _ kx_108 (fun hS108 => ?_)
      clear hK K
      try simp only [Act.put, List.setIfInBounds_toArray, List.set_cons_zero, List.set_cons_succ]
      refine wpAnyH_ready (rs := [2]) (by kernel_rfl) (by simp) ?_
      refine AllReadyH.cons (o := ?o23) ?hoo23 (fun K hK => ?ho23) AllReadyH.nil
      case hoo23 => (simp only [List.getElem?_toArray, List.getElem?_cons_succ, List.getElem?_cons_zero]; rfl)
      case ho23 =>
        go_simp
        go_at_call 20
        with_reducible refine (H3.out _).mono ?_
        rintro e w109 ⟨rfl, hw109⟩
        have kx_109 := kx_108.on hw109
        have kp_109 := kp_108.on hw109
        have kq_109 := kq_108.on hw109
        have b109 := Below.on b108 b108.size hw109
        have n109 := n108.on hw109
        refine hK.out _ _ kx_109 (fun hS109 => ?_)
        clear hK K hw109
        try simp only [Act.put, List.setIfInBounds_toArray, List.set_cons_zero, List.set_cons_succ]
        refine wpAnyH_ready (rs := [3]) (by kernel_rfl) (by simp) ?_
        refine AllReadyH.cons (o := ?o22) ?hoo22 (fun K hK => ?ho22) AllReadyH.nil
        case hoo22 => (simp only [List.getElem?_toArray, List.getElem?_cons_succ, List.getElem?_cons_zero]; rfl)
        case ho22 =>
          go_simp
          go_at_call 29
          with_reducible refine (H4.out _).mono ?_
          rintro e w110 ⟨rfl, hw110⟩
          have kx_110 := kx_109.on hw110
          have kp_110 := kp_109.on hw110
          have kq_110 := kq_109.on hw110
          have b110 := Below.on b109 b109.size hw110
          have n110 := n109.on hw110
          refine hK.out _ _ kx_110 (fun hS110 => ?_)
          clear hK K hw110
          try simp only [Act.put, List.setIfInBounds_toArray, List.set_cons_zero, List.set_cons_succ]
          refine wpAnyH_take (i := 4) (oi := ?o17) (v := .tuple #[.agg Y, .int .i64 (EW : Int)]) ?hio17 (by kernel_rfl) (by kernel_rfl) (by kernel_rfl) ?hQo17 ?hyo17 hS110 ?_
          case hio17 => (simp only [List.getElem?_toArray, List.getElem?_cons_succ, List.getElem?_cons_zero]; rfl)
          case hQo17 => exact fun _ _ _ h => h
          case hyo17 => exact Or.inl ⟨by rfl, fun W hW => by go_simp⟩
          try simp only [Act.put, List.setIfInBounds_toArray, List.set_cons_zero, List.set_cons_succ]
          refine wpAnyH_take (i := 5) (oi := ?o18) (v := .agg Y) ?hio18 (by kernel_rfl) (by kernel_rfl) (by kernel_rfl) ?hQo18 ?hyo18 hS110 ?_
          case hio18 => (simp only [List.getElem?_toArray, List.getElem?_cons_succ, List.getElem?_cons_zero]; rfl)
          case hQo18 => exact fun _ _ _ h => h
          case hyo18 => exact Or.inl ⟨by rfl, fun W hW => by go_simp⟩
          try simp only [Act.put, List.setIfInBounds_toArray, List.set_cons_zero, List.set_cons_succ]
          refine wpAnyH_take (i := 6) (oi := ?o19) (v := .int .i64 (EW : Int)) ?hio19 (by kernel_rfl) (by kernel_rfl) (by kernel_rfl) ?hQo19 ?hyo19 hS110 ?_
          case hio19 => (simp only [List.getElem?_toArray, List.getElem?_cons_succ, List.getElem?_cons_zero]; rfl)
          case hQo19 => exact fun _ _ _ h => h
          case hyo19 => exact Or.inl ⟨by rfl, fun W hW => by go_simp⟩
          try simp only [Act.put, List.setIfInBounds_toArray, List.set_cons_zero, List.set_cons_succ]
          refine wpAnyH_ready (rs := [8]) (by kernel_rfl) (by simp) ?_
          refine AllReadyH.cons (o := ?o21) ?hoo21 (fun K hK => ?ho21) AllReadyH.nil
          case hoo21 => (simp only [List.getElem?_toArray, List.getElem?_cons_succ, List.getElem?_cons_zero]; rfl)
          case ho21 =>
            refine step_storeBlk (g := W1.heap.size) (t := 45) (cs := Y) rfl 45 (.tmp 9) (.tmp 28) rfl rfl rfl Z n110 zW1 z18 oy ?_
            intro w111 n111 hg111
            have b111 : Below w.heap.size w w111 := b110.grown hg111 b110.size (fun j hj => by injection hj with hj; omega)
            have kx_111 := kx_110.grown hg111 (by omega)
            have kp_111 := kp_110.grown hg111 (by omega)
            have kq_111 := kq_110.grown hg111 (by omega)
            refine hK.out _ _ kx_111 (fun hS111 => ?_)
            clear hK K
            try simp only [Act.put, List.setIfInBounds_toArray, List.set_cons_zero, List.set_cons_succ]
            refine wpAnyH_take (i := 9) (oi := ?o20) (v := .int .i64 (EW : Int)) ?hio20 (by kernel_rfl) (by kernel_rfl) (by kernel_rfl) ?hQo20 ?hyo20 hS111 ?_
            case hio20 => (simp only [List.getElem?_toArray, List.getElem?_cons_succ, List.getElem?_cons_zero]; rfl)
            case hQo20 => exact fun _ _ _ h => h
            case hyo20 => exact Or.inl ⟨by rfl, fun W hW => by go_simp⟩
            try simp only [Act.put, List.setIfInBounds_toArray, List.set_cons_zero, List.set_cons_succ]
            refine wpAnyH_done (by kernel_rfl) ?_ _
            clear hS111
            go_wp2_with fail
            have hup : ∀ W, Below w111.heap.size w111 W → Below w.heap.size w W := fun W hW => Below.on b111 b111.size hW
            have hT : ∀ W, Below w111.heap.size w111 W → Tab W := fun W hW => Htab.out.on (hup W hW)
            have hH : ∀ W, Below w111.heap.size w111 W → Cl.HasM W := fun W hW => HM.out.on (hup W hW) hpos
            generalize hg9 : W1.heap.size = g9 at *
            generalize hg2 : w.heap.size = g2 at *
            refine wp_region_below w111.heap.size (by kernel_rfl) (by kernel_rfl) ?_
            repeat (first
              | go_big_quiet_skip
              | (go_big_quiet_want
                 first
                   | (refine qb_load (g := g5) (t := 45) (cs := P) 45 (.tmp 5) ?ho ?hx ?hA _ Tryd.underlying45 rfl zP1 ?_
                      case ho => with_reducible rfl
                      case hx => rfl
                      case hA => exact fun w' hw' => kp_111.on hw'
                      go_big_quiet_on
                      simp only [Act.put, List.setIfInBounds_toArray, List.set_cons_succ, List.set_cons_zero])
                   | (refine qb_load (g := g7) (t := 45) (cs := P) 45 (.tmp 7) ?ho ?hx ?hA _ Tryd.underlying45 rfl zP1 ?_
                      case ho => with_reducible rfl
                      case hx => rfl
                      case hA => exact fun w' hw' => kq_111.on hw'
                      go_big_quiet_on
                      simp only [Act.put, List.setIfInBounds_toArray, List.set_cons_succ, List.set_cons_zero])
                   | (refine qb_load (g := g9) (t := 45) (cs := Y) 45 (.tmp 9) ?ho ?hx ?hA _ Tryd.underlying45 rfl zW1 ?_
                      case ho => with_reducible rfl
                      case hx => rfl
                      case hA => exact fun w' hw' => n111.on hw'
                      go_big_quiet_on
                      simp only [Act.put, List.setIfInBounds_toArray, List.set_cons_succ, List.set_cons_zero])
                   | (refine qb_load (g := g2) (t := 24) (cs := X) 24 (.tmp 2) ?ho ?hx ?hA _ Tryd.underlying24 rfl zx ?_
                      case ho => with_reducible rfl
                      case hx => rfl
                      case hA => exact fun w' hw' => kx_111.on hw'
                      go_big_quiet_on
                      simp only [Act.put, List.setIfInBounds_toArray, List.set_cons_succ, List.set_cons_zero])
                   | (refine qe_eql (cs := P) (ds := P) (b := true) 45 45 (.tmp 30) (.tmp 31) ?ho ?hx ?hy Tryd.plainPfx ?he ?_
                      case ho => with_reducible rfl
                      case hx => rfl
                      case hy => rfl
                      case he => exact he1
                      go_big_quiet_on
                      simp only [Act.put, List.setIfInBounds_toArray, List.set_cons_succ, List.set_cons_zero])
                   | (refine qe_eql (cs := Y) (ds := Y) (b := true) 45 45 (.tmp 48) (.tmp 49) ?ho ?hx ?hy Tryd.plainPfx ?he ?_
                      case ho => with_reducible rfl
                      case hx => rfl
                      case hy => rfl
                      case he => exact he2
                      go_big_quiet_on
                      simp only [Act.put, List.setIfInBounds_toArray, List.set_cons_succ, List.set_cons_zero])
                   | (go_big_quiet_op
                      first
                        | go_big_quiet_on
                        | (with_reducible refine ⟨_, fun _ _ => rfl, ?_⟩; go_big_quiet_on)
                        | (apply Exists.intro
                           refine ⟨fun w' hw' => ?_, ?_⟩
                           · (go_at_call 30; with_reducible refine (H5.out _).mono ?_; exact fun _ _ h => ⟨h.1, Below.on hw' hw'.size h.2⟩)
                           go_big_quiet_on)
                        | (apply Exists.intro
                           refine ⟨fun w' hw' => ?_, ?_⟩
                           · (go_at_call 31; with_reducible refine (H6.out _).mono ?_; exact fun _ _ h => ⟨h.1, Below.on hw' hw'.size h.2⟩)
                           go_big_quiet_on)
                        | (apply Exists.intro
                           refine ⟨fun w' hw' => ?_, ?_⟩
                           · (go_at_call 32; with_reducible refine (alive11 _ (hT _ hw') (hH _ hw')).mono ?_; exact fun _ _ h => ⟨h.1, Below.on hw' hw'.size h.2⟩)
                           go_big_quiet_on))))
            refine wpQuiet_nil ?_
            intro wz hwz
            go_wp2
            go_ret
            exact ⟨rfl, by first | exact hup _ hwz | (rw [hg2]; exact hup _ hwz)⟩
  · rw [hE] at h1 h2
    have H1 := Lib.hid h1
    have H2 := Lib.hid h2
    have H5 := Lib.hid h5
    clear h1 h2 h5 hE hRR
    go_enter Tryd.func5, Tryd.ntmps5
    go_wp2_with (first
      | (refine wpList_loadBlk (g := w.heap.size) (t := 24) (cs := X) ?hw 24 (.tmp 2) ?ho ?hx ?hA _ Tryd.underlying24 rfl ?hi ?_
         case hw => rfl
         case ho => with_reducible rfl
         case hx => rfl
         case hA => exact k0
         case hi => exact zx)
      | fail)
    refine (H1.out _).mono ?_; rintro e w1 ⟨rfl, hb1⟩
    have k1 := (k0.on (by exact hb1)).alloc (.cells P 45)
    have p1 : Blk (w1.alloc (.cells P 45)) w1.heap.size 45 P := blk_new _ _ _
    have b1 := Below.on b0 b0.size (by exact hb1)
    have b1 := b1.alloc b1.size (.cells P 45)
    clear hb1 k0 b0
    go_wp2_with (first
      | (refine wpList_allocStore (cs := P) rfl rfl 45 ?ho (.tmp 5) (.tmp 15) ?ho2 Tryd.zeroPfx rfl ?hx ?hy ?hn ?h1 ?_
         case ho => with_reducible rfl
         case ho2 => with_reducible rfl
         case hx => rfl
         case hy => rfl
         case hn => exact x18
         case h1 => exact ox)
      | (refine wpList_loadBlk (g := w.heap.size) (t := 24) (cs := X) ?hw 24 (.tmp 2) ?ho ?hx ?hA _ Tryd.underlying24 rfl ?hi ?_
         case hw => rfl
         case ho => with_reducible rfl
         case hx => rfl
         case hA => exact k1
         case hi => exact zx)
      | fail)
    refine (H2.out _).mono ?_; rintro e w2 ⟨rfl, hb2⟩
    have k2 := (k1.on (by exact hb2)).alloc (.cells P 45)
    have p2 := (p1.on (by exact hb2)).alloc (.cells P 45)
    have q2 : Blk (w2.alloc (.cells P 45)) w2.heap.size 45 P := blk_new _ _ _
    have b2 := Below.on b1 b1.size (by exact hb2)
    have b2 := b2.alloc b2.size (.cells P 45)
    clear hb2 k1 b1 p1
    go_wp2_with (first
      | (refine wpList_allocStore (cs := P) rfl rfl 45 ?ho (.tmp 7) (.tmp 21) ?ho2 Tryd.zeroPfx rfl ?hx ?hy ?hn ?h1 ?_
         case ho => with_reducible rfl
         case ho2 => with_reducible rfl
         case hx => rfl
         case hy => rfl
         case hn => exact x18
         case h1 => exact ox)
      | fail)
    generalize hg5 : w1.heap.size = g5 at *
    generalize hg7 : w2.heap.size = g7 at *
    generalize w2.alloc (.cells P 45) = w3 at *
    clear hg5 hg7
    have kx_0 : Blk w3.drew w.heap.size 24 X := k2
    have kp_0 : Blk w3.drew g5 45 P := p2
    have kq_0 : Blk w3.drew g7 45 P := q2
    have bb : Below w.heap.size w w3.drew := b2.drew
    clear k2 p2 q2 b2
    refine wp_region_held_drew (S := fun W => Blk W w.heap.size 24 X) (by kernel_rfl) kx_0 ?_
    intro hS
    generalize w3.drew = W1 at *
    refine wpAnyH_take (i := 0) (oi := ?o26) (v := .agg X) ?hio26 (by kernel_rfl) (by kernel_rfl) (by kernel_rfl) ?hQo26 ?hyo26 hS ?_
    case hio26 => (simp only [List.getElem?_toArray, List.getElem?_cons_succ, List.getElem?_cons_zero]; rfl)
    case hQo26 => exact fun _ _ _ h => h
    case hyo26 => exact yieldsIf_load_mid (by rfl) 24 (.tmp 2) rfl w.heap.size 0 rfl X.toList _ (fun W hW => Blk.range0 hW) Tryd.underlying24 rfl (by simpa using zx)
    try simp only [Act.put, List.setIfInBounds_toArray, List.set_cons_zero, List.set_cons_succ]
    refine wpAnyH_take (i := 1) (oi := ?o27) (v := .agg X) ?hio27 (by kernel_rfl) (by kernel_rfl) (by kernel_rfl) ?hQo27 ?hyo27 hS ?_
    case hio27 => (simp only [List.getElem?_toArray, List.getElem?_cons_succ, List.getElem?_cons_zero]; rfl)
    case hQo27 => exact fun _ _ _ h => h
    case hyo27 => exact yieldsIf_load_mid (by rfl) 24 (.tmp 2) rfl w.heap.size 0 rfl X.toList _ (fun W hW => Blk.range0 hW) Tryd.underlying24 rfl (by simpa using zx)
    try simp only [Act.put, List.setIfInBounds_toArray, List.set_cons_zero, List.set_cons_succ]
    refine wpAnyH_ready (rs := [2, 7]) (by kernel_rfl) (by simp) ?_
    refine AllReadyH.cons (o := ?o49) ?hoo49 (fun K hK => ?ho49) (AllReadyH.cons (o := ?o50) ?hoo50 (fun K hK => ?ho50) AllReadyH.nil)
    case hoo49 => (simp only [List.getElem?_toArray, List.getElem?_cons_succ, List.getElem?_cons_zero]; rfl)
    case hoo50 => (simp only [List.getElem?_toArray, List.getElem?_cons_succ, List.getElem?_cons_zero]; rfl)
    case ho49 =>
      go_simp
      go_at_call 20
      with_reducible refine (H3.out _).mono ?_
      rintro e w112 ⟨rfl, hw112⟩
      have kx_112 := kx_0.on hw112
      have kp_112 := kp_0.on hw112
      have kq_112 := kq_0.on hw112
      have b112 := Below.on bb bb.size hw112
      refine hK.out _ _ kx_112 (fun hS112 => ?_)
      clear hK K hw112
      try simp only [Act.put, List.setIfInBounds_toArray, List.set_cons_zero, List.set_cons_succ]
      refine wpAnyH_ready (rs := [3, 7]) (by kernel_rfl) (by simp) ?_
      refine AllReadyH.cons (o := ?o40) ?hoo40 (fun K hK => ?ho40) (AllReadyH.cons (o := ?o41) ?hoo41 (fun K hK => ?ho41) AllReadyH.nil)
      case hoo40 => (simp only [List.getElem?_toArray, List.getElem?_cons_succ, List.getElem?_cons_zero]; rfl)
      case hoo41 => (simp only [List.getElem?_toArray, List.getElem?_cons_succ, List.getElem?_cons_zero]; rfl)
      case ho40 =>
        go_simp
        go_at_call 29
        with_reducible refine (H4.out _).mono ?_
        rintro e w113 ⟨rfl, hw113⟩
        have kx_113 := kx_112.on hw113
        have kp_113 := kp_112.on hw113
        have kq_113 := kq_112.on hw113
        have b113 := Below.on b112 b112.size hw113
        refine hK.out _ _ kx_113 (fun hS113 => ?_)
        clear hK K hw113
        try simp only [Act.put, List.setIfInBounds_toArray, List.set_cons_zero, List.set_cons_succ]
        refine wpAnyH_take (i := 4) (oi := ?o28) (v := .tuple #[.agg Y, .int .i64 (EW : Int)]) ?hio28 (by kernel_rfl) (by kernel_rfl) (by kernel_rfl) ?hQo28 ?hyo28 hS113 ?_
        case hio28 => (simp only [List.getElem?_toArray, List.getElem?_cons_succ, List.getElem?_cons_zero]; rfl)
        case hQo28 => exact fun _ _ _ h => h
        case hyo28 => exact Or.inl ⟨by rfl, fun W hW => by go_simp⟩
        try simp only [Act.put, List.setIfInBounds_toArray, List.set_cons_zero, List.set_cons_succ]
        refine wpAnyH_take (i := 5) (oi := ?o29) (v := .agg Y) ?hio29 (by kernel_rfl) (by kernel_rfl) (by kernel_rfl) ?hQo29 ?hyo29 hS113 ?_
        case hio29 => (simp only [List.getElem?_toArray, List.getElem?_cons_succ, List.getElem?_cons_zero]; rfl)
        case hQo29 => exact fun _ _ _ h => h
        case hyo29 => exact Or.inl ⟨by rfl, fun W hW => by go_simp⟩
        try simp only [Act.put, List.setIfInBounds_toArray, List.set_cons_zero, List.set_cons_succ]
        refine wpAnyH_take (i := 6) (oi := ?o30) (v := .int .i64 (EW : Int)) ?hio30 (by kernel_rfl) (by kernel_rfl) (by kernel_rfl) ?hQo30 ?hyo30 hS113 ?_
        case hio30 => (simp only [List.getElem?_toArray, List.getElem?_cons_succ, List.getElem?_cons_zero]; rfl)
        case hQo30 => exact fun _ _ _ h => h
        case hyo30 => exact Or.inl ⟨by rfl, fun W hW => by go_simp⟩
        try simp only [Act.put, List.setIfInBounds_toArray, List.set_cons_zero, List.set_cons_succ]
        refine wpAnyH_ready (rs := [7]) (by kernel_rfl) (by simp) ?_
        refine AllReadyH.cons (o := ?o33) ?hoo33 (fun K hK => ?ho33) AllReadyH.nil
        case hoo33 => (simp only [List.getElem?_toArray, List.getElem?_cons_succ, List.getElem?_cons_zero]; rfl)
        case ho33 =>
          go_simp
          have n114 : Blk (w113.alloc (.cells Z 45)) w113.heap.size 45 Z := blk_new _ _ _
          have kx_114 := kx_113.alloc (.cells Z 45)
          have lkx_114 := kx_113.lt
          have kp_114 := kp_113.alloc (.cells Z 45)
          have lkp_114 := kp_113.lt
          have kq_114 := kq_113.alloc (.cells Z 45)
          have lkq_114 := kq_113.lt
          have b114 := b113.alloc b113.size (.cells Z 45)
          refine hK.out _ _ kx_114 (fun hS114 => ?_)
          clear hK K
          try simp only [Act.put, List.setIfInBounds_toArray, List.set_cons_zero, List.set_cons_succ]
          refine wpAnyH_ready (rs := [8]) (by kernel_rfl) (by simp) ?_
          refine AllReadyH.cons (o := ?o32) ?hoo32 (fun K hK => ?ho32) AllReadyH.nil
          case hoo32 => (simp only [List.getElem?_toArray, List.getElem?_cons_succ, List.getElem?_cons_zero]; rfl)
          case ho32 =>
            refine step_storeBlk (g := w113.heap.size) (t := 45) (cs := Y) rfl 45 (.tmp 9) (.tmp 28) rfl rfl rfl Z n114 zW1 z18 oy ?_
            intro w115 n115 hg115
            have b115 : Below w.heap.size w w115 := b114.grown hg115 b114.size (fun j hj => by injection hj with hj; omega)
            have kx_115 := kx_114.grown hg115 (by omega)
            have kp_115 := kp_114.grown hg115 (by omega)
            have kq_115 := kq_114.grown hg115 (by omega)
            refine hK.out _ _ kx_115 (fun hS115 => ?_)
            clear hK K
            try simp only [Act.put, List.setIfInBounds_toArray, List.set_cons_zero, List.set_cons_succ]
            refine wpAnyH_take (i := 9) (oi := ?o31) (v := .int .i64 (EW : Int)) ?hio31 (by kernel_rfl) (by kernel_rfl) (by kernel_rfl) ?hQo31 ?hyo31 hS115 ?_
            case hio31 => (simp only [List.getElem?_toArray, List.getElem?_cons_succ, List.getElem?_cons_zero]; rfl)
            case hQo31 => exact fun _ _ _ h => h
            case hyo31 => exact Or.inl ⟨by rfl, fun W hW => by go_simp⟩
            try simp only [Act.put, List.setIfInBounds_toArray, List.set_cons_zero, List.set_cons_succ]
            refine wpAnyH_done (by kernel_rfl) ?_ _
            clear hS115
            go_wp2_with fail
            have hup : ∀ W, Below w115.heap.size w115 W → Below w.heap.size w W := fun W hW => Below.on b115 b115.size hW
            have hT : ∀ W, Below w115.heap.size w115 W → Tab W := fun W hW => Htab.out.on (hup W hW)
            have hH : ∀ W, Below w115.heap.size w115 W → Cl.HasM W := fun W hW => HM.out.on (hup W hW) hpos
            generalize hg9 : w113.heap.size = g9 at *
            generalize hg2 : w.heap.size = g2 at *
            refine wp_region_below w115.heap.size (by kernel_rfl) (by kernel_rfl) ?_
            repeat (first
              | go_big_quiet_skip
              | (go_big_quiet_want
                 first
                   | (refine qb_load (g := g5) (t := 45) (cs := P) 45 (.tmp 5) ?ho ?hx ?hA _ Tryd.underlying45 rfl zP1 ?_
                      case ho => with_reducible rfl
                      case hx => rfl
                      case hA => exact fun w' hw' => kp_115.on hw'
                      go_big_quiet_on
                      simp only [Act.put, List.setIfInBounds_toArray, List.set_cons_succ, List.set_cons_zero])
                   | (refine qb_load (g := g7) (t := 45) (cs := P) 45 (.tmp 7) ?ho ?hx ?hA _ Tryd.underlying45 rfl zP1 ?_
                      case ho => with_reducible rfl
                      case hx => rfl
                      case hA => exact fun w' hw' => kq_115.on hw'
                      go_big_quiet_on
                      simp only [Act.put, List.setIfInBounds_toArray, List.set_cons_succ, List.set_cons_zero])
                   | (refine qb_load (g := g9) (t := 45) (cs := Y) 45 (.tmp 9) ?ho ?hx ?hA _ Tryd.underlying45 rfl zW1 ?_
                      case ho => with_reducible rfl
                      case hx => rfl
                      case hA => exact fun w' hw' => n115.on hw'
                      go_big_quiet_on
                      simp only [Act.put, List.setIfInBounds_toArray, List.set_cons_succ, List.set_cons_zero])
                   | (refine qb_load (g := g2) (t := 24) (cs := X) 24 (.tmp 2) ?ho ?hx ?hA _ Tryd.underlying24 rfl zx ?_
                      case ho => with_reducible rfl
                      case hx => rfl
                      case hA => exact fun w' hw' => kx_115.on hw'
                      go_big_quiet_on
                      simp only [Act.put, List.setIfInBounds_toArray, List.set_cons_succ, List.set_cons_zero])
                   | (refine qe_eql (cs := P) (ds := P) (b := true) 45 45 (.tmp 30) (.tmp 31) ?ho ?hx ?hy Tryd.plainPfx ?he ?_
                      case ho => with_reducible rfl
                      case hx => rfl
                      case hy => rfl
                      case he => exact he1
                      go_big_quiet_on
                      simp only [Act.put, List.setIfInBounds_toArray, List.set_cons_succ, List.set_cons_zero])
                   | (refine qe_eql (cs := Y) (ds := Y) (b := true) 45 45 (.tmp 48) (.tmp 49) ?ho ?hx ?hy Tryd.plainPfx ?he ?_
                      case ho => with_reducible rfl
                      case hx => rfl
                      case hy => rfl
                      case he => exact he2
                      go_big_quiet_on
                      simp only [Act.put, List.setIfInBounds_toArray, List.set_cons_succ, List.set_cons_zero])
                   | (go_big_quiet_op
                      first
                        | go_big_quiet_on
                        | (with_reducible refine ⟨_, fun _ _ => rfl, ?_⟩; go_big_quiet_on)
                        | (apply Exists.intro
                           refine ⟨fun w' hw' => ?_, ?_⟩
                           · (go_at_call 30; with_reducible refine (H5.out _).mono ?_; exact fun _ _ h => ⟨h.1, Below.on hw' hw'.size h.2⟩)
                           go_big_quiet_on)
                        | (apply Exists.intro
                           refine ⟨fun w' hw' => ?_, ?_⟩
                           · (go_at_call 31; with_reducible refine (H6.out _).mono ?_; exact fun _ _ h => ⟨h.1, Below.on hw' hw'.size h.2⟩)
                           go_big_quiet_on)
                        | (apply Exists.intro
                           refine ⟨fun w' hw' => ?_, ?_⟩
                           · (go_at_call 32; with_reducible refine (alive11 _ (hT _ hw') (hH _ hw')).mono ?_; exact fun _ _ h => ⟨h.1, Below.on hw' hw'.size h.2⟩)
                           go_big_quiet_on))))
            refine wpQuiet_nil ?_
            intro wz hwz
            go_wp2
            go_ret
            exact ⟨rfl, by first | exact hup _ hwz | (rw [hg2]; exact hup _ hwz)⟩
      case ho41 =>
        go_simp
        have n116 : Blk (w112.alloc (.cells Z 45)) w112.heap.size 45 Z := blk_new _ _ _
        have kx_116 := kx_112.alloc (.cells Z 45)
        have lkx_116 := kx_112.lt
        have kp_116 := kp_112.alloc (.cells Z 45)
        have lkp_116 := kp_112.lt
        have kq_116 := kq_112.alloc (.cells Z 45)
        have lkq_116 := kq_112.lt
        have b116 := b112.alloc b112.size (.cells Z 45)
        refine hK.out _ _ kx_116 (fun hS116 => ?_)
        clear hK K
        try simp only [Act.put, List.setIfInBounds_toArray, List.set_cons_zero, List.set_cons_succ]
        refine wpAnyH_ready (rs := [3]) (by kernel_rfl) (by simp) ?_
        refine AllReadyH.cons (o := ?o39) ?hoo39 (fun K hK => ?ho39) AllReadyH.nil
        case hoo39 => (simp only [List.getElem?_toArray, List.getElem?_cons_succ, List.getElem?_cons_zero]; rfl)
        case ho39 =>
          go_simp
          go_at_call 29
          with_reducible refine (H4.out _).mono ?_
          rintro e w117 ⟨rfl, hw117⟩
          have kx_117 := kx_116.on hw117
          have kp_117 := kp_116.on hw117
          have kq_117 := kq_116.on hw117
          have b117 := Below.on b116 b116.size hw117
          have n117 := n116.on hw117
          refine hK.out _ _ kx_117 (fun hS117 => ?_)
          clear hK K hw117
          try simp only [Act.put, List.setIfInBounds_toArray, List.set_cons_zero, List.set_cons_succ]
          refine wpAnyH_take (i := 4) (oi := ?o34) (v := .tuple #[.agg Y, .int .i64 (EW : Int)]) ?hio34 (by kernel_rfl) (by kernel_rfl) (by kernel_rfl) ?hQo34 ?hyo34 hS117 ?_
          case hio34 => (simp only [List.getElem?_toArray, List.getElem?_cons_succ, List.getElem?_cons_zero]; rfl)
          case hQo34 => exact fun _ _ _ h => h
          case hyo34 => exact Or.inl ⟨by rfl, fun W hW => by go_simp⟩
          try simp only [Act.put, List.setIfInBounds_toArray, List.set_cons_zero, List.set_cons_succ]
          refine wpAnyH_take (i := 5) (oi := ?o35) (v := .agg Y) ?hio35 (by kernel_rfl) (by kernel_rfl) (by kernel_rfl) ?hQo35 ?hyo35 hS117 ?_
          case hio35 => (simp only [List.getElem?_toArray, List.getElem?_cons_succ, List.getElem?_cons_zero]; rfl)
          case hQo35 => exact fun _ _ _ h => h
          case hyo35 => exact Or.inl ⟨by rfl, fun W hW => by go_simp⟩
          try simp only [Act.put, List.setIfInBounds_toArray, List.set_cons_zero, List.set_cons_succ]
          refine wpAnyH_take (i := 6) (oi := ?o36) (v := .int .i64 (EW : Int)) ?hio36 (by kernel_rfl) (by kernel_rfl) (by kernel_rfl) ?hQo36 ?hyo36 hS117 ?_
          case hio36 => (simp only [List.getElem?_toArray, List.getElem?_cons_succ, List.getElem?_cons_zero]; rfl)
          case hQo36 => exact fun _ _ _ h => h
          case hyo36 => exact Or.inl ⟨by rfl, fun W hW => by go_simp⟩
          try simp only [Act.put, List.setIfInBounds_toArray, List.set_cons_zero, List.set_cons_succ]
          refine wpAnyH_ready (rs := [8]) (by kernel_rfl) (by simp) ?_
          refine AllReadyH.cons (o := ?o38) ?hoo38 (fun K hK => ?ho38) AllReadyH.nil
          case hoo38 => (simp only [List.getElem?_toArray, List.getElem?_cons_succ, List.getElem?_cons_zero]; rfl)
          case ho38 =>
            refine step_storeBlk (g := w112.heap.size) (t := 45) (cs := Y) rfl 45 (.tmp 9) (.tmp 28) rfl rfl rfl Z n117 zW1 z18 oy ?_
            intro w118 n118 hg118
            have b118 : Below w.heap.size w w118 := b117.grown hg118 b117.size (fun j hj => by injection hj with hj; omega)
            have kx_118 := kx_117.grown hg118 (by omega)
            have kp_118 := kp_117.grown hg118 (by omega)
            have kq_118 := kq_117.grown hg118 (by omega)
            refine hK.out _ _ kx_118 (fun hS118 => ?_)
            clear hK K
            try simp only [Act.put, List.setIfInBounds_toArray, List.set_cons_zero, List.set_cons_succ]
            refine wpAnyH_take (i := 9) (oi := ?o37) (v := .int .i64 (EW : Int)) ?hio37 (by kernel_rfl) (by kernel_rfl) (by kernel_rfl) ?hQo37 ?hyo37 hS118 ?_
            case hio37 => (simp only [List.getElem?_toArray, List.getElem?_cons_succ, List.getElem?_cons_zero]; rfl)
            case hQo37 => exact fun _ _ _ h => h
            case hyo37 => exact Or.inl ⟨by rfl, fun W hW => by go_simp⟩
            try simp only [Act.put, List.setIfInBounds_toArray, List.set_cons_zero, List.set_cons_succ]
            refine wpAnyH_done (by kernel_rfl) ?_ _
            clear hS118
            go_wp2_with fail
            have hup : ∀ W, Below w118.heap.size w118 W → Below w.heap.size w W := fun W hW => Below.on b118 b118.size hW
            have hT : ∀ W, Below w118.heap.size w118 W → Tab W := fun W hW => Htab.out.on (hup W hW)
            have hH : ∀ W, Below w118.heap.size w118 W → Cl.HasM W := fun W hW => HM.out.on (hup W hW) hpos
            generalize hg9 : w112.heap.size = g9 at *
            generalize hg2 : w.heap.size = g2 at *
            refine wp_region_below w118.heap.size (by kernel_rfl) (by kernel_rfl) ?_
            repeat (first
              | go_big_quiet_skip
              | (go_big_quiet_want
                 first
                   | (refine qb_load (g := g5) (t := 45) (cs := P) 45 (.tmp 5) ?ho ?hx ?hA _ Tryd.underlying45 rfl zP1 ?_
                      case ho => with_reducible rfl
                      case hx => rfl
                      case hA => exact fun w' hw' => kp_118.on hw'
                      go_big_quiet_on
                      simp only [Act.put, List.setIfInBounds_toArray, List.set_cons_succ, List.set_cons_zero])
                   | (refine qb_load (g := g7) (t := 45) (cs := P) 45 (.tmp 7) ?ho ?hx ?hA _ Tryd.underlying45 rfl zP1 ?_
                      case ho => with_reducible rfl
                      case hx => rfl
                      case hA => exact fun w' hw' => kq_118.on hw'
                      go_big_quiet_on
                      simp only [Act.put, List.setIfInBounds_toArray, List.set_cons_succ, List.set_cons_zero])
                   | (refine qb_load (g := g9) (t := 45) (cs := Y) 45 (.tmp 9) ?ho ?hx ?hA _ Tryd.underlying45 rfl zW1 ?_
                      case ho => with_reducible rfl
                      case hx => rfl
                      case hA => exact fun w' hw' => n118.on hw'
                      go_big_quiet_on
                      simp only [Act.put, List.setIfInBounds_toArray, List.set_cons_succ, List.set_cons_zero])
                   | (refine qb_load (g := g2) (t := 24) (cs := X) 24 (.tmp 2) ?ho ?hx ?hA _ Tryd.underlying24 rfl zx ?_
                      case ho => with_reducible rfl
                      case hx => rfl
                      case hA => exact fun w' hw' => kx_118.on hw'
                      go_big_quiet_on
                      simp only [Act.put, List.setIfInBounds_toArray, List.set_cons_succ, List.set_cons_zero])
                   | (refine qe_eql (cs := P) (ds := P) (b := true) 45 45 (.tmp 30) (.tmp 31) ?ho ?hx ?hy Tryd.plainPfx ?he ?_
                      case ho => with_reducible rfl
                      case hx => rfl
                      case hy => rfl
                      case he => exact he1
                      go_big_quiet_on
                      simp only [Act.put, List.setIfInBounds_toArray, List.set_cons_succ, List.set_cons_zero])
                   | (refine qe_eql (cs := Y) (ds := Y) (b := true) 45 45 (.tmp 48) (.tmp 49) ?ho ?hx ?hy Tryd.plainPfx ?he ?_
                      case ho => with_reducible rfl
                      case hx => rfl
                      case hy => rfl
                      case he => exact he2
                      go_big_quiet_on
                      simp only [Act.put, List.setIfInBounds_toArray, List.set_cons_succ, List.set_cons_zero])
                   | (go_big_quiet_op
                      first
                        | go_big_quiet_on
                        | (with_reducible refine ⟨_, fun _ _ => rfl, ?_⟩; go_big_quiet_on)
                        | (apply Exists.intro
                           refine ⟨fun w' hw' => ?_, ?_⟩
                           · (go_at_call 30; with_reducible refine (H5.out _).mono ?_; exact fun _ _ h => ⟨h.1, Below.on hw' hw'.size h.2⟩)
                           go_big_quiet_on)
                        | (apply Exists.intro
                           refine ⟨fun w' hw' => ?_, ?_⟩
                           · (go_at_call 31; with_reducible refine (H6.out _).mono ?_; exact fun _ _ h => ⟨h.1, Below.on hw' hw'.size h.2⟩)
                           go_big_quiet_on)
                        | (apply Exists.intro
                           refine ⟨fun w' hw' => ?_, ?_⟩
                           · (go_at_call 32; with_reducible refine (alive11 _ (hT _ hw') (hH _ hw')).mono ?_; exact fun _ _ h => ⟨h.1, Below.on hw' hw'.size h.2⟩)
                           go_big_quiet_on))))
            refine wpQuiet_nil ?_
            intro wz hwz
            go_wp2
            go_ret
            exact ⟨rfl, by first | exact hup _ hwz | (rw [hg2]; exact hup _ hwz)⟩
    case ho50 =>
      go_simp
      have n119 : Blk (W1.alloc (.cells Z 45)) W1.heap.size 45 Z := blk_new _ _ _
      have kx_119 := kx_0.alloc (.cells Z 45)
      have lkx_119 := kx_0.lt
      have kp_119 := kp_0.alloc (.cells Z 45)
      have lkp_119 := kp_0.lt
      have kq_119 := kq_0.alloc (.cells Z 45)
      have lkq_119 := kq_0.lt
      have b119 := bb.alloc bb.size (.cells Z 45)
      refine hK.out _ _ kx_119 (fun hS119 => ?_)
      clear hK K
      try simp only [Act.put, List.setIfInBounds_toArray, List.set_cons_zero, List.set_cons_succ]
      refine wpAnyH_ready (rs := [2]) (by kernel_rfl) (by simp) ?_
      refine AllReadyH.cons (o := ?o48) ?hoo48 (fun K hK => ?ho48) AllReadyH.nil
      case hoo48 => (simp only [List.getElem?_toArray, List.getElem?_cons_succ, List.getElem?_cons_zero]; rfl)
      case ho48 =>
        go_simp
        go_at_call 20
        with_reducible refine (H3.out _).mono ?_
        rintro e w120 ⟨rfl, hw120⟩
        have kx_120 := kx_119.on hw120
        have kp_120 := kp_119.on hw120
        have kq_120 := kq_119.on hw120
        have b120 := Below.on b119 b119.size hw120
        have n120 := n119.on hw120
        refine hK.out _ _ kx_120 (fun hS120 => ?_)
        clear hK K hw120
        try simp only [Act.put, List.setIfInBounds_toArray, List.set_cons_zero, List.set_cons_succ]
        refine wpAnyH_ready (rs := [3]) (by kernel_rfl) (by simp) ?_
        refine AllReadyH.cons (o := ?o47) ?hoo47 (fun K hK => ?ho47) AllReadyH.nil
        case hoo47 => (simp only [List.getElem?_toArray, List.getElem?_cons_succ, List.getElem?_cons_zero]; rfl)
        case ho47 =>
          go_simp
          go_at_call 29
          with_reducible refine (H4.out _).mono ?_
          rintro e w121 ⟨rfl, hw121⟩
          have kx_121 := kx_120.on hw121
          have kp_121 := kp_120.on hw121
          have kq_121 := kq_120.on hw121
          have b121 := Below.on b120 b120.size hw121
          have n121 := n120.on hw121
          refine hK.out _ _ kx_121 (fun hS121 => ?_)
          clear hK K hw121
          try simp only [Act.put, List.setIfInBounds_toArray, List.set_cons_zero, List.set_cons_succ]
          refine wpAnyH_take (i := 4) (oi := ?o42) (v := .tuple #[.agg Y, .int .i64 (EW : Int)]) ?hio42 (by kernel_rfl) (by kernel_rfl) (by kernel_rfl) ?hQo42 ?hyo42 hS121 ?_
          case hio42 => (simp only [List.getElem?_toArray, List.getElem?_cons_succ, List.getElem?_cons_zero]; rfl)
          case hQo42 => exact fun _ _ _ h => h
          case hyo42 => exact Or.inl ⟨by rfl, fun W hW => by go_simp⟩
          try simp only [Act.put, List.setIfInBounds_toArray, List.set_cons_zero, List.set_cons_succ]
          refine wpAnyH_take (i := 5) (oi := ?o43) (v := .agg Y) ?hio43 (by kernel_rfl) (by kernel_rfl) (by kernel_rfl) ?hQo43 ?hyo43 hS121 ?_
          case hio43 => (simp only [List.getElem?_toArray, List.getElem?_cons_succ, List.getElem?_cons_zero]; rfl)
          case hQo43 => exact fun _ _ _ h => h
          case hyo43 => exact Or.inl ⟨by rfl, fun W hW => by go_simp⟩
          try simp only [Act.put, List.setIfInBounds_toArray, List.set_cons_zero, List.set_cons_succ]
          refine wpAnyH_take (i := 6) (oi := ?o44) (v := .int .i64 (EW : Int)) ?hio44 (by kernel_rfl) (by kernel_rfl) (by kernel_rfl) ?hQo44 ?hyo44 hS121 ?_
          case hio44 => (simp only [List.getElem?_toArray, List.getElem?_cons_succ, List.getElem?_cons_zero]; rfl)
          case hQo44 => exact fun _ _ _ h => h
          case hyo44 => exact Or.inl ⟨by rfl, fun W hW => by go_simp⟩
          try simp only [Act.put, List.setIfInBounds_toArray, List.set_cons_zero, List.set_cons_succ]
          refine wpAnyH_ready (rs := [8]) (by kernel_rfl) (by simp) ?_
          refine AllReadyH.cons (o := ?o46) ?hoo46 (fun K hK => ?ho46) AllReadyH.nil
          case hoo46 => (simp only [List.getElem?_toArray, List.getElem?_cons_succ, List.getElem?_cons_zero]; rfl)
          case ho46 =>
            refine step_storeBlk (g := W1.heap.size) (t := 45) (cs := Y) rfl 45 (.tmp 9) (.tmp 28) rfl rfl rfl Z n121 zW1 z18 oy ?_
            intro w122 n122 hg122
            have b122 : Below w.heap.size w w122 := b121.grown hg122 b121.size (fun j hj => by injection hj with hj; omega)
            have kx_122 := kx_121.grown hg122 (by omega)
            have kp_122 := kp_121.grown hg122 (by omega)
            have kq_122 := kq_121.grown hg122 (by omega)
            refine hK.out _ _ kx_122 (fun hS122 => ?_)
            clear hK K
            try simp only [Act.put, List.setIfInBounds_toArray, List.set_cons_zero, List.set_cons_succ]
            refine wpAnyH_take (i := 9) (oi := ?o45) (v := .int .i64 (EW : Int)) ?hio45 (by kernel_rfl) (by kernel_rfl) (by kernel_rfl) ?hQo45 ?hyo45 hS122 ?_
            case hio45 => (simp only [List.getElem?_toArray, List.getElem?_cons_succ, List.getElem?_cons_zero]; rfl)
            case hQo45 => exact fun _ _ _ h => h
            case hyo45 => exact Or.inl ⟨by rfl, fun W hW => by go_simp⟩
            try simp only [Act.put, List.setIfInBounds_toArray, List.set_cons_zero, List.set_cons_succ]
            refine wpAnyH_done (by kernel_rfl) ?_ _
            clear hS122
            go_wp2_with fail
            have hup : ∀ W, Below w122.heap.size w122 W → Below w.heap.size w W := fun W hW => Below.on b122 b122.size hW
            have hT : ∀ W, Below w122.heap.size w122 W → Tab W := fun W hW => Htab.out.on (hup W hW)
            have hH : ∀ W, Below w122.heap.size w122 W → Cl.HasM W := fun W hW => HM.out.on (hup W hW) hpos
            generalize hg9 : W1.heap.size = g9 at *
            generalize hg2 : w.heap.size = g2 at *
            refine wp_region_below w122.heap.size (by kernel_rfl) (by kernel_rfl) ?_
            repeat (first
              | go_big_quiet_skip
              | (go_big_quiet_want
                 first
                   | (refine qb_load (g := g5) (t := 45) (cs := P) 45 (.tmp 5) ?ho ?hx ?hA _ Tryd.underlying45 rfl zP1 ?_
                      case ho => with_reducible rfl
                      case hx => rfl
                      case hA => exact fun w' hw' => kp_122.on hw'
                      go_big_quiet_on
                      simp only [Act.put, List.setIfInBounds_toArray, List.set_cons_succ, List.set_cons_zero])
                   | (refine qb_load (g := g7) (t := 45) (cs := P) 45 (.tmp 7) ?ho ?hx ?hA _ Tryd.underlying45 rfl zP1 ?_
                      case ho => with_reducible rfl
                      case hx => rfl
                      case hA => exact fun w' hw' => kq_122.on hw'
                      go_big_quiet_on
                      simp only [Act.put, List.setIfInBounds_toArray, List.set_cons_succ, List.set_cons_zero])
                   | (refine qb_load (g := g9) (t := 45) (cs := Y) 45 (.tmp 9) ?ho ?hx ?hA _ Tryd.underlying45 rfl zW1 ?_
                      case ho => with_reducible rfl
                      case hx => rfl
                      case hA => exact fun w' hw' => n122.on hw'
                      go_big_quiet_on
                      simp only [Act.put, List.setIfInBounds_toArray, List.set_cons_succ, List.set_cons_zero])
                   | (refine qb_load (g := g2) (t := 24) (cs := X) 24 (.tmp 2) ?ho ?hx ?hA _ Tryd.underlying24 rfl zx ?_
                      case ho => with_reducible rfl
                      case hx => rfl
                      case hA => exact fun w' hw' => kx_122.on hw'
                      go_big_quiet_on
                      simp only [Act.put, List.setIfInBounds_toArray, List.set_cons_succ, List.set_cons_zero])
                   | (refine qe_eql (cs := P) (ds := P) (b := true) 45 45 (.tmp 30) (.tmp 31) ?ho ?hx ?hy Tryd.plainPfx ?he ?_
                      case ho => with_reducible rfl
                      case hx => rfl
                      case hy => rfl
                      case he => exact he1
                      go_big_quiet_on
                      simp only [Act.put, List.setIfInBounds_toArray, List.set_cons_succ, List.set_cons_zero])
                   | (refine qe_eql (cs := Y) (ds := Y) (b := true) 45 45 (.tmp 48) (.tmp 49) ?ho ?hx ?hy Tryd.plainPfx ?he ?_
                      case ho => with_reducible rfl
                      case hx => rfl
                      case hy => rfl
                      case he => exact he2
                      go_big_quiet_on
                      simp only [Act.put, List.setIfInBounds_toArray, List.set_cons_succ, List.set_cons_zero])
                   | (go_big_quiet_op
                      first
                        | go_big_quiet_on
                        | (with_reducible refine ⟨_, fun _ _ => rfl, ?_⟩; go_big_quiet_on)
                        | (apply Exists.intro
                           refine ⟨fun w' hw' => ?_, ?_⟩
                           · (go_at_call 30; with_reducible refine (H5.out _).mono ?_; exact fun _ _ h => ⟨h.1, Below.on hw' hw'.size h.2⟩)
                           go_big_quiet_on)
                        | (apply Exists.intro
                           refine ⟨fun w' hw' => ?_, ?_⟩
                           · (go_at_call 31; with_reducible refine (H6.out _).mono ?_; exact fun _ _ h => ⟨h.1, Below.on hw' hw'.size h.2⟩)
                           go_big_quiet_on)
                        | (apply Exists.intro
                           refine ⟨fun w' hw' => ?_, ?_⟩
                           · (go_at_call 32; with_reducible refine (alive11 _ (hT _ hw') (hH _ hw')).mono ?_; exact fun _ _ h => ⟨h.1, Below.on hw' hw'.size h.2⟩)
                           go_big_quiet_on))))
            refine wpQuiet_nil ?_
            intro wz hwz
            go_wp2
            go_ret
            exact ⟨rfl, by first | exact hup _ hwz | (rw [hg2]; exact hup _ hwz)⟩
  · rw [hE] at h1 h2
    have H1 := Lib.hid h1
    have H2 := Lib.hid h2
    have H5 := Lib.hid h5
    clear h1 h2 h5 hE hRR
    go_enter Tryd.func5, Tryd.ntmps5
    go_wp2_with (first
      | (refine wpList_loadBlk (g := w.heap.size) (t := 24) (cs := X) ?hw 24 (.tmp 2) ?ho ?hx ?hA _ Tryd.underlying24 rfl ?hi ?_
         case hw => rfl
         case ho => with_reducible rfl
         case hx => rfl
         case hA => exact k0
         case hi => exact zx)
      | fail)
    refine (H1.out _).mono ?_; rintro e w1 ⟨rfl, hb1⟩
    have k1 := (k0.on (by exact hb1)).alloc (.cells P 45)
    have p1 : Blk (w1.alloc (.cells P 45)) w1.heap.size 45 P := blk_new _ _ _
    have b1 := Below.on b0 b0.size (by exact hb1)
    have b1 := b1.alloc b1.size (.cells P 45)
    clear hb1 k0 b0
    go_wp2_with (first
      | (refine wpList_allocStore (cs := P) rfl rfl 45 ?ho (.tmp 5) (.tmp 15) ?ho2 Tryd.zeroPfx rfl ?hx ?hy ?hn ?h1 ?_
         case ho => with_reducible rfl
         case ho2 => with_reducible rfl
         case hx => rfl
         case hy => rfl
         case hn => exact x18
         case h1 => exact ox)
      | (refine wpList_loadBlk (g := w.heap.size) (t := 24) (cs := X) ?hw 24 (.tmp 2) ?ho ?hx ?hA _ Tryd.underlying24 rfl ?hi ?_
         case hw => rfl
         case ho => with_reducible rfl
         case hx => rfl
         case hA => exact k1
         case hi => exact zx)
      | fail)
    refine (H2.out _).mono ?_; rintro e w2 ⟨rfl, hb2⟩
    have k2 := (k1.on (by exact hb2)).alloc (.cells P 45)
    have p2 := (p1.on (by exact hb2)).alloc (.cells P 45)
    have q2 : Blk (w2.alloc (.cells P 45)) w2.heap.size 45 P := blk_new _ _ _
    have b2 := Below.on b1 b1.size (by exact hb2)
    have b2 := b2.alloc b2.size (.cells P 45)
    clear hb2 k1 b1 p1
    go_wp2_with (first
      | (refine wpList_allocStore (cs := P) rfl rfl 45 ?ho (.tmp 7) (.tmp 21) ?ho2 Tryd.zeroPfx rfl ?hx ?hy ?hn ?h1 ?_
         case ho => with_reducible rfl
         case ho2 => with_reducible rfl
         case hx => rfl
         case hy => rfl
         case hn => exact x18
         case h1 => exact ox)
      | fail)
    generalize hg5 : w1.heap.size = g5 at *
    generalize hg7 : w2.heap.size = g7 at *
    generalize w2.alloc (.cells P 45) = w3 at *
    clear hg5 hg7
    have kx_0 : Blk w3.drew w.heap.size 24 X := k2
    have kp_0 : Blk w3.drew g5 45 P := p2
    have kq_0 : Blk w3.drew g7 45 P := q2
    have bb : Below w.heap.size w w3.drew := b2.drew
    clear k2 p2 q2 b2
    refine wp_region_held_drew (S := fun W => Blk W w.heap.size 24 X) (by kernel_rfl) kx_0 ?_
    intro hS
    generalize w3.drew = W1 at *
    refine wpAnyH_take (i := 0) (oi := ?o51) (v := .agg X) ?hio51 (by kernel_rfl) (by kernel_rfl) (by kernel_rfl) ?hQo51 ?hyo51 hS ?_
    case hio51 => (simp only [List.getElem?_toArray, List.getElem?_cons_succ, List.getElem?_cons_zero]; rfl)
    case hQo51 => exact fun _ _ _ h => h
    case hyo51 => exact yieldsIf_load_mid (by rfl) 24 (.tmp 2) rfl w.heap.size 0 rfl X.toList _ (fun W hW => Blk.range0 hW) Tryd.underlying24 rfl (by simpa using zx)
    try simp only [Act.put, List.setIfInBounds_toArray, List.set_cons_zero, List.set_cons_succ]
    refine wpAnyH_take (i := 1) (oi := ?o52) (v := .agg X) ?hio52 (by kernel_rfl) (by kernel_rfl) (by kernel_rfl) ?hQo52 ?hyo52 hS ?_
    case hio52 => (simp only [List.getElem?_toArray, List.getElem?_cons_succ, List.getElem?_cons_zero]; rfl)
    case hQo52 => exact fun _ _ _ h => h
    case hyo52 => exact yieldsIf_load_mid (by rfl) 24 (.tmp 2) rfl w.heap.size 0 rfl X.toList _ (fun W hW => Blk.range0 hW) Tryd.underlying24 rfl (by simpa using zx)
    try simp only [Act.put, List.setIfInBounds_toArray, List.set_cons_zero, List.set_cons_succ]
    refine wpAnyH_ready (rs := [2, 7]) (by kernel_rfl) (by simp) ?_
    refine AllReadyH.cons (o := ?o74) ?hoo74 (fun K hK => ?ho74) (AllReadyH.cons (o := ?o75) ?hoo75 (fun K hK => ?ho75) AllReadyH.nil)
    case hoo74 => (simp only [List.getElem?_toArray, List.getElem?_cons_succ, List.getElem?_cons_zero]; rfl)
    case hoo75 => (simp only [List.getElem?_toArray, List.getElem?_cons_succ, List.getElem?_cons_zero]; rfl)
    case ho74 =>
      go_simp
      go_at_call 20
      with_reducible refine (H3.out _).mono ?_
      rintro e w123 ⟨rfl, hw123⟩
      have kx_123 := kx_0.on hw123
      have kp_123 := kp_0.on hw123
      have kq_123 := kq_0.on hw123
      have b123 := Below.on bb bb.size hw123
      refine hK.out _ _ kx_123 (fun hS123 => ?_)
      clear hK K hw123
      try simp only [Act.put, List.setIfInBounds_toArray, List.set_cons_zero, List.set_cons_succ]
      refine wpAnyH_ready (rs := [3, 7]) (by kernel_rfl) (by simp) ?_
      refine AllReadyH.cons (o := ?o65) ?hoo65 (fun K hK => ?ho65) (AllReadyH.cons (o := ?o66) ?hoo66 (fun K hK => ?ho66) AllReadyH.nil)
      case hoo65 => (simp only [List.getElem?_toArray, List.getElem?_cons_succ, List.getElem?_cons_zero]; rfl)
      case hoo66 => (simp only [List.getElem?_toArray, List.getElem?_cons_succ, List.getElem?_cons_zero]; rfl)
      case ho65 =>
        go_simp
        go_at_call 29
        with_reducible refine (H4.out _).mono ?_
        rintro e w124 ⟨rfl, hw124⟩
        have kx_124 := kx_123.on hw124
        have kp_124 := kp_123.on hw124
        have kq_124 := kq_123.on hw124
        have b124 := Below.on b123 b123.size hw124
        refine hK.out _ _ kx_124 (fun hS124 => ?_)
        clear hK K hw124
        try simp only [Act.put, List.setIfInBounds_toArray, List.set_cons_zero, List.set_cons_succ]
        refine wpAnyH_take (i := 4) (oi := ?o53) (v := .tuple #[.agg Y, .int .i64 (EW : Int)]) ?hio53 (by kernel_rfl) (by kernel_rfl) (by kernel_rfl) ?hQo53 ?hyo53 hS124 ?_
        case hio53 => (simp only [List.getElem?_toArray, List.getElem?_cons_succ, List.getElem?_cons_zero]; rfl)
        case hQo53 => exact fun _ _ _ h => h
        case hyo53 => exact Or.inl ⟨by rfl, fun W hW => by go_simp⟩
        try simp only [Act.put, List.setIfInBounds_toArray, List.set_cons_zero, List.set_cons_succ]
        refine wpAnyH_take (i := 5) (oi := ?o54) (v := .agg Y) ?hio54 (by kernel_rfl) (by kernel_rfl) (by kernel_rfl) ?hQo54 ?hyo54 hS124 ?_
        case hio54 => (simp only [List.getElem?_toArray, List.getElem?_cons_succ, List.getElem?_cons_zero]; rfl)
        case hQo54 => exact fun _ _ _ h => h
        case hyo54 => exact Or.inl ⟨by rfl, fun W hW => by go_simp⟩
        try simp only [Act.put, List.setIfInBounds_toArray, List.set_cons_zero, List.set_cons_succ]
        refine wpAnyH_take (i := 6) (oi := ?o55) (v := .int .i64 (EW : Int)) ?hio55 (by kernel_rfl) (by kernel_rfl) (by kernel_rfl) ?hQo55 ?hyo55 hS124 ?_
        case hio55 => (simp only [List.getElem?_toArray, List.getElem?_cons_succ, List.getElem?_cons_zero]; rfl)
        case hQo55 => exact fun _ _ _ h => h
        case hyo55 => exact Or.inl ⟨by rfl, fun W hW => by go_simp⟩
        try simp only [Act.put, List.setIfInBounds_toArray, List.set_cons_zero, List.set_cons_succ]
        refine wpAnyH_ready (rs := [7]) (by kernel_rfl) (by simp) ?_
        refine AllReadyH.cons (o := ?o58) ?hoo58 (fun K hK => ?ho58) AllReadyH.nil
        case hoo58 => (simp only [List.getElem?_toArray, List.getElem?_cons_succ, List.getElem?_cons_zero]; rfl)
        case ho58 =>
          go_simp
          have n125 : Blk (w124.alloc (.cells Z 45)) w124.heap.size 45 Z := blk_new _ _ _
          have kx_125 := kx_124.alloc (.cells Z 45)
          have lkx_125 := kx_124.lt
          have kp_125 := kp_124.alloc (.cells Z 45)
          have lkp_125 := kp_124.lt
          have kq_125 := kq_124.alloc (.cells Z 45)
          have lkq_125 := kq_124.lt
          have b125 := b124.alloc b124.size (.cells Z 45)
          refine hK.out _ _ kx_125 (fun hS125 => ?_)
          clear hK K
          try simp only [Act.put, List.setIfInBounds_toArray, List.set_cons_zero, List.set_cons_succ]
          refine wpAnyH_ready (rs := [8]) (by kernel_rfl) (by simp) ?_
          refine AllReadyH.cons (o := ?o57) ?hoo57 (fun K hK => ?ho57) AllReadyH.nil
          case hoo57 => (simp only [List.getElem?_toArray, List.getElem?_cons_succ, List.getElem?_cons_zero]; rfl)
          case ho57 =>
            refine step_storeBlk (g := w124.heap.size) (t := 45) (cs := Y) rfl 45 (.tmp 9) (.tmp 28) rfl rfl rfl Z n125 zW1 z18 oy ?_
            intro w126 n126 hg126
            have b126 : Below w.heap.size w w126 := b125.grown hg126 b125.size (fun j hj => by injection hj with hj; omega)
            have kx_126 := kx_125.grown hg126 (by omega)
            have kp_126 := kp_125.grown hg126 (by omega)
            have kq_126 := kq_125.grown hg126 (by omega)
            refine hK.out _ _ kx_126 (fun hS126 => ?_)
            clear hK K
            try simp only [Act.put, List.setIfInBounds_toArray, List.set_cons_zero, List.set_cons_succ]
            refine wpAnyH_take (i := 9) (oi := ?o56) (v := .int .i64 (EW : Int)) ?hio56 (by kernel_rfl) (by kernel_rfl) (by kernel_rfl) ?hQo56 ?hyo56 hS126 ?_
            case hio56 => (simp only [List.getElem?_toArray, List.getElem?_cons_succ, List.getElem?_cons_zero]; rfl)
            case hQo56 => exact fun _ _ _ h => h
            case hyo56 => exact Or.inl ⟨by rfl, fun W hW => by go_simp⟩
            try simp only [Act.put, List.setIfInBounds_toArray, List.set_cons_zero, List.set_cons_succ]
            refine wpAnyH_done (by kernel_rfl) ?_ _
            clear hS126
            go_wp2_with fail
            have hup : ∀ W, Below w126.heap.size w126 W → Below w.heap.size w W := fun W hW => Below.on b126 b126.size hW
            have hT : ∀ W, Below w126.heap.size w126 W → Tab W := fun W hW => Htab.out.on (hup W hW)
            have hH : ∀ W, Below w126.heap.size w126 W → Cl.HasM W := fun W hW => HM.out.on (hup W hW) hpos
            generalize hg9 : w124.heap.size = g9 at *
            generalize hg2 : w.heap.size = g2 at *
            refine wp_region_below w126.heap.size (by kernel_rfl) (by kernel_rfl) ?_
            repeat (first
              | go_big_quiet_skip
              | (go_big_quiet_want
                 first
                   | (refine qb_load (g := g5) (t := 45) (cs := P) 45 (.tmp 5) ?ho ?hx ?hA _ Tryd.underlying45 rfl zP1 ?_
                      case ho => with_reducible rfl
                      case hx => rfl
                      case hA => exact fun w' hw' => kp_126.on hw'
                      go_big_quiet_on
                      simp only [Act.put, List.setIfInBounds_toArray, List.set_cons_succ, List.set_cons_zero])
                   | (refine qb_load (g := g7) (t := 45) (cs := P) 45 (.tmp 7) ?ho ?hx ?hA _ Tryd.underlying45 rfl zP1 ?_
                      case ho => with_reducible rfl
                      case hx => rfl
                      case hA => exact fun w' hw' => kq_126.on hw'
                      go_big_quiet_on
                      simp only [Act.put, List.setIfInBounds_toArray, List.set_cons_succ, List.set_cons_zero])
                   | (refine qb_load (g := g9) (t := 45) (cs := Y) 45 (.tmp 9) ?ho ?hx ?hA _ Tryd.underlying45 rfl zW1 ?_
                      case ho => with_reducible rfl
                      case hx => rfl
                      case hA => exact fun w' hw' => n126.on hw'
                      go_big_quiet_on
                      simp only [Act.put, List.setIfInBounds_toArray, List.set_cons_succ, List.set_cons_zero])
                   | (refine qb_load (g := g2) (t := 24) (cs := X) 24 (.tmp 2) ?ho ?hx ?hA _ Tryd.underlying24 rfl zx ?_
                      case ho => with_reducible rfl
                      case hx => rfl
                      case hA => exact fun w' hw' => kx_126.on hw'
                      go_big_quiet_on
                      simp only [Act.put, List.setIfInBounds_toArray, List.set_cons_succ, List.set_cons_zero])
                   | (refine qe_eql (cs := P) (ds := P) (b := true) 45 45 (.tmp 30) (.tmp 31) ?ho ?hx ?hy Tryd.plainPfx ?he ?_
                      case ho => with_reducible rfl
                      case hx => rfl
                      case hy => rfl
                      case he => exact he1
                      go_big_quiet_on
                      simp only [Act.put, List.setIfInBounds_toArray, List.set_cons_succ, List.set_cons_zero])
                   | (refine qe_eql (cs := Y) (ds := Y) (b := true) 45 45 (.tmp 48) (.tmp 49) ?ho ?hx ?hy Tryd.plainPfx ?he ?_
                      case ho => with_reducible rfl
                      case hx => rfl
                      case hy => rfl
                      case he => exact he2
                      go_big_quiet_on
                      simp only [Act.put, List.setIfInBounds_toArray, List.set_cons_succ, List.set_cons_zero])
                   | (go_big_quiet_op
                      first
                        | go_big_quiet_on
                        | (with_reducible refine ⟨_, fun _ _ => rfl, ?_⟩; go_big_quiet_on)
                        | (apply Exists.intro
                           refine ⟨fun w' hw' => ?_, ?_⟩
                           · (go_at_call 30; with_reducible refine (H5.out _).mono ?_; exact fun _ _ h => ⟨h.1, Below.on hw' hw'.size h.2⟩)
                           go_big_quiet_on)
                        | (apply Exists.intro
                           refine ⟨fun w' hw' => ?_, ?_⟩
                           · (go_at_call 31; with_reducible refine (H6.out _).mono ?_; exact fun _ _ h => ⟨h.1, Below.on hw' hw'.size h.2⟩)
                           go_big_quiet_on)
                        | (apply Exists.intro
                           refine ⟨fun w' hw' => ?_, ?_⟩
                           · (go_at_call 32; with_reducible refine (alive11 _ (hT _ hw') (hH _ hw')).mono ?_; exact fun _ _ h => ⟨h.1, Below.on hw' hw'.size h.2⟩)
                           go_big_quiet_on))))
            refine wpQuiet_nil ?_
            intro wz hwz
            go_wp2
            go_ret
            exact ⟨rfl, by first | exact hup _ hwz | (rw [hg2]; exact hup _ hwz)⟩
      case ho66 =>
        go_simp
        have n127 : Blk (w123.alloc (.cells Z 45)) w123.heap.size 45 Z := blk_new _ _ _
        have kx_127 := kx_123.alloc (.cells Z 45)
        have lkx_127 := kx_123.lt
        have kp_127 := kp_123.alloc (.cells Z 45)
        have lkp_127 := kp_123.lt
        have kq_127 := kq_123.alloc (.cells Z 45)
        have lkq_127 := kq_123.lt
        have b127 := b123.alloc b123.size (.cells Z 45)
        refine hK.out _ _ kx_127 (fun hS127 => ?_)
        clear hK K
        try simp only [Act.put, List.setIfInBounds_toArray, List.set_cons_zero, List.set_cons_succ]
        refine wpAnyH_ready (rs := [3]) (by kernel_rfl) (by simp) ?_
        refine AllReadyH.cons (o := ?o64) ?hoo64 (fun K hK => ?ho64) AllReadyH.nil
        case hoo64 => (simp only [List.getElem?_toArray, List.getElem?_cons_succ, List.getElem?_cons_zero]; rfl)
        case ho64 =>
          go_simp
          go_at_call 29
          with_reducible refine (H4.out _).mono ?_
          rintro e w128 ⟨rfl, hw128⟩
          have kx_128 := kx_127.on hw128
          have kp_128 := kp_127.on hw128
          have kq_128 := kq_127.on hw128
          have b128 := Below.on b127 b127.size hw128
          have n128 := n127.on hw128
          refine hK.out _ _ kx_128 (fun hS128 => ?_)
          clear hK K hw128
          try simp only [Act.put, List.setIfInBounds_toArray, List.set_cons_zero, List.set_cons_succ]
          refine wpAnyH_take (i := 4) (oi := ?o59) (v := .tuple #[.agg Y, .int .i64 (EW : Int)]) ?hio59 (by kernel_rfl) (by kernel_rfl) (by kernel_rfl) ?hQo59 ?hyo59 hS128 ?_
          case hio59 => (simp only [List.getElem?_toArray, List.getElem?_cons_succ, List.getElem?_cons_zero]; rfl)
          case hQo59 => exact fun _ _ _ h => h
          case hyo59 => exact Or.inl ⟨by rfl, fun W hW => by go_simp⟩
          try simp only [Act.put, List.setIfInBounds_toArray, List.set_cons_zero, List.set_cons_succ]
          refine wpAnyH_take (i := 5) (oi := ?o60) (v := .agg Y) ?hio60 (by kernel_rfl) (by kernel_rfl) (by kernel_rfl) ?hQo60 ?hyo60 hS128 ?_
          case hio60 => (simp only [List.getElem?_toArray, List.getElem?_cons_succ, List.getElem?_cons_zero]; rfl)
          case hQo60 => exact fun _ _ _ h => h
          case hyo60 => exact Or.inl ⟨by rfl, fun W hW => by go_simp⟩
          try simp only [Act.put, List.setIfInBounds_toArray, List.set_cons_zero, List.set_cons_succ]
          refine wpAnyH_take (i := 6) (oi := ?o61) (v := .int .i64 (EW : Int)) ?hio61 (by kernel_rfl) (by kernel_rfl) (by kernel_rfl) ?hQo61 ?hyo61 hS128 ?_
          case hio61 => (simp only [List.getElem?_toArray, List.getElem?_cons_succ, List.getElem?_cons_zero]; rfl)
          case hQo61 => exact fun _ _ _ h => h
          case hyo61 => exact Or.inl ⟨by rfl, fun W hW => by go_simp⟩
          try simp only [Act.put, List.setIfInBounds_toArray, List.set_cons_zero, List.set_cons_succ]
          refine wpAnyH_ready (rs := [8]) (by kernel_rfl) (by simp) ?_
          refine AllReadyH.cons (o := ?o63) ?hoo63 (fun K hK => ?ho63) AllReadyH.nil
          case hoo63 => (simp only [List.getElem?_toArray, List.getElem?_cons_succ, List.getElem?_cons_zero]; rfl)
          case ho63 =>
            refine step_storeBlk (g := w123.heap.size) (t := 45) (cs := Y) rfl 45 (.tmp 9) (.tmp 28) rfl rfl rfl Z n128 zW1 z18 oy ?_
            intro w129 n129 hg129
            have b129 : Below w.heap.size w w129 := b128.grown hg129 b128.size (fun j hj => by injection hj with hj; omega)
            have kx_129 := kx_128.grown hg129 (by omega)
            have kp_129 := kp_128.grown hg129 (by omega)
            have kq_129 := kq_128.grown hg129 (by omega)
            refine hK.out _ _ kx_129 (fun hS129 => ?_)
            clear hK K
            try simp only [Act.put, List.setIfInBounds_toArray, List.set_cons_zero, List.set_cons_succ]
            refine wpAnyH_take (i := 9) (oi := ?o62) (v := .int .i64 (EW : Int)) ?hio62 (by kernel_rfl) (by kernel_rfl) (by kernel_rfl) ?hQo62 ?hyo62 hS129 ?_
            case hio62 => (simp only [List.getElem?_toArray, List.getElem?_cons_succ, List.getElem?_cons_zero]; rfl)
            case hQo62 => exact fun _ _ _ h => h
            case hyo62 => exact Or.inl ⟨by rfl, fun W hW => by go_simp⟩
            try simp only [Act.put, List.setIfInBounds_toArray, List.set_cons_zero, List.set_cons_succ]
            refine wpAnyH_done (by kernel_rfl) ?_ _
            clear hS129
            go_wp2_with fail
            have hup : ∀ W, Below w129.heap.size w129 W → Below w.heap.size w W := fun W hW => Below.on b129 b129.size hW
            have hT : ∀ W, Below w129.heap.size w129 W → Tab W := fun W hW => Htab.out.on (hup W hW)
            have hH : ∀ W, Below w129.heap.size w129 W → Cl.HasM W := fun W hW => HM.out.on (hup W hW) hpos
            generalize hg9 : w123.heap.size = g9 at *
            generalize hg2 : w.heap.size = g2 at *
            refine wp_region_below w129.heap.size (by kernel_rfl) (by kernel_rfl) ?_
            repeat (first
              | go_big_quiet_skip
              | (go_big_quiet_want
                 first
                   | (refine qb_load (g := g5) (t := 45) (cs := P) 45 (.tmp 5) ?ho ?hx ?hA _ Tryd.underlying45 rfl zP1 ?_
                      case ho => with_reducible rfl
                      case hx => rfl
                      case hA => exact fun w' hw' => kp_129.on hw'
                      go_big_quiet_on
                      simp only [Act.put, List.setIfInBounds_toArray, List.set_cons_succ, List.set_cons_zero])
                   | (refine qb_load (g := g7) (t := 45) (cs := P) 45 (.tmp 7) ?ho ?hx ?hA _ Tryd.underlying45 rfl zP1 ?_
                      case ho => with_reducible rfl
                      case hx => rfl
                      case hA => exact fun w' hw' => kq_129.on hw'
                      go_big_quiet_on
                      simp only [Act.put, List.setIfInBounds_toArray, List.set_cons_succ, List.set_cons_zero])
                   | (refine qb_load (g := g9) (t := 45) (cs := Y) 45 (.tmp 9) ?ho ?hx ?hA _ Tryd.underlying45 rfl zW1 ?_
                      case ho => with_reducible rfl
                      case hx => rfl
                      case hA => exact fun w' hw' => n129.on hw'
                      go_big_quiet_on
                      simp only [Act.put, List.setIfInBounds_toArray, List.set_cons_succ, List.set_cons_zero])
                   | (refine qb_load (g := g2) (t := 24) (cs := X) 24 (.tmp 2) ?ho ?hx ?hA _ Tryd.underlying24 rfl zx ?_
                      case ho => with_reducible rfl
                      case hx => rfl
                      case hA => exact fun w' hw' => kx_129.on hw'
                      go_big_quiet_on
                      simp only [Act.put, List.setIfInBounds_toArray, List.set_cons_succ, List.set_cons_zero])
                   | (refine qe_eql (cs := P) (ds := P) (b := true) 45 45 (.tmp 30) (.tmp 31) ?ho ?hx ?hy Tryd.plainPfx ?he ?_
                      case ho => with_reducible rfl
                      case hx => rfl
                      case hy => rfl
                      case he => exact he1
                      go_big_quiet_on
                      simp only [Act.put, List.setIfInBounds_toArray, List.set_cons_succ, List.set_cons_zero])
                   | (refine qe_eql (cs := Y) (ds := Y) (b := true) 45 45 (.tmp 48) (.tmp 49) ?ho ?hx ?hy Tryd.plainPfx ?he ?_
                      case ho => with_reducible rfl
                      case hx => rfl
                      case hy => rfl
                      case he => exact he2
                      go_big_quiet_on
                      simp only [Act.put, List.setIfInBounds_toArray, List.set_cons_succ, List.set_cons_zero])
                   | (go_big_quiet_op
                      first
                        | go_big_quiet_on
                        | (with_reducible refine ⟨_, fun _ _ => rfl, ?_⟩; go_big_quiet_on)
                        | (apply Exists.intro
                           refine ⟨fun w' hw' => ?_, ?_⟩
                           · (go_at_call 30; with_reducible refine (H5.out _).mono ?_; exact fun _ _ h => ⟨h.1, Below.on hw' hw'.size h.2⟩)
                           go_big_quiet_on)
                        | (apply Exists.intro
                           refine ⟨fun w' hw' => ?_, ?_⟩
                           · (go_at_call 31; with_reducible refine (H6.out _).mono ?_; exact fun _ _ h => ⟨h.1, Below.on hw' hw'.size h.2⟩)
                           go_big_quiet_on)
                        | (apply Exists.intro
                           refine ⟨fun w' hw' => ?_, ?_⟩
                           · (go_at_call 32; with_reducible refine (alive11 _ (hT _ hw') (hH _ hw')).mono ?_; exact fun _ _ h => ⟨h.1, Below.on hw' hw'.size h.2⟩)
                           go_big_quiet_on))))
            refine wpQuiet_nil ?_
            intro wz hwz
            go_wp2
            go_ret
            exact ⟨rfl, by first | exact hup _ hwz | (rw [hg2]; exact hup _ hwz)⟩
    case ho75 =>
      go_simp
      have n130 : Blk (W1.alloc (.cells Z 45)) W1.heap.size 45 Z := blk_new _ _ _
      have kx_130 := kx_0.alloc (.cells Z 45)
      have lkx_130 := kx_0.lt
      have kp_130 := kp_0.alloc (.cells Z 45)
      have lkp_130 := kp_0.lt
      have kq_130 := kq_0.alloc (.cells Z 45)
      have lkq_130 := kq_0.lt
      have b130 := bb.alloc bb.size (.cells Z 45)
      refine hK.out _ _ kx_130 (fun hS130 => ?_)
      clear hK K
      try simp only [Act.put, List.setIfInBounds_toArray, List.set_cons_zero, List.set_cons_succ]
      refine wpAnyH_ready (rs := [2]) (by kernel_rfl) (by simp) ?_
      refine AllReadyH.cons (o := ?o73) ?hoo73 (fun K hK => ?ho73) AllReadyH.nil
      case hoo73 => (simp only [List.getElem?_toArray, List.getElem?_cons_succ, List.getElem?_cons_zero]; rfl)
      case ho73 =>
        go_simp
        go_at_call 20
        with_reducible refine (H3.out _).mono ?_
        rintro e w131 ⟨rfl, hw131⟩
        have kx_131 := kx_130.on hw131
        have kp_131 := kp_130.on hw131
        have kq_131 := kq_130.on hw131
        have b131 := Below.on b130 b130.size hw131
        have n131 := n130.on hw131
        refine hK.out _ _ kx_131 (fun hS131 => ?_)
        clear hK K hw131
        try simp only [Act.put, List.setIfInBounds_toArray, List.set_cons_zero, List.set_cons_succ]
        refine wpAnyH_ready (rs := [3]) (by kernel_rfl) (by simp) ?_
        refine AllReadyH.cons (o := ?o72) ?hoo72 (fun K hK => ?ho72) AllReadyH.nil
        case hoo72 => (simp only [List.getElem?_toArray, List.getElem?_cons_succ, List.getElem?_cons_zero]; rfl)
        case ho72 =>
          go_simp
          go_at_call 29
          with_reducible refine (H4.out _).mono ?_
          rintro e w132 ⟨rfl, hw132⟩
          have kx_132 := kx_131.on hw132
          have kp_132 := kp_131.on hw132
          have kq_132 := kq_131.on hw132
          have b132 := Below.on b131 b131.size hw132
          have n132 := n131.on hw132
          refine hK.out _ _ kx_132 (fun hS132 => ?_)
          clear hK K hw132
          try simp only [Act.put, List.setIfInBounds_toArray, List.set_cons_zero, List.set_cons_succ]
          refine wpAnyH_take (i := 4) (oi := ?o67) (v := .tuple #[.agg Y, .int .i64 (EW : Int)]) ?hio67 (by kernel_rfl) (by kernel_rfl) (by kernel_rfl) ?hQo67 ?hyo67 hS132 ?_
          case hio67 => (simp only [List.getElem?_toArray, List.getElem?_cons_succ, List.getElem?_cons_zero]; rfl)
          case hQo67 => exact fun _ _ _ h => h
          case hyo67 => exact Or.inl ⟨by rfl, fun W hW => by go_simp⟩
          try simp only [Act.put, List.setIfInBounds_toArray, List.set_cons_zero, List.set_cons_succ]
          refine wpAnyH_take (i := 5) (oi := ?o68) (v := .agg Y) ?hio68 (by kernel_rfl) (by kernel_rfl) (by kernel_rfl) ?hQo68 ?hyo68 hS132 ?_
          case hio68 => (simp only [List.getElem?_toArray, List.getElem?_cons_succ, List.getElem?_cons_zero]; rfl)
          case hQo68 => exact fun _ _ _ h => h
          case hyo68 => exact Or.inl ⟨by rfl, fun W hW => by go_simp⟩
          try simp only [Act.put, List.setIfInBounds_toArray, List.set_cons_zero, List.set_cons_succ]
          refine wpAnyH_take (i := 6) (oi := ?o69) (v := .int .i64 (EW : Int)) ?hio69 (by kernel_rfl) (by kernel_rfl) (by kernel_rfl) ?hQo69 ?hyo69 hS132 ?_
          case hio69 => (simp only [List.getElem?_toArray, List.getElem?_cons_succ, List.getElem?_cons_zero]; rfl)
          case hQo69 => exact fun _ _ _ h => h
          case hyo69 => exact Or.inl ⟨by rfl, fun W hW => by go_simp⟩
          try simp only [Act.put, List.setIfInBounds_toArray, List.set_cons_zero, List.set_cons_succ]
          refine wpAnyH_ready (rs := [8]) (by kernel_rfl) (by simp) ?_
          refine AllReadyH.cons (o := ?o71) ?hoo71 (fun K hK => ?ho71) AllReadyH.nil
          case hoo71 => (simp only [List.getElem?_toArray, List.getElem?_cons_succ, List.getElem?_cons_zero]; rfl)
          case ho71 =>
            refine step_storeBlk (g := W1.heap.size) (t := 45) (cs := Y) rfl 45 (.tmp 9) (.tmp 28) rfl rfl rfl Z n132 zW1 z18 oy ?_
            intro w133 n133 hg133
            have b133 : Below w.heap.size w w133 := b132.grown hg133 b132.size (fun j hj => by injection hj with hj; omega)
            have kx_133 := kx_132.grown hg133 (by omega)
            have kp_133 := kp_132.grown hg133 (by omega)
            have kq_133 := kq_132.grown hg133 (by omega)
            refine hK.out _ _ kx_133 (fun hS133 => ?_)
            clear hK K
            try simp only [Act.put, List.setIfInBounds_toArray, List.set_cons_zero, List.set_cons_succ]
            refine wpAnyH_take (i := 9) (oi := ?o70) (v := .int .i64 (EW : Int)) ?hio70 (by kernel_rfl) (by kernel_rfl) (by kernel_rfl) ?hQo70 ?hyo70 hS133 ?_
            case hio70 => (simp only [List.getElem?_toArray, List.getElem?_cons_succ, List.getElem?_cons_zero]; rfl)
            case hQo70 => exact fun _ _ _ h => h
            case hyo70 => exact Or.inl ⟨by rfl, fun W hW => by go_simp⟩
            try simp only [Act.put, List.setIfInBounds_toArray, List.set_cons_zero, List.set_cons_succ]
            refine wpAnyH_done (by kernel_rfl) ?_ _
            clear hS133
            go_wp2_with fail
            have hup : ∀ W, Below w133.heap.size w133 W → Below w.heap.size w W := fun W hW => Below.on b133 b133.size hW
            have hT : ∀ W, Below w133.heap.size w133 W → Tab W := fun W hW => Htab.out.on (hup W hW)
            have hH : ∀ W, Below w133.heap.size w133 W → Cl.HasM W := fun W hW => HM.out.on (hup W hW) hpos
            generalize hg9 : W1.heap.size = g9 at *
            generalize hg2 : w.heap.size = g2 at *
            refine wp_region_below w133.heap.size (by kernel_rfl) (by kernel_rfl) ?_
            repeat (first
              | go_big_quiet_skip
              | (go_big_quiet_want
                 first
                   | (refine qb_load (g := g5) (t := 45) (cs := P) 45 (.tmp 5) ?ho ?hx ?hA _ Tryd.underlying45 rfl zP1 ?_
                      case ho => with_reducible rfl
                      case hx => rfl
                      case hA => exact fun w' hw' => kp_133.on hw'
                      go_big_quiet_on
                      simp only [Act.put, List.setIfInBounds_toArray, List.set_cons_succ, List.set_cons_zero])
                   | (refine qb_load (g := g7) (t := 45) (cs := P) 45 (.tmp 7) ?ho ?hx ?hA _ Tryd.underlying45 rfl zP1 ?_
                      case ho => with_reducible rfl
                      case hx => rfl
                      case hA => exact fun w' hw' => kq_133.on hw'
                      go_big_quiet_on
                      simp only [Act.put, List.setIfInBounds_toArray, List.set_cons_succ, List.set_cons_zero])
                   | (refine qb_load (g := g9) (t := 45) (cs := Y) 45 (.tmp 9) ?ho ?hx ?hA _ Tryd.underlying45 rfl zW1 ?_
                      case ho => with_reducible rfl
                      case hx => rfl
                      case hA => exact fun w' hw' => n133.on hw'
                      go_big_quiet_on
                      simp only [Act.put, List.setIfInBounds_toArray, List.set_cons_succ, List.set_cons_zero])
                   | (refine qb_load (g := g2) (t := 24) (cs := X) 24 (.tmp 2) ?ho ?hx ?hA _ Tryd.underlying24 rfl zx ?_
                      case ho => with_reducible rfl
                      case hx => rfl
                      case hA => exact fun w' hw' => kx_133.on hw'
                      go_big_quiet_on
                      simp only [Act.put, List.setIfInBounds_toArray, List.set_cons_succ, List.set_cons_zero])
                   | (refine qe_eql (cs := P) (ds := P) (b := true) 45 45 (.tmp 30) (.tmp 31) ?ho ?hx ?hy Tryd.plainPfx ?he ?_
                      case ho => with_reducible rfl
                      case hx => rfl
                      case hy => rfl
                      case he => exact he1
                      go_big_quiet_on
                      simp only [Act.put, List.setIfInBounds_toArray, List.set_cons_succ, List.set_cons_zero])
                   | (refine qe_eql (cs := Y) (ds := Y) (b := true) 45 45 (.tmp 48) (.tmp 49) ?ho ?hx ?hy Tryd.plainPfx ?he ?_
                      case ho => with_reducible rfl
                      case hx => rfl
                      case hy => rfl
                      case he => exact he2
                      go_big_quiet_on
                      simp only [Act.put, List.setIfInBounds_toArray, List.set_cons_succ, List.set_cons_zero])
                   | (go_big_quiet_op
                      first
                        | go_big_quiet_on
                        | (with_reducible refine ⟨_, fun _ _ => rfl, ?_⟩; go_big_quiet_on)
                        | (apply Exists.intro
                           refine ⟨fun w' hw' => ?_, ?_⟩
                           · (go_at_call 30; with_reducible refine (H5.out _).mono ?_; exact fun _ _ h => ⟨h.1, Below.on hw' hw'.size h.2⟩)
                           go_big_quiet_on)
                        | (apply Exists.intro
                           refine ⟨fun w' hw' => ?_, ?_⟩
                           · (go_at_call 31; with_reducible refine (H6.out _).mono ?_; exact fun _ _ h => ⟨h.1, Below.on hw' hw'.size h.2⟩)
                           go_big_quiet_on)
                        | (apply Exists.intro
                           refine ⟨fun w' hw' => ?_, ?_⟩
                           · (go_at_call 32; with_reducible refine (alive11 _ (hT _ hw') (hH _ hw')).mono ?_; exact fun _ _ h => ⟨h.1, Below.on hw' hw'.size h.2⟩)
                           go_big_quiet_on))))
            refine wpQuiet_nil ?_
            intro wz hwz
            go_wp2
            go_ret
            exact ⟨rfl, by first | exact hup _ hwz | (rw [hg2]; exact hup _ hwz)⟩
end Go.Proofs.YtccidoigjdbepaaDoor
