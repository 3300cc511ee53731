
/- The walk of law11.CidrHas. -/
import Derived.Test.YtccidoigjdbepaaDoorCxF
import Derived.Test.YtccidoigjdbepaaDoorOpnPx
import Derived.Test.YtccidoigjdbepaaDoorWCidrOf
namespace Go.Proofs.YtccidoigjdbepaaDoor
open Go.RowKit Dec Lin Qd
set_option maxRecDepth 100000
set_option linter.unusedVariables false
set_option linter.unusedSimpArgs false

theorem has_of (v : Int) (l : List UInt8) (n : Int) (hl : l.length = 16) (h : ofE v l n = 0) : hasB (ofP v l n) v l = true := by
  have hr := of_right v l n hl h
  rcases of_case v l n with ⟨_, e, _⟩ | ⟨_, _, e, _⟩ | ⟨_, _, _, e, _⟩ | ⟨h1, h2, h3, _, e⟩
  · omega
  · omega
  · omega
  · unfold hasB
    rw [hr, h1, e]
    simp
theorem has_eq (p : Pfx) (v : Int) (l : List UInt8) (hl : l.length = 16) (hr : rightP p = true) (h : ofE v l p.bits = 0) : pfxEq p (ofP v l p.bits) = hasB p v l := by
  rcases of_case v l p.bits with ⟨_, e, _⟩ | ⟨_, _, e, _⟩ | ⟨_, _, _, e, _⟩ | ⟨h1, h2, h3, _, e⟩
  · omega
  · omega
  · omega
  · unfold hasB pfxEq
    rw [hr, h1, e]
    show ((p.v == v && p.l == mL p.bits.toNat l) && p.bits == p.bits) = (true && (true && (v == p.v && mL p.bits.toNat l == p.l)))
    rw [Bool.beq_comm (a := p.v), Bool.beq_comm (a := p.l)]
    simp
theorem of_three (v : Int) (l : List UInt8) (n : Int) : ofE v l n = 0 ∨ ofE v l n = 1 ∨ ofE v l n = 6 := by
  rcases of_case v l n with ⟨_, e, _⟩ | ⟨_, _, e, _⟩ | ⟨_, _, _, e, _⟩ | ⟨_, _, _, e, _⟩ <;> omega
theorem ofP_ok (v : Int) (l : List UInt8) (n : Int) (hv : in64 v) (hl : l.length = 16) (hn : in64 n) : pfxOk (ofP v l n) := by
  have hzz : pfxOk zP := ⟨(by unfold in64; omega : in64 0), rfl, (by unfold in64; omega : in64 0)⟩
  rcases of_case v l n with ⟨_, _, e⟩ | ⟨_, _, _, e⟩ | ⟨_, _, _, _, e⟩ | ⟨_, _, _, _, e⟩
  · rw [e]; exact hzz
  · rw [e]; exact hzz
  · rw [e]; exact hzz
  · rw [e]; exact ⟨hv, by show (mL _ l).length = 16; rw [mL_len, hl], hn⟩

set_option maxHeartbeats 8000000 in
theorem has_ff (p : Pfx) (v : Int) (l : List UInt8) (w : World) (hp : pfxOk p) (hv : in64 v) (hl : l.length = 16) (htab : Tab w) (hm : Cl.HasM w) (hr : rightP p = false) (hh : hasB p v l = false) :
    Calls Tryd.prog 6 #[.agg (pf p), .agg (adv v l)] w fun e w' => e = .returned (.bool true) ∧ Below w.heap.size w w' := by
  have HM := Lib.hid hm
  have Htab := Lib.hid htab
  have hpos := hm.pos
  have h1 := fun W => cright_any p hp W
  have h2 := fun W => refcright_any p hp W
  have h3 := fun W => chas_any p hp v l hv hl W
  have h4 := fun W => refchas_any p hp v l hl W
  rw [hr] at h1 h2
  rw [hh] at h3 h4
  have H1 := Lib.hid h1
  have H2 := Lib.hid h2
  have H3 := Lib.hid h3
  have H4 := Lib.hid h4
  have hn := hp.2.2
  unfold in64 at hn
  have h5 := fun W => cof_any v l p.bits hl hn.1 hn.2 W
  have hqo := ofP_ok v l p.bits hv hl hp.2.2
  have h6 := fun W => chas_any (ofP v l p.bits) hqo v l hv hl W
  have hql := ofP_len v l p.bits hl
  have q18 := pf_size (ofP v l p.bits) hql
  have oq := pf_one (ofP v l p.bits)
  have zq : (Tryd.prog.info? 45).map (·.size) = some (pf (ofP v l p.bits)).size := by rw [q18]; exact Tryd.infoPfx
  have zp : (Tryd.prog.info? 45).map (·.size) = some (pf p).size := by rw [pf_size p hp.2.1]; exact Tryd.infoPfx
  have za := Adr_size v l hl
  have he := pf_eq p (ofP v l p.bits) hp.2.1 hql
  have k0 : Blk ((w.alloc (.cells (pf p) 45)).alloc (.cells (adv v l) 24)) w.heap.size 45 (pf p) := (blk_new _ _ _).alloc _
  have j0 : Blk ((w.alloc (.cells (pf p) 45)).alloc (.cells (adv v l) 24)) (w.heap.size + 1) 24 (adv v l) := blk_new' _ _ _ _ (by simp)
  have b0 : Below w.heap.size w ((w.alloc (.cells (pf p) 45)).alloc (.cells (adv v l) 24)) := ((Below.refl _ _).alloc (Nat.le_refl _) _).alloc (by simp) _
  have HR := Lib.hid (fun (W : World) (h : Blk W w.heap.size 45 (pf p)) => pf_bits hp.2.1 h)
  have h0 := has_of v l p.bits hl
  have heq := has_eq p v l hl
  have h3c := of_three v l p.bits
  clear h1 h2 h3 h4 hm htab hql hqo
  generalize hb1 : hasB (ofP v l p.bits) v l = B1 at *
  generalize hb2 : pfxEq p (ofP v l p.bits) = B2 at *
  rw [hh] at heq
  generalize adv v l = X at *
  generalize pf (ofP v l p.bits) = Q at *
  generalize pf p = P at *
  generalize hE : ofE v l p.bits = E at *
  have hrp : rightP p = false := hr
  rcases h3c with rfl | rfl | rfl
  · obtain rfl : B1 = true := h0 rfl
    have H5 := Lib.hid h5
    have H6 := Lib.hid h6
    have HE := Lib.hid he
    clear h5 h6 he h0 heq hb1 hb2 hE hrp hr hh hp hv hl hn
    generalize p.bits = n at *
    go_enter Tryd.func6, Tryd.ntmps6
    go_wp2_with fail
    have kp : ∀ W, Below ((w.alloc (.cells P 45)).alloc (.cells X 24)).heap.size ((w.alloc (.cells P 45)).alloc (.cells X 24)) W → Blk W w.heap.size 45 P := fun W hW => k0.on hW
    have ka : ∀ W, Below ((w.alloc (.cells P 45)).alloc (.cells X 24)).heap.size ((w.alloc (.cells P 45)).alloc (.cells X 24)) W → Blk W (w.heap.size + 1) 24 X := fun W hW => j0.on hW
    have hu0 : ∀ W, Below ((w.alloc (.cells P 45)).alloc (.cells X 24)).heap.size ((w.alloc (.cells P 45)).alloc (.cells X 24)) W → Below w.heap.size w W := fun W hW => Below.on b0 b0.size hW
    clear k0 j0 b0
    generalize (w.alloc (.cells P 45)).alloc (.cells X 24) = w0 at *
    generalize hg1 : w.heap.size = g1 at *
    refine wp_region_below w0.heap.size (by kernel_rfl) (by kernel_rfl) ?_
    repeat (first
      | go_big_quiet_skip
      | (go_big_quiet_want
         first
           | (refine qb_load (g := g1) (t := 45) (cs := P) 45 (.tmp 2) ?ho ?hx ?hA _ Tryd.underlying45 rfl zp ?_
              case ho => with_reducible rfl
              case hx => rfl
              case hA => exact fun w' hw' => kp _ hw'
              go_big_quiet_on
              simp only [Act.put, List.setIfInBounds_toArray, List.set_cons_succ, List.set_cons_zero])
           | (refine qb_load (g := (g1 + 1)) (t := 24) (cs := X) 24 (.tmp 3) ?ho ?hx ?hA _ Tryd.underlying24 rfl za ?_
              case ho => with_reducible rfl
              case hx => rfl
              case hA => exact fun w' hw' => ka _ hw'
              go_big_quiet_on
              simp only [Act.put, List.setIfInBounds_toArray, List.set_cons_succ, List.set_cons_zero])
           | (go_big_quiet_op
              first
                | go_big_quiet_on
                | (with_reducible refine ⟨_, fun _ _ => rfl, ?_⟩; go_big_quiet_on)
                | (apply Exists.intro
                   refine ⟨fun w' hw' => ?_, ?_⟩
                   · (go_at_call 30; with_reducible refine (H1.out _).mono ?_; exact fun _ _ h => ⟨h.1, Below.on hw' hw'.size h.2⟩)
                   go_big_quiet_on)
                | (apply Exists.intro
                   refine ⟨fun w' hw' => ?_, ?_⟩
                   · (go_at_call 33; with_reducible refine (H2.out _).mono ?_; exact fun _ _ h => ⟨h.1, Below.on hw' hw'.size h.2⟩)
                   go_big_quiet_on)
                | (apply Exists.intro
                   refine ⟨fun w' hw' => ?_, ?_⟩
                   · (go_at_call 34; with_reducible refine (H3.out _).mono ?_; exact fun _ _ h => ⟨h.1, Below.on hw' hw'.size h.2⟩)
                   go_big_quiet_on)
                | (apply Exists.intro
                   refine ⟨fun w' hw' => ?_, ?_⟩
                   · (go_at_call 35; with_reducible refine (H4.out _).mono ?_; exact fun _ _ h => ⟨h.1, Below.on hw' hw'.size h.2⟩)
                   go_big_quiet_on))))
    refine wpQuiet_nil ?_
    intro w1 hw1
    subst hg1
    have k1 := kp _ hw1
    have j1 := ka _ hw1
    have b1 := hu0 _ hw1
    have c1 := HR.out _ k1
    clear kp ka hu0 hw1
    go_wp2_with (first
      | (refine wpList_loadBlk (g := w.heap.size + 1) (t := 24) (cs := X) ?hw 24 (.tmp 3) ?ho ?hx ?hA _ Tryd.underlying24 rfl ?hi ?_
         case hw => rfl
         case ho => with_reducible rfl
         case hx => rfl
         case hA => exact j1
         case hi => exact za)
      | fail)
    refine (H5.out _).mono ?_; rintro e w2 ⟨rfl, hb2⟩
    have k2 := (k1.on (by exact hb2)).alloc (.cells Q 45)
    have j2 := (j1.on (by exact hb2)).alloc (.cells Q 45)
    have q2 : Blk (w2.alloc (.cells Q 45)) w2.heap.size 45 Q := blk_new _ _ _
    have b2 := Below.on b1 b1.size (by exact hb2)
    have b2 := b2.alloc b2.size (.cells Q 45)
    clear hb2 k1 j1 b1 c1
    go_wp2_with (first
      | (refine wpList_allocStore (cs := Q) rfl rfl 45 ?ho (.tmp 5) (.tmp 26) ?ho2 Tryd.zeroPfx rfl ?hx ?hy ?hn ?h1 ?_
         case ho => with_reducible rfl
         case ho2 => with_reducible rfl
         case hx => rfl
         case hy => rfl
         case hn => exact q18
         case h1 => exact oq)
      | fail)
    generalize hg5 : w2.heap.size = g5 at *
    generalize w2.alloc (.cells Q 45) = w3 at *
    clear hg5
    have hup : ∀ W, Below w3.heap.size w3 W → Below w.heap.size w W := fun W hW => Below.on b2 b2.size hW
    have hT : ∀ W, Below w3.heap.size w3 W → Tab W := fun W hW => Htab.out.on (hup W hW)
    have hH : ∀ W, Below w3.heap.size w3 W → Cl.HasM W := fun W hW => HM.out.on (hup W hW) hpos
    generalize hg1 : w.heap.size = g1 at *
    try simp only [Act.put, List.setIfInBounds_toArray, List.set_cons_succ, List.set_cons_zero]
    refine wp_region_below w3.heap.size (by kernel_rfl) (by kernel_rfl) ?_
    repeat (first
      | go_big_quiet_skip
      | (go_big_quiet_want
         first
           | (refine qb_load (g := g1) (t := 45) (cs := P) 45 (.tmp 2) ?ho ?hx ?hA _ Tryd.underlying45 rfl zp ?_
              case ho => with_reducible rfl
              case hx => rfl
              case hA => exact fun w' hw' => k2.on hw'
              go_big_quiet_on
              simp only [Act.put, List.setIfInBounds_toArray, List.set_cons_succ, List.set_cons_zero])
           | (refine qb_load (g := (g1 + 1)) (t := 24) (cs := X) 24 (.tmp 3) ?ho ?hx ?hA _ Tryd.underlying24 rfl za ?_
              case ho => with_reducible rfl
              case hx => rfl
              case hA => exact fun w' hw' => j2.on hw'
              go_big_quiet_on
              simp only [Act.put, List.setIfInBounds_toArray, List.set_cons_succ, List.set_cons_zero])
           | (refine qb_load (g := g5) (t := 45) (cs := Q) 45 (.tmp 5) ?ho ?hx ?hA _ Tryd.underlying45 rfl zq ?_
              case ho => with_reducible rfl
              case hx => rfl
              case hA => exact fun w' hw' => q2.on hw'
              go_big_quiet_on
              simp only [Act.put, List.setIfInBounds_toArray, List.set_cons_succ, List.set_cons_zero])
           | (refine qe_eql (cs := P) (ds := Q) (b := B2) 45 45 (.tmp 42) (.tmp 43) ?ho ?hx ?hy Tryd.plainPfx ?he ?_
              case ho => with_reducible rfl
              case hx => rfl
              case hy => rfl
              case he => exact HE.out
              go_big_quiet_on
              simp only [Act.put, List.setIfInBounds_toArray, List.set_cons_succ, List.set_cons_zero])
           | (go_big_quiet_op
              first
                | go_big_quiet_on
                | (with_reducible refine ⟨_, fun _ _ => rfl, ?_⟩; go_big_quiet_on)
                | (apply Exists.intro
                   refine ⟨fun w' hw' => ?_, ?_⟩
                   · (go_at_call 34; with_reducible refine (H6.out _).mono ?_; exact fun _ _ h => ⟨h.1, Below.on hw' hw'.size h.2⟩)
                   go_big_quiet_on)
                | (apply Exists.intro
                   refine ⟨fun w' hw' => ?_, ?_⟩
                   · (go_at_call 34; with_reducible refine (H3.out _).mono ?_; exact fun _ _ h => ⟨h.1, Below.on hw' hw'.size h.2⟩)
                   go_big_quiet_on)
                | (apply Exists.intro
                   refine ⟨fun w' hw' => ?_, ?_⟩
                   · (go_at_call 33; with_reducible refine (H2.out _).mono ?_; exact fun _ _ h => ⟨h.1, Below.on hw' hw'.size h.2⟩)
                   go_big_quiet_on)
                | (apply Exists.intro
                   refine ⟨fun w' hw' => ?_, ?_⟩
                   · (go_at_call 32; with_reducible refine (alive11 _ (hT _ hw') (hH _ hw')).mono ?_; exact fun _ _ h => ⟨h.1, Below.on hw' hw'.size h.2⟩)
                   go_big_quiet_on))))
    refine wpQuiet_nil ?_
    intro wz hwz
    go_wp2
    go_ret
    exact ⟨rfl, by first | exact hup _ hwz | (rw [hg1]; exact hup _ hwz)⟩
  · have H5 := Lib.hid h5
    have H6 := Lib.hid h6
    have HE := Lib.hid he
    clear h5 h6 he h0 heq hb1 hb2 hE hrp hr hh hp hv hl hn
    generalize p.bits = n at *
    go_enter Tryd.func6, Tryd.ntmps6
    go_wp2_with fail
    have kp : ∀ W, Below ((w.alloc (.cells P 45)).alloc (.cells X 24)).heap.size ((w.alloc (.cells P 45)).alloc (.cells X 24)) W → Blk W w.heap.size 45 P := fun W hW => k0.on hW
    have ka : ∀ W, Below ((w.alloc (.cells P 45)).alloc (.cells X 24)).heap.size ((w.alloc (.cells P 45)).alloc (.cells X 24)) W → Blk W (w.heap.size + 1) 24 X := fun W hW => j0.on hW
    have hu0 : ∀ W, Below ((w.alloc (.cells P 45)).alloc (.cells X 24)).heap.size ((w.alloc (.cells P 45)).alloc (.cells X 24)) W → Below w.heap.size w W := fun W hW => Below.on b0 b0.size hW
    clear k0 j0 b0
    generalize (w.alloc (.cells P 45)).alloc (.cells X 24) = w0 at *
    generalize hg1 : w.heap.size = g1 at *
    refine wp_region_below w0.heap.size (by kernel_rfl) (by kernel_rfl) ?_
    repeat (first
      | go_big_quiet_skip
      | (go_big_quiet_want
         first
           | (refine qb_load (g := g1) (t := 45) (cs := P) 45 (.tmp 2) ?ho ?hx ?hA _ Tryd.underlying45 rfl zp ?_
              case ho => with_reducible rfl
              case hx => rfl
              case hA => exact fun w' hw' => kp _ hw'
              go_big_quiet_on
              simp only [Act.put, List.setIfInBounds_toArray, List.set_cons_succ, List.set_cons_zero])
           | (refine qb_load (g := (g1 + 1)) (t := 24) (cs := X) 24 (.tmp 3) ?ho ?hx ?hA _ Tryd.underlying24 rfl za ?_
              case ho => with_reducible rfl
              case hx => rfl
              case hA => exact fun w' hw' => ka _ hw'
              go_big_quiet_on
              simp only [Act.put, List.setIfInBounds_toArray, List.set_cons_succ, List.set_cons_zero])
           | (go_big_quiet_op
              first
                | go_big_quiet_on
                | (with_reducible refine ⟨_, fun _ _ => rfl, ?_⟩; go_big_quiet_on)
                | (apply Exists.intro
                   refine ⟨fun w' hw' => ?_, ?_⟩
                   · (go_at_call 30; with_reducible refine (H1.out _).mono ?_; exact fun _ _ h => ⟨h.1, Below.on hw' hw'.size h.2⟩)
                   go_big_quiet_on)
                | (apply Exists.intro
                   refine ⟨fun w' hw' => ?_, ?_⟩
                   · (go_at_call 33; with_reducible refine (H2.out _).mono ?_; exact fun _ _ h => ⟨h.1, Below.on hw' hw'.size h.2⟩)
                   go_big_quiet_on)
                | (apply Exists.intro
                   refine ⟨fun w' hw' => ?_, ?_⟩
                   · (go_at_call 34; with_reducible refine (H3.out _).mono ?_; exact fun _ _ h => ⟨h.1, Below.on hw' hw'.size h.2⟩)
                   go_big_quiet_on)
                | (apply Exists.intro
                   refine ⟨fun w' hw' => ?_, ?_⟩
                   · (go_at_call 35; with_reducible refine (H4.out _).mono ?_; exact fun _ _ h => ⟨h.1, Below.on hw' hw'.size h.2⟩)
                   go_big_quiet_on))))
    refine wpQuiet_nil ?_
    intro w1 hw1
    subst hg1
    have k1 := kp _ hw1
    have j1 := ka _ hw1
    have b1 := hu0 _ hw1
    have c1 := HR.out _ k1
    clear kp ka hu0 hw1
    go_wp2_with (first
      | (refine wpList_loadBlk (g := w.heap.size + 1) (t := 24) (cs := X) ?hw 24 (.tmp 3) ?ho ?hx ?hA _ Tryd.underlying24 rfl ?hi ?_
         case hw => rfl
         case ho => with_reducible rfl
         case hx => rfl
         case hA => exact j1
         case hi => exact za)
      | fail)
    refine (H5.out _).mono ?_; rintro e w2 ⟨rfl, hb2⟩
    have k2 := (k1.on (by exact hb2)).alloc (.cells Q 45)
    have j2 := (j1.on (by exact hb2)).alloc (.cells Q 45)
    have q2 : Blk (w2.alloc (.cells Q 45)) w2.heap.size 45 Q := blk_new _ _ _
    have b2 := Below.on b1 b1.size (by exact hb2)
    have b2 := b2.alloc b2.size (.cells Q 45)
    clear hb2 k1 j1 b1 c1
    go_wp2_with (first
      | (refine wpList_allocStore (cs := Q) rfl rfl 45 ?ho (.tmp 5) (.tmp 26) ?ho2 Tryd.zeroPfx rfl ?hx ?hy ?hn ?h1 ?_
         case ho => with_reducible rfl
         case ho2 => with_reducible rfl
         case hx => rfl
         case hy => rfl
         case hn => exact q18
         case h1 => exact oq)
      | fail)
    generalize hg5 : w2.heap.size = g5 at *
    generalize w2.alloc (.cells Q 45) = w3 at *
    clear hg5
    have hup : ∀ W, Below w3.heap.size w3 W → Below w.heap.size w W := fun W hW => Below.on b2 b2.size hW
    have hT : ∀ W, Below w3.heap.size w3 W → Tab W := fun W hW => Htab.out.on (hup W hW)
    have hH : ∀ W, Below w3.heap.size w3 W → Cl.HasM W := fun W hW => HM.out.on (hup W hW) hpos
    generalize hg1 : w.heap.size = g1 at *
    try simp only [Act.put, List.setIfInBounds_toArray, List.set_cons_succ, List.set_cons_zero]
    refine wp_region_below w3.heap.size (by kernel_rfl) (by kernel_rfl) ?_
    repeat (first
      | go_big_quiet_skip
      | (go_big_quiet_want
         first
           | (refine qb_load (g := g1) (t := 45) (cs := P) 45 (.tmp 2) ?ho ?hx ?hA _ Tryd.underlying45 rfl zp ?_
              case ho => with_reducible rfl
              case hx => rfl
              case hA => exact fun w' hw' => k2.on hw'
              go_big_quiet_on
              simp only [Act.put, List.setIfInBounds_toArray, List.set_cons_succ, List.set_cons_zero])
           | (refine qb_load (g := (g1 + 1)) (t := 24) (cs := X) 24 (.tmp 3) ?ho ?hx ?hA _ Tryd.underlying24 rfl za ?_
              case ho => with_reducible rfl
              case hx => rfl
              case hA => exact fun w' hw' => j2.on hw'
              go_big_quiet_on
              simp only [Act.put, List.setIfInBounds_toArray, List.set_cons_succ, List.set_cons_zero])
           | (refine qb_load (g := g5) (t := 45) (cs := Q) 45 (.tmp 5) ?ho ?hx ?hA _ Tryd.underlying45 rfl zq ?_
              case ho => with_reducible rfl
              case hx => rfl
              case hA => exact fun w' hw' => q2.on hw'
              go_big_quiet_on
              simp only [Act.put, List.setIfInBounds_toArray, List.set_cons_succ, List.set_cons_zero])
           | (refine qe_eql (cs := P) (ds := Q) (b := B2) 45 45 (.tmp 42) (.tmp 43) ?ho ?hx ?hy Tryd.plainPfx ?he ?_
              case ho => with_reducible rfl
              case hx => rfl
              case hy => rfl
              case he => exact HE.out
              go_big_quiet_on
              simp only [Act.put, List.setIfInBounds_toArray, List.set_cons_succ, List.set_cons_zero])
           | (go_big_quiet_op
              first
                | go_big_quiet_on
                | (with_reducible refine ⟨_, fun _ _ => rfl, ?_⟩; go_big_quiet_on)
                | (apply Exists.intro
                   refine ⟨fun w' hw' => ?_, ?_⟩
                   · (go_at_call 34; with_reducible refine (H6.out _).mono ?_; exact fun _ _ h => ⟨h.1, Below.on hw' hw'.size h.2⟩)
                   go_big_quiet_on)
                | (apply Exists.intro
                   refine ⟨fun w' hw' => ?_, ?_⟩
                   · (go_at_call 34; with_reducible refine (H3.out _).mono ?_; exact fun _ _ h => ⟨h.1, Below.on hw' hw'.size h.2⟩)
                   go_big_quiet_on)
                | (apply Exists.intro
                   refine ⟨fun w' hw' => ?_, ?_⟩
                   · (go_at_call 33; with_reducible refine (H2.out _).mono ?_; exact fun _ _ h => ⟨h.1, Below.on hw' hw'.size h.2⟩)
                   go_big_quiet_on)
                | (apply Exists.intro
                   refine ⟨fun w' hw' => ?_, ?_⟩
                   · (go_at_call 32; with_reducible refine (alive11 _ (hT _ hw') (hH _ hw')).mono ?_; exact fun _ _ h => ⟨h.1, Below.on hw' hw'.size h.2⟩)
                   go_big_quiet_on))))
    refine wpQuiet_nil ?_
    intro wz hwz
    go_wp2
    go_ret
    exact ⟨rfl, by first | exact hup _ hwz | (rw [hg1]; exact hup _ hwz)⟩
  · have H5 := Lib.hid h5
    have H6 := Lib.hid h6
    have HE := Lib.hid he
    clear h5 h6 he h0 heq hb1 hb2 hE hrp hr hh hp hv hl hn
    generalize p.bits = n at *
    go_enter Tryd.func6, Tryd.ntmps6
    go_wp2_with fail
    have kp : ∀ W, Below ((w.alloc (.cells P 45)).alloc (.cells X 24)).heap.size ((w.alloc (.cells P 45)).alloc (.cells X 24)) W → Blk W w.heap.size 45 P := fun W hW => k0.on hW
    have ka : ∀ W, Below ((w.alloc (.cells P 45)).alloc (.cells X 24)).heap.size ((w.alloc (.cells P 45)).alloc (.cells X 24)) W → Blk W (w.heap.size + 1) 24 X := fun W hW => j0.on hW
    have hu0 : ∀ W, Below ((w.alloc (.cells P 45)).alloc (.cells X 24)).heap.size ((w.alloc (.cells P 45)).alloc (.cells X 24)) W → Below w.heap.size w W := fun W hW => Below.on b0 b0.size hW
    clear k0 j0 b0
    generalize (w.alloc (.cells P 45)).alloc (.cells X 24) = w0 at *
    generalize hg1 : w.heap.size = g1 at *
    refine wp_region_below w0.heap.size (by kernel_rfl) (by kernel_rfl) ?_
    repeat (first
      | go_big_quiet_skip
      | (go_big_quiet_want
         first
           | (refine qb_load (g := g1) (t := 45) (cs := P) 45 (.tmp 2) ?ho ?hx ?hA _ Tryd.underlying45 rfl zp ?_
              case ho => with_reducible rfl
              case hx => rfl
              case hA => exact fun w' hw' => kp _ hw'
              go_big_quiet_on
              simp only [Act.put, List.setIfInBounds_toArray, List.set_cons_succ, List.set_cons_zero])
           | (refine qb_load (g := (g1 + 1)) (t := 24) (cs := X) 24 (.tmp 3) ?ho ?hx ?hA _ Tryd.underlying24 rfl za ?_
              case ho => with_reducible rfl
              case hx => rfl
              case hA => exact fun w' hw' => ka _ hw'
              go_big_quiet_on
              simp only [Act.put, List.setIfInBounds_toArray, List.set_cons_succ, List.set_cons_zero])
           | (go_big_quiet_op
              first
                | go_big_quiet_on
                | (with_reducible refine ⟨_, fun _ _ => rfl, ?_⟩; go_big_quiet_on)
                | (apply Exists.intro
                   refine ⟨fun w' hw' => ?_, ?_⟩
                   · (go_at_call 30; with_reducible refine (H1.out _).mono ?_; exact fun _ _ h => ⟨h.1, Below.on hw' hw'.size h.2⟩)
                   go_big_quiet_on)
                | (apply Exists.intro
                   refine ⟨fun w' hw' => ?_, ?_⟩
                   · (go_at_call 33; with_reducible refine (H2.out _).mono ?_; exact fun _ _ h => ⟨h.1, Below.on hw' hw'.size h.2⟩)
                   go_big_quiet_on)
                | (apply Exists.intro
                   refine ⟨fun w' hw' => ?_, ?_⟩
                   · (go_at_call 34; with_reducible refine (H3.out _).mono ?_; exact fun _ _ h => ⟨h.1, Below.on hw' hw'.size h.2⟩)
                   go_big_quiet_on)
                | (apply Exists.intro
                   refine ⟨fun w' hw' => ?_, ?_⟩
                   · (go_at_call 35; with_reducible refine (H4.out _).mono ?_; exact fun _ _ h => ⟨h.1, Below.on hw' hw'.size h.2⟩)
                   go_big_quiet_on))))
    refine wpQuiet_nil ?_
    intro w1 hw1
    subst hg1
    have k1 := kp _ hw1
    have j1 := ka _ hw1
    have b1 := hu0 _ hw1
    have c1 := HR.out _ k1
    clear kp ka hu0 hw1
    go_wp2_with (first
      | (refine wpList_loadBlk (g := w.heap.size + 1) (t := 24) (cs := X) ?hw 24 (.tmp 3) ?ho ?hx ?hA _ Tryd.underlying24 rfl ?hi ?_
         case hw => rfl
         case ho => with_reducible rfl
         case hx => rfl
         case hA => exact j1
         case hi => exact za)
      | fail)
    refine (H5.out _).mono ?_; rintro e w2 ⟨rfl, hb2⟩
    have k2 := (k1.on (by exact hb2)).alloc (.cells Q 45)
    have j2 := (j1.on (by exact hb2)).alloc (.cells Q 45)
    have q2 : Blk (w2.alloc (.cells Q 45)) w2.heap.size 45 Q := blk_new _ _ _
    have b2 := Below.on b1 b1.size (by exact hb2)
    have b2 := b2.alloc b2.size (.cells Q 45)
    clear hb2 k1 j1 b1 c1
    go_wp2_with (first
      | (refine wpList_allocStore (cs := Q) rfl rfl 45 ?ho (.tmp 5) (.tmp 26) ?ho2 Tryd.zeroPfx rfl ?hx ?hy ?hn ?h1 ?_
         case ho => with_reducible rfl
         case ho2 => with_reducible rfl
         case hx => rfl
         case hy => rfl
         case hn => exact q18
         case h1 => exact oq)
      | fail)
    generalize hg5 : w2.heap.size = g5 at *
    generalize w2.alloc (.cells Q 45) = w3 at *
    clear hg5
    have hup : ∀ W, Below w3.heap.size w3 W → Below w.heap.size w W := fun W hW => Below.on b2 b2.size hW
    have hT : ∀ W, Below w3.heap.size w3 W → Tab W := fun W hW => Htab.out.on (hup W hW)
    have hH : ∀ W, Below w3.heap.size w3 W → Cl.HasM W := fun W hW => HM.out.on (hup W hW) hpos
    generalize hg1 : w.heap.size = g1 at *
    try simp only [Act.put, List.setIfInBounds_toArray, List.set_cons_succ, List.set_cons_zero]
    refine wp_region_below w3.heap.size (by kernel_rfl) (by kernel_rfl) ?_
    repeat (first
      | go_big_quiet_skip
      | (go_big_quiet_want
         first
           | (refine qb_load (g := g1) (t := 45) (cs := P) 45 (.tmp 2) ?ho ?hx ?hA _ Tryd.underlying45 rfl zp ?_
              case ho => with_reducible rfl
              case hx => rfl
              case hA => exact fun w' hw' => k2.on hw'
              go_big_quiet_on
              simp only [Act.put, List.setIfInBounds_toArray, List.set_cons_succ, List.set_cons_zero])
           | (refine qb_load (g := (g1 + 1)) (t := 24) (cs := X) 24 (.tmp 3) ?ho ?hx ?hA _ Tryd.underlying24 rfl za ?_
              case ho => with_reducible rfl
              case hx => rfl
              case hA => exact fun w' hw' => j2.on hw'
              go_big_quiet_on
              simp only [Act.put, List.setIfInBounds_toArray, List.set_cons_succ, List.set_cons_zero])
           | (refine qb_load (g := g5) (t := 45) (cs := Q) 45 (.tmp 5) ?ho ?hx ?hA _ Tryd.underlying45 rfl zq ?_
              case ho => with_reducible rfl
              case hx => rfl
              case hA => exact fun w' hw' => q2.on hw'
              go_big_quiet_on
              simp only [Act.put, List.setIfInBounds_toArray, List.set_cons_succ, List.set_cons_zero])
           | (refine qe_eql (cs := P) (ds := Q) (b := B2) 45 45 (.tmp 42) (.tmp 43) ?ho ?hx ?hy Tryd.plainPfx ?he ?_
              case ho => with_reducible rfl
              case hx => rfl
              case hy => rfl
              case he => exact HE.out
              go_big_quiet_on
              simp only [Act.put, List.setIfInBounds_toArray, List.set_cons_succ, List.set_cons_zero])
           | (go_big_quiet_op
              first
                | go_big_quiet_on
                | (with_reducible refine ⟨_, fun _ _ => rfl, ?_⟩; go_big_quiet_on)
                | (apply Exists.intro
                   refine ⟨fun w' hw' => ?_, ?_⟩
                   · (go_at_call 34; with_reducible refine (H6.out _).mono ?_; exact fun _ _ h => ⟨h.1, Below.on hw' hw'.size h.2⟩)
                   go_big_quiet_on)
                | (apply Exists.intro
                   refine ⟨fun w' hw' => ?_, ?_⟩
                   · (go_at_call 34; with_reducible refine (H3.out _).mono ?_; exact fun _ _ h => ⟨h.1, Below.on hw' hw'.size h.2⟩)
                   go_big_quiet_on)
                | (apply Exists.intro
                   refine ⟨fun w' hw' => ?_, ?_⟩
                   · (go_at_call 33; with_reducible refine (H2.out _).mono ?_; exact fun _ _ h => ⟨h.1, Below.on hw' hw'.size h.2⟩)
                   go_big_quiet_on)
                | (apply Exists.intro
                   refine ⟨fun w' hw' => ?_, ?_⟩
                   · (go_at_call 32; with_reducible refine (alive11 _ (hT _ hw') (hH _ hw')).mono ?_; exact fun _ _ h => ⟨h.1, Below.on hw' hw'.size h.2⟩)
                   go_big_quiet_on))))
    refine wpQuiet_nil ?_
    intro wz hwz
    go_wp2
    go_ret
    exact ⟨rfl, by first | exact hup _ hwz | (rw [hg1]; exact hup _ hwz)⟩

set_option maxHeartbeats 8000000 in
theorem has_tf (p : Pfx) (v : Int) (l : List UInt8) (w : World) (hp : pfxOk p) (hv : in64 v) (hl : l.length = 16) (htab : Tab w) (hm : Cl.HasM w) (hr : rightP p = true) (hh : hasB p v l = false) :
    Calls Tryd.prog 6 #[.agg (pf p), .agg (adv v l)] w fun e w' => e = .returned (.bool true) ∧ Below w.heap.size w w' := by
  have HM := Lib.hid hm
  have Htab := Lib.hid htab
  have hpos := hm.pos
  have h1 := fun W => cright_any p hp W
  have h2 := fun W => refcright_any p hp W
  have h3 := fun W => chas_any p hp v l hv hl W
  have h4 := fun W => refchas_any p hp v l hl W
  rw [hr] at h1 h2
  rw [hh] at h3 h4
  have H1 := Lib.hid h1
  have H2 := Lib.hid h2
  have H3 := Lib.hid h3
  have H4 := Lib.hid h4
  have hn := hp.2.2
  unfold in64 at hn
  have h5 := fun W => cof_any v l p.bits hl hn.1 hn.2 W
  have hqo := ofP_ok v l p.bits hv hl hp.2.2
  have h6 := fun W => chas_any (ofP v l p.bits) hqo v l hv hl W
  have hql := ofP_len v l p.bits hl
  have q18 := pf_size (ofP v l p.bits) hql
  have oq := pf_one (ofP v l p.bits)
  have zq : (Tryd.prog.info? 45).map (·.size) = some (pf (ofP v l p.bits)).size := by rw [q18]; exact Tryd.infoPfx
  have zp : (Tryd.prog.info? 45).map (·.size) = some (pf p).size := by rw [pf_size p hp.2.1]; exact Tryd.infoPfx
  have za := Adr_size v l hl
  have he := pf_eq p (ofP v l p.bits) hp.2.1 hql
  have k0 : Blk ((w.alloc (.cells (pf p) 45)).alloc (.cells (adv v l) 24)) w.heap.size 45 (pf p) := (blk_new _ _ _).alloc _
  have j0 : Blk ((w.alloc (.cells (pf p) 45)).alloc (.cells (adv v l) 24)) (w.heap.size + 1) 24 (adv v l) := blk_new' _ _ _ _ (by simp)
  have b0 : Below w.heap.size w ((w.alloc (.cells (pf p) 45)).alloc (.cells (adv v l) 24)) := ((Below.refl _ _).alloc (Nat.le_refl _) _).alloc (by simp) _
  have HR := Lib.hid (fun (W : World) (h : Blk W w.heap.size 45 (pf p)) => pf_bits hp.2.1 h)
  have h0 := has_of v l p.bits hl
  have heq := has_eq p v l hl
  have h3c := of_three v l p.bits
  clear h1 h2 h3 h4 hm htab hql hqo
  generalize hb1 : hasB (ofP v l p.bits) v l = B1 at *
  generalize hb2 : pfxEq p (ofP v l p.bits) = B2 at *
  rw [hh] at heq
  generalize adv v l = X at *
  generalize pf (ofP v l p.bits) = Q at *
  generalize pf p = P at *
  generalize hE : ofE v l p.bits = E at *
  have hrp : rightP p = true := hr
  rcases h3c with rfl | rfl | rfl
  · obtain rfl : B1 = true := h0 rfl
    obtain rfl : B2 = false := heq hrp rfl
    have H5 := Lib.hid h5
    have H6 := Lib.hid h6
    have HE := Lib.hid he
    clear h5 h6 he h0 heq hb1 hb2 hE hrp hr hh hp hv hl hn
    generalize p.bits = n at *
    go_enter Tryd.func6, Tryd.ntmps6
    go_wp2_with fail
    have kp : ∀ W, Below ((w.alloc (.cells P 45)).alloc (.cells X 24)).heap.size ((w.alloc (.cells P 45)).alloc (.cells X 24)) W → Blk W w.heap.size 45 P := fun W hW => k0.on hW
    have ka : ∀ W, Below ((w.alloc (.cells P 45)).alloc (.cells X 24)).heap.size ((w.alloc (.cells P 45)).alloc (.cells X 24)) W → Blk W (w.heap.size + 1) 24 X := fun W hW => j0.on hW
    have hu0 : ∀ W, Below ((w.alloc (.cells P 45)).alloc (.cells X 24)).heap.size ((w.alloc (.cells P 45)).alloc (.cells X 24)) W → Below w.heap.size w W := fun W hW => Below.on b0 b0.size hW
    clear k0 j0 b0
    generalize (w.alloc (.cells P 45)).alloc (.cells X 24) = w0 at *
    generalize hg1 : w.heap.size = g1 at *
    refine wp_region_below w0.heap.size (by kernel_rfl) (by kernel_rfl) ?_
    repeat (first
      | go_big_quiet_skip
      | (go_big_quiet_want
         first
           | (refine qb_load (g := g1) (t := 45) (cs := P) 45 (.tmp 2) ?ho ?hx ?hA _ Tryd.underlying45 rfl zp ?_
              case ho => with_reducible rfl
              case hx => rfl
              case hA => exact fun w' hw' => kp _ hw'
              go_big_quiet_on
              simp only [Act.put, List.setIfInBounds_toArray, List.set_cons_succ, List.set_cons_zero])
           | (refine qb_load (g := (g1 + 1)) (t := 24) (cs := X) 24 (.tmp 3) ?ho ?hx ?hA _ Tryd.underlying24 rfl za ?_
              case ho => with_reducible rfl
              case hx => rfl
              case hA => exact fun w' hw' => ka _ hw'
              go_big_quiet_on
              simp only [Act.put, List.setIfInBounds_toArray, List.set_cons_succ, List.set_cons_zero])
           | (go_big_quiet_op
              first
                | go_big_quiet_on
                | (with_reducible refine ⟨_, fun _ _ => rfl, ?_⟩; go_big_quiet_on)
                | (apply Exists.intro
                   refine ⟨fun w' hw' => ?_, ?_⟩
                   · (go_at_call 30; with_reducible refine (H1.out _).mono ?_; exact fun _ _ h => ⟨h.1, Below.on hw' hw'.size h.2⟩)
                   go_big_quiet_on)
                | (apply Exists.intro
                   refine ⟨fun w' hw' => ?_, ?_⟩
                   · (go_at_call 33; with_reducible refine (H2.out _).mono ?_; exact fun _ _ h => ⟨h.1, Below.on hw' hw'.size h.2⟩)
                   go_big_quiet_on)
                | (apply Exists.intro
                   refine ⟨fun w' hw' => ?_, ?_⟩
                   · (go_at_call 34; with_reducible refine (H3.out _).mono ?_; exact fun _ _ h => ⟨h.1, Below.on hw' hw'.size h.2⟩)
                   go_big_quiet_on)
                | (apply Exists.intro
                   refine ⟨fun w' hw' => ?_, ?_⟩
                   · (go_at_call 35; with_reducible refine (H4.out _).mono ?_; exact fun _ _ h => ⟨h.1, Below.on hw' hw'.size h.2⟩)
                   go_big_quiet_on))))
    refine wpQuiet_nil ?_
    intro w1 hw1
    subst hg1
    have k1 := kp _ hw1
    have j1 := ka _ hw1
    have b1 := hu0 _ hw1
    have c1 := HR.out _ k1
    clear kp ka hu0 hw1
    go_wp2_with (first
      | (refine wpList_loadBlk (g := w.heap.size + 1) (t := 24) (cs := X) ?hw 24 (.tmp 3) ?ho ?hx ?hA _ Tryd.underlying24 rfl ?hi ?_
         case hw => rfl
         case ho => with_reducible rfl
         case hx => rfl
         case hA => exact j1
         case hi => exact za)
      | fail)
    refine (H5.out _).mono ?_; rintro e w2 ⟨rfl, hb2⟩
    have k2 := (k1.on (by exact hb2)).alloc (.cells Q 45)
    have j2 := (j1.on (by exact hb2)).alloc (.cells Q 45)
    have q2 : Blk (w2.alloc (.cells Q 45)) w2.heap.size 45 Q := blk_new _ _ _
    have b2 := Below.on b1 b1.size (by exact hb2)
    have b2 := b2.alloc b2.size (.cells Q 45)
    clear hb2 k1 j1 b1 c1
    go_wp2_with (first
      | (refine wpList_allocStore (cs := Q) rfl rfl 45 ?ho (.tmp 5) (.tmp 26) ?ho2 Tryd.zeroPfx rfl ?hx ?hy ?hn ?h1 ?_
         case ho => with_reducible rfl
         case ho2 => with_reducible rfl
         case hx => rfl
         case hy => rfl
         case hn => exact q18
         case h1 => exact oq)
      | fail)
    generalize hg5 : w2.heap.size = g5 at *
    generalize w2.alloc (.cells Q 45) = w3 at *
    clear hg5
    have hup : ∀ W, Below w3.heap.size w3 W → Below w.heap.size w W := fun W hW => Below.on b2 b2.size hW
    have hT : ∀ W, Below w3.heap.size w3 W → Tab W := fun W hW => Htab.out.on (hup W hW)
    have hH : ∀ W, Below w3.heap.size w3 W → Cl.HasM W := fun W hW => HM.out.on (hup W hW) hpos
    generalize hg1 : w.heap.size = g1 at *
    try simp only [Act.put, List.setIfInBounds_toArray, List.set_cons_succ, List.set_cons_zero]
    refine wp_region_below w3.heap.size (by kernel_rfl) (by kernel_rfl) ?_
    repeat (first
      | go_big_quiet_skip
      | (go_big_quiet_want
         first
           | (refine qb_load (g := g1) (t := 45) (cs := P) 45 (.tmp 2) ?ho ?hx ?hA _ Tryd.underlying45 rfl zp ?_
              case ho => with_reducible rfl
              case hx => rfl
              case hA => exact fun w' hw' => k2.on hw'
              go_big_quiet_on
              simp only [Act.put, List.setIfInBounds_toArray, List.set_cons_succ, List.set_cons_zero])
           | (refine qb_load (g := (g1 + 1)) (t := 24) (cs := X) 24 (.tmp 3) ?ho ?hx ?hA _ Tryd.underlying24 rfl za ?_
              case ho => with_reducible rfl
              case hx => rfl
              case hA => exact fun w' hw' => j2.on hw'
              go_big_quiet_on
              simp only [Act.put, List.setIfInBounds_toArray, List.set_cons_succ, List.set_cons_zero])
           | (refine qb_load (g := g5) (t := 45) (cs := Q) 45 (.tmp 5) ?ho ?hx ?hA _ Tryd.underlying45 rfl zq ?_
              case ho => with_reducible rfl
              case hx => rfl
              case hA => exact fun w' hw' => q2.on hw'
              go_big_quiet_on
              simp only [Act.put, List.setIfInBounds_toArray, List.set_cons_succ, List.set_cons_zero])
           | (refine qe_eql (cs := P) (ds := Q) (b := false) 45 45 (.tmp 42) (.tmp 43) ?ho ?hx ?hy Tryd.plainPfx ?he ?_
              case ho => with_reducible rfl
              case hx => rfl
              case hy => rfl
              case he => exact HE.out
              go_big_quiet_on
              simp only [Act.put, List.setIfInBounds_toArray, List.set_cons_succ, List.set_cons_zero])
           | (go_big_quiet_op
              first
                | go_big_quiet_on
                | (with_reducible refine ⟨_, fun _ _ => rfl, ?_⟩; go_big_quiet_on)
                | (apply Exists.intro
                   refine ⟨fun w' hw' => ?_, ?_⟩
                   · (go_at_call 34; with_reducible refine (H6.out _).mono ?_; exact fun _ _ h => ⟨h.1, Below.on hw' hw'.size h.2⟩)
                   go_big_quiet_on)
                | (apply Exists.intro
                   refine ⟨fun w' hw' => ?_, ?_⟩
                   · (go_at_call 34; with_reducible refine (H3.out _).mono ?_; exact fun _ _ h => ⟨h.1, Below.on hw' hw'.size h.2⟩)
                   go_big_quiet_on)
                | (apply Exists.intro
                   refine ⟨fun w' hw' => ?_, ?_⟩
                   · (go_at_call 33; with_reducible refine (H2.out _).mono ?_; exact fun _ _ h => ⟨h.1, Below.on hw' hw'.size h.2⟩)
                   go_big_quiet_on)
                | (apply Exists.intro
                   refine ⟨fun w' hw' => ?_, ?_⟩
                   · (go_at_call 32; with_reducible refine (alive11 _ (hT _ hw') (hH _ hw')).mono ?_; exact fun _ _ h => ⟨h.1, Below.on hw' hw'.size h.2⟩)
                   go_big_quiet_on))))
    refine wpQuiet_nil ?_
    intro wz hwz
    go_wp2
    go_ret
    exact ⟨rfl, by first | exact hup _ hwz | (rw [hg1]; exact hup _ hwz)⟩
  · have H5 := Lib.hid h5
    have H6 := Lib.hid h6
    have HE := Lib.hid he
    clear h5 h6 he h0 heq hb1 hb2 hE hrp hr hh hp hv hl hn
    generalize p.bits = n at *
    go_enter Tryd.func6, Tryd.ntmps6
    go_wp2_with fail
    have kp : ∀ W, Below ((w.alloc (.cells P 45)).alloc (.cells X 24)).heap.size ((w.alloc (.cells P 45)).alloc (.cells X 24)) W → Blk W w.heap.size 45 P := fun W hW => k0.on hW
    have ka : ∀ W, Below ((w.alloc (.cells P 45)).alloc (.cells X 24)).heap.size ((w.alloc (.cells P 45)).alloc (.cells X 24)) W → Blk W (w.heap.size + 1) 24 X := fun W hW => j0.on hW
    have hu0 : ∀ W, Below ((w.alloc (.cells P 45)).alloc (.cells X 24)).heap.size ((w.alloc (.cells P 45)).alloc (.cells X 24)) W → Below w.heap.size w W := fun W hW => Below.on b0 b0.size hW
    clear k0 j0 b0
    generalize (w.alloc (.cells P 45)).alloc (.cells X 24) = w0 at *
    generalize hg1 : w.heap.size = g1 at *
    refine wp_region_below w0.heap.size (by kernel_rfl) (by kernel_rfl) ?_
    repeat (first
      | go_big_quiet_skip
      | (go_big_quiet_want
         first
           | (refine qb_load (g := g1) (t := 45) (cs := P) 45 (.tmp 2) ?ho ?hx ?hA _ Tryd.underlying45 rfl zp ?_
              case ho => with_reducible rfl
              case hx => rfl
              case hA => exact fun w' hw' => kp _ hw'
              go_big_quiet_on
              simp only [Act.put, List.setIfInBounds_toArray, List.set_cons_succ, List.set_cons_zero])
           | (refine qb_load (g := (g1 + 1)) (t := 24) (cs := X) 24 (.tmp 3) ?ho ?hx ?hA _ Tryd.underlying24 rfl za ?_
              case ho => with_reducible rfl
              case hx => rfl
              case hA => exact fun w' hw' => ka _ hw'
              go_big_quiet_on
              simp only [Act.put, List.setIfInBounds_toArray, List.set_cons_succ, List.set_cons_zero])
           | (go_big_quiet_op
              first
                | go_big_quiet_on
                | (with_reducible refine ⟨_, fun _ _ => rfl, ?_⟩; go_big_quiet_on)
                | (apply Exists.intro
                   refine ⟨fun w' hw' => ?_, ?_⟩
                   · (go_at_call 30; with_reducible refine (H1.out _).mono ?_; exact fun _ _ h => ⟨h.1, Below.on hw' hw'.size h.2⟩)
                   go_big_quiet_on)
                | (apply Exists.intro
                   refine ⟨fun w' hw' => ?_, ?_⟩
                   · (go_at_call 33; with_reducible refine (H2.out _).mono ?_; exact fun _ _ h => ⟨h.1, Below.on hw' hw'.size h.2⟩)
                   go_big_quiet_on)
                | (apply Exists.intro
                   refine ⟨fun w' hw' => ?_, ?_⟩
                   · (go_at_call 34; with_reducible refine (H3.out _).mono ?_; exact fun _ _ h => ⟨h.1, Below.on hw' hw'.size h.2⟩)
                   go_big_quiet_on)
                | (apply Exists.intro
                   refine ⟨fun w' hw' => ?_, ?_⟩
                   · (go_at_call 35; with_reducible refine (H4.out _).mono ?_; exact fun _ _ h => ⟨h.1, Below.on hw' hw'.size h.2⟩)
                   go_big_quiet_on))))
    refine wpQuiet_nil ?_
    intro w1 hw1
    subst hg1
    have k1 := kp _ hw1
    have j1 := ka _ hw1
    have b1 := hu0 _ hw1
    have c1 := HR.out _ k1
    clear kp ka hu0 hw1
    go_wp2_with (first
      | (refine wpList_loadBlk (g := w.heap.size + 1) (t := 24) (cs := X) ?hw 24 (.tmp 3) ?ho ?hx ?hA _ Tryd.underlying24 rfl ?hi ?_
         case hw => rfl
         case ho => with_reducible rfl
         case hx => rfl
         case hA => exact j1
         case hi => exact za)
      | fail)
    refine (H5.out _).mono ?_; rintro e w2 ⟨rfl, hb2⟩
    have k2 := (k1.on (by exact hb2)).alloc (.cells Q 45)
    have j2 := (j1.on (by exact hb2)).alloc (.cells Q 45)
    have q2 : Blk (w2.alloc (.cells Q 45)) w2.heap.size 45 Q := blk_new _ _ _
    have b2 := Below.on b1 b1.size (by exact hb2)
    have b2 := b2.alloc b2.size (.cells Q 45)
    clear hb2 k1 j1 b1 c1
    go_wp2_with (first
      | (refine wpList_allocStore (cs := Q) rfl rfl 45 ?ho (.tmp 5) (.tmp 26) ?ho2 Tryd.zeroPfx rfl ?hx ?hy ?hn ?h1 ?_
         case ho => with_reducible rfl
         case ho2 => with_reducible rfl
         case hx => rfl
         case hy => rfl
         case hn => exact q18
         case h1 => exact oq)
      | fail)
    generalize hg5 : w2.heap.size = g5 at *
    generalize w2.alloc (.cells Q 45) = w3 at *
    clear hg5
    have hup : ∀ W, Below w3.heap.size w3 W → Below w.heap.size w W := fun W hW => Below.on b2 b2.size hW
    have hT : ∀ W, Below w3.heap.size w3 W → Tab W := fun W hW => Htab.out.on (hup W hW)
    have hH : ∀ W, Below w3.heap.size w3 W → Cl.HasM W := fun W hW => HM.out.on (hup W hW) hpos
    generalize hg1 : w.heap.size = g1 at *
    try simp only [Act.put, List.setIfInBounds_toArray, List.set_cons_succ, List.set_cons_zero]
    refine wp_region_below w3.heap.size (by kernel_rfl) (by kernel_rfl) ?_
    repeat (first
      | go_big_quiet_skip
      | (go_big_quiet_want
         first
           | (refine qb_load (g := g1) (t := 45) (cs := P) 45 (.tmp 2) ?ho ?hx ?hA _ Tryd.underlying45 rfl zp ?_
              case ho => with_reducible rfl
              case hx => rfl
              case hA => exact fun w' hw' => k2.on hw'
              go_big_quiet_on
              simp only [Act.put, List.setIfInBounds_toArray, List.set_cons_succ, List.set_cons_zero])
           | (refine qb_load (g := (g1 + 1)) (t := 24) (cs := X) 24 (.tmp 3) ?ho ?hx ?hA _ Tryd.underlying24 rfl za ?_
              case ho => with_reducible rfl
              case hx => rfl
              case hA => exact fun w' hw' => j2.on hw'
              go_big_quiet_on
              simp only [Act.put, List.setIfInBounds_toArray, List.set_cons_succ, List.set_cons_zero])
           | (refine qb_load (g := g5) (t := 45) (cs := Q) 45 (.tmp 5) ?ho ?hx ?hA _ Tryd.underlying45 rfl zq ?_
              case ho => with_reducible rfl
              case hx => rfl
              case hA => exact fun w' hw' => q2.on hw'
              go_big_quiet_on
              simp only [Act.put, List.setIfInBounds_toArray, List.set_cons_succ, List.set_cons_zero])
           | (refine qe_eql (cs := P) (ds := Q) (b := B2) 45 45 (.tmp 42) (.tmp 43) ?ho ?hx ?hy Tryd.plainPfx ?he ?_
              case ho => with_reducible rfl
              case hx => rfl
              case hy => rfl
              case he => exact HE.out
              go_big_quiet_on
              simp only [Act.put, List.setIfInBounds_toArray, List.set_cons_succ, List.set_cons_zero])
           | (go_big_quiet_op
              first
                | go_big_quiet_on
                | (with_reducible refine ⟨_, fun _ _ => rfl, ?_⟩; go_big_quiet_on)
                | (apply Exists.intro
                   refine ⟨fun w' hw' => ?_, ?_⟩
                   · (go_at_call 34; with_reducible refine (H6.out _).mono ?_; exact fun _ _ h => ⟨h.1, Below.on hw' hw'.size h.2⟩)
                   go_big_quiet_on)
                | (apply Exists.intro
                   refine ⟨fun w' hw' => ?_, ?_⟩
                   · (go_at_call 34; with_reducible refine (H3.out _).mono ?_; exact fun _ _ h => ⟨h.1, Below.on hw' hw'.size h.2⟩)
                   go_big_quiet_on)
                | (apply Exists.intro
                   refine ⟨fun w' hw' => ?_, ?_⟩
                   · (go_at_call 33; with_reducible refine (H2.out _).mono ?_; exact fun _ _ h => ⟨h.1, Below.on hw' hw'.size h.2⟩)
                   go_big_quiet_on)
                | (apply Exists.intro
                   refine ⟨fun w' hw' => ?_, ?_⟩
                   · (go_at_call 32; with_reducible refine (alive11 _ (hT _ hw') (hH _ hw')).mono ?_; exact fun _ _ h => ⟨h.1, Below.on hw' hw'.size h.2⟩)
                   go_big_quiet_on))))
    refine wpQuiet_nil ?_
    intro wz hwz
    go_wp2
    go_ret
    exact ⟨rfl, by first | exact hup _ hwz | (rw [hg1]; exact hup _ hwz)⟩
  · have H5 := Lib.hid h5
    have H6 := Lib.hid h6
    have HE := Lib.hid he
    clear h5 h6 he h0 heq hb1 hb2 hE hrp hr hh hp hv hl hn
    generalize p.bits = n at *
    go_enter Tryd.func6, Tryd.ntmps6
    go_wp2_with fail
    have kp : ∀ W, Below ((w.alloc (.cells P 45)).alloc (.cells X 24)).heap.size ((w.alloc (.cells P 45)).alloc (.cells X 24)) W → Blk W w.heap.size 45 P := fun W hW => k0.on hW
    have ka : ∀ W, Below ((w.alloc (.cells P 45)).alloc (.cells X 24)).heap.size ((w.alloc (.cells P 45)).alloc (.cells X 24)) W → Blk W (w.heap.size + 1) 24 X := fun W hW => j0.on hW
    have hu0 : ∀ W, Below ((w.alloc (.cells P 45)).alloc (.cells X 24)).heap.size ((w.alloc (.cells P 45)).alloc (.cells X 24)) W → Below w.heap.size w W := fun W hW => Below.on b0 b0.size hW
    clear k0 j0 b0
    generalize (w.alloc (.cells P 45)).alloc (.cells X 24) = w0 at *
    generalize hg1 : w.heap.size = g1 at *
    refine wp_region_below w0.heap.size (by kernel_rfl) (by kernel_rfl) ?_
    repeat (first
      | go_big_quiet_skip
      | (go_big_quiet_want
         first
           | (refine qb_load (g := g1) (t := 45) (cs := P) 45 (.tmp 2) ?ho ?hx ?hA _ Tryd.underlying45 rfl zp ?_
              case ho => with_reducible rfl
              case hx => rfl
              case hA => exact fun w' hw' => kp _ hw'
              go_big_quiet_on
              simp only [Act.put, List.setIfInBounds_toArray, List.set_cons_succ, List.set_cons_zero])
           | (refine qb_load (g := (g1 + 1)) (t := 24) (cs := X) 24 (.tmp 3) ?ho ?hx ?hA _ Tryd.underlying24 rfl za ?_
              case ho => with_reducible rfl
              case hx => rfl
              case hA => exact fun w' hw' => ka _ hw'
              go_big_quiet_on
              simp only [Act.put, List.setIfInBounds_toArray, List.set_cons_succ, List.set_cons_zero])
           | (go_big_quiet_op
              first
                | go_big_quiet_on
                | (with_reducible refine ⟨_, fun _ _ => rfl, ?_⟩; go_big_quiet_on)
                | (apply Exists.intro
                   refine ⟨fun w' hw' => ?_, ?_⟩
                   · (go_at_call 30; with_reducible refine (H1.out _).mono ?_; exact fun _ _ h => ⟨h.1, Below.on hw' hw'.size h.2⟩)
                   go_big_quiet_on)
                | (apply Exists.intro
                   refine ⟨fun w' hw' => ?_, ?_⟩
                   · (go_at_call 33; with_reducible refine (H2.out _).mono ?_; exact fun _ _ h => ⟨h.1, Below.on hw' hw'.size h.2⟩)
                   go_big_quiet_on)
                | (apply Exists.intro
                   refine ⟨fun w' hw' => ?_, ?_⟩
                   · (go_at_call 34; with_reducible refine (H3.out _).mono ?_; exact fun _ _ h => ⟨h.1, Below.on hw' hw'.size h.2⟩)
                   go_big_quiet_on)
                | (apply Exists.intro
                   refine ⟨fun w' hw' => ?_, ?_⟩
                   · (go_at_call 35; with_reducible refine (H4.out _).mono ?_; exact fun _ _ h => ⟨h.1, Below.on hw' hw'.size h.2⟩)
                   go_big_quiet_on))))
    refine wpQuiet_nil ?_
    intro w1 hw1
    subst hg1
    have k1 := kp _ hw1
    have j1 := ka _ hw1
    have b1 := hu0 _ hw1
    have c1 := HR.out _ k1
    clear kp ka hu0 hw1
    go_wp2_with (first
      | (refine wpList_loadBlk (g := w.heap.size + 1) (t := 24) (cs := X) ?hw 24 (.tmp 3) ?ho ?hx ?hA _ Tryd.underlying24 rfl ?hi ?_
         case hw => rfl
         case ho => with_reducible rfl
         case hx => rfl
         case hA => exact j1
         case hi => exact za)
      | fail)
    refine (H5.out _).mono ?_; rintro e w2 ⟨rfl, hb2⟩
    have k2 := (k1.on (by exact hb2)).alloc (.cells Q 45)
    have j2 := (j1.on (by exact hb2)).alloc (.cells Q 45)
    have q2 : Blk (w2.alloc (.cells Q 45)) w2.heap.size 45 Q := blk_new _ _ _
    have b2 := Below.on b1 b1.size (by exact hb2)
    have b2 := b2.alloc b2.size (.cells Q 45)
    clear hb2 k1 j1 b1 c1
    go_wp2_with (first
      | (refine wpList_allocStore (cs := Q) rfl rfl 45 ?ho (.tmp 5) (.tmp 26) ?ho2 Tryd.zeroPfx rfl ?hx ?hy ?hn ?h1 ?_
         case ho => with_reducible rfl
         case ho2 => with_reducible rfl
         case hx => rfl
         case hy => rfl
         case hn => exact q18
         case h1 => exact oq)
      | fail)
    generalize hg5 : w2.heap.size = g5 at *
    generalize w2.alloc (.cells Q 45) = w3 at *
    clear hg5
    have hup : ∀ W, Below w3.heap.size w3 W → Below w.heap.size w W := fun W hW => Below.on b2 b2.size hW
    have hT : ∀ W, Below w3.heap.size w3 W → Tab W := fun W hW => Htab.out.on (hup W hW)
    have hH : ∀ W, Below w3.heap.size w3 W → Cl.HasM W := fun W hW => HM.out.on (hup W hW) hpos
    generalize hg1 : w.heap.size = g1 at *
    try simp only [Act.put, List.setIfInBounds_toArray, List.set_cons_succ, List.set_cons_zero]
    refine wp_region_below w3.heap.size (by kernel_rfl) (by kernel_rfl) ?_
    repeat (first
      | go_big_quiet_skip
      | (go_big_quiet_want
         first
           | (refine qb_load (g := g1) (t := 45) (cs := P) 45 (.tmp 2) ?ho ?hx ?hA _ Tryd.underlying45 rfl zp ?_
              case ho => with_reducible rfl
              case hx => rfl
              case hA => exact fun w' hw' => k2.on hw'
              go_big_quiet_on
              simp only [Act.put, List.setIfInBounds_toArray, List.set_cons_succ, List.set_cons_zero])
           | (refine qb_load (g := (g1 + 1)) (t := 24) (cs := X) 24 (.tmp 3) ?ho ?hx ?hA _ Tryd.underlying24 rfl za ?_
              case ho => with_reducible rfl
              case hx => rfl
              case hA => exact fun w' hw' => j2.on hw'
              go_big_quiet_on
              simp only [Act.put, List.setIfInBounds_toArray, List.set_cons_succ, List.set_cons_zero])
           | (refine qb_load (g := g5) (t := 45) (cs := Q) 45 (.tmp 5) ?ho ?hx ?hA _ Tryd.underlying45 rfl zq ?_
              case ho => with_reducible rfl
              case hx => rfl
              case hA => exact fun w' hw' => q2.on hw'
              go_big_quiet_on
              simp only [Act.put, List.setIfInBounds_toArray, List.set_cons_succ, List.set_cons_zero])
           | (refine qe_eql (cs := P) (ds := Q) (b := B2) 45 45 (.tmp 42) (.tmp 43) ?ho ?hx ?hy Tryd.plainPfx ?he ?_
              case ho => with_reducible rfl
              case hx => rfl
              case hy => rfl
              case he => exact HE.out
              go_big_quiet_on
              simp only [Act.put, List.setIfInBounds_toArray, List.set_cons_succ, List.set_cons_zero])
           | (go_big_quiet_op
              first
                | go_big_quiet_on
                | (with_reducible refine ⟨_, fun _ _ => rfl, ?_⟩; go_big_quiet_on)
                | (apply Exists.intro
                   refine ⟨fun w' hw' => ?_, ?_⟩
                   · (go_at_call 34; with_reducible refine (H6.out _).mono ?_; exact fun _ _ h => ⟨h.1, Below.on hw' hw'.size h.2⟩)
                   go_big_quiet_on)
                | (apply Exists.intro
                   refine ⟨fun w' hw' => ?_, ?_⟩
                   · (go_at_call 34; with_reducible refine (H3.out _).mono ?_; exact fun _ _ h => ⟨h.1, Below.on hw' hw'.size h.2⟩)
                   go_big_quiet_on)
                | (apply Exists.intro
                   refine ⟨fun w' hw' => ?_, ?_⟩
                   · (go_at_call 33; with_reducible refine (H2.out _).mono ?_; exact fun _ _ h => ⟨h.1, Below.on hw' hw'.size h.2⟩)
                   go_big_quiet_on)
                | (apply Exists.intro
                   refine ⟨fun w' hw' => ?_, ?_⟩
                   · (go_at_call 32; with_reducible refine (alive11 _ (hT _ hw') (hH _ hw')).mono ?_; exact fun _ _ h => ⟨h.1, Below.on hw' hw'.size h.2⟩)
                   go_big_quiet_on))))
    refine wpQuiet_nil ?_
    intro wz hwz
    go_wp2
    go_ret
    exact ⟨rfl, by first | exact hup _ hwz | (rw [hg1]; exact hup _ hwz)⟩

set_option maxHeartbeats 8000000 in
theorem has_tt (p : Pfx) (v : Int) (l : List UInt8) (w : World) (hp : pfxOk p) (hv : in64 v) (hl : l.length = 16) (htab : Tab w) (hm : Cl.HasM w) (hr : rightP p = true) (hh : hasB p v l = true) :
    Calls Tryd.prog 6 #[.agg (pf p), .agg (adv v l)] w fun e w' => e = .returned (.bool true) ∧ Below w.heap.size w w' := by
  have HM := Lib.hid hm
  have Htab := Lib.hid htab
  have hpos := hm.pos
  have h1 := fun W => cright_any p hp W
  have h2 := fun W => refcright_any p hp W
  have h3 := fun W => chas_any p hp v l hv hl W
  have h4 := fun W => refchas_any p hp v l hl W
  rw [hr] at h1 h2
  rw [hh] at h3 h4
  have H1 := Lib.hid h1
  have H2 := Lib.hid h2
  have H3 := Lib.hid h3
  have H4 := Lib.hid h4
  have hn := hp.2.2
  unfold in64 at hn
  have h5 := fun W => cof_any v l p.bits hl hn.1 hn.2 W
  have hqo := ofP_ok v l p.bits hv hl hp.2.2
  have h6 := fun W => chas_any (ofP v l p.bits) hqo v l hv hl W
  have hql := ofP_len v l p.bits hl
  have q18 := pf_size (ofP v l p.bits) hql
  have oq := pf_one (ofP v l p.bits)
  have zq : (Tryd.prog.info? 45).map (·.size) = some (pf (ofP v l p.bits)).size := by rw [q18]; exact Tryd.infoPfx
  have zp : (Tryd.prog.info? 45).map (·.size) = some (pf p).size := by rw [pf_size p hp.2.1]; exact Tryd.infoPfx
  have za := Adr_size v l hl
  have he := pf_eq p (ofP v l p.bits) hp.2.1 hql
  have k0 : Blk ((w.alloc (.cells (pf p) 45)).alloc (.cells (adv v l) 24)) w.heap.size 45 (pf p) := (blk_new _ _ _).alloc _
  have j0 : Blk ((w.alloc (.cells (pf p) 45)).alloc (.cells (adv v l) 24)) (w.heap.size + 1) 24 (adv v l) := blk_new' _ _ _ _ (by simp)
  have b0 : Below w.heap.size w ((w.alloc (.cells (pf p) 45)).alloc (.cells (adv v l) 24)) := ((Below.refl _ _).alloc (Nat.le_refl _) _).alloc (by simp) _
  have HR := Lib.hid (fun (W : World) (h : Blk W w.heap.size 45 (pf p)) => pf_bits hp.2.1 h)
  have h0 := has_of v l p.bits hl
  have heq := has_eq p v l hl
  have h3c := of_three v l p.bits
  clear h1 h2 h3 h4 hm htab hql hqo
  generalize hb1 : hasB (ofP v l p.bits) v l = B1 at *
  generalize hb2 : pfxEq p (ofP v l p.bits) = B2 at *
  rw [hh] at heq
  generalize adv v l = X at *
  generalize pf (ofP v l p.bits) = Q at *
  generalize pf p = P at *
  generalize hE : ofE v l p.bits = E at *
  have hrp : rightP p = true := hr
  rcases h3c with rfl | rfl | rfl
  · obtain rfl : B1 = true := h0 rfl
    obtain rfl : B2 = true := heq hrp rfl
    have H5 := Lib.hid h5
    have H6 := Lib.hid h6
    have HE := Lib.hid he
    clear h5 h6 he h0 heq hb1 hb2 hE hrp hr hh hp hv hl hn
    generalize p.bits = n at *
    go_enter Tryd.func6, Tryd.ntmps6
    go_wp2_with fail
    have kp : ∀ W, Below ((w.alloc (.cells P 45)).alloc (.cells X 24)).heap.size ((w.alloc (.cells P 45)).alloc (.cells X 24)) W → Blk W w.heap.size 45 P := fun W hW => k0.on hW
    have ka : ∀ W, Below ((w.alloc (.cells P 45)).alloc (.cells X 24)).heap.size ((w.alloc (.cells P 45)).alloc (.cells X 24)) W → Blk W (w.heap.size + 1) 24 X := fun W hW => j0.on hW
    have hu0 : ∀ W, Below ((w.alloc (.cells P 45)).alloc (.cells X 24)).heap.size ((w.alloc (.cells P 45)).alloc (.cells X 24)) W → Below w.heap.size w W := fun W hW => Below.on b0 b0.size hW
    clear k0 j0 b0
    generalize (w.alloc (.cells P 45)).alloc (.cells X 24) = w0 at *
    generalize hg1 : w.heap.size = g1 at *
    refine wp_region_below w0.heap.size (by kernel_rfl) (by kernel_rfl) ?_
    repeat (first
      | go_big_quiet_skip
      | (go_big_quiet_want
         first
           | (refine qb_load (g := g1) (t := 45) (cs := P) 45 (.tmp 2) ?ho ?hx ?hA _ Tryd.underlying45 rfl zp ?_
              case ho => with_reducible rfl
              case hx => rfl
              case hA => exact fun w' hw' => kp _ hw'
              go_big_quiet_on
              simp only [Act.put, List.setIfInBounds_toArray, List.set_cons_succ, List.set_cons_zero])
           | (refine qb_load (g := (g1 + 1)) (t := 24) (cs := X) 24 (.tmp 3) ?ho ?hx ?hA _ Tryd.underlying24 rfl za ?_
              case ho => with_reducible rfl
              case hx => rfl
              case hA => exact fun w' hw' => ka _ hw'
              go_big_quiet_on
              simp only [Act.put, List.setIfInBounds_toArray, List.set_cons_succ, List.set_cons_zero])
           | (go_big_quiet_op
              first
                | go_big_quiet_on
                | (with_reducible refine ⟨_, fun _ _ => rfl, ?_⟩; go_big_quiet_on)
                | (apply Exists.intro
                   refine ⟨fun w' hw' => ?_, ?_⟩
                   · (go_at_call 30; with_reducible refine (H1.out _).mono ?_; exact fun _ _ h => ⟨h.1, Below.on hw' hw'.size h.2⟩)
                   go_big_quiet_on)
                | (apply Exists.intro
                   refine ⟨fun w' hw' => ?_, ?_⟩
                   · (go_at_call 33; with_reducible refine (H2.out _).mono ?_; exact fun _ _ h => ⟨h.1, Below.on hw' hw'.size h.2⟩)
                   go_big_quiet_on)
                | (apply Exists.intro
                   refine ⟨fun w' hw' => ?_, ?_⟩
                   · (go_at_call 34; with_reducible refine (H3.out _).mono ?_; exact fun _ _ h => ⟨h.1, Below.on hw' hw'.size h.2⟩)
                   go_big_quiet_on)
                | (apply Exists.intro
                   refine ⟨fun w' hw' => ?_, ?_⟩
                   · (go_at_call 35; with_reducible refine (H4.out _).mono ?_; exact fun _ _ h => ⟨h.1, Below.on hw' hw'.size h.2⟩)
                   go_big_quiet_on))))
    refine wpQuiet_nil ?_
    intro w1 hw1
    subst hg1
    have k1 := kp _ hw1
    have j1 := ka _ hw1
    have b1 := hu0 _ hw1
    have c1 := HR.out _ k1
    clear kp ka hu0 hw1
    go_wp2_with (first
      | (refine wpList_loadBlk (g := w.heap.size + 1) (t := 24) (cs := X) ?hw 24 (.tmp 3) ?ho ?hx ?hA _ Tryd.underlying24 rfl ?hi ?_
         case hw => rfl
         case ho => with_reducible rfl
         case hx => rfl
         case hA => exact j1
         case hi => exact za)
      | fail)
    refine (H5.out _).mono ?_; rintro e w2 ⟨rfl, hb2⟩
    have k2 := (k1.on (by exact hb2)).alloc (.cells Q 45)
    have j2 := (j1.on (by exact hb2)).alloc (.cells Q 45)
    have q2 : Blk (w2.alloc (.cells Q 45)) w2.heap.size 45 Q := blk_new _ _ _
    have b2 := Below.on b1 b1.size (by exact hb2)
    have b2 := b2.alloc b2.size (.cells Q 45)
    clear hb2 k1 j1 b1 c1
    go_wp2_with (first
      | (refine wpList_allocStore (cs := Q) rfl rfl 45 ?ho (.tmp 5) (.tmp 26) ?ho2 Tryd.zeroPfx rfl ?hx ?hy ?hn ?h1 ?_
         case ho => with_reducible rfl
         case ho2 => with_reducible rfl
         case hx => rfl
         case hy => rfl
         case hn => exact q18
         case h1 => exact oq)
      | fail)
    generalize hg5 : w2.heap.size = g5 at *
    generalize w2.alloc (.cells Q 45) = w3 at *
    clear hg5
    have hup : ∀ W, Below w3.heap.size w3 W → Below w.heap.size w W := fun W hW => Below.on b2 b2.size hW
    have hT : ∀ W, Below w3.heap.size w3 W → Tab W := fun W hW => Htab.out.on (hup W hW)
    have hH : ∀ W, Below w3.heap.size w3 W → Cl.HasM W := fun W hW => HM.out.on (hup W hW) hpos
    generalize hg1 : w.heap.size = g1 at *
    try simp only [Act.put, List.setIfInBounds_toArray, List.set_cons_succ, List.set_cons_zero]
    refine wp_region_below w3.heap.size (by kernel_rfl) (by kernel_rfl) ?_
    repeat (first
      | go_big_quiet_skip
      | (go_big_quiet_want
         first
           | (refine qb_load (g := g1) (t := 45) (cs := P) 45 (.tmp 2) ?ho ?hx ?hA _ Tryd.underlying45 rfl zp ?_
              case ho => with_reducible rfl
              case hx => rfl
              case hA => exact fun w' hw' => k2.on hw'
              go_big_quiet_on
              simp only [Act.put, List.setIfInBounds_toArray, List.set_cons_succ, List.set_cons_zero])
           | (refine qb_load (g := (g1 + 1)) (t := 24) (cs := X) 24 (.tmp 3) ?ho ?hx ?hA _ Tryd.underlying24 rfl za ?_
              case ho => with_reducible rfl
              case hx => rfl
              case hA => exact fun w' hw' => j2.on hw'
              go_big_quiet_on
              simp only [Act.put, List.setIfInBounds_toArray, List.set_cons_succ, List.set_cons_zero])
           | (refine qb_load (g := g5) (t := 45) (cs := Q) 45 (.tmp 5) ?ho ?hx ?hA _ Tryd.underlying45 rfl zq ?_
              case ho => with_reducible rfl
              case hx => rfl
              case hA => exact fun w' hw' => q2.on hw'
              go_big_quiet_on
              simp only [Act.put, List.setIfInBounds_toArray, List.set_cons_succ, List.set_cons_zero])
           | (refine qe_eql (cs := P) (ds := Q) (b := true) 45 45 (.tmp 42) (.tmp 43) ?ho ?hx ?hy Tryd.plainPfx ?he ?_
              case ho => with_reducible rfl
              case hx => rfl
              case hy => rfl
              case he => exact HE.out
              go_big_quiet_on
              simp only [Act.put, List.setIfInBounds_toArray, List.set_cons_succ, List.set_cons_zero])
           | (go_big_quiet_op
              first
                | go_big_quiet_on
                | (with_reducible refine ⟨_, fun _ _ => rfl, ?_⟩; go_big_quiet_on)
                | (apply Exists.intro
                   refine ⟨fun w' hw' => ?_, ?_⟩
                   · (go_at_call 34; with_reducible refine (H6.out _).mono ?_; exact fun _ _ h => ⟨h.1, Below.on hw' hw'.size h.2⟩)
                   go_big_quiet_on)
                | (apply Exists.intro
                   refine ⟨fun w' hw' => ?_, ?_⟩
                   · (go_at_call 34; with_reducible refine (H3.out _).mono ?_; exact fun _ _ h => ⟨h.1, Below.on hw' hw'.size h.2⟩)
                   go_big_quiet_on)
                | (apply Exists.intro
                   refine ⟨fun w' hw' => ?_, ?_⟩
                   · (go_at_call 33; with_reducible refine (H2.out _).mono ?_; exact fun _ _ h => ⟨h.1, Below.on hw' hw'.size h.2⟩)
                   go_big_quiet_on)
                | (apply Exists.intro
                   refine ⟨fun w' hw' => ?_, ?_⟩
                   · (go_at_call 32; with_reducible refine (alive11 _ (hT _ hw') (hH _ hw')).mono ?_; exact fun _ _ h => ⟨h.1, Below.on hw' hw'.size h.2⟩)
                   go_big_quiet_on))))
    refine wpQuiet_nil ?_
    intro wz hwz
    go_wp2
    go_ret
    exact ⟨rfl, by first | exact hup _ hwz | (rw [hg1]; exact hup _ hwz)⟩
  · have H5 := Lib.hid h5
    have H6 := Lib.hid h6
    have HE := Lib.hid he
    clear h5 h6 he h0 heq hb1 hb2 hE hrp hr hh hp hv hl hn
    generalize p.bits = n at *
    go_enter Tryd.func6, Tryd.ntmps6
    go_wp2_with fail
    have kp : ∀ W, Below ((w.alloc (.cells P 45)).alloc (.cells X 24)).heap.size ((w.alloc (.cells P 45)).alloc (.cells X 24)) W → Blk W w.heap.size 45 P := fun W hW => k0.on hW
    have ka : ∀ W, Below ((w.alloc (.cells P 45)).alloc (.cells X 24)).heap.size ((w.alloc (.cells P 45)).alloc (.cells X 24)) W → Blk W (w.heap.size + 1) 24 X := fun W hW => j0.on hW
    have hu0 : ∀ W, Below ((w.alloc (.cells P 45)).alloc (.cells X 24)).heap.size ((w.alloc (.cells P 45)).alloc (.cells X 24)) W → Below w.heap.size w W := fun W hW => Below.on b0 b0.size hW
    clear k0 j0 b0
    generalize (w.alloc (.cells P 45)).alloc (.cells X 24) = w0 at *
    generalize hg1 : w.heap.size = g1 at *
    refine wp_region_below w0.heap.size (by kernel_rfl) (by kernel_rfl) ?_
    repeat (first
      | go_big_quiet_skip
      | (go_big_quiet_want
         first
           | (refine qb_load (g := g1) (t := 45) (cs := P) 45 (.tmp 2) ?ho ?hx ?hA _ Tryd.underlying45 rfl zp ?_
              case ho => with_reducible rfl
              case hx => rfl
              case hA => exact fun w' hw' => kp _ hw'
              go_big_quiet_on
              simp only [Act.put, List.setIfInBounds_toArray, List.set_cons_succ, List.set_cons_zero])
           | (refine qb_load (g := (g1 + 1)) (t := 24) (cs := X) 24 (.tmp 3) ?ho ?hx ?hA _ Tryd.underlying24 rfl za ?_
              case ho => with_reducible rfl
              case hx => rfl
              case hA => exact fun w' hw' => ka _ hw'
              go_big_quiet_on
              simp only [Act.put, List.setIfInBounds_toArray, List.set_cons_succ, List.set_cons_zero])
           | (go_big_quiet_op
              first
                | go_big_quiet_on
                | (with_reducible refine ⟨_, fun _ _ => rfl, ?_⟩; go_big_quiet_on)
                | (apply Exists.intro
                   refine ⟨fun w' hw' => ?_, ?_⟩
                   · (go_at_call 30; with_reducible refine (H1.out _).mono ?_; exact fun _ _ h => ⟨h.1, Below.on hw' hw'.size h.2⟩)
                   go_big_quiet_on)
                | (apply Exists.intro
                   refine ⟨fun w' hw' => ?_, ?_⟩
                   · (go_at_call 33; with_reducible refine (H2.out _).mono ?_; exact fun _ _ h => ⟨h.1, Below.on hw' hw'.size h.2⟩)
                   go_big_quiet_on)
                | (apply Exists.intro
                   refine ⟨fun w' hw' => ?_, ?_⟩
                   · (go_at_call 34; with_reducible refine (H3.out _).mono ?_; exact fun _ _ h => ⟨h.1, Below.on hw' hw'.size h.2⟩)
                   go_big_quiet_on)
                | (apply Exists.intro
                   refine ⟨fun w' hw' => ?_, ?_⟩
                   · (go_at_call 35; with_reducible refine (H4.out _).mono ?_; exact fun _ _ h => ⟨h.1, Below.on hw' hw'.size h.2⟩)
                   go_big_quiet_on))))
    refine wpQuiet_nil ?_
    intro w1 hw1
    subst hg1
    have k1 := kp _ hw1
    have j1 := ka _ hw1
    have b1 := hu0 _ hw1
    have c1 := HR.out _ k1
    clear kp ka hu0 hw1
    go_wp2_with (first
      | (refine wpList_loadBlk (g := w.heap.size + 1) (t := 24) (cs := X) ?hw 24 (.tmp 3) ?ho ?hx ?hA _ Tryd.underlying24 rfl ?hi ?_
         case hw => rfl
         case ho => with_reducible rfl
         case hx => rfl
         case hA => exact j1
         case hi => exact za)
      | fail)
    refine (H5.out _).mono ?_; rintro e w2 ⟨rfl, hb2⟩
    have k2 := (k1.on (by exact hb2)).alloc (.cells Q 45)
    have j2 := (j1.on (by exact hb2)).alloc (.cells Q 45)
    have q2 : Blk (w2.alloc (.cells Q 45)) w2.heap.size 45 Q := blk_new _ _ _
    have b2 := Below.on b1 b1.size (by exact hb2)
    have b2 := b2.alloc b2.size (.cells Q 45)
    clear hb2 k1 j1 b1 c1
    go_wp2_with (first
      | (refine wpList_allocStore (cs := Q) rfl rfl 45 ?ho (.tmp 5) (.tmp 26) ?ho2 Tryd.zeroPfx rfl ?hx ?hy ?hn ?h1 ?_
         case ho => with_reducible rfl
         case ho2 => with_reducible rfl
         case hx => rfl
         case hy => rfl
         case hn => exact q18
         case h1 => exact oq)
      | fail)
    generalize hg5 : w2.heap.size = g5 at *
    generalize w2.alloc (.cells Q 45) = w3 at *
    clear hg5
    have hup : ∀ W, Below w3.heap.size w3 W → Below w.heap.size w W := fun W hW => Below.on b2 b2.size hW
    have hT : ∀ W, Below w3.heap.size w3 W → Tab W := fun W hW => Htab.out.on (hup W hW)
    have hH : ∀ W, Below w3.heap.size w3 W → Cl.HasM W := fun W hW => HM.out.on (hup W hW) hpos
    generalize hg1 : w.heap.size = g1 at *
    try simp only [Act.put, List.setIfInBounds_toArray, List.set_cons_succ, List.set_cons_zero]
    refine wp_region_below w3.heap.size (by kernel_rfl) (by kernel_rfl) ?_
    repeat (first
      | go_big_quiet_skip
      | (go_big_quiet_want
         first
           | (refine qb_load (g := g1) (t := 45) (cs := P) 45 (.tmp 2) ?ho ?hx ?hA _ Tryd.underlying45 rfl zp ?_
              case ho => with_reducible rfl
              case hx => rfl
              case hA => exact fun w' hw' => k2.on hw'
              go_big_quiet_on
              simp only [Act.put, List.setIfInBounds_toArray, List.set_cons_succ, List.set_cons_zero])
           | (refine qb_load (g := (g1 + 1)) (t := 24) (cs := X) 24 (.tmp 3) ?ho ?hx ?hA _ Tryd.underlying24 rfl za ?_
              case ho => with_reducible rfl
              case hx => rfl
              case hA => exact fun w' hw' => j2.on hw'
              go_big_quiet_on
              simp only [Act.put, List.setIfInBounds_toArray, List.set_cons_succ, List.set_cons_zero])
           | (refine qb_load (g := g5) (t := 45) (cs := Q) 45 (.tmp 5) ?ho ?hx ?hA _ Tryd.underlying45 rfl zq ?_
              case ho => with_reducible rfl
              case hx => rfl
              case hA => exact fun w' hw' => q2.on hw'
              go_big_quiet_on
              simp only [Act.put, List.setIfInBounds_toArray, List.set_cons_succ, List.set_cons_zero])
           | (refine qe_eql (cs := P) (ds := Q) (b := B2) 45 45 (.tmp 42) (.tmp 43) ?ho ?hx ?hy Tryd.plainPfx ?he ?_
              case ho => with_reducible rfl
              case hx => rfl
              case hy => rfl
              case he => exact HE.out
              go_big_quiet_on
              simp only [Act.put, List.setIfInBounds_toArray, List.set_cons_succ, List.set_cons_zero])
           | (go_big_quiet_op
              first
                | go_big_quiet_on
                | (with_reducible refine ⟨_, fun _ _ => rfl, ?_⟩; go_big_quiet_on)
                | (apply Exists.intro
                   refine ⟨fun w' hw' => ?_, ?_⟩
                   · (go_at_call 34; with_reducible refine (H6.out _).mono ?_; exact fun _ _ h => ⟨h.1, Below.on hw' hw'.size h.2⟩)
                   go_big_quiet_on)
                | (apply Exists.intro
                   refine ⟨fun w' hw' => ?_, ?_⟩
                   · (go_at_call 34; with_reducible refine (H3.out _).mono ?_; exact fun _ _ h => ⟨h.1, Below.on hw' hw'.size h.2⟩)
                   go_big_quiet_on)
                | (apply Exists.intro
                   refine ⟨fun w' hw' => ?_, ?_⟩
                   · (go_at_call 33; with_reducible refine (H2.out _).mono ?_; exact fun _ _ h => ⟨h.1, Below.on hw' hw'.size h.2⟩)
                   go_big_quiet_on)
                | (apply Exists.intro
                   refine ⟨fun w' hw' => ?_, ?_⟩
                   · (go_at_call 32; with_reducible refine (alive11 _ (hT _ hw') (hH _ hw')).mono ?_; exact fun _ _ h => ⟨h.1, Below.on hw' hw'.size h.2⟩)
                   go_big_quiet_on))))
    refine wpQuiet_nil ?_
    intro wz hwz
    go_wp2
    go_ret
    exact ⟨rfl, by first | exact hup _ hwz | (rw [hg1]; exact hup _ hwz)⟩
  · have H5 := Lib.hid h5
    have H6 := Lib.hid h6
    have HE := Lib.hid he
    clear h5 h6 he h0 heq hb1 hb2 hE hrp hr hh hp hv hl hn
    generalize p.bits = n at *
    go_enter Tryd.func6, Tryd.ntmps6
    go_wp2_with fail
    have kp : ∀ W, Below ((w.alloc (.cells P 45)).alloc (.cells X 24)).heap.size ((w.alloc (.cells P 45)).alloc (.cells X 24)) W → Blk W w.heap.size 45 P := fun W hW => k0.on hW
    have ka : ∀ W, Below ((w.alloc (.cells P 45)).alloc (.cells X 24)).heap.size ((w.alloc (.cells P 45)).alloc (.cells X 24)) W → Blk W (w.heap.size + 1) 24 X := fun W hW => j0.on hW
    have hu0 : ∀ W, Below ((w.alloc (.cells P 45)).alloc (.cells X 24)).heap.size ((w.alloc (.cells P 45)).alloc (.cells X 24)) W → Below w.heap.size w W := fun W hW => Below.on b0 b0.size hW
    clear k0 j0 b0
    generalize (w.alloc (.cells P 45)).alloc (.cells X 24) = w0 at *
    generalize hg1 : w.heap.size = g1 at *
    refine wp_region_below w0.heap.size (by kernel_rfl) (by kernel_rfl) ?_
    repeat (first
      | go_big_quiet_skip
      | (go_big_quiet_want
         first
           | (refine qb_load (g := g1) (t := 45) (cs := P) 45 (.tmp 2) ?ho ?hx ?hA _ Tryd.underlying45 rfl zp ?_
              case ho => with_reducible rfl
              case hx => rfl
              case hA => exact fun w' hw' => kp _ hw'
              go_big_quiet_on
              simp only [Act.put, List.setIfInBounds_toArray, List.set_cons_succ, List.set_cons_zero])
           | (refine qb_load (g := (g1 + 1)) (t := 24) (cs := X) 24 (.tmp 3) ?ho ?hx ?hA _ Tryd.underlying24 rfl za ?_
              case ho => with_reducible rfl
              case hx => rfl
              case hA => exact fun w' hw' => ka _ hw'
              go_big_quiet_on
              simp only [Act.put, List.setIfInBounds_toArray, List.set_cons_succ, List.set_cons_zero])
           | (go_big_quiet_op
              first
                | go_big_quiet_on
                | (with_reducible refine ⟨_, fun _ _ => rfl, ?_⟩; go_big_quiet_on)
                | (apply Exists.intro
                   refine ⟨fun w' hw' => ?_, ?_⟩
                   · (go_at_call 30; with_reducible refine (H1.out _).mono ?_; exact fun _ _ h => ⟨h.1, Below.on hw' hw'.size h.2⟩)
                   go_big_quiet_on)
                | (apply Exists.intro
                   refine ⟨fun w' hw' => ?_, ?_⟩
                   · (go_at_call 33; with_reducible refine (H2.out _).mono ?_; exact fun _ _ h => ⟨h.1, Below.on hw' hw'.size h.2⟩)
                   go_big_quiet_on)
                | (apply Exists.intro
                   refine ⟨fun w' hw' => ?_, ?_⟩
                   · (go_at_call 34; with_reducible refine (H3.out _).mono ?_; exact fun _ _ h => ⟨h.1, Below.on hw' hw'.size h.2⟩)
                   go_big_quiet_on)
                | (apply Exists.intro
                   refine ⟨fun w' hw' => ?_, ?_⟩
                   · (go_at_call 35; with_reducible refine (H4.out _).mono ?_; exact fun _ _ h => ⟨h.1, Below.on hw' hw'.size h.2⟩)
                   go_big_quiet_on))))
    refine wpQuiet_nil ?_
    intro w1 hw1
    subst hg1
    have k1 := kp _ hw1
    have j1 := ka _ hw1
    have b1 := hu0 _ hw1
    have c1 := HR.out _ k1
    clear kp ka hu0 hw1
    go_wp2_with (first
      | (refine wpList_loadBlk (g := w.heap.size + 1) (t := 24) (cs := X) ?hw 24 (.tmp 3) ?ho ?hx ?hA _ Tryd.underlying24 rfl ?hi ?_
         case hw => rfl
         case ho => with_reducible rfl
         case hx => rfl
         case hA => exact j1
         case hi => exact za)
      | fail)
    refine (H5.out _).mono ?_; rintro e w2 ⟨rfl, hb2⟩
    have k2 := (k1.on (by exact hb2)).alloc (.cells Q 45)
    have j2 := (j1.on (by exact hb2)).alloc (.cells Q 45)
    have q2 : Blk (w2.alloc (.cells Q 45)) w2.heap.size 45 Q := blk_new _ _ _
    have b2 := Below.on b1 b1.size (by exact hb2)
    have b2 := b2.alloc b2.size (.cells Q 45)
    clear hb2 k1 j1 b1 c1
    go_wp2_with (first
      | (refine wpList_allocStore (cs := Q) rfl rfl 45 ?ho (.tmp 5) (.tmp 26) ?ho2 Tryd.zeroPfx rfl ?hx ?hy ?hn ?h1 ?_
         case ho => with_reducible rfl
         case ho2 => with_reducible rfl
         case hx => rfl
         case hy => rfl
         case hn => exact q18
         case h1 => exact oq)
      | fail)
    generalize hg5 : w2.heap.size = g5 at *
    generalize w2.alloc (.cells Q 45) = w3 at *
    clear hg5
    have hup : ∀ W, Below w3.heap.size w3 W → Below w.heap.size w W := fun W hW => Below.on b2 b2.size hW
    have hT : ∀ W, Below w3.heap.size w3 W → Tab W := fun W hW => Htab.out.on (hup W hW)
    have hH : ∀ W, Below w3.heap.size w3 W → Cl.HasM W := fun W hW => HM.out.on (hup W hW) hpos
    generalize hg1 : w.heap.size = g1 at *
    try simp only [Act.put, List.setIfInBounds_toArray, List.set_cons_succ, List.set_cons_zero]
    refine wp_region_below w3.heap.size (by kernel_rfl) (by kernel_rfl) ?_
    repeat (first
      | go_big_quiet_skip
      | (go_big_quiet_want
         first
           | (refine qb_load (g := g1) (t := 45) (cs := P) 45 (.tmp 2) ?ho ?hx ?hA _ Tryd.underlying45 rfl zp ?_
              case ho => with_reducible rfl
              case hx => rfl
              case hA => exact fun w' hw' => k2.on hw'
              go_big_quiet_on
              simp only [Act.put, List.setIfInBounds_toArray, List.set_cons_succ, List.set_cons_zero])
           | (refine qb_load (g := (g1 + 1)) (t := 24) (cs := X) 24 (.tmp 3) ?ho ?hx ?hA _ Tryd.underlying24 rfl za ?_
              case ho => with_reducible rfl
              case hx => rfl
              case hA => exact fun w' hw' => j2.on hw'
              go_big_quiet_on
              simp only [Act.put, List.setIfInBounds_toArray, List.set_cons_succ, List.set_cons_zero])
           | (refine qb_load (g := g5) (t := 45) (cs := Q) 45 (.tmp 5) ?ho ?hx ?hA _ Tryd.underlying45 rfl zq ?_
              case ho => with_reducible rfl
              case hx => rfl
              case hA => exact fun w' hw' => q2.on hw'
              go_big_quiet_on
              simp only [Act.put, List.setIfInBounds_toArray, List.set_cons_succ, List.set_cons_zero])
           | (refine qe_eql (cs := P) (ds := Q) (b := B2) 45 45 (.tmp 42) (.tmp 43) ?ho ?hx ?hy Tryd.plainPfx ?he ?_
              case ho => with_reducible rfl
              case hx => rfl
              case hy => rfl
              case he => exact HE.out
              go_big_quiet_on
              simp only [Act.put, List.setIfInBounds_toArray, List.set_cons_succ, List.set_cons_zero])
           | (go_big_quiet_op
              first
                | go_big_quiet_on
                | (with_reducible refine ⟨_, fun _ _ => rfl, ?_⟩; go_big_quiet_on)
                | (apply Exists.intro
                   refine ⟨fun w' hw' => ?_, ?_⟩
                   · (go_at_call 34; with_reducible refine (H6.out _).mono ?_; exact fun _ _ h => ⟨h.1, Below.on hw' hw'.size h.2⟩)
                   go_big_quiet_on)
                | (apply Exists.intro
                   refine ⟨fun w' hw' => ?_, ?_⟩
                   · (go_at_call 34; with_reducible refine (H3.out _).mono ?_; exact fun _ _ h => ⟨h.1, Below.on hw' hw'.size h.2⟩)
                   go_big_quiet_on)
                | (apply Exists.intro
                   refine ⟨fun w' hw' => ?_, ?_⟩
                   · (go_at_call 33; with_reducible refine (H2.out _).mono ?_; exact fun _ _ h => ⟨h.1, Below.on hw' hw'.size h.2⟩)
                   go_big_quiet_on)
                | (apply Exists.intro
                   refine ⟨fun w' hw' => ?_, ?_⟩
                   · (go_at_call 32; with_reducible refine (alive11 _ (hT _ hw') (hH _ hw')).mono ?_; exact fun _ _ h => ⟨h.1, Below.on hw' hw'.size h.2⟩)
                   go_big_quiet_on))))
    refine wpQuiet_nil ?_
    intro wz hwz
    go_wp2
    go_ret
    exact ⟨rfl, by first | exact hup _ hwz | (rw [hg1]; exact hup _ hwz)⟩

theorem walk_CidrHas (p : Pfx) (v : Int) (l : List UInt8) (w : World) (hp : pfxOk p) (hv : in64 v) (hl : l.length = 16) (htab : Tab w) (hm : Cl.HasM w) :
    Calls Tryd.prog 6 #[.agg (pf p), .agg (adv v l)] w fun e w' => e = .returned (.bool true) ∧ Below w.heap.size w w' := by
  cases hr : rightP p with
  | false => exact has_ff p v l w hp hv hl htab hm hr (by unfold hasB; rw [hr]; rfl)
  | true =>
    cases hh : hasB p v l with
    | false => exact has_tf p v l w hp hv hl htab hm hr hh
    | true => exact has_tt p v l w hp hv hl htab hm hr hh
end Go.Proofs.YtccidoigjdbepaaDoor
