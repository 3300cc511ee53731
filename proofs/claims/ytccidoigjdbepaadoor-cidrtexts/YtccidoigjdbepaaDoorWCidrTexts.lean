
/- The walk of law11.CidrTexts. -/
import Derived.Test.YtccidoigjdbepaaDoorCxF
import Derived.Test.YtccidoigjdbepaaDoorOpnPx
import Derived.Test.YtccidoigjdbepaaDoorWCidrOf
namespace Go.Proofs.YtccidoigjdbepaaDoor
open Go.RowKit Dec Lin Qd
set_option maxRecDepth 100000
set_option linter.unusedVariables false
set_option linter.unusedSimpArgs false

set_option maxHeartbeats 4000000 in
theorem walk_CidrTexts (p : Pfx) (w : World) (hp : pfxOk p) (htab : Tab w) (hm : Cl.HasM w) :
    Calls Tryd.prog 8 #[.agg (pf p)] w fun e w' => e = .returned (.bool true) ∧ Below w.heap.size w w' := by
  have HM := Lib.hid hm
  have Htab := Lib.hid htab
  have hpos := hm.pos
  have hl := hp.2.1
  have htl := txP_len p hl
  have H1 := Lib.hid (fun W h => ctextP_any p hp W h)
  have H2 := Lib.hid (fun W => refctextP_any p hp W)
  have h3 := fun W => refcright_any p hp W
  have H4 := Lib.hid (fun W h => cparseP_any (txP p) (by omega) W h)
  have hbk := p_back p hl
  have x18 := pf_size p hl
  have ox := pf_one p
  have zp : (Tryd.prog.info? 45).map (·.size) = some (pf p).size := by rw [x18]; exact Tryd.infoPfx
  have he := pf_eq p p hl hl
  rw [pfxEq_self] at he
  have k0 : Blk (w.alloc (.cells (pf p) 45)) w.heap.size 45 (pf p) := blk_new _ _ _
  have b0 : Below w.heap.size w (w.alloc (.cells (pf p) 45)) := (Below.refl _ _).alloc (Nat.le_refl _) _
  clear hm htab htl
  cases hr : rightP p with
  | false =>
    rw [show txP p = [] by unfold txP; rw [hr]; rfl] at H1 H2
    rw [hr] at h3
    have H3 := Lib.hid h3
    clear h3 hbk H4 hr
    generalize pf p = P at *
    go_enter Tryd.func8, Tryd.ntmps8
    go_wp2_with (first
      | (refine wpList_loadBlk (g := w.heap.size) (t := 45) (cs := P) ?hw 45 (.tmp 1) ?ho ?hx ?hA _ Tryd.underlying45 rfl ?hi ?_
         case hw => rfl
         case ho => with_reducible rfl
         case hx => rfl
         case hA => exact k0
         case hi => exact zp)
      | fail)
    refine (H1.out _ (Htab.out.on (by exact b0))).mono ?_; rintro e w1 ⟨rfl, hb1⟩
    have k1 := k0.on (by exact hb1)
    have b1 := Below.on b0 b0.size (by exact hb1)
    clear hb1 k0 b0
    go_wp2_with (first
      | (refine wpList_loadBlk (g := w.heap.size) (t := 45) (cs := P) ?hw 45 (.tmp 1) ?ho ?hx ?hA _ Tryd.underlying45 rfl ?hi ?_
         case hw => rfl
         case ho => with_reducible rfl
         case hx => rfl
         case hA => exact k1
         case hi => exact zp)
      | fail)
    refine (H2.out _).mono ?_; rintro e w2 ⟨rfl, hb2⟩
    have k2 := k1.on (by exact hb2)
    have b2 := Below.on b1 b1.size (by exact hb2)
    clear hb2 k1 b1
    go_wp2_with (first
      | (refine wpList_loadBlk (g := w.heap.size) (t := 45) (cs := P) ?hw 45 (.tmp 1) ?ho ?hx ?hA _ Tryd.underlying45 rfl ?hi ?_
         case hw => rfl
         case ho => with_reducible rfl
         case hx => rfl
         case hA => exact k2
         case hi => exact zp)
      | fail)
    refine (H3.out _).mono ?_; rintro e w3 ⟨rfl, hb3⟩
    have k3 := k2.on (by exact hb3)
    have b3 := Below.on b2 b2.size (by exact hb3)
    clear hb3 k2 b2
    go_wp2_with fail
    refine (alive11 _ (Htab.out.on b3) (HM.out.on b3 hpos)).mono ?_; rintro e w4 ⟨rfl, hb4⟩
    have b4 := Below.on b3 b3.size (by exact hb4)
    go_wp2
    go_ret
    exact ⟨rfl, b4⟩
  | true =>
    rw [hr] at h3
    rw [hbk hr] at H4
    have H3 := Lib.hid h3
    clear h3 hbk hr
    unfold sv at H1 H2 H4
    generalize ByteArray.mk ⟨txP p⟩ = s at *
    generalize pf p = P at *
    go_enter Tryd.func8, Tryd.ntmps8
    go_wp2_with (first
      | (refine wpList_loadBlk (g := w.heap.size) (t := 45) (cs := P) ?hw 45 (.tmp 1) ?ho ?hx ?hA _ Tryd.underlying45 rfl ?hi ?_
         case hw => rfl
         case ho => with_reducible rfl
         case hx => rfl
         case hA => exact k0
         case hi => exact zp)
      | fail)
    refine (H1.out _ (Htab.out.on (by exact b0))).mono ?_; rintro e w1 ⟨rfl, hb1⟩
    have k1 := k0.on (by exact hb1)
    have b1 := Below.on b0 b0.size (by exact hb1)
    clear hb1 k0 b0
    go_wp2_with (first
      | (refine wpList_loadBlk (g := w.heap.size) (t := 45) (cs := P) ?hw 45 (.tmp 1) ?ho ?hx ?hA _ Tryd.underlying45 rfl ?hi ?_
         case hw => rfl
         case ho => with_reducible rfl
         case hx => rfl
         case hA => exact k1
         case hi => exact zp)
      | fail)
    refine (H2.out _).mono ?_; rintro e w2 ⟨rfl, hb2⟩
    have k2 := k1.on (by exact hb2)
    have b2 := Below.on b1 b1.size (by exact hb2)
    clear hb2 k1 b1
    go_wp2_with (first
      | (refine wpList_loadBlk (g := w.heap.size) (t := 45) (cs := P) ?hw 45 (.tmp 1) ?ho ?hx ?hA _ Tryd.underlying45 rfl ?hi ?_
         case hw => rfl
         case ho => with_reducible rfl
         case hx => rfl
         case hA => exact k2
         case hi => exact zp)
      | fail)
    refine (H3.out _).mono ?_; rintro e w3 ⟨rfl, hb3⟩
    have k3 := k2.on (by exact hb3)
    have b3 := Below.on b2 b2.size (by exact hb3)
    clear hb3 k2 b2
    go_wp2_with fail
    refine (H4.out _ (HM.out.on b3 hpos)).mono ?_; rintro e w4 ⟨rfl, hb4⟩
    have k4 := (k3.on (by exact hb4)).alloc (.cells P 45)
    have j4 : Blk (w4.alloc (.cells P 45)) w4.heap.size 45 P := blk_new _ _ _
    have b4 := Below.on b3 b3.size (by exact hb4)
    have b4 := b4.alloc b4.size (.cells P 45)
    clear hb4 k3 b3
    go_wp2_with (first
      | (refine wpList_allocStore (cs := P) rfl rfl 45 ?ho (.tmp 4) (.tmp 23) ?ho2 Tryd.zeroPfx rfl ?hx ?hy ?hn ?h1 ?_
         case ho => with_reducible rfl
         case ho2 => with_reducible rfl
         case hx => rfl
         case hy => rfl
         case hn => exact x18
         case h1 => exact ox)
      | (refine wpList_loadBlk (g := w4.heap.size) (t := 45) (cs := P) ?hw 45 (.tmp 4) ?ho ?hx ?hA _ Tryd.underlying45 rfl ?hi ?_
         case hw => rfl
         case ho => with_reducible rfl
         case hx => rfl
         case hA => exact j4
         case hi => exact zp)
      | (refine wpList_loadBlk (g := w.heap.size) (t := 45) (cs := P) ?hw 45 (.tmp 1) ?ho ?hx ?hA _ Tryd.underlying45 rfl ?hi ?_
         case hw => rfl
         case ho => with_reducible rfl
         case hx => rfl
         case hA => exact k4
         case hi => exact zp)
      | (refine eqlAny (cs := P) (ds := P) (b := true) rfl 45 45 (.tmp 25) (.tmp 26) ?ho ?hx ?hy Tryd.plainPfx ?he ?_
         case ho => with_reducible rfl
         case hx => rfl
         case hy => rfl
         case he => exact he)
      | fail)
    refine (alive11 _ (Htab.out.on b4) (HM.out.on b4 hpos)).mono ?_; rintro e w5 ⟨rfl, hb5⟩
    have b5 := Below.on b4 b4.size (by exact hb5)
    go_wp2
    go_ret
    exact ⟨rfl, b5⟩
end Go.Proofs.YtccidoigjdbepaaDoor
