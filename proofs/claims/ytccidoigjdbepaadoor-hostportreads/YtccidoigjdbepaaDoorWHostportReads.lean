
/- The walk of law12.HostportReads. -/
import Derived.Test.YtccidoigjdbepaaDoorHxD
import Derived.Test.YtccidoigjdbepaaDoorOpnPx
import Derived.Test.YtccidoigjdbepaaDoorWCidrOf
namespace Go.Proofs.YtccidoigjdbepaaDoor
open Go.RowKit Dec Lin Qd
set_option maxRecDepth 100000
set_option linter.unusedVariables false
set_option linter.unusedSimpArgs false

set_option maxHeartbeats 4000000 in
theorem walk_HostportReads (s : ByteArray) (w : World) (hs : s.size ≤ maxLen) (htab : Tab w) (hm : Cl.HasM w) :
    Calls Tryd.prog 11 #[.string s] w fun e w' => e = .returned (.bool true) ∧ Below w.heap.size w w' := by
  have HM := Lib.hid hm
  have Htab := Lib.hid htab
  have hpos := hm.pos
  unfold maxLen at hs
  by_cases hlen : 100 < s.size
  · clear hm htab
    go_enter Tryd.func11, Tryd.ntmps11
    go_wp2_with fail
    refine (alive12 _ Htab.out HM.out).mono ?_; rintro e w3 ⟨rfl, hb3⟩
    go_wp2
    go_ret
    exact ⟨rfl, hb3⟩
  obtain ⟨l, rfl⟩ : ∃ l, s = ⟨⟨l⟩⟩ := ⟨s.data.toList, rfl⟩
  have hsz : (ByteArray.mk ⟨l⟩).size = l.length := rfl
  have hok := (hX_ok l).1
  have hl := hok.2.1
  have htl := txH_len (hX l).2 hl
  have h1 := fun W h => hparse_any l (by omega) W h
  have h2 := fun W => refhparse_any l (by omega) W
  have H3 := Lib.hid (fun W h => htext_any (hX l).2 hok W h)
  have h4 := fun W h => hparse_any (txH (hX l).2) (by omega) W h
  have hrt := (hX_ok l).2
  have hbk := h_back (hX l).2 hl
  have x18 := pf_size (hX l).2 hl
  have ox := pf_one (hX l).2
  have zp : (Tryd.prog.info? 60).map (·.size) = some (pf (hX l).2).size := by rw [x18]; exact Tryd.infoEnd
  have he := ef_eq (hX l).2 (hX l).2 hl hl
  rw [pfxEq_self] at he
  clear hm htab
  have hN : ¬ (l.length : Int) > 100 := by omega
  unfold sv at h1 h2
  generalize ByteArray.mk ⟨l⟩ = s at *
  by_cases hE : (hX l).1 = 0
  · rw [hbk (hrt hE)] at h4
    rw [hE] at h1 h2
    have H1 := Lib.hid h1
    have H2 := Lib.hid h2
    have H4 := Lib.hid h4
    clear h1 h2 h4 hbk hrt hok htl hl hE
    generalize txH (hX l).2 = T at *
    generalize pf (hX l).2 = P at *
    generalize l.length = N at *
    go_enter Tryd.func11, Tryd.ntmps11
    go_wp2_with fail
    refine (H1.out _ HM.out).mono ?_; rintro e w1 ⟨rfl, hb1⟩
    have k1 : Blk (w1.alloc (.cells P 60)) w1.heap.size 60 P := blk_new _ _ _
    have b1 := hb1.alloc hb1.size (.cells P 60)
    clear hb1
    go_wp2_with (first
      | (refine wpList_allocStore (cs := P) rfl rfl 60 ?ho (.tmp 3) (.tmp 16) ?ho2 Tryd.zeroEnd rfl ?hx ?hy ?hn ?h1 ?_
         case ho => with_reducible rfl
         case ho2 => with_reducible rfl
         case hx => rfl
         case hy => rfl
         case hn => exact x18
         case h1 => exact ox)
      | fail)
    refine (H2.out _).mono ?_; rintro e w2 ⟨rfl, hb2⟩
    have k2 := (k1.on (by exact hb2)).alloc (.cells P 60)
    have j2 : Blk (w2.alloc (.cells P 60)) w2.heap.size 60 P := blk_new _ _ _
    have b2 := Below.on b1 b1.size (by exact hb2)
    have b2 := b2.alloc b2.size (.cells P 60)
    clear hb2 k1 b1
    go_wp2_with (first
      | (refine wpList_allocStore (cs := P) rfl rfl 60 ?ho (.tmp 5) (.tmp 21) ?ho2 Tryd.zeroEnd rfl ?hx ?hy ?hn ?h1 ?_
         case ho => with_reducible rfl
         case ho2 => with_reducible rfl
         case hx => rfl
         case hy => rfl
         case hn => exact x18
         case h1 => exact ox)
      | (refine wpList_loadBlk (g := w1.heap.size) (t := 60) (cs := P) ?hw 60 (.tmp 3) ?ho ?hx ?hA _ Tryd.underlying60 rfl ?hi ?_
         case hw => rfl
         case ho => with_reducible rfl
         case hx => rfl
         case hA => exact k2
         case hi => exact zp)
      | (refine wpList_loadBlk (g := w2.heap.size) (t := 60) (cs := P) ?hw 60 (.tmp 5) ?ho ?hx ?hA _ Tryd.underlying60 rfl ?hi ?_
         case hw => rfl
         case ho => with_reducible rfl
         case hx => rfl
         case hA => exact j2
         case hi => exact zp)
      | (refine neqAny (cs := P) (ds := P) (b := true) rfl 60 60 (.tmp 23) (.tmp 24) ?ho ?hx ?hy Tryd.plainEnd ?he ?_
         case ho => with_reducible rfl
         case hx => rfl
         case hy => rfl
         case he => exact he)
      | fail)
    refine (H3.out _ (Htab.out.on b2)).mono ?_; rintro e w5 ⟨rfl, hb5⟩
    have k5 := k2.on (by exact hb5)
    have b5 := Below.on b2 b2.size (by exact hb5)
    clear hb5 k2 j2 b2
    go_wp2_with fail
    refine (H4.out _ (HM.out.on b5 hpos)).mono ?_; rintro e w6 ⟨rfl, hb6⟩
    have k6 := (k5.on (by exact hb6)).alloc (.cells P 60)
    have j6 : Blk (w6.alloc (.cells P 60)) w6.heap.size 60 P := blk_new _ _ _
    have b6 := Below.on b5 b5.size (by exact hb6)
    have b6 := b6.alloc b6.size (.cells P 60)
    clear hb6 k5 b5
    go_wp2_with (first
      | (refine wpList_allocStore (cs := P) rfl rfl 60 ?ho (.tmp 7) (.tmp 38) ?ho2 Tryd.zeroEnd rfl ?hx ?hy ?hn ?h1 ?_
         case ho => with_reducible rfl
         case ho2 => with_reducible rfl
         case hx => rfl
         case hy => rfl
         case hn => exact x18
         case h1 => exact ox)
      | (refine wpList_loadBlk (g := w6.heap.size) (t := 60) (cs := P) ?hw 60 (.tmp 7) ?ho ?hx ?hA _ Tryd.underlying60 rfl ?hi ?_
         case hw => rfl
         case ho => with_reducible rfl
         case hx => rfl
         case hA => exact j6
         case hi => exact zp)
      | (refine wpList_loadBlk (g := w1.heap.size) (t := 60) (cs := P) ?hw 60 (.tmp 3) ?ho ?hx ?hA _ Tryd.underlying60 rfl ?hi ?_
         case hw => rfl
         case ho => with_reducible rfl
         case hx => rfl
         case hA => exact k6
         case hi => exact zp)
      | (refine eqlAny (cs := P) (ds := P) (b := true) rfl 60 60 (.tmp 40) (.tmp 41) ?ho ?hx ?hy Tryd.plainEnd ?he ?_
         case ho => with_reducible rfl
         case hx => rfl
         case hy => rfl
         case he => exact he)
      | fail)
    refine (alive12 _ (Htab.out.on b6) (HM.out.on b6 hpos)).mono ?_; rintro e w7 ⟨rfl, hb7⟩
    have b7 := Below.on b6 b6.size (by exact hb7)
    go_wp2
    go_ret
    exact ⟨rfl, b7⟩
  · have hEb : (((hX l).1 : Int) != 0) = true := by rw [bne_iff_ne]; omega
    have H1 := Lib.hid h1
    have H2 := Lib.hid h2
    clear h1 h2 h4 hbk hrt hok htl hl hE H3
    generalize pf (hX l).2 = P at *
    generalize (hX l).1 = E at *
    generalize l.length = N at *
    go_enter Tryd.func11, Tryd.ntmps11
    go_wp2_with fail
    refine (H1.out _ HM.out).mono ?_; rintro e w1 ⟨rfl, hb1⟩
    have k1 : Blk (w1.alloc (.cells P 60)) w1.heap.size 60 P := blk_new _ _ _
    have b1 := hb1.alloc hb1.size (.cells P 60)
    clear hb1
    go_wp2_with (first
      | (refine wpList_allocStore (cs := P) rfl rfl 60 ?ho (.tmp 3) (.tmp 16) ?ho2 Tryd.zeroEnd rfl ?hx ?hy ?hn ?h1 ?_
         case ho => with_reducible rfl
         case ho2 => with_reducible rfl
         case hx => rfl
         case hy => rfl
         case hn => exact x18
         case h1 => exact ox)
      | fail)
    refine (H2.out _).mono ?_; rintro e w2 ⟨rfl, hb2⟩
    have k2 := (k1.on (by exact hb2)).alloc (.cells P 60)
    have j2 : Blk (w2.alloc (.cells P 60)) w2.heap.size 60 P := blk_new _ _ _
    have b2 := Below.on b1 b1.size (by exact hb2)
    have b2 := b2.alloc b2.size (.cells P 60)
    clear hb2 k1 b1
    go_wp2_with (first
      | (refine wpList_allocStore (cs := P) rfl rfl 60 ?ho (.tmp 5) (.tmp 21) ?ho2 Tryd.zeroEnd rfl ?hx ?hy ?hn ?h1 ?_
         case ho => with_reducible rfl
         case ho2 => with_reducible rfl
         case hx => rfl
         case hy => rfl
         case hn => exact x18
         case h1 => exact ox)
      | (refine wpList_loadBlk (g := w1.heap.size) (t := 60) (cs := P) ?hw 60 (.tmp 3) ?ho ?hx ?hA _ Tryd.underlying60 rfl ?hi ?_
         case hw => rfl
         case ho => with_reducible rfl
         case hx => rfl
         case hA => exact k2
         case hi => exact zp)
      | (refine wpList_loadBlk (g := w2.heap.size) (t := 60) (cs := P) ?hw 60 (.tmp 5) ?ho ?hx ?hA _ Tryd.underlying60 rfl ?hi ?_
         case hw => rfl
         case ho => with_reducible rfl
         case hx => rfl
         case hA => exact j2
         case hi => exact zp)
      | (refine neqAny (cs := P) (ds := P) (b := true) rfl 60 60 (.tmp 23) (.tmp 24) ?ho ?hx ?hy Tryd.plainEnd ?he ?_
         case ho => with_reducible rfl
         case hx => rfl
         case hy => rfl
         case he => exact he)
      | fail)
    refine (alive12 _ (Htab.out.on b2) (HM.out.on b2 hpos)).mono ?_; rintro e w7 ⟨rfl, hb7⟩
    have b7 := Below.on b2 b2.size (by exact hb7)
    go_wp2
    go_ret
    exact ⟨rfl, b7⟩
end Go.Proofs.YtccidoigjdbepaaDoor
