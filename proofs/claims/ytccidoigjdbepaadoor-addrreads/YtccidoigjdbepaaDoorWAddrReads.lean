
/- The walk of law10.AddrReads. -/
import Derived.Test.YtccidoigjdbepaaDoorZAx
import Derived.Test.YtccidoigjdbepaaDoorZOpn
namespace Go.Proofs.YtccidoigjdbepaaDoor
open Go.RowKit Dec Lin Qd
set_option maxRecDepth 100000
set_option linter.unusedVariables false

theorem hasM_of {W : World} (h : W.ShapedOpen Tryd.prog) : Cl.HasM W := by
  obtain ⟨m, hm⟩ := Tryd.laysM145.s1_3 W h
  exact ⟨m, hm⟩

set_option maxHeartbeats 4000000 in
theorem walk_AddrReads (s : ByteArray) (A : Option Addr) (n c : Nat) (bl : List UInt8) (w : World) (hs0 : s.size ≤ maxLen) (hc : n ≤ c ∧ c ≤ maxLen) (hs : Shows w w.heap.size A n bl) (htab : Tab w) (hm : Cl.HasM w) :
    Calls Tryd.prog 4 #[.string s, .slice A n c] w fun e w' => e = .returned (.bool true) ∧ Below w.heap.size w w' := by
  have HM := Lib.hid hm
  have Htab := Lib.hid htab
  have hpos := hm.pos
  unfold maxLen at hs0 hc
  clear hm htab
  by_cases hlen : 100 < s.size
  · go_enter Tryd.func4, Tryd.ntmps4
    go_wp2_with fail
    refine (alive10 _ Htab.out).mono ?_; rintro e w3 ⟨rfl, hb3⟩
    go_wp2
    go_ret
    exact ⟨rfl, hb3⟩
  have hlenI : ¬ (s.size : Int) > 100 := by omega
  by_cases hn : 100 < n
  · have hnI : (100 : Int) < (n : Int) := by omega
    go_enter Tryd.func4, Tryd.ntmps4
    go_wp2_with fail
    refine (alive10 _ Htab.out).mono ?_; rintro e w3 ⟨rfl, hb3⟩
    go_wp2
    go_ret
    exact ⟨rfl, hb3⟩
  have hnI : ¬ (n : Int) > 100 := by omega
  obtain ⟨l, rfl⟩ : ∃ l, s = ⟨⟨l⟩⟩ := ⟨s.data.toList, rfl⟩
  have hsz : (ByteArray.mk ⟨l⟩).size = l.length := rfl
  have H1 := Lib.hid (fun W h => aparse_any l (by omega) W h)
  have H2 := Lib.hid (fun W => refaparse_any l (by omega) W)
  obtain ⟨V2, L2, E2, S2, hL2, hE2, h3, h4⟩ := of_both A n c bl w hs
  have H3 := Lib.hid h3
  have H4 := Lib.hid h4
  have hL1 := aL_len l
  unfold sv at H1 H2
  have y1 := adv_size (aV l) (aL l) hL1
  have y2 := adv_size V2 L2 hL2
  have o1 := adv_one (aV l) (aL l)
  have o2 := adv_one V2 L2
  have hz1 := Adr_size (aV l) (aL l) hL1
  have hz2 := Adr_size V2 L2 hL2
  have he1 := adr_eq (aV l) (aV l) (aL l) (aL l) hL1 hL1
  rw [show (aV l == aV l && aL l == aL l) = true by simp] at he1
  have he2 := adr_eq V2 V2 L2 L2 hL2 hL2
  rw [show (V2 == V2 && L2 == L2) = true by simp] at he2
  generalize adv (aV l) (aL l) = X at *
  generalize adv V2 L2 = Y at *
  generalize ByteArray.mk ⟨l⟩ = s at *
  generalize aE l = E1 at *
  clear h3 h4 hL1 hL2 hc hs
  rcases hE2 with ⟨rfl, rfl⟩ | ⟨rfl, rfl⟩
  · go_enter Tryd.func4, Tryd.ntmps4
    go_wp2_with fail
    refine (H1.out _ HM.out).mono ?_; rintro e w1 ⟨rfl, hb1⟩
    have k1 : Blk (w1.alloc (.cells X 24)) w1.heap.size 24 X := blk_new _ _ _
    have b1 := hb1.alloc hb1.size (.cells X 24)
    clear hb1
    go_wp2_with (first
      | (refine wpList_allocStore (cs := X) rfl rfl 24 ?ho (.tmp 5) (.tmp 25) ?ho2 Tryd.zeroAddr rfl ?hx ?hy ?hn ?h1 ?_
         case ho => with_reducible rfl
         case ho2 => with_reducible rfl
         case hx => rfl
         case hy => rfl
         case hn => exact y1
         case h1 => exact o1)
      | fail)
    refine (H2.out _).mono ?_; rintro e w2 ⟨rfl, hb2⟩
    have k2 := (k1.on (by exact hb2)).alloc (.cells X 24)
    have j2 : Blk (w2.alloc (.cells X 24)) w2.heap.size 24 X := blk_new _ _ _
    have b2 := Below.on b1 b1.size (by exact hb2)
    have b2 := b2.alloc b2.size (.cells X 24)
    clear hb2 k1 b1
    go_wp2_with (first
      | (refine wpList_allocStore (cs := X) rfl rfl 24 ?ho (.tmp 7) (.tmp 30) ?ho2 Tryd.zeroAddr rfl ?hx ?hy ?hn ?h1 ?_
         case ho => with_reducible rfl
         case ho2 => with_reducible rfl
         case hx => rfl
         case hy => rfl
         case hn => exact y1
         case h1 => exact o1)
      | fail)
    refine (H3.out _ b2).mono ?_; rintro e w3 ⟨rfl, hb3⟩
    have k3 := (k2.on (by exact hb3)).alloc (.cells Y 24)
    have j3 := (j2.on (by exact hb3)).alloc (.cells Y 24)
    have i3 : Blk (w3.alloc (.cells Y 24)) w3.heap.size 24 Y := blk_new _ _ _
    have b3 := Below.on b2 b2.size (by exact hb3)
    have b3 := b3.alloc b3.size (.cells Y 24)
    clear hb3 k2 j2 b2
    go_wp2_with (first
      | (refine wpList_allocStore (cs := Y) rfl rfl 24 ?ho (.tmp 9) (.tmp 35) ?ho2 Tryd.zeroAddr rfl ?hx ?hy ?hn ?h1 ?_
         case ho => with_reducible rfl
         case ho2 => with_reducible rfl
         case hx => rfl
         case hy => rfl
         case hn => exact y2
         case h1 => exact o2)
      | fail)
    refine (H4.out _ b3).mono ?_; rintro e w4 ⟨rfl, hb4⟩
    have k4 := (k3.on (by exact hb4)).alloc (.cells Y 24)
    have j4 := (j3.on (by exact hb4)).alloc (.cells Y 24)
    have i4 := (i3.on (by exact hb4)).alloc (.cells Y 24)
    have q4 : Blk (w4.alloc (.cells Y 24)) w4.heap.size 24 Y := blk_new _ _ _
    have b4 := Below.on b3 b3.size (by exact hb4)
    have b4 := b4.alloc b4.size (.cells Y 24)
    clear hb4 k3 j3 i3 b3
    go_wp2_with (first
      | (refine wpList_allocStore (cs := Y) rfl rfl 24 ?ho (.tmp 11) (.tmp 40) ?ho2 Tryd.zeroAddr rfl ?hx ?hy ?hn ?h1 ?_
         case ho => with_reducible rfl
         case ho2 => with_reducible rfl
         case hx => rfl
         case hy => rfl
         case hn => exact y2
         case h1 => exact o2)
      | (refine wpList_loadBlk (g := w1.heap.size) (t := 24) (cs := X) ?hw 24 (.tmp 5) ?ho ?hx ?hA _ Tryd.underlying24 rfl ?hi ?_
         case hw => rfl
         case ho => with_reducible rfl
         case hx => rfl
         case hA => exact k4
         case hi => exact hz1)
      | (refine wpList_loadBlk (g := w2.heap.size) (t := 24) (cs := X) ?hw 24 (.tmp 7) ?ho ?hx ?hA _ Tryd.underlying24 rfl ?hi ?_
         case hw => rfl
         case ho => with_reducible rfl
         case hx => rfl
         case hA => exact j4
         case hi => exact hz1)
      | (refine wpList_loadBlk (g := w3.heap.size) (t := 24) (cs := Y) ?hw 24 (.tmp 9) ?ho ?hx ?hA _ Tryd.underlying24 rfl ?hi ?_
         case hw => rfl
         case ho => with_reducible rfl
         case hx => rfl
         case hA => exact i4
         case hi => exact hz2)
      | (refine wpList_loadBlk (g := w4.heap.size) (t := 24) (cs := Y) ?hw 24 (.tmp 11) ?ho ?hx ?hA _ Tryd.underlying24 rfl ?hi ?_
         case hw => rfl
         case ho => with_reducible rfl
         case hx => rfl
         case hA => exact q4
         case hi => exact hz2)
      | (refine eqlAny (cs := X) (ds := X) (b := true) rfl 24 24 (.tmp 42) (.tmp 43) ?ho ?hx ?hy Tryd.plainAddr ?he ?_
         case ho => with_reducible rfl
         case hx => rfl
         case hy => rfl
         case he => exact he1)
      | (refine eqlAny (cs := Y) (ds := Y) (b := true) rfl 24 24 (.tmp 51) (.tmp 52) ?ho ?hx ?hy Tryd.plainAddr ?he ?_
         case ho => with_reducible rfl
         case hx => rfl
         case hy => rfl
         case he => exact he2)
      | fail)
    refine (alive10 _ (Htab.out.on b4)).mono ?_; rintro e w7 ⟨rfl, hb7⟩
    have b7 := Below.on b4 b4.size (by exact hb7)
    go_wp2
    go_ret
    exact ⟨rfl, b7⟩
  · go_enter Tryd.func4, Tryd.ntmps4
    go_wp2_with fail
    refine (H1.out _ HM.out).mono ?_; rintro e w1 ⟨rfl, hb1⟩
    have k1 : Blk (w1.alloc (.cells X 24)) w1.heap.size 24 X := blk_new _ _ _
    have b1 := hb1.alloc hb1.size (.cells X 24)
    clear hb1
    go_wp2_with (first
      | (refine wpList_allocStore (cs := X) rfl rfl 24 ?ho (.tmp 5) (.tmp 25) ?ho2 Tryd.zeroAddr rfl ?hx ?hy ?hn ?h1 ?_
         case ho => with_reducible rfl
         case ho2 => with_reducible rfl
         case hx => rfl
         case hy => rfl
         case hn => exact y1
         case h1 => exact o1)
      | fail)
    refine (H2.out _).mono ?_; rintro e w2 ⟨rfl, hb2⟩
    have k2 := (k1.on (by exact hb2)).alloc (.cells X 24)
    have j2 : Blk (w2.alloc (.cells X 24)) w2.heap.size 24 X := blk_new _ _ _
    have b2 := Below.on b1 b1.size (by exact hb2)
    have b2 := b2.alloc b2.size (.cells X 24)
    clear hb2 k1 b1
    go_wp2_with (first
      | (refine wpList_allocStore (cs := X) rfl rfl 24 ?ho (.tmp 7) (.tmp 30) ?ho2 Tryd.zeroAddr rfl ?hx ?hy ?hn ?h1 ?_
         case ho => with_reducible rfl
         case ho2 => with_reducible rfl
         case hx => rfl
         case hy => rfl
         case hn => exact y1
         case h1 => exact o1)
      | fail)
    refine (H3.out _ b2).mono ?_; rintro e w3 ⟨rfl, hb3⟩
    have k3 := (k2.on (by exact hb3)).alloc (.cells Y 24)
    have j3 := (j2.on (by exact hb3)).alloc (.cells Y 24)
    have i3 : Blk (w3.alloc (.cells Y 24)) w3.heap.size 24 Y := blk_new _ _ _
    have b3 := Below.on b2 b2.size (by exact hb3)
    have b3 := b3.alloc b3.size (.cells Y 24)
    clear hb3 k2 j2 b2
    go_wp2_with (first
      | (refine wpList_allocStore (cs := Y) rfl rfl 24 ?ho (.tmp 9) (.tmp 35) ?ho2 Tryd.zeroAddr rfl ?hx ?hy ?hn ?h1 ?_
         case ho => with_reducible rfl
         case ho2 => with_reducible rfl
         case hx => rfl
         case hy => rfl
         case hn => exact y2
         case h1 => exact o2)
      | fail)
    refine (H4.out _ b3).mono ?_; rintro e w4 ⟨rfl, hb4⟩
    have k4 := (k3.on (by exact hb4)).alloc (.cells Y 24)
    have j4 := (j3.on (by exact hb4)).alloc (.cells Y 24)
    have i4 := (i3.on (by exact hb4)).alloc (.cells Y 24)
    have q4 : Blk (w4.alloc (.cells Y 24)) w4.heap.size 24 Y := blk_new _ _ _
    have b4 := Below.on b3 b3.size (by exact hb4)
    have b4 := b4.alloc b4.size (.cells Y 24)
    clear hb4 k3 j3 i3 b3
    go_wp2_with (first
      | (refine wpList_allocStore (cs := Y) rfl rfl 24 ?ho (.tmp 11) (.tmp 40) ?ho2 Tryd.zeroAddr rfl ?hx ?hy ?hn ?h1 ?_
         case ho => with_reducible rfl
         case ho2 => with_reducible rfl
         case hx => rfl
         case hy => rfl
         case hn => exact y2
         case h1 => exact o2)
      | (refine wpList_loadBlk (g := w1.heap.size) (t := 24) (cs := X) ?hw 24 (.tmp 5) ?ho ?hx ?hA _ Tryd.underlying24 rfl ?hi ?_
         case hw => rfl
         case ho => with_reducible rfl
         case hx => rfl
         case hA => exact k4
         case hi => exact hz1)
      | (refine wpList_loadBlk (g := w2.heap.size) (t := 24) (cs := X) ?hw 24 (.tmp 7) ?ho ?hx ?hA _ Tryd.underlying24 rfl ?hi ?_
         case hw => rfl
         case ho => with_reducible rfl
         case hx => rfl
         case hA => exact j4
         case hi => exact hz1)
      | (refine wpList_loadBlk (g := w3.heap.size) (t := 24) (cs := Y) ?hw 24 (.tmp 9) ?ho ?hx ?hA _ Tryd.underlying24 rfl ?hi ?_
         case hw => rfl
         case ho => with_reducible rfl
         case hx => rfl
         case hA => exact i4
         case hi => exact hz2)
      | (refine wpList_loadBlk (g := w4.heap.size) (t := 24) (cs := Y) ?hw 24 (.tmp 11) ?ho ?hx ?hA _ Tryd.underlying24 rfl ?hi ?_
         case hw => rfl
         case ho => with_reducible rfl
         case hx => rfl
         case hA => exact q4
         case hi => exact hz2)
      | (refine eqlAny (cs := X) (ds := X) (b := true) rfl 24 24 (.tmp 42) (.tmp 43) ?ho ?hx ?hy Tryd.plainAddr ?he ?_
         case ho => with_reducible rfl
         case hx => rfl
         case hy => rfl
         case he => exact he1)
      | (refine eqlAny (cs := Y) (ds := Y) (b := true) rfl 24 24 (.tmp 51) (.tmp 52) ?ho ?hx ?hy Tryd.plainAddr ?he ?_
         case ho => with_reducible rfl
         case hx => rfl
         case hy => rfl
         case he => exact he2)
      | fail)
    refine (alive10 _ (Htab.out.on b4)).mono ?_; rintro e w7 ⟨rfl, hb7⟩
    have b7 := Below.on b4 b4.size (by exact hb7)
    go_wp2
    go_ret
    exact ⟨rfl, b7⟩
end Go.Proofs.YtccidoigjdbepaaDoor
