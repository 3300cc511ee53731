
/- The walk of crawlwaylaw19.IpfourPuts. -/
import Derived.Test.YtkokgoodpibboaaRpE
import Derived.Test.YtkokgoodpibboaaAdrF
import Derived.Test.YtkokgoodpibboaaHdE
import Derived.Test.YtkokgoodpibboaaWIpfourReads
import Derived.Test.YtkokgoodpibboaaSame
import Derived.Test.YtkokgoodpibboaaEqS
namespace Go.Proofs.Ytkokgoodpibboaa
open Go.RowKit
set_option maxRecDepth 100000
set_option linter.unusedSimpArgs false
set_option linter.unusedVariables false

theorem okA_split (l : List UInt8) (h : okA 4 l = true) : l.take 4 ++ zb 12 = l := by
  have e : l.drop 4 = zb 12 := by
    unfold okA at h
    simpa using h
  rw [← e]
  exact List.take_append_drop 4 l

set_option maxHeartbeats 4000000 in
theorem walk_IpfourPuts (x0 x1 x2 x3 x4 x5 x6 x7 x8 vs : Int) (ls : List UInt8) (vd : Int) (ld : List UInt8) (A : Option Addr) (n c : Nat) (l : List UInt8) (w : World)
    (hb : in64 x3 ∧ in64 x4 ∧ in64 x5 ∧ in64 x6 ∧ in64 x7 ∧ in64 x8) (hls : ls.length = 16) (hld : ld.length = 16) (hc : n ≤ c ∧ c ≤ maxLen) (hs : Shows w w.heap.size A n l) :
    Calls Try.prog 6 #[.agg (hdv [x0, x1, x2, x3, x4, x5, x6, x7, x8] (adv vs ls) (adv vd ld)), .slice A n c] w fun e w' => e = .returned (.bool true) ∧ Below w.heap.size w w' := by
  obtain ⟨hc1, hc2⟩ := hc
  obtain ⟨hb3, hb4, hb5, hb6, hb7, hb8⟩ := hb
  have k0 : Blk (w.alloc (.cells (hdv [x0, x1, x2, x3, x4, x5, x6, x7, x8] (adv vs ls) (adv vd ld)) 42)) w.heap.size 42 (hdv [x0, x1, x2, x3, x4, x5, x6, x7, x8] (adv vs ls) (adv vd ld)) := blk_new _ _ _
  have hb0 : Below w.heap.size w (w.alloc (.cells (hdv [x0, x1, x2, x3, x4, x5, x6, x7, x8] (adv vs ls) (adv vd ld)) 42)) := (Below.refl _ _).alloc (Nat.le_refl _) _
  have z0 : (Try.prog.info? 42).map (·.size) = some (hdv [x0, x1, x2, x3, x4, x5, x6, x7, x8] (adv vs ls) (adv vd ld)).size := by rw [hdv_size _ _ _ rfl (adv_size vs ls hls) (adv_size vd ld hld)]; exact Try.infoHead
  have hl := hs.len
  by_cases hn : 300 < n
  · have d : decide ((300 : Int) < (n : Int)) = true := decide_eq_true (by omega)
    generalize hdv [x0, x1, x2, x3, x4, x5, x6, x7, x8] (adv vs ls) (adv vd ld) = M at *
    go_enter Try.func6, Try.ntmps6
    go_wp2_with fail
    refine (alive19 _).mono ?_
    rintro e w1 ⟨rfl, hb1⟩
    have b1 := Below.on hb0 hb0.size hb1
    clear k0 hb0 hb1
    go_wp2
    go_ret
    exact ⟨rfl, b1⟩
  have d : decide ((300 : Int) < (n : Int)) = false := decide_eq_false (by omega)
  by_cases hok : Ok4 x3 x4 x5 x6 x7 x8 vs vd ls ld
  · obtain ⟨⟨c0, c1⟩, ⟨t0, t1⟩, ⟨p0, p1⟩, ⟨i0, i1⟩, ⟨f0, f1⟩, ⟨g0, g1⟩, rfl, rfl, os, od⟩ := hok
    obtain ⟨C, rfl⟩ := Int.eq_ofNat_of_zero_le c0
    obtain ⟨L, rfl⟩ := Int.eq_ofNat_of_zero_le t0
    obtain ⟨P, rfl⟩ := Int.eq_ofNat_of_zero_le p0
    obtain ⟨I, rfl⟩ := Int.eq_ofNat_of_zero_le i0
    obtain ⟨F, rfl⟩ := Int.eq_ofNat_of_zero_le f0
    obtain ⟨G, rfl⟩ := Int.eq_ofNat_of_zero_le g0
    have HF := pkt_facts C I F G L P (ls.take 4) (ld.take 4) l (by simp; omega) (by simp; omega) (by omega) (by omega) (by omega) (by omega) (by omega) (by omega) (by omega)
    have es : ls.take 4 ++ zb 12 = ls := okA_split ls os
    have ed : ld.take 4 ++ zb 12 = ld := okA_split ld od
    have hE := HF.e0
    have hH := HF.head
    rw [es, ed, hl] at hH
    have H1 := Lib.hid (fun (W : World) (h : Shows W W.heap.size A n l) => put_in x0 x1 x2 C I F G L P ls ld hls hld A n c l W (by omega) h (by omega) (by omega) (by omega) (by omega) (by omega) (by omega) os od)
    have H2 := Lib.hid (fun (W : World) (h : Shows W W.heap.size A n l) => refPut4_ok x0 x1 x2 C I F G L P ls ld hls hld A n c l W (by omega) h (by omega) (by omega) (by omega) (by omega) (by omega) (by omega) os od)
    have hPl := HF.len
    generalize pkt C I F G L P (ls.take 4) (ld.take 4) l = PK at *
    have HP := Lib.hid (fun (A2 : Option Addr) (c2 : Nat) (W : World) (h1 : 20 + n ≤ c2) (h2 : c2 ≤ maxLen) (h : Shows W W.heap.size A2 (20 + n) PK) => parse4_any A2 (20 + n) c2 PK W (by omega) h1 h2 h)
    rw [hE] at HP
    have hsf := Lib.hid (pH_self PK)
    have hsz := pH_size PK
    have h1c := pH_one PK
    obtain ⟨N, hN⟩ : ∃ N : Nat, 20 + n = N := ⟨_, rfl⟩
    have iN : (20 : Int) + (n : Int) = (N : Int) := by omega
    rw [hN] at hH HP
    have HN := Lib.hid hN
    have hM : (((hdv [x0, x1, x2, (C : Int), (I : Int), (F : Int), (G : Int), (L : Int), (P : Int)] (adv 4 ls) (adv 4 ld)).setIfInBounds 0 (.int .i64 4)).setIfInBounds 1 (.int .i64 20)).setIfInBounds 2 (.int .i64 (N : Int)) = pH PK := by rw [hH]; simp [hdv]
    have hz := (zero_of_info Try.zeroHead).1
    have hne : ¬ zH = #[] := by intro h; have := zH_size; rw [h] at this; cases this
    have ms : (Try.prog.info? 42).map (·.size) = some (pH PK).size := by rw [hsz]; exact Try.infoHead
    have m0 : (hdv [x0, x1, x2, (C : Int), (I : Int), (F : Int), (G : Int), (L : Int), (P : Int)] (adv 4 ls) (adv 4 ld))[0]? = some (.int .i64 x0) := rfl
    have m1 : (hdv [x0, x1, x2, (C : Int), (I : Int), (F : Int), (G : Int), (L : Int), (P : Int)] (adv 4 ls) (adv 4 ld))[1]? = some (.int .i64 x1) := rfl
    have m2 : (hdv [x0, x1, x2, (C : Int), (I : Int), (F : Int), (G : Int), (L : Int), (P : Int)] (adv 4 ls) (adv 4 ld))[2]? = some (.int .i64 x2) := rfl
    have m5 : (hdv [x0, x1, x2, (C : Int), (I : Int), (F : Int), (G : Int), (L : Int), (P : Int)] (adv 4 ls) (adv 4 ld))[5]? = some (.int .i64 (F : Int)) := rfl
    have m6 : (hdv [x0, x1, x2, (C : Int), (I : Int), (F : Int), (G : Int), (L : Int), (P : Int)] (adv 4 ls) (adv 4 ld))[6]? = some (.int .i64 (G : Int)) := rfl
    generalize pH PK = PH at *
    clear hN HF hH hE os od es ed
    generalize hdv [x0, x1, x2, (C : Int), (I : Int), (F : Int), (G : Int), (L : Int), (P : Int)] (adv 4 ls) (adv 4 ld) = M at *
    have s0 := m0
    have s1 : ((M).setIfInBounds 0 (.int .i64 4))[1]? = some (.int .i64 x1) := by simp [Array.getElem?_setIfInBounds, m1]
    have s2 : (((M).setIfInBounds 0 (.int .i64 4)).setIfInBounds 1 (.int .i64 20))[2]? = some (.int .i64 x2) := by simp [Array.getElem?_setIfInBounds, m2]
    have hMr := Lib.hid hM
    clear hM m0 m1 m2 m5 m6
    go_enter Try.func6, Try.ntmps6
    go_wp2_with (first
      | (refine wpList_loadBlk (g := w.heap.size) (t := 42) (cs := M) rfl 42 (.tmp 2) ?ho ?hx ?hA _ Try.underlying42 rfl ?hi ?_
         case ho => with_reducible rfl
         case hx => rfl
         case hA => exact k0
         case hi => exact z0)
      | fail)
    refine (H1.out _ ((hs.below hb0).up hb0.size)).mono ?_
    rintro e w1 ⟨y1, rfl, ho1, hb1⟩
    have k1 := k0.on hb1
    have b1 := Below.on hb0 hb0.size hb1
    have o1 := ho1
    obtain ⟨A1, ca1, rfl, g1, g2, s1⟩ := ho1.shows
    clear k0 hb0 hb1 ho1 H1
    go_wp2_with (first
      | (refine wpList_loadBlk (g := w.heap.size) (t := 42) (cs := M) rfl 42 (.tmp 2) ?ho ?hx ?hA _ Try.underlying42 rfl ?hi ?_
         case ho => with_reducible rfl
         case hx => rfl
         case hA => exact k1
         case hi => exact z0)
      | fail)
    refine (H2.out _ ((hs.below b1).up b1.size)).mono ?_
    rintro e w2 ⟨y2, rfl, ho2, hb2⟩
    have k2 := k1.on hb2
    have b2 := Below.on b1 b1.size hb2
    have s1' := (s1.below hb2).up hb2.size
    obtain ⟨A2, ca2, rfl, _, _, s2⟩ := ho2.shows
    clear k1 b1 hb2 ho2 H2 s1 o1
    rw [HN.out] at s1' s2 g1
    rw [HN.out]
    have HSm := Lib.hid (same_below A1 A2 N ca1 ca2 PK w2 (by simp only [maxLen]; have := HN.out; omega) s1' s2)
    clear s2
    go_wp2_with fail
    refine HSm.out.mono ?_
    rintro e w3 ⟨rfl, hb3⟩
    have k3 := k2.on hb3
    have b3 := Below.on b2 b2.size hb3
    have s3 := (s1'.below hb3).up hb3.size
    clear k2 b2 hb3 s1' HSm
    go_wp2_with fail
    refine (HP.out A1 ca1 _ g1 g2 s3).mono ?_
    rintro e w4 ⟨rfl, hb4⟩
    have k4 := k3.on hb4
    have b4 := Below.on b3 b3.size hb4
    clear k3 b3 hb4 s3 HP
    have b5 : Below w.heap.size w (w4.alloc (.cells PH 42)) := b4.alloc b4.size _
    have p5 : Blk (w4.alloc (.cells PH 42)) w4.heap.size 42 PH := blk_new _ _ _
    have k5 : Blk (w4.alloc (.cells PH 42)) w.heap.size 42 M := k4.alloc _
    have hne4 : ¬ w4.heap.size = w.heap.size := by
      intro e
      have h1 := p5
      unfold Blk at h1 k4
      have : w4.heap[w4.heap.size]? = none := by simp
      rw [← e, this] at k4
      cases k4
    clear k4 b4
    generalize hg4 : w4.heap.size = g4 at *
    generalize hg0 : w.heap.size = g0 at *
    generalize hW5 : w4.alloc (.cells PH 42) = W5 at *
    have hc0 := (k5.cellA 0).trans s0
    have hf0 := k5.frz 0
    have k10 := k5.setCell 0 (.int .i64 4)
    have p10 := p5.other ⟨g0, 0, none⟩ (.int .i64 4) (by simpa using hne4)
    have b10 := b5.grown (setCell_grown W5 g0 0 (.int .i64 4)) (by have := b5.size; omega) (fun j hj => by injection hj with hj; omega)
    have hc1 := (k10.cellA 1).trans s1
    have hf1 := k10.frz 1
    have k11 := k10.setCell 1 (.int .i64 20)
    have p11 := p10.other ⟨g0, 1, none⟩ (.int .i64 20) (by simpa using hne4)
    have b11 := b10.grown (setCell_grown (W5.setCell ⟨g0, 0, none⟩ (.int .i64 4)) g0 1 (.int .i64 20)) (by have := b10.size; omega) (fun j hj => by injection hj with hj; omega)
    have hc2 := (k11.cellA 2).trans s2
    have hf2 := k11.frz 2
    have k12 := k11.setCell 2 (.int .i64 (N : Int))
    have p12 := p11.other ⟨g0, 2, none⟩ (.int .i64 (N : Int)) (by simpa using hne4)
    have b12 := b11.grown (setCell_grown ((W5.setCell ⟨g0, 0, none⟩ (.int .i64 4)).setCell ⟨g0, 1, none⟩ (.int .i64 20)) g0 2 (.int .i64 (N : Int))) (by have := b11.size; omega) (fun j hj => by injection hj with hj; omega)
    rw [hMr.out] at k12
    clear hMr
    go_wp2_with (first
      | (refine wpList_allocStore (cs := PH) rfl rfl 42 ?ho (.tmp 9) (.tmp 42) ?ho2 Try.zeroHead ?hz ?hx ?hy ?hn ?h1 ?_
         case ho => with_reducible rfl
         case ho2 => rfl
         case hz => exact zH_size
         case hx => rfl
         case hy => rfl
         case hn => exact hsz
         case h1 => exact h1c
         rw [hg4, hW5])
      | (refine wpList_loadBlk (g := g4) (t := 42) (cs := PH) rfl 42 (.tmp 9) ?ho ?hx ?hA _ Try.underlying42 rfl ?hi ?_
         case ho => with_reducible rfl
         case hx => rfl
         case hA => exact p12
         case hi => exact ms)
      | (refine wpList_loadBlk (g := g0) (t := 42) (cs := PH) rfl 42 (.tmp 2) ?ho ?hx ?hA _ Try.underlying42 rfl ?hi ?_
         case ho => with_reducible rfl
         case hx => rfl
         case hA => exact k12
         case hi => exact ms)
      | (refine wpList_eqS (cs := PH) rfl 42 42 (.tmp 50) (.tmp 51) ?ho ?hx ?hy Try.plainHead ?he ?_
         case ho => with_reducible rfl
         case hx => rfl
         case hy => rfl
         case he => exact hsf.out)
      | fail)
    refine (alive19 _).mono ?_
    rintro e w6 ⟨rfl, hb6⟩
    have b6 := Below.on b12 (by have := b12.size; omega) hb6
    clear hb6
    go_wp2
    go_ret
    exact ⟨rfl, by rw [hg0]; exact b6⟩
  · have H1 := Lib.hid (fun W => put4_bad x0 x1 x2 x3 x4 x5 x6 x7 x8 vs vd ls ld hls hld A n c W hb3 hb4 hb5 hb6 hb7 hb8 hok)
    have H2 := Lib.hid (fun W => refPut4_bad x0 x1 x2 x3 x4 x5 x6 x7 x8 vs vd ls ld hls hld A n c W hok)
    clear hok hb3 hb4 hb5 hb6 hb7 hb8 hs
    generalize hdv [x0, x1, x2, x3, x4, x5, x6, x7, x8] (adv vs ls) (adv vd ld) = M at *
    go_enter Try.func6, Try.ntmps6
    go_wp2_with (first
      | (refine wpList_loadBlk (g := w.heap.size) (t := 42) (cs := M) rfl 42 (.tmp 2) ?ho ?hx ?hA _ Try.underlying42 rfl ?hi ?_
         case ho => with_reducible rfl
         case hx => rfl
         case hA => exact k0
         case hi => exact z0)
      | fail)
    refine (H1.out _).mono ?_
    rintro e w1 ⟨rfl, hb1⟩
    have k1 := k0.on hb1
    have b1 := Below.on hb0 hb0.size hb1
    clear k0 hb0 hb1 H1
    go_wp2_with (first
      | (refine wpList_loadBlk (g := w.heap.size) (t := 42) (cs := M) rfl 42 (.tmp 2) ?ho ?hx ?hA _ Try.underlying42 rfl ?hi ?_
         case ho => with_reducible rfl
         case hx => rfl
         case hA => exact k1
         case hi => exact z0)
      | fail)
    refine (H2.out _).mono ?_
    rintro e w2 ⟨rfl, hb2⟩
    have b2 := Below.on b1 b1.size hb2
    clear k1 b1 hb2 H2
    have HSm := Lib.hid (same_below none none 0 0 0 [] w2 (by simp only [maxLen]; omega) (shows_none _ _) (shows_none _ _))
    go_wp2_with fail
    refine HSm.out.mono ?_
    rintro e w3 ⟨rfl, hb3⟩
    have b3 := Below.on b2 b2.size hb3
    clear b2 hb3 HSm
    go_wp2_with fail
    refine (alive19 _).mono ?_
    rintro e w4 ⟨rfl, hb4⟩
    have b4 := Below.on b3 b3.size hb4
    clear b3 hb4
    go_wp2
    go_ret
    exact ⟨rfl, b4⟩

end Go.Proofs.Ytkokgoodpibboaa
