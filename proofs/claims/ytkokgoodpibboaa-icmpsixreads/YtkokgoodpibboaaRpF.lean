
/- Contracts: icmpfour.Unreachable where it tells nothing; crawlwayref22.Unreachable. -/
import Derived.Test.YtkokgoodpibboaaRpC
import Derived.Test.YtkokgoodpibboaaNtD
import Derived.Test.YtkokgoodpibboaaNtG
namespace Go.Proofs.Ytkokgoodpibboaa
open Go.RowKit
set_option maxRecDepth 100000
set_option linter.unusedSimpArgs false
set_option linter.unusedVariables false

theorem kW_zero {l : List UInt8} (hW : kW l = true) : kE l = 0 := by
  unfold kW at hW
  exact (of_decide_eq_true hW).1
theorem kE_len {l : List UInt8} (h : kE l = 0) : ¬ l.length = 0 := by
  intro h0
  unfold kE at h
  rw [if_pos h0] at h
  cases h
/-- A packet whose head says family 4 is one of family 4. -/
theorem kfour {l : List UInt8} (hE : kE l = 0) (h4 : kX l 0 = 4) : pE l = 0 ∧ kH l = hdL l := by
  have h0 := kE_len hE
  unfold kE at hE
  rw [if_neg h0] at hE
  by_cases f4 : fam l = 4
  · rw [if_pos f4] at hE
    refine ⟨hE, ?_⟩
    unfold kH
    rw [if_neg h0, if_pos f4]
    unfold pH
    rw [if_pos hE]
  · rw [if_neg f4] at hE
    by_cases f6 : fam l = 6
    · rw [if_pos f6] at hE
      have eH : kH l = hdL6 l := by unfold kH; rw [if_neg h0, if_neg f4, if_pos f6]; unfold pH6; rw [if_pos hE]
      have e0 : kX l 0 = n1 l / 1152921504606846976 := by unfold kX; rw [eH]; unfold hdL6 hd6; rw [hdv_num _ _ _ 0 _ rfl]; rfl
      have h40 := pH6_len hE
      unfold pE6 at hE
      rw [if_neg (by omega)] at hE
      unfold wE6 at hE
      split at hE
      · omega
      · cases hE
    · rw [if_neg f6] at hE; cases hE
theorem pfour {l : List UInt8} (hE : pE l = 0) : kE l = 0 ∧ kX l 0 = 4 := by
  obtain ⟨h20, hw⟩ := pE_zero hE
  obtain ⟨w0, _⟩ := wE_zero hw
  have f4 : fam l = 4 := by rw [fam_n1 l (by omega), w0]
  have eH : kH l = hdL l := by unfold kH; rw [if_neg (by omega), if_pos f4]; unfold pH; rw [if_pos hE]
  refine ⟨by unfold kE; rw [if_neg (by omega), if_pos f4]; exact hE, ?_⟩
  unfold kX
  rw [eH]
  unfold hdL hdN
  rw [hdv_num _ _ _ 0 _ rfl, w0]
  rfl

set_option maxHeartbeats 1000000 in
theorem unreach4_bad (A : Option Addr) (n c : Nat) (l : List UInt8) (w : World) (hn : n ≤ 60000) (hc : n ≤ c) (hcm : c ≤ maxLen) (hs : Shows w w.heap.size A n l) (hbad : ¬ (pE l = 0 ∧ kW l = true)) :
    Calls Try.prog 33 #[.slice A n c] w fun e w' => e = .returned (.tuple #[.slice none 0 0, .int .i64 1]) ∧ Below w.heap.size w w' := by
  have hz := (zero_of_info Try.zeroHead).1
  have hne : ¬ zH = #[] := by intro h; have := zH_size; rw [h] at this; cases this
  have HP := Lib.hid (parse4_any A n c l w (by omega) hc hcm hs)
  have HWh := Lib.hid (fun (W : World) (hW' : Below w.heap.size w W) => whole_any A n c l W (by omega) hc hcm ((hs.below hW').up hW'.size))
  have hsz := pH_size l
  have o1 := pH_one l
  clear hs
  generalize pH l = M at *
  by_cases q : ¬ pE l = 0
  · clear hbad HWh
    generalize pE l = E0 at *
    have d0 : decide ((E0 : Int) = 0) = false := decide_eq_false (by omega)
    have d0' : (((E0 : Int)) == 0) = false := by simp; omega
    have d0'' : (((E0 : Int)) != 0) = true := by simp; omega
    go_enter Try.func33, Try.ntmps33
    go_wp2_with fail
    refine HP.out.mono ?_
    rintro e w1 ⟨rfl, hb1⟩
    have b2 : Below w.heap.size w (w1.alloc (.cells M 42)) := hb1.alloc hb1.size _
    generalize hg1 : w1.heap.size = g1 at *
    go_wp2_with (first
      | (refine wpList_allocStore (cs := M) rfl rfl 42 ?ho (.tmp 4) (.tmp 10) ?ho2 Try.zeroHead ?hz ?hx ?hy ?hn ?h1 ?_
         case ho => with_reducible rfl
         case ho2 => rfl
         case hz => exact zH_size
         case hx => rfl
         case hy => rfl
         case hn => exact hsz
         case h1 => exact o1
         rw [hg1]))
    go_ret2
    exact ⟨rfl, b2⟩
  · have q0 : pE l = 0 := by omega
    rw [q0] at HP
    have hW : kW l = false := by
      cases h : kW l
      · rfl
      · exact absurd ⟨q0, h⟩ hbad
    rw [hW] at HWh
    clear hbad q q0 hW
    go_enter Try.func33, Try.ntmps33
    go_wp2_with fail
    refine HP.out.mono ?_
    rintro e w1 ⟨rfl, hb1⟩
    have b2 : Below w.heap.size w (w1.alloc (.cells M 42)) := hb1.alloc hb1.size _
    generalize hg1 : w1.heap.size = g1 at *
    go_wp2_with (first
      | (refine wpList_allocStore (cs := M) rfl rfl 42 ?ho (.tmp 4) (.tmp 10) ?ho2 Try.zeroHead ?hz ?hx ?hy ?hn ?h1 ?_
         case ho => with_reducible rfl
         case ho2 => rfl
         case hz => exact zH_size
         case hx => rfl
         case hy => rfl
         case hn => exact hsz
         case h1 => exact o1
         rw [hg1])
      | fail)
    refine (HWh.out _ b2).mono ?_
    rintro e w3 ⟨rfl, hb3⟩
    have b3 := Below.on b2 b2.size hb3
    clear b2 hb3
    go_wp2
    go_ret2
    exact ⟨rfl, b3⟩

set_option maxHeartbeats 1000000 in
theorem refUnreach4_bad (A : Option Addr) (n c : Nat) (l : List UInt8) (w : World) (hn : n ≤ 60000) (hc : n ≤ c) (hcm : c ≤ maxLen) (hs : Shows w w.heap.size A n l) (hbad : ¬ (pE l = 0 ∧ kW l = true)) :
    Calls Try.prog 34 #[.slice A n c] w fun e w' => e = .returned (.tuple #[.slice none 0 0, .bool false]) ∧ Below w.heap.size w w' := by
  have hz := (zero_of_info Try.zeroHead).1
  have hne : ¬ zH = #[] := by intro h; have := zH_size; rw [h] at this; cases this
  have HP := Lib.hid (krefParse_any A n c l w (by omega) hc hcm hs)
  have HWh := Lib.hid (fun (W : World) (hW' : Below w.heap.size w W) => refWhole_any A n c l W (by omega) hc hcm ((hs.below hW').up hW'.size))
  have hsz := kH_size l
  have o1 := kH_one l
  have m0 := kX_cell l 0 (by omega)
  clear hs
  by_cases q : kW l = true
  · have q4 : ¬ kX l 0 = 4 := fun h4 => hbad ⟨(kfour (kW_zero q) h4).1, q⟩
    rw [q] at HWh
    clear hbad q
    generalize kH l = M at *
    generalize kX l 0 = X at *
    have d0 : decide ((X : Int) = 4) = false := decide_eq_false (by omega)
    have d0' : (((X : Int)) == 4) = false := by simp; omega
    have d0'' : (((X : Int)) != 4) = true := by simp; omega
    go_enter Try.func34, Try.ntmps34
    go_wp2_with fail
    refine HP.out.mono ?_
    rintro e w1 ⟨rfl, hb1⟩
    have b2 : Below w.heap.size w (w1.alloc (.cells M 42)) := hb1.alloc hb1.size _
    have k2 : Blk (w1.alloc (.cells M 42)) w1.heap.size 42 M := blk_new _ _ _
    generalize hg1 : w1.heap.size = g1 at *
    go_wp2_with (first
      | (refine wpList_allocStore (cs := M) rfl rfl 42 ?ho (.tmp 4) (.tmp 14) ?ho2 Try.zeroHead ?hz ?hx ?hy ?hn ?h1 ?_
         case ho => with_reducible rfl
         case ho2 => rfl
         case hz => exact zH_size
         case hx => rfl
         case hy => rfl
         case hn => exact hsz
         case h1 => exact o1
         rw [hg1])
      | fail)
    refine (HWh.out _ b2).mono ?_
    rintro e w3 ⟨rfl, hb3⟩
    have b3 := Below.on b2 b2.size hb3
    have c0 := ((k2.on hb3).cellA 0).trans m0
    clear b2 hb3 k2
    go_wp2
    go_ret2
    exact ⟨rfl, b3⟩
  · have hW : kW l = false := by simpa using q
    rw [hW] at HWh
    clear hbad q hW
    generalize kH l = M at *
    go_enter Try.func34, Try.ntmps34
    go_wp2_with fail
    refine HP.out.mono ?_
    rintro e w1 ⟨rfl, hb1⟩
    have b2 : Below w.heap.size w (w1.alloc (.cells M 42)) := hb1.alloc hb1.size _
    generalize hg1 : w1.heap.size = g1 at *
    go_wp2_with (first
      | (refine wpList_allocStore (cs := M) rfl rfl 42 ?ho (.tmp 4) (.tmp 14) ?ho2 Try.zeroHead ?hz ?hx ?hy ?hn ?h1 ?_
         case ho => with_reducible rfl
         case ho2 => rfl
         case hz => exact zH_size
         case hx => rfl
         case hy => rfl
         case hn => exact hsz
         case h1 => exact o1
         rw [hg1])
      | fail)
    refine (HWh.out _ b2).mono ?_
    rintro e w3 ⟨rfl, hb3⟩
    have b3 := Below.on b2 b2.size hb3
    clear b2 hb3
    go_wp2
    go_ret2
    exact ⟨rfl, b3⟩

set_option maxHeartbeats 4000000 in
theorem refUnreach4_ok (A : Option Addr) (n c : Nat) (l : List UInt8) (w : World) (hn : n ≤ 60000) (hc : n ≤ c) (hcm : c ≤ maxLen) (hs : Shows w w.heap.size A n l) (hE : pE l = 0) (hW : kW l = true) :
    Calls Try.prog 34 #[.slice A n c] w fun e w' => ∃ v, e = .returned (.tuple #[v, .bool true]) ∧ Own w' w.heap.size v (20 + (8 + min n 548)) (msg4 l) ∧ Below w.heap.size w w' := by
  have hz := (zero_of_info Try.zeroHead).1
  have hne : ¬ zH = #[] := by intro h; have := zH_size; rw [h] at this; cases this
  have hl := hs.len
  obtain ⟨f1, f2, f3, f4⟩ := pE_facts hE
  obtain ⟨b, off, rfl, hbb, _⟩ := hs.2 (by omega)
  have HP := Lib.hid (krefParse_any (some ⟨b, off, none⟩) n c l w (by omega) hc hcm hs)
  have HWh := Lib.hid (fun (W : World) (hW' : Below w.heap.size w W) => refWhole_any (some ⟨b, off, none⟩) n c l W (by omega) hc hcm ((hs.below hW').up hW'.size))
  rw [(pfour hE).1] at HP
  rw [hW] at HWh
  have e : kH l = hdL l := (kfour (pfour hE).1 (pfour hE).2).2
  rw [e] at HP
  have m0 : (hdL l)[0]? = some (.int .i64 4) := by rw [← e, kX_cell l 0 (by omega), (pfour hE).2]; rfl
  have hsz := hdL_size l (by omega)
  have o1 : ((hdL l).all fun x => x.oneCell') = true := by unfold hdL hdN; exact hdv_one _ _ _ _ _
  have ls : (srcL l).length = 4 := by simp [srcL]; omega
  have ld : (dstL l).length = 4 := by simp [dstL]; omega
  have zl1 : (srcL l ++ zb 12).length = 16 := by simp [zb, ls]
  have zl2 : (dstL l ++ zb 12).length = 16 := by simp [zb, ld]
  have R1 := fun (W : World) (g : Nat) (h : Blk W g 42 (hdL l)) => show W.rangeAt g 9 (adv 4 (srcL l ++ zb 12)).toList from by unfold hdL hdN at h; exact hdv_src (by rfl) h
  have R2 := fun (W : World) (g : Nat) (h : Blk W g 42 (hdL l)) => show W.rangeAt g 26 (adv 4 (dstL l ++ zb 12)).toList from by unfold hdL hdN at h; exact hdv_dst (by rfl) (adv_size _ _ zl1) h
  have z1 := Adr_size 4 _ zl1
  have z2 := Adr_size 4 _ zl2
  have emin : (if (548 : Int) < (n : Int) then (548 : Int) else (n : Int)) = ((min n 548 : Nat) : Int) := by split <;> omega
  have HM := Lib.hid (show msg4 l = pkt 192 0 0 0 64 1 (dstL l) (srcL l) (noteL 3 1 (65535 - osum (noteL 3 1 0 (l.take (min n 548)))) (l.take (min n 548))) by unfold msg4; rw [hl])
  have hm : min n 548 ≤ n := Nat.min_le_left _ _
  have hm2 : min n 548 ≤ 548 := Nat.min_le_right _ _
  have HF := Lib.hid (fun (W : World) (hW' : Below w.heap.size w W) => show Shows W W.heap.size (some ⟨b, off, none⟩) (min n 548) (l.take (min n 548)) by simpa using ((hs.below hW').up hW'.size).piece 0 (min n 548) (by omega))
  have HPut := Lib.hid (fun (A2 : Option Addr) (n2 c2 : Nat) (bl : List UInt8) (W : World) (h1 : n2 ≤ 65515) (h2 : Shows W W.heap.size A2 n2 bl) => refPut4_ok 0 0 0 192 0 0 0 64 1 (dstL l ++ zb 12) (srcL l ++ zb 12) zl2 zl1 A2 n2 c2 bl W h1 h2 (by omega) (by omega) (by omega) (by omega) (by omega) (by omega) (by simp [okA, ld]) (by simp [okA, ls]))
  rw [show (dstL l ++ zb 12).take 4 = dstL l by rw [List.take_append_of_le_length (by omega), List.take_of_length_le (by omega)], show (srcL l ++ zb 12).take 4 = srcL l by rw [List.take_append_of_le_length (by omega), List.take_of_length_le (by omega)]] at HPut
  have HSm := Lib.hid (fun (A2 : Option Addr) (n2 c2 : Nat) (W : World) => summed4 [0, 0, 0, ((192 : Nat) : Int), ((0 : Nat) : Int), ((0 : Nat) : Int), ((0 : Nat) : Int), ((64 : Nat) : Int), ((1 : Nat) : Int)] (dstL l) ld (adv 4 (srcL l ++ zb 12)) rfl (adv_size _ _ zl1) A2 n2 c2 W)
  obtain ⟨s0, s1, s2, s3, es⟩ := list_four _ ls
  obtain ⟨t0, t1, t2, t3, et⟩ := list_four _ ld
  have HX := Lib.hid (show adv 4 ([s0, s1, s2, s3] ++ zb 12) = adv 4 (srcL l ++ zb 12) by rw [es])
  have HY := Lib.hid (show adv 4 ([t0, t1, t2, t3] ++ zb 12) = adv 4 (dstL l ++ zb 12) by rw [et])
  have oB := hdv_one [0, 0, 0, ((192 : Nat) : Int), ((0 : Nat) : Int), ((0 : Nat) : Int), ((0 : Nat) : Int), ((64 : Nat) : Int), ((1 : Nat) : Int)] 4 4 (dstL l ++ zb 12) (srcL l ++ zb 12)
  have zB := hdv_size [0, 0, 0, ((192 : Nat) : Int), ((0 : Nat) : Int), ((0 : Nat) : Int), ((0 : Nat) : Int), ((64 : Nat) : Int), ((1 : Nat) : Int)] (adv 4 (dstL l ++ zb 12)) (adv 4 (srcL l ++ zb 12)) rfl (adv_size _ _ zl2) (adv_size _ _ zl1)
  have msB : (Try.prog.info? 42).map (·.size) = some (hdv [0, 0, 0, ((192 : Nat) : Int), ((0 : Nat) : Int), ((0 : Nat) : Int), ((0 : Nat) : Int), ((64 : Nat) : Int), ((1 : Nat) : Int)] (adv 4 (dstL l ++ zb 12)) (adv 4 (srcL l ++ zb 12))).size := by rw [zB]; exact Try.infoHead
  have hFl : (l.take (min n 548)).length = min n 548 := by simp; omega
  clear es et ls ld zl1 zl2 hs hE hW e f1 f2 f3 f4
  generalize hBKe : hdv [0, 0, 0, ((192 : Nat) : Int), ((0 : Nat) : Int), ((0 : Nat) : Int), ((0 : Nat) : Int), ((64 : Nat) : Int), ((1 : Nat) : Int)] (adv 4 (dstL l ++ zb 12)) (adv 4 (srcL l ++ zb 12)) = BK at *
  have HBE := Lib.hid hBKe
  clear hBKe
  generalize hdL l = M at *
  generalize adv 4 (srcL l ++ zb 12) = XS at *
  generalize adv 4 (dstL l ++ zb 12) = XD at *
  generalize l.take (min n 548) = F at *
  generalize min n 548 = m at *
  have hmi : (m : Int) ≤ (n : Int) := by omega
  have hmc : (m : Int) ≤ (c : Int) := by omega
  have hm0 : (0 : Int) ≤ (m : Int) := by omega
  go_enter Try.func34, Try.ntmps34
  go_wp2_with fail
  refine HP.out.mono ?_
  rintro e w1 ⟨rfl, hb1⟩
  have b2 : Below w.heap.size w (w1.alloc (.cells M 42)) := hb1.alloc hb1.size _
  have k2 : Blk (w1.alloc (.cells M 42)) w1.heap.size 42 M := blk_new _ _ _
  have lt2 : w1.heap.size < (w1.alloc (.cells M 42)).heap.size := by simp
  generalize hg1 : w1.heap.size = g1 at *
  go_wp2_with (first
    | (refine wpList_allocStore (cs := M) rfl rfl 42 ?ho (.tmp 4) (.tmp 14) ?ho2 Try.zeroHead ?hz ?hx ?hy ?hn ?h1 ?_
       case ho => with_reducible rfl
       case ho2 => rfl
       case hz => exact zH_size
       case hx => rfl
       case hy => rfl
       case hn => exact hsz
       case h1 => exact o1
       rw [hg1])
    | fail)
  refine (HWh.out _ b2).mono ?_
  rintro e w3 ⟨rfl, hb3⟩
  have b3 := Below.on b2 b2.size hb3
  have k3 := k2.on hb3
  have lt3 : g1 < w3.heap.size := by have := hb3.size; omega
  have c0 := (k3.cellA 0).trans m0
  clear b2 k2 hb1 hb3 HP HWh lt2
  have o4 : Own (w3.alloc (.cells #[.int .u8 3, .int .u8 1, .int .u8 0, .int .u8 0, .int .u8 0, .int .u8 0, .int .u8 0, .int .u8 0] 5)) w3.heap.size (.slice (some ⟨w3.heap.size, 0, none⟩) 8 8) 8 [3, 1, 0, 0, 0, 0, 0, 0] := own_lit w3 w3.heap.size 8 _ _ rfl (Nat.le_refl _) rfl (by omega)
  have b4 : Below w3.heap.size w3 (w3.alloc (.cells #[.int .u8 3, .int .u8 1, .int .u8 0, .int .u8 0, .int .u8 0, .int .u8 0, .int .u8 0, .int .u8 0] 5)) := (Below.refl _ _).alloc (Nat.le_refl _) _
  have sF := HF.out _ (Below.on b3 b3.size b4)
  go_wp2_with (first
    | (at_builtin; refine wpList_appAny _ rfl _ _ rfl w3.heap.size _ 8 _ rfl o4 (some ⟨b, off, none⟩) m c _ F rfl sF (by omega) b4.size ?_
       intro v5 w5 ho5 hg5
       have b5 : Below w3.heap.size w3 w5 := b4.grown hg5 b4.size (fun k hk => (o4.lt k hk).1)
       have k5 := k3.below b5 lt3
       have ho5' : Own w5 w3.heap.size v5 (8 + m) (noteL 3 1 0 F) := ho5
       clear hg5 o4 b4 sF ho5
       obtain ⟨g, cap, rfl, hg⟩ := ho5'.blk (by omega)
       have hgl := (ho5'.lt g rfl).2
       have b6 : Below w3.heap.size w3 (w5.alloc (.cells BK 42)) := b5.alloc b5.size _
       have k6 : Blk (w5.alloc (.cells BK 42)) w5.heap.size 42 BK := blk_new _ _ _
       have o6 : Own (w5.alloc (.cells BK 42)) w3.heap.size (.slice (some ⟨g, 0, none⟩) (8 + m) cap) (8 + m) (noteL 3 1 0 F) := ho5'.alloc _
       clear b5 ho5'
       have hgne : ¬ w5.heap.size = g := by omega
       generalize hg5e : w5.heap.size = g5 at *)
    | (refine wpList_loadPart (g := g1) rfl 32 (.tmp 31) ?ho 26 ?hx XD _ (R2 _ _ k5) Try.underlying32 rfl ?hi ?_
       case ho => with_reducible rfl
       case hx => rfl
       case hi => exact z2)
    | (refine wpList_loadPart (g := g1) rfl 32 (.tmp 33) ?ho 9 ?hx XS _ (R1 _ _ k5) Try.underlying32 rfl ?hi ?_
       case ho => with_reducible rfl
       case hx => rfl
       case hi => exact z1)
    | (refine wpList_build rfl 42 ?fs ?ho (.agg BK) ?hr ?_
       case ho => with_reducible rfl
       case hr =>
         intro W
         have e1 := HX.out
         have e2 := HY.out
         have e3 := HBE.out
         rw [← e3, ← e1, ← e2]
         change _ = _
         kernel_rfl)
    | (refine wpList_allocStore (cs := BK) rfl rfl 42 ?ho (.tmp 7) (.tmp 35) ?ho2 Try.zeroHead ?hz ?hx ?hy ?hn ?h1 ?_
       case ho => with_reducible rfl
       case ho2 => rfl
       case hz => exact zH_size
       case hx => rfl
       case hy => rfl
       case hn => exact zB
       case h1 => exact oB
       rw [hg5e])
    | (refine wpList_loadBlk (g := g5) (t := 42) (cs := BK) rfl 42 (.tmp 7) ?ho ?hx ?hA _ Try.underlying42 rfl ?hi ?_
       case ho => with_reducible rfl
       case hx => rfl
       case hA => exact k6
       case hi => exact msB)
    | fail)
  refine (HSm.out _ _ _ _).mono ?_
  rintro e w7 ⟨rfl, hb7⟩
  have k7 := k6.on hb7
  have b7 := Below.on b6 b6.size hb7
  have o7 := o6.keep hb7
  clear k6 b6 hb7 o6 k5
  have HK := Lib.hid (refCheck_any (some ⟨g, 0, none⟩) (8 + m) cap (noteL 3 1 0 F) w7 (by omega) o7.shown)
  have lck : 65535 - osum (noteL 3 1 0 F) ≤ 65535 := by omega
  generalize hck : 65535 - osum (noteL 3 1 0 F) = ck at *
  have HCK := Lib.hid hck
  clear hck
  have e1 : (UInt8.ofNat (ck / 256)).toNat = ck / 256 := by simp; omega
  have e2 : (UInt8.ofNat (ck % 256)).toNat = ck % 256 := by simp
  have HN := Lib.hid (noteL_set 3 1 ck F)
  generalize UInt8.ofNat (ck / 256) = x1 at *
  generalize UInt8.ofNat (ck % 256) = x2 at *
  have f1 : (ck : Int) / 256 % 256 = (x1.toNat : Int) := by omega
  have f1' : (ck : Int) / 256 = (x1.toNat : Int) := by omega
  have f2 : (ck : Int) % 256 = (x2.toNat : Int) := by omega
  have ick : (ck : Int) ≤ 65535 := by omega
  obtain ⟨old2, hold2, _⟩ := o7.at (j := 2) (by omega)
  have hfr2 := World.ownsRow.frozenAt o7 2
  have o8 := (o7.put 2 x1).1
  have b8 : Below w3.heap.size w3 (w7.setCell ⟨g, 2, none⟩ (bv x1)) := b7.grown (o7.put 2 x1).2 b7.size (fun k hk => by injection hk with hk; omega)
  have k8 := k7.other ⟨g, 2, none⟩ (bv x1) (by simpa using hgne)
  obtain ⟨old3, hold3, _⟩ := o8.at (j := 3) (by omega)
  have hfr3 := World.ownsRow.frozenAt o8 3
  have o9 := (o8.put 3 x2).1
  have b9 : Below w3.heap.size w3 ((w7.setCell ⟨g, 2, none⟩ (bv x1)).setCell ⟨g, 3, none⟩ (bv x2)) := b8.grown (o8.put 3 x2).2 b8.size (fun k hk => by injection hk with hk; omega)
  have k9 := k8.other ⟨g, 3, none⟩ (bv x2) (by simpa using hgne)
  rw [HN.out] at o9
  have i2 : (2 : Int) < 8 + (m : Int) := by omega
  have i3 : (3 : Int) < 8 + (m : Int) := by omega
  have s9 := o9.shown
  clear e1 e2 o8 b8 k8 b7 k7 o9
  go_wp2_with (first
    | (refine wpList_loadBlk (g := g5) (t := 42) (cs := BK) rfl 42 (.tmp 7) ?ho ?hx ?hA _ Try.underlying42 rfl ?hi ?_
       case ho => with_reducible rfl
       case hx => rfl
       case hA => exact k9
       case hi => exact msB)
    | (go_at_call 75
       refine HK.out.mono ?_
       rintro e wq ⟨rfl, rfl⟩)
    | fail)
  refine (HPut.out _ (8 + m) _ _ _ (by omega) s9).mono ?_
  rintro e w10 ⟨v10, rfl, ho10, hb10⟩
  have b10 := Below.on b9 b9.size hb10
  have o10 := ho10.base (b' := w.heap.size) (by have := b3.size; have := b9.size; omega)
  clear ho10 hb10 s9 b9 k9
  go_wp2
  go_ret2
  exact ⟨v10, rfl, by rw [HM.out]; exact o10, Below.on b3 b3.size b10⟩

end Go.Proofs.Ytkokgoodpibboaa
