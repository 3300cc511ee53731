
/- Out of the texts RpF, IxA, IxB, IxC, IxF, RfA, RfB, RfC, RfM, RfE (tools/merge.py). -/
import Derived.Test.YtkokgoodpibboaaRpC
import Derived.Test.YtkokgoodpibboaaNtD
import Derived.Test.YtkokgoodpibboaaNtG
import Derived.Test.YtkokgoodpibboaaRpD
import Derived.Test.YtkokgoodpibboaaNtC
import Derived.Test.YtkokgoodpibboaaRpA
import Derived.Test.YtkokgoodpibboaaSxA
import Derived.Test.YtkokgoodpibboaaPkC
import Derived.Test.YtkokgoodpibboaaPkE
import Derived.Test.YtkokgoodpibboaaPkF
/- RpF -/
namespace Go.Proofs.Ytkokgoodpibboaa
open Go.RowKit
set_option maxRecDepth 100000
set_option linter.unusedSimpArgs false
set_option linter.unusedVariables false

theorem kW_zero {l : List UInt8} (hW : kW l = true) : kE l = 0 := by
  unfold kW at hW
  exact (of_decide_eq_true hW).1
theorem kE_len {l : List UInt8} (h : kE l = 0) : ¬ l.length = 0 := by
  intro h0
  unfold kE at h
  rw [if_pos h0] at h
  cases h
/-- A packet whose head says family 4 is one of family 4. -/
theorem kfour {l : List UInt8} (hE : kE l = 0) (h4 : kX l 0 = 4) : pE l = 0 ∧ kH l = hdL l := by
  have h0 := kE_len hE
  unfold kE at hE
  rw [if_neg h0] at hE
  by_cases f4 : fam l = 4
  · rw [if_pos f4] at hE
    refine ⟨hE, ?_⟩
    unfold kH
    rw [if_neg h0, if_pos f4]
    unfold pH
    rw [if_pos hE]
  · rw [if_neg f4] at hE
    by_cases f6 : fam l = 6
    · rw [if_pos f6] at hE
      have eH : kH l = hdL6 l := by unfold kH; rw [if_neg h0, if_neg f4, if_pos f6]; unfold pH6; rw [if_pos hE]
      have e0 : kX l 0 = n1 l / 1152921504606846976 := by unfold kX; rw [eH]; unfold hdL6 hd6; rw [hdv_num _ _ _ 0 _ rfl]; rfl
      have h40 := pH6_len hE
      unfold pE6 at hE
      rw [if_neg (by omega)] at hE
      unfold wE6 at hE
      split at hE
      · omega
      · cases hE
    · rw [if_neg f6] at hE; cases hE
theorem pfour {l : List UInt8} (hE : pE l = 0) : kE l = 0 ∧ kX l 0 = 4 := by
  obtain ⟨h20, hw⟩ := pE_zero hE
  obtain ⟨w0, _⟩ := wE_zero hw
  have f4 : fam l = 4 := by rw [fam_n1 l (by omega), w0]
  have eH : kH l = hdL l := by unfold kH; rw [if_neg (by omega), if_pos f4]; unfold pH; rw [if_pos hE]
  refine ⟨by unfold kE; rw [if_neg (by omega), if_pos f4]; exact hE, ?_⟩
  unfold kX
  rw [eH]
  unfold hdL hdN
  rw [hdv_num _ _ _ 0 _ rfl, w0]
  rfl

set_option maxHeartbeats 1000000 in
theorem unreach4_bad (A : Option Addr) (n c : Nat) (l : List UInt8) (w : World) (hn : n ≤ 60000) (hc : n ≤ c) (hcm : c ≤ maxLen) (hs : Shows w w.heap.size A n l) (hbad : ¬ (pE l = 0 ∧ kW l = true)) :
    Calls Try.prog 33 #[.slice A n c] w fun e w' => e = .returned (.tuple #[.slice none 0 0, .int .i64 1]) ∧ Below w.heap.size w w' := by
  have hz := (zero_of_info Try.zeroHead).1
  have hne : ¬ zH = #[] := by intro h; have := zH_size; rw [h] at this; cases this
  have HP := Lib.hid (parse4_any A n c l w (by omega) hc hcm hs)
  have HWh := Lib.hid (fun (W : World) (hW' : Below w.heap.size w W) => whole_any A n c l W (by omega) hc hcm ((hs.below hW').up hW'.size))
  have hsz := pH_size l
  have o1 := pH_one l
  clear hs
  generalize pH l = M at *
  by_cases q : ¬ pE l = 0
  · clear hbad HWh
    generalize pE l = E0 at *
    have d0 : decide ((E0 : Int) = 0) = false := decide_eq_false (by omega)
    have d0' : (((E0 : Int)) == 0) = false := by simp; omega
    have d0'' : (((E0 : Int)) != 0) = true := by simp; omega
    go_enter Try.func33, Try.ntmps33
    go_wp2_with fail
    refine HP.out.mono ?_
    rintro e w1 ⟨rfl, hb1⟩
    have b2 : Below w.heap.size w (w1.alloc (.cells M 42)) := hb1.alloc hb1.size _
    generalize hg1 : w1.heap.size = g1 at *
    go_wp2_with (first
      | (refine wpList_allocStore (cs := M) rfl rfl 42 ?ho (.tmp 4) (.tmp 10) ?ho2 Try.zeroHead ?hz ?hx ?hy ?hn ?h1 ?_
         case ho => with_reducible rfl
         case ho2 => rfl
         case hz => exact zH_size
         case hx => rfl
         case hy => rfl
         case hn => exact hsz
         case h1 => exact o1
         rw [hg1]))
    go_ret2
    exact ⟨rfl, b2⟩
  · have q0 : pE l = 0 := by omega
    rw [q0] at HP
    have hW : kW l = false := by
      cases h : kW l
      · rfl
      · exact absurd ⟨q0, h⟩ hbad
    rw [hW] at HWh
    clear hbad q q0 hW
    go_enter Try.func33, Try.ntmps33
    go_wp2_with fail
    refine HP.out.mono ?_
    rintro e w1 ⟨rfl, hb1⟩
    have b2 : Below w.heap.size w (w1.alloc (.cells M 42)) := hb1.alloc hb1.size _
    generalize hg1 : w1.heap.size = g1 at *
    go_wp2_with (first
      | (refine wpList_allocStore (cs := M) rfl rfl 42 ?ho (.tmp 4) (.tmp 10) ?ho2 Try.zeroHead ?hz ?hx ?hy ?hn ?h1 ?_
         case ho => with_reducible rfl
         case ho2 => rfl
         case hz => exact zH_size
         case hx => rfl
         case hy => rfl
         case hn => exact hsz
         case h1 => exact o1
         rw [hg1])
      | fail)
    refine (HWh.out _ b2).mono ?_
    rintro e w3 ⟨rfl, hb3⟩
    have b3 := Below.on b2 b2.size hb3
    clear b2 hb3
    go_wp2
    go_ret2
    exact ⟨rfl, b3⟩

set_option maxHeartbeats 1000000 in
theorem refUnreach4_bad (A : Option Addr) (n c : Nat) (l : List UInt8) (w : World) (hn : n ≤ 60000) (hc : n ≤ c) (hcm : c ≤ maxLen) (hs : Shows w w.heap.size A n l) (hbad : ¬ (pE l = 0 ∧ kW l = true)) :
    Calls Try.prog 34 #[.slice A n c] w fun e w' => e = .returned (.tuple #[.slice none 0 0, .bool false]) ∧ Below w.heap.size w w' := by
  have hz := (zero_of_info Try.zeroHead).1
  have hne : ¬ zH = #[] := by intro h; have := zH_size; rw [h] at this; cases this
  have HP := Lib.hid (krefParse_any A n c l w (by omega) hc hcm hs)
  have HWh := Lib.hid (fun (W : World) (hW' : Below w.heap.size w W) => refWhole_any A n c l W (by omega) hc hcm ((hs.below hW').up hW'.size))
  have hsz := kH_size l
  have o1 := kH_one l
  have m0 := kX_cell l 0 (by omega)
  clear hs
  by_cases q : kW l = true
  · have q4 : ¬ kX l 0 = 4 := fun h4 => hbad ⟨(kfour (kW_zero q) h4).1, q⟩
    rw [q] at HWh
    clear hbad q
    generalize kH l = M at *
    generalize kX l 0 = X at *
    have d0 : decide ((X : Int) = 4) = false := decide_eq_false (by omega)
    have d0' : (((X : Int)) == 4) = false := by simp; omega
    have d0'' : (((X : Int)) != 4) = true := by simp; omega
    go_enter Try.func34, Try.ntmps34
    go_wp2_with fail
    refine HP.out.mono ?_
    rintro e w1 ⟨rfl, hb1⟩
    have b2 : Below w.heap.size w (w1.alloc (.cells M 42)) := hb1.alloc hb1.size _
    have k2 : Blk (w1.alloc (.cells M 42)) w1.heap.size 42 M := blk_new _ _ _
    generalize hg1 : w1.heap.size = g1 at *
    go_wp2_with (first
      | (refine wpList_allocStore (cs := M) rfl rfl 42 ?ho (.tmp 4) (.tmp 14) ?ho2 Try.zeroHead ?hz ?hx ?hy ?hn ?h1 ?_
         case ho => with_reducible rfl
         case ho2 => rfl
         case hz => exact zH_size
         case hx => rfl
         case hy => rfl
         case hn => exact hsz
         case h1 => exact o1
         rw [hg1])
      | fail)
    refine (HWh.out _ b2).mono ?_
    rintro e w3 ⟨rfl, hb3⟩
    have b3 := Below.on b2 b2.size hb3
    have c0 := ((k2.on hb3).cellA 0).trans m0
    clear b2 hb3 k2
    go_wp2
    go_ret2
    exact ⟨rfl, b3⟩
  · have hW : kW l = false := by simpa using q
    rw [hW] at HWh
    clear hbad q hW
    generalize kH l = M at *
    go_enter Try.func34, Try.ntmps34
    go_wp2_with fail
    refine HP.out.mono ?_
    rintro e w1 ⟨rfl, hb1⟩
    have b2 : Below w.heap.size w (w1.alloc (.cells M 42)) := hb1.alloc hb1.size _
    generalize hg1 : w1.heap.size = g1 at *
    go_wp2_with (first
      | (refine wpList_allocStore (cs := M) rfl rfl 42 ?ho (.tmp 4) (.tmp 14) ?ho2 Try.zeroHead ?hz ?hx ?hy ?hn ?h1 ?_
         case ho => with_reducible rfl
         case ho2 => rfl
         case hz => exact zH_size
         case hx => rfl
         case hy => rfl
         case hn => exact hsz
         case h1 => exact o1
         rw [hg1])
      | fail)
    refine (HWh.out _ b2).mono ?_
    rintro e w3 ⟨rfl, hb3⟩
    have b3 := Below.on b2 b2.size hb3
    clear b2 hb3
    go_wp2
    go_ret2
    exact ⟨rfl, b3⟩

set_option maxHeartbeats 4000000 in
theorem refUnreach4_ok (A : Option Addr) (n c : Nat) (l : List UInt8) (w : World) (hn : n ≤ 60000) (hc : n ≤ c) (hcm : c ≤ maxLen) (hs : Shows w w.heap.size A n l) (hE : pE l = 0) (hW : kW l = true) :
    Calls Try.prog 34 #[.slice A n c] w fun e w' => ∃ v, e = .returned (.tuple #[v, .bool true]) ∧ Own w' w.heap.size v (20 + (8 + min n 548)) (msg4 l) ∧ Below w.heap.size w w' := by
  have hz := (zero_of_info Try.zeroHead).1
  have hne : ¬ zH = #[] := by intro h; have := zH_size; rw [h] at this; cases this
  have hl := hs.len
  obtain ⟨f1, f2, f3, f4⟩ := pE_facts hE
  obtain ⟨b, off, rfl, hbb, _⟩ := hs.2 (by omega)
  have HP := Lib.hid (krefParse_any (some ⟨b, off, none⟩) n c l w (by omega) hc hcm hs)
  have HWh := Lib.hid (fun (W : World) (hW' : Below w.heap.size w W) => refWhole_any (some ⟨b, off, none⟩) n c l W (by omega) hc hcm ((hs.below hW').up hW'.size))
  rw [(pfour hE).1] at HP
  rw [hW] at HWh
  have e : kH l = hdL l := (kfour (pfour hE).1 (pfour hE).2).2
  rw [e] at HP
  have m0 : (hdL l)[0]? = some (.int .i64 4) := by rw [← e, kX_cell l 0 (by omega), (pfour hE).2]; rfl
  have hsz := hdL_size l (by omega)
  have o1 : ((hdL l).all fun x => x.oneCell') = true := by unfold hdL hdN; exact hdv_one _ _ _ _ _
  have ls : (srcL l).length = 4 := by simp [srcL]; omega
  have ld : (dstL l).length = 4 := by simp [dstL]; omega
  have zl1 : (srcL l ++ zb 12).length = 16 := by simp [zb, ls]
  have zl2 : (dstL l ++ zb 12).length = 16 := by simp [zb, ld]
  have R1 := fun (W : World) (g : Nat) (h : Blk W g 42 (hdL l)) => show W.rangeAt g 9 (adv 4 (srcL l ++ zb 12)).toList from by unfold hdL hdN at h; exact hdv_src (by rfl) h
  have R2 := fun (W : World) (g : Nat) (h : Blk W g 42 (hdL l)) => show W.rangeAt g 26 (adv 4 (dstL l ++ zb 12)).toList from by unfold hdL hdN at h; exact hdv_dst (by rfl) (adv_size _ _ zl1) h
  have z1 := Adr_size 4 _ zl1
  have z2 := Adr_size 4 _ zl2
  have emin : (if (548 : Int) < (n : Int) then (548 : Int) else (n : Int)) = ((min n 548 : Nat) : Int) := by split <;> omega
  have HM := Lib.hid (show msg4 l = pkt 192 0 0 0 64 1 (dstL l) (srcL l) (noteL 3 1 (65535 - osum (noteL 3 1 0 (l.take (min n 548)))) (l.take (min n 548))) by unfold msg4; rw [hl])
  have hm : min n 548 ≤ n := Nat.min_le_left _ _
  have hm2 : min n 548 ≤ 548 := Nat.min_le_right _ _
  have HF := Lib.hid (fun (W : World) (hW' : Below w.heap.size w W) => show Shows W W.heap.size (some ⟨b, off, none⟩) (min n 548) (l.take (min n 548)) by simpa using ((hs.below hW').up hW'.size).piece 0 (min n 548) (by omega))
  have HPut := Lib.hid (fun (A2 : Option Addr) (n2 c2 : Nat) (bl : List UInt8) (W : World) (h1 : n2 ≤ 65515) (h2 : Shows W W.heap.size A2 n2 bl) => refPut4_ok 0 0 0 192 0 0 0 64 1 (dstL l ++ zb 12) (srcL l ++ zb 12) zl2 zl1 A2 n2 c2 bl W h1 h2 (by omega) (by omega) (by omega) (by omega) (by omega) (by omega) (by simp [okA, ld]) (by simp [okA, ls]))
  rw [show (dstL l ++ zb 12).take 4 = dstL l by rw [List.take_append_of_le_length (by omega), List.take_of_length_le (by omega)], show (srcL l ++ zb 12).take 4 = srcL l by rw [List.take_append_of_le_length (by omega), List.take_of_length_le (by omega)]] at HPut
  have HSm := Lib.hid (fun (A2 : Option Addr) (n2 c2 : Nat) (W : World) => summed4 [0, 0, 0, ((192 : Nat) : Int), ((0 : Nat) : Int), ((0 : Nat) : Int), ((0 : Nat) : Int), ((64 : Nat) : Int), ((1 : Nat) : Int)] (dstL l) ld (adv 4 (srcL l ++ zb 12)) rfl (adv_size _ _ zl1) A2 n2 c2 W)
  obtain ⟨s0, s1, s2, s3, es⟩ := list_four _ ls
  obtain ⟨t0, t1, t2, t3, et⟩ := list_four _ ld
  have HX := Lib.hid (show adv 4 ([s0, s1, s2, s3] ++ zb 12) = adv 4 (srcL l ++ zb 12) by rw [es])
  have HY := Lib.hid (show adv 4 ([t0, t1, t2, t3] ++ zb 12) = adv 4 (dstL l ++ zb 12) by rw [et])
  have oB := hdv_one [0, 0, 0, ((192 : Nat) : Int), ((0 : Nat) : Int), ((0 : Nat) : Int), ((0 : Nat) : Int), ((64 : Nat) : Int), ((1 : Nat) : Int)] 4 4 (dstL l ++ zb 12) (srcL l ++ zb 12)
  have zB := hdv_size [0, 0, 0, ((192 : Nat) : Int), ((0 : Nat) : Int), ((0 : Nat) : Int), ((0 : Nat) : Int), ((64 : Nat) : Int), ((1 : Nat) : Int)] (adv 4 (dstL l ++ zb 12)) (adv 4 (srcL l ++ zb 12)) rfl (adv_size _ _ zl2) (adv_size _ _ zl1)
  have msB : (Try.prog.info? 42).map (·.size) = some (hdv [0, 0, 0, ((192 : Nat) : Int), ((0 : Nat) : Int), ((0 : Nat) : Int), ((0 : Nat) : Int), ((64 : Nat) : Int), ((1 : Nat) : Int)] (adv 4 (dstL l ++ zb 12)) (adv 4 (srcL l ++ zb 12))).size := by rw [zB]; exact Try.infoHead
  have hFl : (l.take (min n 548)).length = min n 548 := by simp; omega
  clear es et ls ld zl1 zl2 hs hE hW e f1 f2 f3 f4
  generalize hBKe : hdv [0, 0, 0, ((192 : Nat) : Int), ((0 : Nat) : Int), ((0 : Nat) : Int), ((0 : Nat) : Int), ((64 : Nat) : Int), ((1 : Nat) : Int)] (adv 4 (dstL l ++ zb 12)) (adv 4 (srcL l ++ zb 12)) = BK at *
  have HBE := Lib.hid hBKe
  clear hBKe
  generalize hdL l = M at *
  generalize adv 4 (srcL l ++ zb 12) = XS at *
  generalize adv 4 (dstL l ++ zb 12) = XD at *
  generalize l.take (min n 548) = F at *
  generalize min n 548 = m at *
  have hmi : (m : Int) ≤ (n : Int) := by omega
  have hmc : (m : Int) ≤ (c : Int) := by omega
  have hm0 : (0 : Int) ≤ (m : Int) := by omega
  go_enter Try.func34, Try.ntmps34
  go_wp2_with fail
  refine HP.out.mono ?_
  rintro e w1 ⟨rfl, hb1⟩
  have b2 : Below w.heap.size w (w1.alloc (.cells M 42)) := hb1.alloc hb1.size _
  have k2 : Blk (w1.alloc (.cells M 42)) w1.heap.size 42 M := blk_new _ _ _
  have lt2 : w1.heap.size < (w1.alloc (.cells M 42)).heap.size := by simp
  generalize hg1 : w1.heap.size = g1 at *
  go_wp2_with (first
    | (refine wpList_allocStore (cs := M) rfl rfl 42 ?ho (.tmp 4) (.tmp 14) ?ho2 Try.zeroHead ?hz ?hx ?hy ?hn ?h1 ?_
       case ho => with_reducible rfl
       case ho2 => rfl
       case hz => exact zH_size
       case hx => rfl
       case hy => rfl
       case hn => exact hsz
       case h1 => exact o1
       rw [hg1])
    | fail)
  refine (HWh.out _ b2).mono ?_
  rintro e w3 ⟨rfl, hb3⟩
  have b3 := Below.on b2 b2.size hb3
  have k3 := k2.on hb3
  have lt3 : g1 < w3.heap.size := by have := hb3.size; omega
  have c0 := (k3.cellA 0).trans m0
  clear b2 k2 hb1 hb3 HP HWh lt2
  have o4 : Own (w3.alloc (.cells #[.int .u8 3, .int .u8 1, .int .u8 0, .int .u8 0, .int .u8 0, .int .u8 0, .int .u8 0, .int .u8 0] 5)) w3.heap.size (.slice (some ⟨w3.heap.size, 0, none⟩) 8 8) 8 [3, 1, 0, 0, 0, 0, 0, 0] := own_lit w3 w3.heap.size 8 _ _ rfl (Nat.le_refl _) rfl (by omega)
  have b4 : Below w3.heap.size w3 (w3.alloc (.cells #[.int .u8 3, .int .u8 1, .int .u8 0, .int .u8 0, .int .u8 0, .int .u8 0, .int .u8 0, .int .u8 0] 5)) := (Below.refl _ _).alloc (Nat.le_refl _) _
  have sF := HF.out _ (Below.on b3 b3.size b4)
  go_wp2_with (first
    | (at_builtin; refine wpList_appAny _ rfl _ _ rfl w3.heap.size _ 8 _ rfl o4 (some ⟨b, off, none⟩) m c _ F rfl sF (by omega) b4.size ?_
       intro v5 w5 ho5 hg5
       have b5 : Below w3.heap.size w3 w5 := b4.grown hg5 b4.size (fun k hk => (o4.lt k hk).1)
       have k5 := k3.below b5 lt3
       have ho5' : Own w5 w3.heap.size v5 (8 + m) (noteL 3 1 0 F) := ho5
       clear hg5 o4 b4 sF ho5
       obtain ⟨g, cap, rfl, hg⟩ := ho5'.blk (by omega)
       have hgl := (ho5'.lt g rfl).2
       have b6 : Below w3.heap.size w3 (w5.alloc (.cells BK 42)) := b5.alloc b5.size _
       have k6 : Blk (w5.alloc (.cells BK 42)) w5.heap.size 42 BK := blk_new _ _ _
       have o6 : Own (w5.alloc (.cells BK 42)) w3.heap.size (.slice (some ⟨g, 0, none⟩) (8 + m) cap) (8 + m) (noteL 3 1 0 F) := ho5'.alloc _
       clear b5 ho5'
       have hgne : ¬ w5.heap.size = g := by omega
       generalize hg5e : w5.heap.size = g5 at *)
    | (refine wpList_loadPart (g := g1) rfl 32 (.tmp 31) ?ho 26 ?hx XD _ (R2 _ _ k5) Try.underlying32 rfl ?hi ?_
       case ho => with_reducible rfl
       case hx => rfl
       case hi => exact z2)
    | (refine wpList_loadPart (g := g1) rfl 32 (.tmp 33) ?ho 9 ?hx XS _ (R1 _ _ k5) Try.underlying32 rfl ?hi ?_
       case ho => with_reducible rfl
       case hx => rfl
       case hi => exact z1)
    | (refine wpList_build rfl 42 ?fs ?ho (.agg BK) ?hr ?_
       case ho => with_reducible rfl
       case hr =>
         intro W
         have e1 := HX.out
         have e2 := HY.out
         have e3 := HBE.out
         rw [← e3, ← e1, ← e2]
         change _ = _
         kernel_rfl)
    | (refine wpList_allocStore (cs := BK) rfl rfl 42 ?ho (.tmp 7) (.tmp 35) ?ho2 Try.zeroHead ?hz ?hx ?hy ?hn ?h1 ?_
       case ho => with_reducible rfl
       case ho2 => rfl
       case hz => exact zH_size
       case hx => rfl
       case hy => rfl
       case hn => exact zB
       case h1 => exact oB
       rw [hg5e])
    | (refine wpList_loadBlk (g := g5) (t := 42) (cs := BK) rfl 42 (.tmp 7) ?ho ?hx ?hA _ Try.underlying42 rfl ?hi ?_
       case ho => with_reducible rfl
       case hx => rfl
       case hA => exact k6
       case hi => exact msB)
    | fail)
  refine (HSm.out _ _ _ _).mono ?_
  rintro e w7 ⟨rfl, hb7⟩
  have k7 := k6.on hb7
  have b7 := Below.on b6 b6.size hb7
  have o7 := o6.keep hb7
  clear k6 b6 hb7 o6 k5
  have HK := Lib.hid (refCheck_any (some ⟨g, 0, none⟩) (8 + m) cap (noteL 3 1 0 F) w7 (by omega) o7.shown)
  have lck : 65535 - osum (noteL 3 1 0 F) ≤ 65535 := by omega
  generalize hck : 65535 - osum (noteL 3 1 0 F) = ck at *
  have HCK := Lib.hid hck
  clear hck
  have e1 : (UInt8.ofNat (ck / 256)).toNat = ck / 256 := by simp; omega
  have e2 : (UInt8.ofNat (ck % 256)).toNat = ck % 256 := by simp
  have HN := Lib.hid (noteL_set 3 1 ck F)
  generalize UInt8.ofNat (ck / 256) = x1 at *
  generalize UInt8.ofNat (ck % 256) = x2 at *
  have f1 : (ck : Int) / 256 % 256 = (x1.toNat : Int) := by omega
  have f1' : (ck : Int) / 256 = (x1.toNat : Int) := by omega
  have f2 : (ck : Int) % 256 = (x2.toNat : Int) := by omega
  have ick : (ck : Int) ≤ 65535 := by omega
  obtain ⟨old2, hold2, _⟩ := o7.at (j := 2) (by omega)
  have hfr2 := World.ownsRow.frozenAt o7 2
  have o8 := (o7.put 2 x1).1
  have b8 : Below w3.heap.size w3 (w7.setCell ⟨g, 2, none⟩ (bv x1)) := b7.grown (o7.put 2 x1).2 b7.size (fun k hk => by injection hk with hk; omega)
  have k8 := k7.other ⟨g, 2, none⟩ (bv x1) (by simpa using hgne)
  obtain ⟨old3, hold3, _⟩ := o8.at (j := 3) (by omega)
  have hfr3 := World.ownsRow.frozenAt o8 3
  have o9 := (o8.put 3 x2).1
  have b9 : Below w3.heap.size w3 ((w7.setCell ⟨g, 2, none⟩ (bv x1)).setCell ⟨g, 3, none⟩ (bv x2)) := b8.grown (o8.put 3 x2).2 b8.size (fun k hk => by injection hk with hk; omega)
  have k9 := k8.other ⟨g, 3, none⟩ (bv x2) (by simpa using hgne)
  rw [HN.out] at o9
  have i2 : (2 : Int) < 8 + (m : Int) := by omega
  have i3 : (3 : Int) < 8 + (m : Int) := by omega
  have s9 := o9.shown
  clear e1 e2 o8 b8 k8 b7 k7 o9
  go_wp2_with (first
    | (refine wpList_loadBlk (g := g5) (t := 42) (cs := BK) rfl 42 (.tmp 7) ?ho ?hx ?hA _ Try.underlying42 rfl ?hi ?_
       case ho => with_reducible rfl
       case hx => rfl
       case hA => exact k9
       case hi => exact msB)
    | (go_at_call 75
       refine HK.out.mono ?_
       rintro e wq ⟨rfl, rfl⟩)
    | fail)
  refine (HPut.out _ (8 + m) _ _ _ (by omega) s9).mono ?_
  rintro e w10 ⟨v10, rfl, ho10, hb10⟩
  have b10 := Below.on b9 b9.size hb10
  have o10 := ho10.base (b' := w.heap.size) (by have := b3.size; have := b9.size; omega)
  clear ho10 hb10 s9 b9 k9
  go_wp2
  go_ret2
  exact ⟨v10, rfl, by rw [HM.out]; exact o10, Below.on b3 b3.size b10⟩

end Go.Proofs.Ytkokgoodpibboaa

/- IxA -/
namespace Go.Proofs.Ytkokgoodpibboaa
open Go.RowKit
set_option maxRecDepth 100000
set_option linter.unusedSimpArgs false
set_option linter.unusedVariables false

/-- What stands ahead of a message, as its check counts it. -/
def pre6 (s d : List UInt8) (k : Nat) : List UInt8 := s ++ (d ++ ((leBytes k 4).reverse ++ [0, 0, 0, 58]))
theorem pre6_len (s d : List UInt8) (k : Nat) (hs : s.length = 16) (hd : d.length = 16) : (pre6 s d k).length = 40 := by simp [pre6, hs, hd, leBytes_len]
theorem be58 : (leBytes 58 4).reverse = [0, 0, 0, 58] := by decide +kernel
theorem be4_bytes (k : Nat) (h : k < 16777216) : (leBytes k 4).reverse = [0, UInt8.ofNat (k / 65536), UInt8.ofNat (k / 256 % 256), UInt8.ofNat (k % 256)] := by
  have e : (leBytes k 4).reverse = [byteAt k 3, byteAt k 2, byteAt k 1, byteAt k 0] := rfl
  rw [e]
  unfold byteAt
  rw [ofNat_mod (k / 256 ^ 3) 0 (by omega), ofNat_mod (k / 256 ^ 2) (k / 65536) (by omega), ofNat_mod (k / 256 ^ 1) (k / 256 % 256) (by omega), ofNat_mod (k / 256 ^ 0) (k % 256) (by omega)]
  rfl

set_option maxHeartbeats 2000000 in
theorem ahead_any (xs : List Int) (s d : List UInt8) (hx : xs.length = 9) (hs : s.length = 16) (hd : d.length = 16) (k : Nat) (hk : k ≤ 100000) (w : World) :
    Calls Try.prog 85 #[.agg (hdv xs (adv 6 s) (adv 6 d)), .int .i64 (k : Int)] w fun e w' => ∃ A c L, e = .returned (.slice A 4 c) ∧ Parts w' w'.heap.size A 4 L ∧ joinP L = pre6 s d k ∧ Below w.heap.size w w' := by
  have k0 : Blk (w.alloc (.cells (hdv xs (adv 6 s) (adv 6 d)) 42)) w.heap.size 42 (hdv xs (adv 6 s) (adv 6 d)) := blk_new _ _ _
  have hb0 : Below w.heap.size w (w.alloc (.cells (hdv xs (adv 6 s) (adv 6 d)) 42)) := (Below.refl _ _).alloc (Nat.le_refl _) _
  have R1 := fun (W : World) (h : Blk W w.heap.size 42 (hdv xs (adv 6 s) (adv 6 d))) => hdv_src hx h
  have R2 := fun (W : World) (h : Blk W w.heap.size 42 (hdv xs (adv 6 s) (adv 6 d))) => hdv_dst hx (adv_size 6 s hs) h
  have z1 := Adr_size 6 s hs
  have z2 := Adr_size 6 d hd
  have HS := Lib.hid (fun W => abytes_any 6 s hs W)
  have HD := Lib.hid (fun W => abytes_any 6 d hd W)
  rw [sizeA_6 s, List.take_of_length_le (by omega)] at HS
  rw [sizeA_6 d, List.take_of_length_le (by omega)] at HD
  have hw1 : IntKind.u64.wrap (k : Int) = (k : Int) := IntWalk.u64_in _ (by omega)
  have HJ := Lib.hid (show pre6 s d k = s ++ (d ++ ((leBytes k 4).reverse ++ (leBytes 58 4).reverse)) by rw [be58]; rfl)
  generalize hdv xs (adv 6 s) (adv 6 d) = M at *
  generalize adv 6 s = XS at *
  generalize adv 6 d = XD at *
  go_enter Try.func85, Try.ntmps85
  go_wp2_with fail
  refine (big_ok k 4 _ (by omega) (by omega) (by rw [show ones (8 * ((4 : Nat) : Int)) = 4294967295 by rw [ones_256 4 (by omega)]]; omega)).mono ?_
  rintro e w2 ⟨rfl, ho2, hb2⟩
  have k2 := k0.on hb2
  have b2 := Below.on hb0 hb0.size hb2
  have f2 := ho2.shown
  clear k0 hb0 hb2 ho2
  generalize (w.alloc (.cells M 42)).heap.size = g1 at *
  go_wp2_with fail
  refine (big_ok 58 4 w2 (by omega) (by omega) (by rw [show ones (8 * ((4 : Nat) : Int)) = 4294967295 by rw [ones_256 4 (by omega)]]; omega)).mono ?_
  rintro e w3 ⟨rfl, ho3, hb3⟩
  have q3' := k2.on hb3
  have q3 : Blk w3.drew w.heap.size 42 M := q3'
  clear q3'
  have qb : Below w.heap.size w w3.drew := (Below.on b2 b2.size hb3).drew
  have qf' := (f2.below hb3).up hb3.size
  have qf : Shows w3.drew w3.drew.heap.size (some ⟨g1, 0, none⟩) 4 (leBytes k 4).reverse := qf'
  clear qf'
  have qm : Shows w3.drew w3.drew.heap.size (some ⟨w2.heap.size, 0, none⟩) 4 (leBytes 58 4).reverse := ho3.shown
  clear k2 b2 f2 hb3 ho3
  generalize w2.heap.size = g2 at *
  go_wp2_with fail
  refine wp_region_held_drew (S := fun W => Blk W w.heap.size 42 M) (by kernel_rfl) q3 ?_
  intro hS
  refine wpAnyH_take (i := 0) (oi := ?o1) (v := .pointer (some ⟨w.heap.size, 9, none⟩)) ?hio1 (by kernel_rfl) (by kernel_rfl) (by kernel_rfl) ?hQo1 ?hyo1 hS ?_
  case hio1 => (simp only [List.getElem?_toArray, List.getElem?_cons_succ, List.getElem?_cons_zero]; rfl)
  case hQo1 => exact fun _ _ _ h => h
  case hyo1 => exact Or.inl ⟨by rfl, fun W hW => by go_simp⟩
  try simp only [Act.put, List.setIfInBounds_toArray, List.set_cons_zero, List.set_cons_succ]
  refine wpAnyH_take (i := 3) (oi := ?o2) (v := .pointer (some ⟨w.heap.size, 26, none⟩)) ?hio2 (by kernel_rfl) (by kernel_rfl) (by kernel_rfl) ?hQo2 ?hyo2 hS ?_
  case hio2 => (simp only [List.getElem?_toArray, List.getElem?_cons_succ, List.getElem?_cons_zero]; rfl)
  case hQo2 => exact fun _ _ _ h => h
  case hyo2 => exact Or.inl ⟨by rfl, fun W hW => by go_simp⟩
  try simp only [Act.put, List.setIfInBounds_toArray, List.set_cons_zero, List.set_cons_succ]
  refine wpAnyH_take (i := 1) (oi := ?o3) (v := .agg XS) ?hio3 (by kernel_rfl) (by kernel_rfl) (by kernel_rfl) ?hQo3 ?hyo3 hS ?_
  case hio3 => (simp only [List.getElem?_toArray, List.getElem?_cons_succ, List.getElem?_cons_zero]; rfl)
  case hQo3 => exact fun _ _ _ h => h
  case hyo3 => exact yieldsIf_load_mid (by rfl) 32 (.tmp 19) rfl w.heap.size 9 rfl XS.toList _ (fun W hW => R1 W hW) Try.underlying32 rfl (by simpa using z1)
  try simp only [Act.put, List.setIfInBounds_toArray, List.set_cons_zero, List.set_cons_succ]
  refine wpAnyH_take (i := 4) (oi := ?o4) (v := .agg XD) ?hio4 (by kernel_rfl) (by kernel_rfl) (by kernel_rfl) ?hQo4 ?hyo4 hS ?_
  case hio4 => (simp only [List.getElem?_toArray, List.getElem?_cons_succ, List.getElem?_cons_zero]; rfl)
  case hQo4 => exact fun _ _ _ h => h
  case hyo4 => exact yieldsIf_load_mid (by rfl) 32 (.tmp 22) rfl w.heap.size 26 rfl XD.toList _ (fun W hW => R2 W hW) Try.underlying32 rfl (by simpa using z2)
  try simp only [Act.put, List.setIfInBounds_toArray, List.set_cons_zero, List.set_cons_succ]
  refine wpAnyH_take (i := 6) (oi := ?o5) (v := ?vo5) ?hio5 (by kernel_rfl) (by kernel_rfl) (by kernel_rfl) ?hQo5 ?hyo5 hS ?_
  case hio5 => (simp only [List.getElem?_toArray, List.getElem?_cons_succ, List.getElem?_cons_zero]; rfl)
  case hQo5 => exact fun _ _ _ h => h
  case hyo5 =>
    refine Or.inl ⟨by rfl, ?_⟩
    intro W hW
    go_simp
    first | done | with_reducible rfl
  try simp only [Act.put, List.setIfInBounds_toArray, List.set_cons_zero, List.set_cons_succ]
  refine wpAnyH_take (i := 7) (oi := ?o6) (v := ?vo6) ?hio6 (by kernel_rfl) (by kernel_rfl) (by kernel_rfl) ?hQo6 ?hyo6 hS ?_
  case hio6 => (simp only [List.getElem?_toArray, List.getElem?_cons_succ, List.getElem?_cons_zero]; rfl)
  case hQo6 => exact fun _ _ _ h => h
  case hyo6 =>
    refine Or.inl ⟨by rfl, ?_⟩
    intro W hW
    go_simp
    first | done | with_reducible rfl
  try simp only [Act.put, List.setIfInBounds_toArray, List.set_cons_zero, List.set_cons_succ]
  clear R1 R2 z1 z2
  refine wpAnyH_ready (rs := [2]) (by kernel_rfl) (by simp) ?_
  refine AllReadyH.cons (o := ?o10) ?hoo10 (fun K hK => ?ho10) AllReadyH.nil
  case hoo10 => (simp only [List.getElem?_toArray, List.getElem?_cons_succ, List.getElem?_cons_zero]; rfl)
  case ho10 =>
    go_simp
    go_at_call 69
    with_reducible refine (HS.out _).mono ?_
    rintro e w5 ⟨xS, rfl, hoxS, hbw5⟩
    obtain ⟨A5, c5, rfl, _, _, sS1⟩ := hoxS.shows
    have f5 := (qf.below hbw5).up hbw5.size
    have m5 := (qm.below hbw5).up hbw5.size
    have b5 := Below.on qb qb.size hbw5
    have q5 := q3.on hbw5
    clear hoxS hbw5
    refine hK.out _ _ q5 (fun hS5 => ?_)
    clear hK K hS5
    try simp only [Act.put, List.setIfInBounds_toArray, List.set_cons_zero, List.set_cons_succ]
    refine wpAnyH_ready (rs := [5]) (by kernel_rfl) (by simp) ?_
    refine AllReadyH.cons (o := ?o9) ?hoo9 (fun K hK => ?ho9) AllReadyH.nil
    case hoo9 => (simp only [List.getElem?_toArray, List.getElem?_cons_succ, List.getElem?_cons_zero]; rfl)
    case ho9 =>
      go_simp
      go_at_call 69
      with_reducible refine (HD.out _).mono ?_
      rintro e w6 ⟨xD, rfl, hoxD, hbw6⟩
      obtain ⟨A6, c6, rfl, _, _, sD⟩ := hoxD.shows
      have sF := (f5.below hbw6).up hbw6.size
      have sM := (m5.below hbw6).up hbw6.size
      have sS := (sS1.below hbw6).up hbw6.size
      have b6 := Below.on b5 b5.size hbw6
      have q6 := q5.on hbw6
      clear hoxD hbw6 f5 m5 sS1
      refine hK.out _ _ q6 (fun hS2 => ?_)
      clear hK K hS2
      try simp only [Act.put, List.setIfInBounds_toArray, List.set_cons_zero, List.set_cons_succ]
      refine wpAnyH_ready (rs := [8]) (by kernel_rfl) (by simp) ?_
      refine AllReadyH.cons (o := ?o8) ?hoo8 (fun K hK => ?ho8) AllReadyH.nil
      case hoo8 => (simp only [List.getElem?_toArray, List.getElem?_cons_succ, List.getElem?_cons_zero]; rfl)
      case ho8 =>
        go_simp
        have P4 : Parts (w6.alloc (.cells #[.slice A5 16 c5, .slice A6 16 c6, .slice (some ⟨g1, 0, none⟩) 4 4, .slice (some ⟨g2, 0, none⟩) 4 4] 43)) (w6.alloc (.cells #[.slice A5 16 c5, .slice A6 16 c6, .slice (some ⟨g1, 0, none⟩) 4 4, .slice (some ⟨g2, 0, none⟩) 4 4] 43)).heap.size (some ⟨w6.heap.size, 0, none⟩) 4 [⟨A5, 16, c5, s⟩, ⟨A6, 16, c6, d⟩, ⟨some ⟨g1, 0, none⟩, 4, 4, (leBytes k 4).reverse⟩, ⟨some ⟨g2, 0, none⟩, 4, 4, (leBytes 58 4).reverse⟩] := partsN w6 [⟨A5, 16, c5, s⟩, ⟨A6, 16, c6, d⟩, ⟨some ⟨g1, 0, none⟩, 4, 4, (leBytes k 4).reverse⟩, ⟨some ⟨g2, 0, none⟩, 4, 4, (leBytes 58 4).reverse⟩] (by
          intro p hp
          simp only [List.mem_cons, List.not_mem_nil, or_false] at hp
          rcases hp with rfl | rfl | rfl | rfl
          · exact sS
          · exact sD
          · exact sF
          · exact sM)
        refine hK.out _ _ (q6.alloc _) (fun hS7 => ?_)
        clear hK K hS7
        try simp only [Act.put, List.setIfInBounds_toArray, List.set_cons_zero, List.set_cons_succ]
        refine wpAnyH_take (i := 9) (oi := ?o7) (v := .slice (some ⟨w6.heap.size, 0, none⟩) 4 4) ?hio7 (by kernel_rfl) (by kernel_rfl) (by kernel_rfl) ?hQo7 ?hyo7 (q6.alloc _) ?_
        case hio7 => (simp only [List.getElem?_toArray, List.getElem?_cons_succ, List.getElem?_cons_zero]; rfl)
        case hQo7 => exact fun _ _ _ h => h
        case hyo7 => exact Or.inl ⟨by rfl, fun W hW => by go_simp⟩
        try simp only [Act.put, List.setIfInBounds_toArray, List.set_cons_zero, List.set_cons_succ]
        refine wpAnyH_done (by kernel_rfl) ?_ _
        go_wp2
        go_ret
        exact ⟨some ⟨w6.heap.size, 0, none⟩, 4, _, rfl, P4, by rw [HJ.out]; simp [joinP], b6.alloc b6.size _⟩

end Go.Proofs.Ytkokgoodpibboaa

/- IxB -/
namespace Go.Proofs.Ytkokgoodpibboaa
open Go.RowKit
set_option maxRecDepth 100000
set_option linter.unusedSimpArgs false
set_option linter.unusedVariables false

set_option maxHeartbeats 2000000 in
theorem summed6 (xs : List Int) (s d : List UInt8) (hx : xs.length = 9) (hs : s.length = 16) (hd : d.length = 16) (A : Option Addr) (n c : Nat) (l : List UInt8) (w : World) (hn : n ≤ 100000) (hl : Shows w w.heap.size A n l) :
    Calls Try.prog 86 #[.agg (hdv xs (adv 6 s) (adv 6 d)), .slice A n c] w fun e w' => ∃ v, e = .returned v ∧ Own w' w.heap.size v (40 + n) (pre6 s d n ++ l) ∧ Below w.heap.size w w' := by
  have k0 : Blk (w.alloc (.cells (hdv xs (adv 6 s) (adv 6 d)) 42)) w.heap.size 42 (hdv xs (adv 6 s) (adv 6 d)) := blk_new _ _ _
  have hb0 : Below w.heap.size w (w.alloc (.cells (hdv xs (adv 6 s) (adv 6 d)) 42)) := (Below.refl _ _).alloc (Nat.le_refl _) _
  have lt0 : w.heap.size < (w.alloc (.cells (hdv xs (adv 6 s) (adv 6 d)) 42)).heap.size := by simp
  have R1 := fun (W : World) (h : Blk W w.heap.size 42 (hdv xs (adv 6 s) (adv 6 d))) => hdv_src hx h
  have R2 := fun (W : World) (h : Blk W w.heap.size 42 (hdv xs (adv 6 s) (adv 6 d))) => hdv_dst hx (adv_size 6 s hs) h
  have z1 := Adr_size 6 s hs
  have z2 := Adr_size 6 d hd
  have HBs := Lib.hid (fun W => refBytes_any 6 s hs W)
  have HBd := Lib.hid (fun W => refBytes_any 6 d hd W)
  rw [sizeA_6 s, List.take_of_length_le (by omega)] at HBs
  rw [sizeA_6 d, List.take_of_length_le (by omega)] at HBd
  have HJ := Lib.hid (show pre6 s d n ++ l = [] ++ s ++ d ++ [0, UInt8.ofNat (n / 65536), UInt8.ofNat (n / 256 % 256), UInt8.ofNat (n % 256), 0, 0, 0, 58] ++ l by unfold pre6; rw [be4_bytes n (by omega)]; simp)
  have sl := (hl.below hb0).up hb0.size
  have e1 : (UInt8.ofNat (n / 65536)).toNat = n / 65536 := by simp; omega
  have e2 : (UInt8.ofNat (n / 256 % 256)).toNat = n / 256 % 256 := by simp
  have e3 : (UInt8.ofNat (n % 256)).toNat = n % 256 := by simp
  generalize UInt8.ofNat (n / 65536) = x1 at *
  generalize UInt8.ofNat (n / 256 % 256) = x2 at *
  generalize UInt8.ofNat (n % 256) = x3 at *
  obtain ⟨q1, hq1⟩ : ∃ q : Nat, n / 65536 = q := ⟨_, rfl⟩
  obtain ⟨q2, hq2⟩ : ∃ q : Nat, n / 256 = q := ⟨_, rfl⟩
  have i0 : (n : Int) / 16777216 = 0 := by omega
  have i1 : (n : Int) / 65536 = (q1 : Int) := by omega
  have i2 : (n : Int) / 256 = (q2 : Int) := by omega
  have j1 : (q1 : Int) % 256 = (x1.toNat : Int) := by omega
  have j2 : (q2 : Int) % 256 = (x2.toNat : Int) := by omega
  have j3 : (n : Int) % 256 = (x3.toNat : Int) := by omega
  have u1 : (x1.toNat : Int) ≤ 255 := by omega
  have u2 : (x2.toNat : Int) ≤ 255 := by omega
  have u3 : (x3.toNat : Int) ≤ 255 := by omega
  have v1 : (q1 : Int) ≤ 1 := by omega
  have v2 : (q2 : Int) ≤ 400 := by omega
  have hni : (n : Int) ≤ 100000 := by omega
  have h01 : (q1 : Int) = (x1.toNat : Int) := by omega
  have Hh := Lib.hid h01
  clear hl e1 e2 e3 hq1 hq2 h01
  generalize hdv xs (adv 6 s) (adv 6 d) = M at *
  generalize adv 6 s = XS at *
  generalize adv 6 d = XD at *
  go_enter Try.func86, Try.ntmps86
  generalize hw1 : w.alloc (.cells M 42) = w1 at *
  have o2 : Own (w1.alloc (.cells #[] 5)) w1.heap.size (.slice (some ⟨w1.heap.size, 0, none⟩) 0 0) 0 [] := own_lit0 w1 w1.heap.size (Nat.le_refl _)
  have b2 : Below w1.heap.size w1 (w1.alloc (.cells #[] 5)) := (Below.refl _ _).alloc (Nat.le_refl _) _
  have k2 := k0.below b2 lt0
  go_wp2_with (first
    | (refine wpList_loadPart (g := w.heap.size) rfl 32 (.tmp 8) ?ho 9 ?hx XS _ (R1 _ k2) Try.underlying32 rfl ?hi ?_
       case ho => with_reducible rfl
       case hx => rfl
       case hi => exact z1)
    | fail)
  refine (HBs.out _).mono ?_
  rintro e w4 ⟨y4, rfl, ho4, hb4⟩
  obtain ⟨A4, ca4, rfl, _, _, s4⟩ := ho4.shows
  have b4 := Below.on b2 b2.size hb4
  have o4 := o2.keep hb4
  clear ho4 hb4 b2 o2 k2
  go_wp2_with (first
    | (at_builtin; refine wpList_appAny _ rfl _ _ rfl w1.heap.size _ 0 _ rfl o4 A4 16 ca4 _ s rfl s4 (by omega) b4.size ?_
       intro v5 w5 ho5 hg5
       have b5 : Below w1.heap.size w1 w5 := b4.grown hg5 b4.size (fun k hk => (o4.lt k hk).1)
       have k5 := k0.below b5 lt0
       clear hg5 o4 b4 s4)
    | (refine wpList_loadPart (g := w.heap.size) rfl 32 (.tmp 13) ?ho 26 ?hx XD _ (R2 _ k5) Try.underlying32 rfl ?hi ?_
       case ho => with_reducible rfl
       case hx => rfl
       case hi => exact z2)
    | fail)
  refine (HBd.out _).mono ?_
  rintro e w6 ⟨y6, rfl, ho6, hb6⟩
  obtain ⟨A6, ca6, rfl, _, _, s6⟩ := ho6.shows
  have b6 := Below.on b5 b5.size hb6
  have o6 := ho5.keep hb6
  clear ho6 hb6 b5 ho5 k5
  go_wp2_with (first
    | (at_builtin; refine wpList_appAny _ rfl _ _ rfl w1.heap.size _ (0 + 16) _ rfl o6 A6 16 ca6 _ d rfl s6 (by omega) b6.size ?_
       intro v7 w7 ho7 hg7
       have b7 : Below w1.heap.size w1 w7 := b6.grown hg7 b6.size (fun k hk => (o6.lt k hk).1)
       clear hg7 o6 b6 s6
       have b8 : Below w1.heap.size w1 (w7.alloc (.cells #[.int .u8 0, .int .u8 (x1.toNat : Int), .int .u8 (x2.toNat : Int), .int .u8 (x3.toNat : Int), .int .u8 0, .int .u8 0, .int .u8 0, .int .u8 58] 5)) := b7.alloc b7.size _
       have o8 := ho7.alloc (.cells #[.int .u8 0, .int .u8 (x1.toNat : Int), .int .u8 (x2.toNat : Int), .int .u8 (x3.toNat : Int), .int .u8 0, .int .u8 0, .int .u8 0, .int .u8 58] 5)
       have s8 : Shows (w7.alloc (.cells #[.int .u8 0, .int .u8 (x1.toNat : Int), .int .u8 (x2.toNat : Int), .int .u8 (x3.toNat : Int), .int .u8 0, .int .u8 0, .int .u8 0, .int .u8 58] 5)) (w7.alloc (.cells #[.int .u8 0, .int .u8 (x1.toNat : Int), .int .u8 (x2.toNat : Int), .int .u8 (x3.toNat : Int), .int .u8 0, .int .u8 0, .int .u8 0, .int .u8 58] 5)).heap.size (some ⟨w7.heap.size, 0, none⟩) 8 [0, x1, x2, x3, 0, 0, 0, 58] := shows_new w7 _ _ rfl
       clear ho7 b7)
    | (at_builtin; refine wpList_appAny _ rfl _ _ rfl w1.heap.size _ (0 + 16 + 16) _ rfl o8 (some ⟨w7.heap.size, 0, none⟩) 8 8 _ [0, x1, x2, x3, 0, 0, 0, 58] rfl s8 (by omega) b8.size ?_
       intro v9 w9 ho9 hg9
       have b9 : Below w1.heap.size w1 w9 := b8.grown hg9 b8.size (fun k hk => (o8.lt k hk).1)
       have s9 := (sl.below b9).up b9.size
       clear hg9 o8 b8 s8)
    | (at_builtin; refine wpList_appAny _ rfl _ _ rfl w1.heap.size _ (0 + 16 + 16 + 8) _ rfl ho9 A n c _ l rfl s9 (by omega) b9.size ?_
       intro v10 w10 ho10 hg10
       have b10 : Below w1.heap.size w1 w10 := b9.grown hg10 b9.size (fun k hk => (ho9.lt k hk).1)
       clear hg10 ho9 b9 s9)
    | fail)
  go_ret
  exact ⟨v10, rfl, by rw [HJ.out]; exact (ho10.base (b' := w.heap.size) (by omega)), Below.on hb0 hb0.size b10⟩

end Go.Proofs.Ytkokgoodpibboaa

/- IxC -/
namespace Go.Proofs.Ytkokgoodpibboaa
open Go.RowKit
set_option maxRecDepth 100000
set_option linter.unusedSimpArgs false
set_option linter.unusedVariables false

def tot6 (l : List UInt8) : Nat := n1 l / 65536 % 65536 + 40
def pr6 (l : List UInt8) : Nat := n1 l / 256 % 256
/-- What stands behind a head of family 6. -/
def rest6 (l : List UInt8) : List UInt8 := (l.drop 40).take (tot6 l - 40)
/-- Why bytes are no message of family 6. -/
def r6E (l : List UInt8) : Nat := if pE6 l = 0 then (if pr6 l = 58 then fE 1 0 (pre6 (src6 l) (dst6 l) (tot6 l - 40)) (rest6 l) else 9) else pE6 l
theorem pH6_eq {l : List UInt8} (h : pE6 l = 0) : pH6 l = hdL6 l := by unfold pH6; rw [if_pos h]
theorem pH6_cells {l : List UInt8} (h : pE6 l = 0) : (pH6 l)[1]? = some (.int .i64 40) ∧ (pH6 l)[2]? = some (.int .i64 (tot6 l : Int)) ∧ (pH6 l)[8]? = some (.int .i64 (pr6 l : Int)) := by
  rw [pH6_eq h]
  unfold hdL6 hd6
  exact ⟨hdv_num _ _ _ 1 _ rfl, hdv_num _ _ _ 2 _ rfl, hdv_num _ _ _ 8 _ rfl⟩
theorem pE6_facts {l : List UInt8} (h : pE6 l = 0) : 40 ≤ l.length ∧ tot6 l ≤ l.length ∧ n1 l / 1152921504606846976 = 6 := by
  have h40 := pH6_len h
  unfold pE6 at h
  rw [if_neg (by omega)] at h
  unfold wE6 at h
  split at h
  · rename_i hv
    split at h
    · cases h
    · rename_i ht
      exact ⟨h40, by unfold tot6; omega, hv⟩
  · cases h
theorem rest6_shows {w : World} {B b off n : Nat} {l : List UInt8} (h : Shows w B (some ⟨b, off, none⟩) n l) (hE : pE6 l = 0) : Shows w B (some ⟨b, off + 40, none⟩) (tot6 l - 40) (rest6 l) := by
  obtain ⟨h1, h2, _⟩ := pE6_facts hE
  have hl := h.len
  exact h.piece 40 (tot6 l - 40) (by omega)
theorem rest6_len {l : List UInt8} (hE : pE6 l = 0) : (rest6 l).length = tot6 l - 40 := by
  obtain ⟨h1, h2, _⟩ := pE6_facts hE
  simp [rest6]
  omega
theorem src6_len {l : List UInt8} (h : 40 ≤ l.length) : (src6 l).length = 16 := by simp [src6]; omega
theorem dst6_len {l : List UInt8} (h : 40 ≤ l.length) : (dst6 l).length = 16 := by simp [dst6]; omega

set_option maxHeartbeats 2000000 in
theorem read6_bad (A : Option Addr) (n c : Nat) (l : List UInt8) (w : World) (hn : n ≤ 100000) (hc : n ≤ c) (hcm : c ≤ maxLen) (hs : Shows w w.heap.size A n l) (hE : ¬ r6E l = 0) :
    Calls Try.prog 41 #[.slice A n c] w fun e w' => e = .returned (.tuple #[.slice none 0 0, .int .i64 (r6E l : Int)]) ∧ Below w.heap.size w w' := by
  have hz := (zero_of_info Try.zeroHead).1
  have hne : ¬ zH = #[] := by intro h; have := zH_size; rw [h] at this; cases this
  have HP := Lib.hid (parse6_any A n c l w (by omega) hc hcm hs)
  have hl := hs.len
  have hsz := pH6_size l
  have o1 := pH6_one l
  by_cases q0 : ¬ pE6 l = 0
  · have HF := Lib.hid (show r6E l = pE6 l by unfold r6E; rw [if_neg q0])
    clear hs hE
    generalize r6E l = RE at *
    generalize pH6 l = M at *
    generalize pE6 l = E0 at *
    have d0 : decide ((E0 : Int) = 0) = false := decide_eq_false (by omega)
    have d0' : (((E0 : Int)) == 0) = false := by simp; omega
    have d0'' : (((E0 : Int)) != 0) = true := by simp; omega
    go_enter Try.func41, Try.ntmps41
    go_wp2_with fail
    refine HP.out.mono ?_
    rintro e w1 ⟨rfl, hb1⟩
    have b2 : Below w.heap.size w (w1.alloc (.cells M 42)) := hb1.alloc hb1.size _
    have k2 : Blk (w1.alloc (.cells M 42)) w1.heap.size 42 M := blk_new _ _ _
    generalize hg1 : w1.heap.size = g1 at *
    go_wp2_with (first
        | (refine wpList_allocStore (cs := M) rfl rfl 42 ?ho (.tmp 4) (.tmp 9) ?ho2 Try.zeroHead ?hz ?hx ?hy ?hn ?h1 ?_
           case ho => with_reducible rfl
           case ho2 => rfl
           case hz => exact zH_size
           case hx => rfl
           case hy => rfl
           case hn => exact hsz
           case h1 => exact o1
           rw [hg1]))
    go_ret2
    exact ⟨by rw [HF.out]; rfl, b2⟩
  have q0' : pE6 l = 0 := by omega
  obtain ⟨m1, m2, m8⟩ := pH6_cells q0'
  obtain ⟨f1, f2, f3⟩ := pE6_facts q0'
  rw [hl] at f1 f2
  obtain ⟨b, off, rfl, hbb, _⟩ := hs.2 (by omega)
  have HSr := Lib.hid (fun (W : World) (hW : Below w.heap.size w W) => rest6_shows ((hs.below hW).up hW.size) q0')
  have hrl := rest6_len q0'
  have ms : (Try.prog.info? 42).map (·.size) = some (pH6 l).size := by rw [hsz]; exact Try.infoHead
  have HA := Lib.hid (fun (W : World) => show Calls Try.prog 85 #[.agg (pH6 l), .int .i64 ((tot6 l - 40 : Nat) : Int)] W fun e w' => ∃ A c L, e = .returned (.slice A 4 c) ∧ Parts w' w'.heap.size A 4 L ∧ joinP L = pre6 (src6 l) (dst6 l) (tot6 l - 40) ∧ Below W.heap.size W w' by
    rw [pH6_eq q0']
    unfold hdL6 hd6
    exact ahead_any _ (src6 l) (dst6 l) rfl (src6_len (by omega)) (dst6_len (by omega)) (tot6 l - 40) (by omega) W)
  rw [q0'] at HP
  have HR := Lib.hid (show r6E l = if pr6 l = 58 then fE 1 0 (pre6 (src6 l) (dst6 l) (tot6 l - 40)) (rest6 l) else 9 by unfold r6E; rw [if_pos q0'])
  have hJl := pre6_len (src6 l) (dst6 l) (tot6 l - 40) (src6_len (by omega)) (dst6_len (by omega))
  have h40 : 40 ≤ tot6 l := by unfold tot6; omega
  clear hs q0 q0' f3
  generalize rest6 l = R at *
  generalize r6E l = RE at *
  generalize pH6 l = M at *
  generalize pre6 (src6 l) (dst6 l) (tot6 l - 40) = J at *
  generalize tot6 l = T at *
  generalize pr6 l = P at *
  by_cases q1 : ¬ P = 58
  · have HF := Lib.hid (show RE = 9 by rw [HR.out, if_neg q1])
    clear HR hE
    have d1 : decide ((P : Int) = 58) = false := decide_eq_false (by omega)
    have d1' : (((P : Int)) == 58) = false := by simp; omega
    have d1'' : (((P : Int)) != 58) = true := by simp; omega
    go_enter Try.func41, Try.ntmps41
    go_wp2_with fail
    refine HP.out.mono ?_
    rintro e w1 ⟨rfl, hb1⟩
    have b2 : Below w.heap.size w (w1.alloc (.cells M 42)) := hb1.alloc hb1.size _
    have k2 : Blk (w1.alloc (.cells M 42)) w1.heap.size 42 M := blk_new _ _ _
    generalize hg1 : w1.heap.size = g1 at *
    have c1 := (k2.cellA 1).trans m1
    have c2 := (k2.cellA 2).trans m2
    have c8 := (k2.cellA 8).trans m8
    go_wp2_with (first
        | (refine wpList_allocStore (cs := M) rfl rfl 42 ?ho (.tmp 4) (.tmp 9) ?ho2 Try.zeroHead ?hz ?hx ?hy ?hn ?h1 ?_
           case ho => with_reducible rfl
           case ho2 => rfl
           case hz => exact zH_size
           case hx => rfl
           case hy => rfl
           case hn => exact hsz
           case h1 => exact o1
           rw [hg1]))
    go_ret2
    exact ⟨by rw [HF.out]; rfl, b2⟩
  obtain rfl : P = 58 := by omega
  have m8' : M[8]? = some (.int .i64 58) := m8
  clear m8
  have m8 := m8'
  clear m8'
  have hE' : ¬ fE 1 0 J R = 0 := by rw [HR.out, if_pos rfl] at hE; exact hE
  have HF := Lib.hid (show RE = fE 1 0 J R by rw [HR.out, if_pos rfl])
  clear HR hE
  have iST : (40 : Int) ≤ (T : Int) := by omega
  have iTc : (T : Int) ≤ (c : Int) := by omega
  obtain ⟨KN, hKN⟩ : ∃ KN : Nat, T - 40 = KN := ⟨_, rfl⟩
  have hKi : (T : Int) - 40 = (KN : Int) := by omega
  rw [hKN] at HSr HA hrl
  have hKw : IntKind.i64.wrap (KN : Int) = (KN : Int) := wrap_id KN (by omega)
  have iK : (KN : Int) ≤ 100000 := by omega
  by_cases q2 : c = 40
  · have HZ := Lib.hid (show KN = 0 by omega)
    have HNF := Lib.hid (fun (PA : Option Addr) (pc : Nat) (L : List Part) (W : World) (hp : Parts W W.heap.size PA 4 L) (hj : joinP L = J) (hW : Below w.heap.size w W) => show Calls Try.prog 84 #[.slice (some ⟨b, off, none⟩) 0 0, .int .u8 1, .int .u8 0, .slice PA 4 pc] W fun e w' => e = .returned (.tuple #[.slice none 0 0, .int .i64 (fE 1 0 J R : Int)]) ∧ Below W.heap.size W w' by
      have h := nfront_bad 1 0 (by omega) (by omega) (some ⟨b, off, none⟩) 0 0 R PA 4 pc L W (by omega) (by omega) (by simp [maxLen]) (by omega) (by rw [hj, hJl]; omega) ⟨by have := HZ.out; omega, fun h => absurd h (by omega)⟩ hp (by rw [hj]; exact hE')
      rw [hj] at h
      exact h)
    obtain rfl : T = 40 := by have := HZ.out; omega
    obtain rfl : KN = 0 := HZ.out
    subst q2
    clear hKw
    have hKw : IntKind.i64.wrap 0 = 0 := rfl
    have m2' : M[2]? = some (.int .i64 40) := m2
    clear m2 iK iST iTc
    have m2 := m2'
    clear m2'
    clear HZ HSr hE' hJl hKN hKi hrl
    generalize fE 1 0 J R = FF at *
    go_enter Try.func41, Try.ntmps41
    go_wp2_with fail
    refine HP.out.mono ?_
    rintro e w1 ⟨rfl, hb1⟩
    have b2 : Below w.heap.size w (w1.alloc (.cells M 42)) := hb1.alloc hb1.size _
    have k2 : Blk (w1.alloc (.cells M 42)) w1.heap.size 42 M := blk_new _ _ _
    generalize hg1 : w1.heap.size = g1 at *
    have c1 := (k2.cellA 1).trans m1
    have c2 := (k2.cellA 2).trans m2
    have c8 := (k2.cellA 8).trans m8
    go_wp2_with (first
        | (refine wpList_allocStore (cs := M) rfl rfl 42 ?ho (.tmp 4) (.tmp 9) ?ho2 Try.zeroHead ?hz ?hx ?hy ?hn ?h1 ?_
           case ho => with_reducible rfl
           case ho2 => rfl
           case hz => exact zH_size
           case hx => rfl
           case hy => rfl
           case hn => exact hsz
           case h1 => exact o1
           rw [hg1])
        | fail)
    generalize w1.alloc (.cells M 42) = W4 at *
    have qk : Below w.heap.size w W4.drew ∧ Blk W4.drew g1 42 M := ⟨b2.drew, k2⟩
    clear b2 k2 c1 c2 c8
    refine wp_region_held_drew (S := fun W => Below w.heap.size w W ∧ Blk W g1 42 M) (by kernel_rfl) qk ?_
    intro hS
    refine wpAnyH_take (i := 0) (oi := ?o6) (v := ?vo6) ?hio6 (by kernel_rfl) (by kernel_rfl) (by kernel_rfl) ?hQo6 ?hyo6 hS ?_
    case hio6 => (simp only [List.getElem?_toArray, List.getElem?_cons_succ, List.getElem?_cons_zero]; rfl)
    case hQo6 => exact fun _ _ _ h => h
    case hyo6 =>
      refine Or.inl ⟨by rfl, ?_⟩
      intro W hW
      go_simp
      first | done | with_reducible rfl
    try simp only [Act.put, List.setIfInBounds_toArray, List.set_cons_zero, List.set_cons_succ]
    refine wpAnyH_take (i := 1) (oi := ?o7) (v := ?vo7) ?hio7 (by kernel_rfl) (by kernel_rfl) (by kernel_rfl) ?hQo7 ?hyo7 hS ?_
    case hio7 => (simp only [List.getElem?_toArray, List.getElem?_cons_succ, List.getElem?_cons_zero]; rfl)
    case hQo7 => exact fun _ _ _ h => h
    case hyo7 =>
      refine Or.inl ⟨by rfl, ?_⟩
      intro W hW
      go_simp
      first | done | with_reducible rfl
    try simp only [Act.put, List.setIfInBounds_toArray, List.set_cons_zero, List.set_cons_succ]
    refine wpAnyH_take (i := 2) (oi := ?o8) (v := ?vo8) ?hio8 (by kernel_rfl) (by kernel_rfl) (by kernel_rfl) ?hQo8 ?hyo8 hS ?_
    case hio8 => (simp only [List.getElem?_toArray, List.getElem?_cons_succ, List.getElem?_cons_zero]; rfl)
    case hQo8 => exact fun _ _ _ h => h
    case hyo8 =>
      refine Or.inl ⟨by rfl, ?_⟩
      intro W hW
      have c1 := (hW.2.cellA 1).trans m1
      go_simp
      first | done | with_reducible rfl
    try simp only [Act.put, List.setIfInBounds_toArray, List.set_cons_zero, List.set_cons_succ]
    refine wpAnyH_take (i := 3) (oi := ?o9) (v := ?vo9) ?hio9 (by kernel_rfl) (by kernel_rfl) (by kernel_rfl) ?hQo9 ?hyo9 hS ?_
    case hio9 => (simp only [List.getElem?_toArray, List.getElem?_cons_succ, List.getElem?_cons_zero]; rfl)
    case hQo9 => exact fun _ _ _ h => h
    case hyo9 =>
      refine Or.inl ⟨by rfl, ?_⟩
      intro W hW
      go_simp
      first | done | with_reducible rfl
    try simp only [Act.put, List.setIfInBounds_toArray, List.set_cons_zero, List.set_cons_succ]
    refine wpAnyH_take (i := 4) (oi := ?o10) (v := ?vo10) ?hio10 (by kernel_rfl) (by kernel_rfl) (by kernel_rfl) ?hQo10 ?hyo10 hS ?_
    case hio10 => (simp only [List.getElem?_toArray, List.getElem?_cons_succ, List.getElem?_cons_zero]; rfl)
    case hQo10 => exact fun _ _ _ h => h
    case hyo10 =>
      refine Or.inl ⟨by rfl, ?_⟩
      intro W hW
      have c2 := (hW.2.cellA 2).trans m2
      go_simp
      first | done | with_reducible rfl
    try simp only [Act.put, List.setIfInBounds_toArray, List.set_cons_zero, List.set_cons_succ]
    refine wpAnyH_take (i := 5) (oi := ?o11) (v := ?vo11) ?hio11 (by kernel_rfl) (by kernel_rfl) (by kernel_rfl) ?hQo11 ?hyo11 hS ?_
    case hio11 => (simp only [List.getElem?_toArray, List.getElem?_cons_succ, List.getElem?_cons_zero]; rfl)
    case hQo11 => exact fun _ _ _ h => h
    case hyo11 =>
      refine Or.inl ⟨by rfl, ?_⟩
      intro W hW
      go_simp
      first | done | with_reducible rfl
    try simp only [Act.put, List.setIfInBounds_toArray, List.set_cons_zero, List.set_cons_succ]
    refine wpAnyH_take (i := 6) (oi := ?o12) (v := .agg M) ?hio12 (by kernel_rfl) (by kernel_rfl) (by kernel_rfl) ?hQo12 ?hyo12 hS ?_
    case hio12 => (simp only [List.getElem?_toArray, List.getElem?_cons_succ, List.getElem?_cons_zero]; rfl)
    case hQo12 => exact fun _ _ _ h => h
    case hyo12 => exact yieldsIf_load_mid (by rfl) 42 (.tmp 4) rfl g1 0 rfl M.toList _ (fun W hW => Blk.range0 hW.2) Try.underlying42 rfl (by simpa using ms)
    try simp only [Act.put, List.setIfInBounds_toArray, List.set_cons_zero, List.set_cons_succ]
    refine wpAnyH_take (i := 7) (oi := ?o13) (v := ?vo13) ?hio13 (by kernel_rfl) (by kernel_rfl) (by kernel_rfl) ?hQo13 ?hyo13 hS ?_
    case hio13 => (simp only [List.getElem?_toArray, List.getElem?_cons_succ, List.getElem?_cons_zero]; rfl)
    case hQo13 => exact fun _ _ _ h => h
    case hyo13 =>
      refine Or.inl ⟨by rfl, ?_⟩
      intro W hW
      go_simp
      first | done | with_reducible rfl
    try simp only [Act.put, List.setIfInBounds_toArray, List.set_cons_zero, List.set_cons_succ]
    refine wpAnyH_take (i := 8) (oi := ?o14) (v := ?vo14) ?hio14 (by kernel_rfl) (by kernel_rfl) (by kernel_rfl) ?hQo14 ?hyo14 hS ?_
    case hio14 => (simp only [List.getElem?_toArray, List.getElem?_cons_succ, List.getElem?_cons_zero]; rfl)
    case hQo14 => exact fun _ _ _ h => h
    case hyo14 =>
      refine Or.inl ⟨by rfl, ?_⟩
      intro W hW
      have c2 := (hW.2.cellA 2).trans m2
      go_simp
      first | done | with_reducible rfl
    try simp only [Act.put, List.setIfInBounds_toArray, List.set_cons_zero, List.set_cons_succ]
    refine wpAnyH_take (i := 9) (oi := ?o15) (v := ?vo15) ?hio15 (by kernel_rfl) (by kernel_rfl) (by kernel_rfl) ?hQo15 ?hyo15 hS ?_
    case hio15 => (simp only [List.getElem?_toArray, List.getElem?_cons_succ, List.getElem?_cons_zero]; rfl)
    case hQo15 => exact fun _ _ _ h => h
    case hyo15 =>
      refine Or.inl ⟨by rfl, ?_⟩
      intro W hW
      go_simp
      first | done | with_reducible rfl
    try simp only [Act.put, List.setIfInBounds_toArray, List.set_cons_zero, List.set_cons_succ]
    refine wpAnyH_take (i := 10) (oi := ?o16) (v := ?vo16) ?hio16 (by kernel_rfl) (by kernel_rfl) (by kernel_rfl) ?hQo16 ?hyo16 hS ?_
    case hio16 => (simp only [List.getElem?_toArray, List.getElem?_cons_succ, List.getElem?_cons_zero]; rfl)
    case hQo16 => exact fun _ _ _ h => h
    case hyo16 =>
      refine Or.inl ⟨by rfl, ?_⟩
      intro W hW
      have c1 := (hW.2.cellA 1).trans m1
      go_simp
      first | done | with_reducible rfl
    try simp only [Act.put, List.setIfInBounds_toArray, List.set_cons_zero, List.set_cons_succ]
    refine wpAnyH_take (i := 11) (oi := ?o17) (v := .int .i64 0) ?hio17 (by kernel_rfl) (by kernel_rfl) (by kernel_rfl) ?hQo17 ?hyo17 hS ?_
    case hio17 => (simp only [List.getElem?_toArray, List.getElem?_cons_succ, List.getElem?_cons_zero]; rfl)
    case hQo17 => exact fun _ _ _ h => h
    case hyo17 => exact Or.inl ⟨by rfl, fun W hW => by go_simp⟩
    try simp only [Act.put, List.setIfInBounds_toArray, List.set_cons_zero, List.set_cons_succ]
    refine wpAnyH_ready (rs := [12]) (by kernel_rfl) (by simp) ?_
    refine AllReadyH.cons (o := ?o18) ?hoo18 (fun K hK => ?ho18) AllReadyH.nil
    case hoo18 => (simp only [List.getElem?_toArray, List.getElem?_cons_succ, List.getElem?_cons_zero]; rfl)
    case ho18 =>
      go_simp
      go_at_call 85
      refine (HA.out _).mono ?_
      rintro e w5 ⟨A5, c5, L5, rfl, s5, j5, hb5⟩
      have b5 := Below.on qk.1 qk.1.size hb5
      have k5 := qk.2.on hb5
      refine hK.out _ _ ⟨b5, k5⟩ (fun _ => ?_)
      clear hK K hb5
      try simp only [Act.put, List.setIfInBounds_toArray, List.set_cons_zero, List.set_cons_succ]
      refine wpAnyH_ready (rs := [13]) (by kernel_rfl) (by simp) ?_
      refine AllReadyH.cons (o := ?o5) ?hoo5 (fun K hK => ?ho5) AllReadyH.nil
      case hoo5 => (simp only [List.getElem?_toArray, List.getElem?_cons_succ, List.getElem?_cons_zero]; rfl)
      case ho5 =>
        go_simp
        go_at_call 84
        refine (HNF.out A5 c5 L5 _ s5 j5 b5).mono ?_
        rintro e w6 ⟨rfl, hb6⟩
        have b6 := Below.on b5 b5.size hb6
        have q6 : Below w.heap.size w w6 ∧ Blk w6 g1 42 M := ⟨b6, k5.on hb6⟩
        refine hK.out _ _ q6 (fun _ => ?_)
        clear hK K hb6
        try simp only [Act.put, List.setIfInBounds_toArray, List.set_cons_zero, List.set_cons_succ]
        refine wpAnyH_take (i := 14) (oi := ?o1) (v := .slice none 0 0) ?hio1 (by kernel_rfl) (by kernel_rfl) (by kernel_rfl) ?hQo1 ?hyo1 q6 ?_
        case hio1 => (simp only [List.getElem?_toArray, List.getElem?_cons_succ, List.getElem?_cons_zero]; rfl)
        case hQo1 => exact fun _ _ _ h => h
        case hyo1 => exact Or.inl ⟨by rfl, fun W hW => by go_simp⟩
        try simp only [Act.put, List.setIfInBounds_toArray, List.set_cons_zero, List.set_cons_succ]
        refine wpAnyH_take (i := 15) (oi := ?o2) (v := .int .i64 (FF : Int)) ?hio2 (by kernel_rfl) (by kernel_rfl) (by kernel_rfl) ?hQo2 ?hyo2 q6 ?_
        case hio2 => (simp only [List.getElem?_toArray, List.getElem?_cons_succ, List.getElem?_cons_zero]; rfl)
        case hQo2 => exact fun _ _ _ h => h
        case hyo2 => exact Or.inl ⟨by rfl, fun W hW => by go_simp⟩
        try simp only [Act.put, List.setIfInBounds_toArray, List.set_cons_zero, List.set_cons_succ]
        refine wpAnyH_take (i := 16) (oi := ?o3) (v := .slice none 0 0) ?hio3 (by kernel_rfl) (by kernel_rfl) (by kernel_rfl) ?hQo3 ?hyo3 q6 ?_
        case hio3 => (simp only [List.getElem?_toArray, List.getElem?_cons_succ, List.getElem?_cons_zero]; rfl)
        case hQo3 => exact fun _ _ _ h => h
        case hyo3 => exact Or.inl ⟨by rfl, fun W hW => by go_simp⟩
        try simp only [Act.put, List.setIfInBounds_toArray, List.set_cons_zero, List.set_cons_succ]
        refine wpAnyH_take (i := 17) (oi := ?o4) (v := .int .i64 (FF : Int)) ?hio4 (by kernel_rfl) (by kernel_rfl) (by kernel_rfl) ?hQo4 ?hyo4 q6 ?_
        case hio4 => (simp only [List.getElem?_toArray, List.getElem?_cons_succ, List.getElem?_cons_zero]; rfl)
        case hQo4 => exact fun _ _ _ h => h
        case hyo4 => exact Or.inl ⟨by rfl, fun W hW => by go_simp⟩
        try simp only [Act.put, List.setIfInBounds_toArray, List.set_cons_zero, List.set_cons_succ]
        refine wpAnyH_done (by kernel_rfl) ?_ _
        go_wp2
        go_ret2
        exact ⟨by rw [HF.out]; rfl, b6⟩
  · have HNF := Lib.hid (fun (PA : Option Addr) (pc : Nat) (L : List Part) (W : World) (hp : Parts W W.heap.size PA 4 L) (hj : joinP L = J) (hW : Below w.heap.size w W) => show Calls Try.prog 84 #[.slice (some ⟨b, off + 40, none⟩) KN (c - 40), .int .u8 1, .int .u8 0, .slice PA 4 pc] W fun e w' => e = .returned (.tuple #[.slice none 0 0, .int .i64 (fE 1 0 J R : Int)]) ∧ Below W.heap.size W w' by
      have h := nfront_bad 1 0 (by omega) (by omega) (some ⟨b, off + 40, none⟩) KN (c - 40) R PA 4 pc L W (by omega) (by omega) (by omega) (by omega) (by rw [hj, hJl]; omega) (HSr.out W hW) hp (by rw [hj]; exact hE')
      rw [hj] at h
      exact h)
    clear HSr hE' hJl hrl
    generalize fE 1 0 J R = FF at *
    go_enter Try.func41, Try.ntmps41
    go_wp2_with fail
    refine HP.out.mono ?_
    rintro e w1 ⟨rfl, hb1⟩
    have b2 : Below w.heap.size w (w1.alloc (.cells M 42)) := hb1.alloc hb1.size _
    have k2 : Blk (w1.alloc (.cells M 42)) w1.heap.size 42 M := blk_new _ _ _
    generalize hg1 : w1.heap.size = g1 at *
    have c1 := (k2.cellA 1).trans m1
    have c2 := (k2.cellA 2).trans m2
    have c8 := (k2.cellA 8).trans m8
    go_wp2_with (first
        | (refine wpList_allocStore (cs := M) rfl rfl 42 ?ho (.tmp 4) (.tmp 9) ?ho2 Try.zeroHead ?hz ?hx ?hy ?hn ?h1 ?_
           case ho => with_reducible rfl
           case ho2 => rfl
           case hz => exact zH_size
           case hx => rfl
           case hy => rfl
           case hn => exact hsz
           case h1 => exact o1
           rw [hg1])
        | fail)
    generalize w1.alloc (.cells M 42) = W4 at *
    have qk : Below w.heap.size w W4.drew ∧ Blk W4.drew g1 42 M := ⟨b2.drew, k2⟩
    clear b2 k2 c1 c2 c8
    refine wp_region_held_drew (S := fun W => Below w.heap.size w W ∧ Blk W g1 42 M) (by kernel_rfl) qk ?_
    intro hS
    refine wpAnyH_take (i := 0) (oi := ?o24) (v := ?vo24) ?hio24 (by kernel_rfl) (by kernel_rfl) (by kernel_rfl) ?hQo24 ?hyo24 hS ?_
    case hio24 => (simp only [List.getElem?_toArray, List.getElem?_cons_succ, List.getElem?_cons_zero]; rfl)
    case hQo24 => exact fun _ _ _ h => h
    case hyo24 =>
      refine Or.inl ⟨by rfl, ?_⟩
      intro W hW
      go_simp
      first | done | with_reducible rfl
    try simp only [Act.put, List.setIfInBounds_toArray, List.set_cons_zero, List.set_cons_succ]
    refine wpAnyH_take (i := 1) (oi := ?o25) (v := ?vo25) ?hio25 (by kernel_rfl) (by kernel_rfl) (by kernel_rfl) ?hQo25 ?hyo25 hS ?_
    case hio25 => (simp only [List.getElem?_toArray, List.getElem?_cons_succ, List.getElem?_cons_zero]; rfl)
    case hQo25 => exact fun _ _ _ h => h
    case hyo25 =>
      refine Or.inl ⟨by rfl, ?_⟩
      intro W hW
      go_simp
      first | done | with_reducible rfl
    try simp only [Act.put, List.setIfInBounds_toArray, List.set_cons_zero, List.set_cons_succ]
    refine wpAnyH_take (i := 2) (oi := ?o26) (v := ?vo26) ?hio26 (by kernel_rfl) (by kernel_rfl) (by kernel_rfl) ?hQo26 ?hyo26 hS ?_
    case hio26 => (simp only [List.getElem?_toArray, List.getElem?_cons_succ, List.getElem?_cons_zero]; rfl)
    case hQo26 => exact fun _ _ _ h => h
    case hyo26 =>
      refine Or.inl ⟨by rfl, ?_⟩
      intro W hW
      have c1 := (hW.2.cellA 1).trans m1
      go_simp
      first | done | with_reducible rfl
    try simp only [Act.put, List.setIfInBounds_toArray, List.set_cons_zero, List.set_cons_succ]
    refine wpAnyH_take (i := 3) (oi := ?o27) (v := ?vo27) ?hio27 (by kernel_rfl) (by kernel_rfl) (by kernel_rfl) ?hQo27 ?hyo27 hS ?_
    case hio27 => (simp only [List.getElem?_toArray, List.getElem?_cons_succ, List.getElem?_cons_zero]; rfl)
    case hQo27 => exact fun _ _ _ h => h
    case hyo27 =>
      refine Or.inl ⟨by rfl, ?_⟩
      intro W hW
      go_simp
      first | done | with_reducible rfl
    try simp only [Act.put, List.setIfInBounds_toArray, List.set_cons_zero, List.set_cons_succ]
    refine wpAnyH_take (i := 4) (oi := ?o28) (v := ?vo28) ?hio28 (by kernel_rfl) (by kernel_rfl) (by kernel_rfl) ?hQo28 ?hyo28 hS ?_
    case hio28 => (simp only [List.getElem?_toArray, List.getElem?_cons_succ, List.getElem?_cons_zero]; rfl)
    case hQo28 => exact fun _ _ _ h => h
    case hyo28 =>
      refine Or.inl ⟨by rfl, ?_⟩
      intro W hW
      have c2 := (hW.2.cellA 2).trans m2
      go_simp
      first | done | with_reducible rfl
    try simp only [Act.put, List.setIfInBounds_toArray, List.set_cons_zero, List.set_cons_succ]
    refine wpAnyH_take (i := 5) (oi := ?o29) (v := ?vo29) ?hio29 (by kernel_rfl) (by kernel_rfl) (by kernel_rfl) ?hQo29 ?hyo29 hS ?_
    case hio29 => (simp only [List.getElem?_toArray, List.getElem?_cons_succ, List.getElem?_cons_zero]; rfl)
    case hQo29 => exact fun _ _ _ h => h
    case hyo29 =>
      refine Or.inl ⟨by rfl, ?_⟩
      intro W hW
      go_simp
      first | done | with_reducible rfl
    try simp only [Act.put, List.setIfInBounds_toArray, List.set_cons_zero, List.set_cons_succ]
    refine wpAnyH_take (i := 6) (oi := ?o30) (v := .agg M) ?hio30 (by kernel_rfl) (by kernel_rfl) (by kernel_rfl) ?hQo30 ?hyo30 hS ?_
    case hio30 => (simp only [List.getElem?_toArray, List.getElem?_cons_succ, List.getElem?_cons_zero]; rfl)
    case hQo30 => exact fun _ _ _ h => h
    case hyo30 => exact yieldsIf_load_mid (by rfl) 42 (.tmp 4) rfl g1 0 rfl M.toList _ (fun W hW => Blk.range0 hW.2) Try.underlying42 rfl (by simpa using ms)
    try simp only [Act.put, List.setIfInBounds_toArray, List.set_cons_zero, List.set_cons_succ]
    refine wpAnyH_take (i := 7) (oi := ?o31) (v := ?vo31) ?hio31 (by kernel_rfl) (by kernel_rfl) (by kernel_rfl) ?hQo31 ?hyo31 hS ?_
    case hio31 => (simp only [List.getElem?_toArray, List.getElem?_cons_succ, List.getElem?_cons_zero]; rfl)
    case hQo31 => exact fun _ _ _ h => h
    case hyo31 =>
      refine Or.inl ⟨by rfl, ?_⟩
      intro W hW
      go_simp
      first | done | with_reducible rfl
    try simp only [Act.put, List.setIfInBounds_toArray, List.set_cons_zero, List.set_cons_succ]
    refine wpAnyH_take (i := 8) (oi := ?o32) (v := ?vo32) ?hio32 (by kernel_rfl) (by kernel_rfl) (by kernel_rfl) ?hQo32 ?hyo32 hS ?_
    case hio32 => (simp only [List.getElem?_toArray, List.getElem?_cons_succ, List.getElem?_cons_zero]; rfl)
    case hQo32 => exact fun _ _ _ h => h
    case hyo32 =>
      refine Or.inl ⟨by rfl, ?_⟩
      intro W hW
      have c2 := (hW.2.cellA 2).trans m2
      go_simp
      first | done | with_reducible rfl
    try simp only [Act.put, List.setIfInBounds_toArray, List.set_cons_zero, List.set_cons_succ]
    refine wpAnyH_take (i := 9) (oi := ?o33) (v := ?vo33) ?hio33 (by kernel_rfl) (by kernel_rfl) (by kernel_rfl) ?hQo33 ?hyo33 hS ?_
    case hio33 => (simp only [List.getElem?_toArray, List.getElem?_cons_succ, List.getElem?_cons_zero]; rfl)
    case hQo33 => exact fun _ _ _ h => h
    case hyo33 =>
      refine Or.inl ⟨by rfl, ?_⟩
      intro W hW
      go_simp
      first | done | with_reducible rfl
    try simp only [Act.put, List.setIfInBounds_toArray, List.set_cons_zero, List.set_cons_succ]
    refine wpAnyH_take (i := 10) (oi := ?o34) (v := ?vo34) ?hio34 (by kernel_rfl) (by kernel_rfl) (by kernel_rfl) ?hQo34 ?hyo34 hS ?_
    case hio34 => (simp only [List.getElem?_toArray, List.getElem?_cons_succ, List.getElem?_cons_zero]; rfl)
    case hQo34 => exact fun _ _ _ h => h
    case hyo34 =>
      refine Or.inl ⟨by rfl, ?_⟩
      intro W hW
      have c1 := (hW.2.cellA 1).trans m1
      go_simp
      first | done | with_reducible rfl
    try simp only [Act.put, List.setIfInBounds_toArray, List.set_cons_zero, List.set_cons_succ]
    refine wpAnyH_take (i := 11) (oi := ?o35) (v := .int .i64 (KN : Int)) ?hio35 (by kernel_rfl) (by kernel_rfl) (by kernel_rfl) ?hQo35 ?hyo35 hS ?_
    case hio35 => (simp only [List.getElem?_toArray, List.getElem?_cons_succ, List.getElem?_cons_zero]; rfl)
    case hQo35 => exact fun _ _ _ h => h
    case hyo35 => exact Or.inl ⟨by rfl, fun W hW => by go_simp⟩
    try simp only [Act.put, List.setIfInBounds_toArray, List.set_cons_zero, List.set_cons_succ]
    refine wpAnyH_ready (rs := [12]) (by kernel_rfl) (by simp) ?_
    refine AllReadyH.cons (o := ?o36) ?hoo36 (fun K hK => ?ho36) AllReadyH.nil
    case hoo36 => (simp only [List.getElem?_toArray, List.getElem?_cons_succ, List.getElem?_cons_zero]; rfl)
    case ho36 =>
      go_simp
      go_at_call 85
      refine (HA.out _).mono ?_
      rintro e w5 ⟨A5, c5, L5, rfl, s5, j5, hb5⟩
      have b5 := Below.on qk.1 qk.1.size hb5
      have k5 := qk.2.on hb5
      refine hK.out _ _ ⟨b5, k5⟩ (fun _ => ?_)
      clear hK K hb5
      try simp only [Act.put, List.setIfInBounds_toArray, List.set_cons_zero, List.set_cons_succ]
      refine wpAnyH_ready (rs := [13]) (by kernel_rfl) (by simp) ?_
      refine AllReadyH.cons (o := ?o23) ?hoo23 (fun K hK => ?ho23) AllReadyH.nil
      case hoo23 => (simp only [List.getElem?_toArray, List.getElem?_cons_succ, List.getElem?_cons_zero]; rfl)
      case ho23 =>
        go_simp
        go_at_call 84
        refine (HNF.out A5 c5 L5 _ s5 j5 b5).mono ?_
        rintro e w6 ⟨rfl, hb6⟩
        have b6 := Below.on b5 b5.size hb6
        have q6 : Below w.heap.size w w6 ∧ Blk w6 g1 42 M := ⟨b6, k5.on hb6⟩
        refine hK.out _ _ q6 (fun _ => ?_)
        clear hK K hb6
        try simp only [Act.put, List.setIfInBounds_toArray, List.set_cons_zero, List.set_cons_succ]
        refine wpAnyH_take (i := 14) (oi := ?o19) (v := .slice none 0 0) ?hio19 (by kernel_rfl) (by kernel_rfl) (by kernel_rfl) ?hQo19 ?hyo19 q6 ?_
        case hio19 => (simp only [List.getElem?_toArray, List.getElem?_cons_succ, List.getElem?_cons_zero]; rfl)
        case hQo19 => exact fun _ _ _ h => h
        case hyo19 => exact Or.inl ⟨by rfl, fun W hW => by go_simp⟩
        try simp only [Act.put, List.setIfInBounds_toArray, List.set_cons_zero, List.set_cons_succ]
        refine wpAnyH_take (i := 15) (oi := ?o20) (v := .int .i64 (FF : Int)) ?hio20 (by kernel_rfl) (by kernel_rfl) (by kernel_rfl) ?hQo20 ?hyo20 q6 ?_
        case hio20 => (simp only [List.getElem?_toArray, List.getElem?_cons_succ, List.getElem?_cons_zero]; rfl)
        case hQo20 => exact fun _ _ _ h => h
        case hyo20 => exact Or.inl ⟨by rfl, fun W hW => by go_simp⟩
        try simp only [Act.put, List.setIfInBounds_toArray, List.set_cons_zero, List.set_cons_succ]
        refine wpAnyH_take (i := 16) (oi := ?o21) (v := .slice none 0 0) ?hio21 (by kernel_rfl) (by kernel_rfl) (by kernel_rfl) ?hQo21 ?hyo21 q6 ?_
        case hio21 => (simp only [List.getElem?_toArray, List.getElem?_cons_succ, List.getElem?_cons_zero]; rfl)
        case hQo21 => exact fun _ _ _ h => h
        case hyo21 => exact Or.inl ⟨by rfl, fun W hW => by go_simp⟩
        try simp only [Act.put, List.setIfInBounds_toArray, List.set_cons_zero, List.set_cons_succ]
        refine wpAnyH_take (i := 17) (oi := ?o22) (v := .int .i64 (FF : Int)) ?hio22 (by kernel_rfl) (by kernel_rfl) (by kernel_rfl) ?hQo22 ?hyo22 q6 ?_
        case hio22 => (simp only [List.getElem?_toArray, List.getElem?_cons_succ, List.getElem?_cons_zero]; rfl)
        case hQo22 => exact fun _ _ _ h => h
        case hyo22 => exact Or.inl ⟨by rfl, fun W hW => by go_simp⟩
        try simp only [Act.put, List.setIfInBounds_toArray, List.set_cons_zero, List.set_cons_succ]
        refine wpAnyH_done (by kernel_rfl) ?_ _
        go_wp2
        go_ret2
        exact ⟨by rw [HF.out]; rfl, b6⟩

set_option maxHeartbeats 2000000 in
theorem read6_ok (A : Option Addr) (n c : Nat) (l : List UInt8) (w : World) (hn : n ≤ 100000) (hc : n ≤ c) (hcm : c ≤ maxLen) (hs : Shows w w.heap.size A n l) (hE : r6E l = 0) :
    Calls Try.prog 41 #[.slice A n c] w fun e w' => ∃ v, e = .returned (.tuple #[v, .int .i64 0]) ∧ Own w' w.heap.size v (tot6 l - 40 - 8) ((rest6 l).drop 8) ∧ Below w.heap.size w w' := by
  have hz := (zero_of_info Try.zeroHead).1
  have hne : ¬ zH = #[] := by intro h; have := zH_size; rw [h] at this; cases this
  have HP := Lib.hid (parse6_any A n c l w (by omega) hc hcm hs)
  have hl := hs.len
  have hsz := pH6_size l
  have o1 := pH6_one l
  have q0' : pE6 l = 0 := by
    unfold r6E at hE
    split at hE
    · assumption
    · exact hE
  obtain ⟨m1, m2, m8⟩ := pH6_cells q0'
  obtain ⟨f1, f2, f3⟩ := pE6_facts q0'
  rw [hl] at f1 f2
  obtain ⟨b, off, rfl, hbb, _⟩ := hs.2 (by omega)
  have HSr := Lib.hid (fun (W : World) (hW : Below w.heap.size w W) => rest6_shows ((hs.below hW).up hW.size) q0')
  have hrl := rest6_len q0'
  have ms : (Try.prog.info? 42).map (·.size) = some (pH6 l).size := by rw [hsz]; exact Try.infoHead
  have HA := Lib.hid (fun (W : World) => show Calls Try.prog 85 #[.agg (pH6 l), .int .i64 ((tot6 l - 40 : Nat) : Int)] W fun e w' => ∃ A c L, e = .returned (.slice A 4 c) ∧ Parts w' w'.heap.size A 4 L ∧ joinP L = pre6 (src6 l) (dst6 l) (tot6 l - 40) ∧ Below W.heap.size W w' by
    rw [pH6_eq q0']
    unfold hdL6 hd6
    exact ahead_any _ (src6 l) (dst6 l) rfl (src6_len (by omega)) (dst6_len (by omega)) (tot6 l - 40) (by omega) W)
  rw [q0'] at HP
  have hJl := pre6_len (src6 l) (dst6 l) (tot6 l - 40) (src6_len (by omega)) (dst6_len (by omega))
  have h40 : 40 ≤ tot6 l := by unfold tot6; omega
  have hF : pr6 l = 58 ∧ fE 1 0 (pre6 (src6 l) (dst6 l) (tot6 l - 40)) (rest6 l) = 0 := by
    unfold r6E at hE
    rw [if_pos q0'] at hE
    split at hE
    · exact ⟨by assumption, hE⟩
    · cases hE
  obtain ⟨e8, hF⟩ := hF
  rw [e8] at m8
  have m8' : (pH6 l)[8]? = some (.int .i64 58) := m8
  clear m8
  have m8 := m8'
  clear m8'
  have h8 : 8 ≤ tot6 l - 40 := by
    unfold fE at hF
    rw [hrl] at hF
    split at hF
    · cases hF
    · omega
  clear hs hE e8 q0' f3
  generalize rest6 l = R at *
  generalize pH6 l = M at *
  generalize pre6 (src6 l) (dst6 l) (tot6 l - 40) = J at *
  generalize tot6 l = T at *
  have q2 : ¬ c = 40 := by omega
  have iST : (40 : Int) ≤ (T : Int) := by omega
  have iTc : (T : Int) ≤ (c : Int) := by omega
  obtain ⟨KN, hKN⟩ : ∃ KN : Nat, T - 40 = KN := ⟨_, rfl⟩
  have hKi : (T : Int) - 40 = (KN : Int) := by omega
  rw [hKN] at HSr HA hrl h8
  have hKw : IntKind.i64.wrap (KN : Int) = (KN : Int) := wrap_id KN (by omega)
  rw [hKN]
  have iK : (KN : Int) ≤ 100000 := by omega
  have HNF := Lib.hid (fun (PA : Option Addr) (pc : Nat) (L : List Part) (W : World) (hp : Parts W W.heap.size PA 4 L) (hj : joinP L = J) (hW : Below w.heap.size w W) => nfront_ok 1 0 (by omega) (by omega) (some ⟨b, off + 40, none⟩) KN (c - 40) R PA 4 pc L W (by omega) (by omega) (by omega) (by omega) (by rw [hj, hJl]; omega) (HSr.out W hW) hp (by rw [hj]; exact hF))
  clear HSr hF hJl hrl
  generalize hD : R.drop 8 = D at *
  clear hD
  go_enter Try.func41, Try.ntmps41
  go_wp2_with fail
  refine HP.out.mono ?_
  rintro e w1 ⟨rfl, hb1⟩
  have b2 : Below w.heap.size w (w1.alloc (.cells M 42)) := hb1.alloc hb1.size _
  have k2 : Blk (w1.alloc (.cells M 42)) w1.heap.size 42 M := blk_new _ _ _
  generalize hg1 : w1.heap.size = g1 at *
  have c1 := (k2.cellA 1).trans m1
  have c2 := (k2.cellA 2).trans m2
  have c8 := (k2.cellA 8).trans m8
  go_wp2_with (first
      | (refine wpList_allocStore (cs := M) rfl rfl 42 ?ho (.tmp 4) (.tmp 9) ?ho2 Try.zeroHead ?hz ?hx ?hy ?hn ?h1 ?_
         case ho => with_reducible rfl
         case ho2 => rfl
         case hz => exact zH_size
         case hx => rfl
         case hy => rfl
         case hn => exact hsz
         case h1 => exact o1
         rw [hg1])
        | fail)
  generalize w1.alloc (.cells M 42) = W4 at *
  have qk : Below w.heap.size w W4.drew ∧ Blk W4.drew g1 42 M := ⟨b2.drew, k2⟩
  clear b2 k2 c1 c2 c8
  refine wp_region_held_drew (S := fun W => Below w.heap.size w W ∧ Blk W g1 42 M) (by kernel_rfl) qk ?_
  intro hS
  refine wpAnyH_take (i := 0) (oi := ?o42) (v := ?vo42) ?hio42 (by kernel_rfl) (by kernel_rfl) (by kernel_rfl) ?hQo42 ?hyo42 hS ?_
  case hio42 => (simp only [List.getElem?_toArray, List.getElem?_cons_succ, List.getElem?_cons_zero]; rfl)
  case hQo42 => exact fun _ _ _ h => h
  case hyo42 =>
    refine Or.inl ⟨by rfl, ?_⟩
    intro W hW
    go_simp
    first | done | with_reducible rfl
  try simp only [Act.put, List.setIfInBounds_toArray, List.set_cons_zero, List.set_cons_succ]
  refine wpAnyH_take (i := 1) (oi := ?o43) (v := ?vo43) ?hio43 (by kernel_rfl) (by kernel_rfl) (by kernel_rfl) ?hQo43 ?hyo43 hS ?_
  case hio43 => (simp only [List.getElem?_toArray, List.getElem?_cons_succ, List.getElem?_cons_zero]; rfl)
  case hQo43 => exact fun _ _ _ h => h
  case hyo43 =>
    refine Or.inl ⟨by rfl, ?_⟩
    intro W hW
    go_simp
    first | done | with_reducible rfl
  try simp only [Act.put, List.setIfInBounds_toArray, List.set_cons_zero, List.set_cons_succ]
  refine wpAnyH_take (i := 2) (oi := ?o44) (v := ?vo44) ?hio44 (by kernel_rfl) (by kernel_rfl) (by kernel_rfl) ?hQo44 ?hyo44 hS ?_
  case hio44 => (simp only [List.getElem?_toArray, List.getElem?_cons_succ, List.getElem?_cons_zero]; rfl)
  case hQo44 => exact fun _ _ _ h => h
  case hyo44 =>
    refine Or.inl ⟨by rfl, ?_⟩
    intro W hW
    have c1 := (hW.2.cellA 1).trans m1
    go_simp
    first | done | with_reducible rfl
  try simp only [Act.put, List.setIfInBounds_toArray, List.set_cons_zero, List.set_cons_succ]
  refine wpAnyH_take (i := 3) (oi := ?o45) (v := ?vo45) ?hio45 (by kernel_rfl) (by kernel_rfl) (by kernel_rfl) ?hQo45 ?hyo45 hS ?_
  case hio45 => (simp only [List.getElem?_toArray, List.getElem?_cons_succ, List.getElem?_cons_zero]; rfl)
  case hQo45 => exact fun _ _ _ h => h
  case hyo45 =>
    refine Or.inl ⟨by rfl, ?_⟩
    intro W hW
    go_simp
    first | done | with_reducible rfl
  try simp only [Act.put, List.setIfInBounds_toArray, List.set_cons_zero, List.set_cons_succ]
  refine wpAnyH_take (i := 4) (oi := ?o46) (v := ?vo46) ?hio46 (by kernel_rfl) (by kernel_rfl) (by kernel_rfl) ?hQo46 ?hyo46 hS ?_
  case hio46 => (simp only [List.getElem?_toArray, List.getElem?_cons_succ, List.getElem?_cons_zero]; rfl)
  case hQo46 => exact fun _ _ _ h => h
  case hyo46 =>
    refine Or.inl ⟨by rfl, ?_⟩
    intro W hW
    have c2 := (hW.2.cellA 2).trans m2
    go_simp
    first | done | with_reducible rfl
  try simp only [Act.put, List.setIfInBounds_toArray, List.set_cons_zero, List.set_cons_succ]
  refine wpAnyH_take (i := 5) (oi := ?o47) (v := ?vo47) ?hio47 (by kernel_rfl) (by kernel_rfl) (by kernel_rfl) ?hQo47 ?hyo47 hS ?_
  case hio47 => (simp only [List.getElem?_toArray, List.getElem?_cons_succ, List.getElem?_cons_zero]; rfl)
  case hQo47 => exact fun _ _ _ h => h
  case hyo47 =>
    refine Or.inl ⟨by rfl, ?_⟩
    intro W hW
    go_simp
    first | done | with_reducible rfl
  try simp only [Act.put, List.setIfInBounds_toArray, List.set_cons_zero, List.set_cons_succ]
  refine wpAnyH_take (i := 6) (oi := ?o48) (v := .agg M) ?hio48 (by kernel_rfl) (by kernel_rfl) (by kernel_rfl) ?hQo48 ?hyo48 hS ?_
  case hio48 => (simp only [List.getElem?_toArray, List.getElem?_cons_succ, List.getElem?_cons_zero]; rfl)
  case hQo48 => exact fun _ _ _ h => h
  case hyo48 => exact yieldsIf_load_mid (by rfl) 42 (.tmp 4) rfl g1 0 rfl M.toList _ (fun W hW => Blk.range0 hW.2) Try.underlying42 rfl (by simpa using ms)
  try simp only [Act.put, List.setIfInBounds_toArray, List.set_cons_zero, List.set_cons_succ]
  refine wpAnyH_take (i := 7) (oi := ?o49) (v := ?vo49) ?hio49 (by kernel_rfl) (by kernel_rfl) (by kernel_rfl) ?hQo49 ?hyo49 hS ?_
  case hio49 => (simp only [List.getElem?_toArray, List.getElem?_cons_succ, List.getElem?_cons_zero]; rfl)
  case hQo49 => exact fun _ _ _ h => h
  case hyo49 =>
    refine Or.inl ⟨by rfl, ?_⟩
    intro W hW
    go_simp
    first | done | with_reducible rfl
  try simp only [Act.put, List.setIfInBounds_toArray, List.set_cons_zero, List.set_cons_succ]
  refine wpAnyH_take (i := 8) (oi := ?o50) (v := ?vo50) ?hio50 (by kernel_rfl) (by kernel_rfl) (by kernel_rfl) ?hQo50 ?hyo50 hS ?_
  case hio50 => (simp only [List.getElem?_toArray, List.getElem?_cons_succ, List.getElem?_cons_zero]; rfl)
  case hQo50 => exact fun _ _ _ h => h
  case hyo50 =>
    refine Or.inl ⟨by rfl, ?_⟩
    intro W hW
    have c2 := (hW.2.cellA 2).trans m2
    go_simp
    first | done | with_reducible rfl
  try simp only [Act.put, List.setIfInBounds_toArray, List.set_cons_zero, List.set_cons_succ]
  refine wpAnyH_take (i := 9) (oi := ?o51) (v := ?vo51) ?hio51 (by kernel_rfl) (by kernel_rfl) (by kernel_rfl) ?hQo51 ?hyo51 hS ?_
  case hio51 => (simp only [List.getElem?_toArray, List.getElem?_cons_succ, List.getElem?_cons_zero]; rfl)
  case hQo51 => exact fun _ _ _ h => h
  case hyo51 =>
    refine Or.inl ⟨by rfl, ?_⟩
    intro W hW
    go_simp
    first | done | with_reducible rfl
  try simp only [Act.put, List.setIfInBounds_toArray, List.set_cons_zero, List.set_cons_succ]
  refine wpAnyH_take (i := 10) (oi := ?o52) (v := ?vo52) ?hio52 (by kernel_rfl) (by kernel_rfl) (by kernel_rfl) ?hQo52 ?hyo52 hS ?_
  case hio52 => (simp only [List.getElem?_toArray, List.getElem?_cons_succ, List.getElem?_cons_zero]; rfl)
  case hQo52 => exact fun _ _ _ h => h
  case hyo52 =>
    refine Or.inl ⟨by rfl, ?_⟩
    intro W hW
    have c1 := (hW.2.cellA 1).trans m1
    go_simp
    first | done | with_reducible rfl
  try simp only [Act.put, List.setIfInBounds_toArray, List.set_cons_zero, List.set_cons_succ]
  refine wpAnyH_take (i := 11) (oi := ?o53) (v := .int .i64 (KN : Int)) ?hio53 (by kernel_rfl) (by kernel_rfl) (by kernel_rfl) ?hQo53 ?hyo53 hS ?_
  case hio53 => (simp only [List.getElem?_toArray, List.getElem?_cons_succ, List.getElem?_cons_zero]; rfl)
  case hQo53 => exact fun _ _ _ h => h
  case hyo53 => exact Or.inl ⟨by rfl, fun W hW => by go_simp⟩
  try simp only [Act.put, List.setIfInBounds_toArray, List.set_cons_zero, List.set_cons_succ]
  refine wpAnyH_ready (rs := [12]) (by kernel_rfl) (by simp) ?_
  refine AllReadyH.cons (o := ?o54) ?hoo54 (fun K hK => ?ho54) AllReadyH.nil
  case hoo54 => (simp only [List.getElem?_toArray, List.getElem?_cons_succ, List.getElem?_cons_zero]; rfl)
  case ho54 =>
    go_simp
    go_at_call 85
    refine (HA.out _).mono ?_
    rintro e w5 ⟨A5, c5, L5, rfl, s5, j5, hb5⟩
    have b5 := Below.on qk.1 qk.1.size hb5
    have k5 := qk.2.on hb5
    refine hK.out _ _ ⟨b5, k5⟩ (fun _ => ?_)
    clear hK K hb5
    try simp only [Act.put, List.setIfInBounds_toArray, List.set_cons_zero, List.set_cons_succ]
    refine wpAnyH_ready (rs := [13]) (by kernel_rfl) (by simp) ?_
    refine AllReadyH.cons (o := ?o41) ?hoo41 (fun K hK => ?ho41) AllReadyH.nil
    case hoo41 => (simp only [List.getElem?_toArray, List.getElem?_cons_succ, List.getElem?_cons_zero]; rfl)
    case ho41 =>
      go_simp
      go_at_call 84
      refine (HNF.out A5 c5 L5 _ s5 j5 b5).mono ?_
      rintro e w6 ⟨v6, rfl, ho6, hb6⟩
      have b6 := Below.on b5 b5.size hb6
      have o6 := ho6.base (b' := w.heap.size) b5.size
      have q6 : Below w.heap.size w w6 ∧ Blk w6 g1 42 M := ⟨b6, k5.on hb6⟩
      refine hK.out _ _ q6 (fun _ => ?_)
      clear hK K hb6
      try simp only [Act.put, List.setIfInBounds_toArray, List.set_cons_zero, List.set_cons_succ]
      refine wpAnyH_take (i := 14) (oi := ?o37) (v := v6) ?hio37 (by kernel_rfl) (by kernel_rfl) (by kernel_rfl) ?hQo37 ?hyo37 q6 ?_
      case hio37 => (simp only [List.getElem?_toArray, List.getElem?_cons_succ, List.getElem?_cons_zero]; rfl)
      case hQo37 => exact fun _ _ _ h => h
      case hyo37 => exact Or.inl ⟨by rfl, fun W hW => by go_simp⟩
      try simp only [Act.put, List.setIfInBounds_toArray, List.set_cons_zero, List.set_cons_succ]
      refine wpAnyH_take (i := 15) (oi := ?o38) (v := .int .i64 0) ?hio38 (by kernel_rfl) (by kernel_rfl) (by kernel_rfl) ?hQo38 ?hyo38 q6 ?_
      case hio38 => (simp only [List.getElem?_toArray, List.getElem?_cons_succ, List.getElem?_cons_zero]; rfl)
      case hQo38 => exact fun _ _ _ h => h
      case hyo38 => exact Or.inl ⟨by rfl, fun W hW => by go_simp⟩
      try simp only [Act.put, List.setIfInBounds_toArray, List.set_cons_zero, List.set_cons_succ]
      refine wpAnyH_take (i := 16) (oi := ?o39) (v := v6) ?hio39 (by kernel_rfl) (by kernel_rfl) (by kernel_rfl) ?hQo39 ?hyo39 q6 ?_
      case hio39 => (simp only [List.getElem?_toArray, List.getElem?_cons_succ, List.getElem?_cons_zero]; rfl)
      case hQo39 => exact fun _ _ _ h => h
      case hyo39 => exact Or.inl ⟨by rfl, fun W hW => by go_simp⟩
      try simp only [Act.put, List.setIfInBounds_toArray, List.set_cons_zero, List.set_cons_succ]
      refine wpAnyH_take (i := 17) (oi := ?o40) (v := .int .i64 0) ?hio40 (by kernel_rfl) (by kernel_rfl) (by kernel_rfl) ?hQo40 ?hyo40 q6 ?_
      case hio40 => (simp only [List.getElem?_toArray, List.getElem?_cons_succ, List.getElem?_cons_zero]; rfl)
      case hQo40 => exact fun _ _ _ h => h
      case hyo40 => exact Or.inl ⟨by rfl, fun W hW => by go_simp⟩
      try simp only [Act.put, List.setIfInBounds_toArray, List.set_cons_zero, List.set_cons_succ]
      refine wpAnyH_done (by kernel_rfl) ?_ _
      go_wp2
      go_ret2
      exact ⟨v6, rfl, o6, b6⟩

end Go.Proofs.Ytkokgoodpibboaa

/- IxF -/
namespace Go.Proofs.Ytkokgoodpibboaa
open Go.RowKit
set_option maxRecDepth 100000
set_option linter.unusedSimpArgs false
set_option linter.unusedVariables false

/-- The message that a packet of family 6 did not arrive. -/
def msg6 (l : List UInt8) : List UInt8 := pkt6 0 0 64 58 (dst6 l) (src6 l) (noteL 1 0 (65535 - osum (pre6 (dst6 l) (src6 l) (8 + min l.length 1232) ++ noteL 1 0 0 (l.take (min l.length 1232)))) (l.take (min l.length 1232)))
theorem ksix {l : List UInt8} (hE : kE l = 0) (h6 : kX l 0 = 6) : pE6 l = 0 ∧ kH l = hdL6 l := by
  have h0 := kE_len hE
  unfold kE at hE
  rw [if_neg h0] at hE
  by_cases f4 : fam l = 4
  · rw [if_pos f4] at hE
    have := (pfour hE).2
    omega
  · rw [if_neg f4] at hE
    by_cases f6 : fam l = 6
    · rw [if_pos f6] at hE
      refine ⟨hE, ?_⟩
      unfold kH
      rw [if_neg h0, if_neg f4, if_pos f6]
      exact pH6_eq hE
    · rw [if_neg f6] at hE; cases hE
theorem psix {l : List UInt8} (hE : pE6 l = 0) : kE l = 0 ∧ kX l 0 = 6 := by
  obtain ⟨h40, _, hv⟩ := pE6_facts hE
  have f6 : fam l = 6 := by rw [fam_n1 l (by omega), hv]
  have eH : kH l = hdL6 l := by unfold kH; rw [if_neg (by omega), f6, if_neg (by omega), if_pos rfl]; exact pH6_eq hE
  refine ⟨by unfold kE; rw [if_neg (by omega), f6, if_neg (by omega), if_pos rfl]; exact hE, ?_⟩
  unfold kX
  rw [eH]
  unfold hdL6 hd6
  rw [hdv_num _ _ _ 0 _ rfl, hv]
  rfl

set_option maxHeartbeats 1000000 in
theorem unreach6_bad (A : Option Addr) (n c : Nat) (l : List UInt8) (w : World) (hn : n ≤ 60000) (hc : n ≤ c) (hcm : c ≤ maxLen) (hs : Shows w w.heap.size A n l) (hbad : ¬ (pE6 l = 0 ∧ kW l = true)) :
    Calls Try.prog 39 #[.slice A n c] w fun e w' => e = .returned (.tuple #[.slice none 0 0, .int .i64 1]) ∧ Below w.heap.size w w' := by
  have hz := (zero_of_info Try.zeroHead).1
  have hne : ¬ zH = #[] := by intro h; have := zH_size; rw [h] at this; cases this
  have HP := Lib.hid (parse6_any A n c l w (by omega) hc hcm hs)
  have HWh := Lib.hid (fun (W : World) (hW' : Below w.heap.size w W) => whole_any A n c l W (by omega) hc hcm ((hs.below hW').up hW'.size))
  have hsz := pH6_size l
  have o1 := pH6_one l
  clear hs
  generalize pH6 l = M at *
  by_cases q : ¬ pE6 l = 0
  · clear hbad HWh
    generalize pE6 l = E0 at *
    have d0 : decide ((E0 : Int) = 0) = false := decide_eq_false (by omega)
    have d0' : (((E0 : Int)) == 0) = false := by simp; omega
    have d0'' : (((E0 : Int)) != 0) = true := by simp; omega
    go_enter Try.func39, Try.ntmps39
    go_wp2_with fail
    refine HP.out.mono ?_
    rintro e w1 ⟨rfl, hb1⟩
    have b2 : Below w.heap.size w (w1.alloc (.cells M 42)) := hb1.alloc hb1.size _
    generalize hg1 : w1.heap.size = g1 at *
    go_wp2_with (first
      | (refine wpList_allocStore (cs := M) rfl rfl 42 ?ho (.tmp 4) (.tmp 11) ?ho2 Try.zeroHead ?hz ?hx ?hy ?hn ?h1 ?_
         case ho => with_reducible rfl
         case ho2 => rfl
         case hz => exact zH_size
         case hx => rfl
         case hy => rfl
         case hn => exact hsz
         case h1 => exact o1
         rw [hg1]))
    go_ret2
    exact ⟨rfl, b2⟩
  · have q0 : pE6 l = 0 := by omega
    rw [q0] at HP
    have hW : kW l = false := by
      cases h : kW l
      · rfl
      · exact absurd ⟨q0, h⟩ hbad
    rw [hW] at HWh
    clear hbad q q0 hW
    go_enter Try.func39, Try.ntmps39
    go_wp2_with fail
    refine HP.out.mono ?_
    rintro e w1 ⟨rfl, hb1⟩
    have b2 : Below w.heap.size w (w1.alloc (.cells M 42)) := hb1.alloc hb1.size _
    generalize hg1 : w1.heap.size = g1 at *
    go_wp2_with (first
      | (refine wpList_allocStore (cs := M) rfl rfl 42 ?ho (.tmp 4) (.tmp 11) ?ho2 Try.zeroHead ?hz ?hx ?hy ?hn ?h1 ?_
         case ho => with_reducible rfl
         case ho2 => rfl
         case hz => exact zH_size
         case hx => rfl
         case hy => rfl
         case hn => exact hsz
         case h1 => exact o1
         rw [hg1])
      | fail)
    refine (HWh.out _ b2).mono ?_
    rintro e w3 ⟨rfl, hb3⟩
    have b3 := Below.on b2 b2.size hb3
    clear b2 hb3
    go_wp2
    go_ret2
    exact ⟨rfl, b3⟩

set_option maxHeartbeats 1000000 in
theorem refUnreach6_bad (A : Option Addr) (n c : Nat) (l : List UInt8) (w : World) (hn : n ≤ 60000) (hc : n ≤ c) (hcm : c ≤ maxLen) (hs : Shows w w.heap.size A n l) (hbad : ¬ (pE6 l = 0 ∧ kW l = true)) :
    Calls Try.prog 40 #[.slice A n c] w fun e w' => e = .returned (.tuple #[.slice none 0 0, .bool false]) ∧ Below w.heap.size w w' := by
  have hz := (zero_of_info Try.zeroHead).1
  have hne : ¬ zH = #[] := by intro h; have := zH_size; rw [h] at this; cases this
  have HP := Lib.hid (krefParse_any A n c l w (by omega) hc hcm hs)
  have HWh := Lib.hid (fun (W : World) (hW' : Below w.heap.size w W) => refWhole_any A n c l W (by omega) hc hcm ((hs.below hW').up hW'.size))
  have hsz := kH_size l
  have o1 := kH_one l
  have m0 := kX_cell l 0 (by omega)
  clear hs
  by_cases q : kW l = true
  · have q4 : ¬ kX l 0 = 6 := fun h4 => hbad ⟨(ksix (kW_zero q) h4).1, q⟩
    rw [q] at HWh
    clear hbad q
    generalize kH l = M at *
    generalize kX l 0 = X at *
    have d0 : decide ((X : Int) = 6) = false := decide_eq_false (by omega)
    have d0' : (((X : Int)) == 6) = false := by simp; omega
    have d0'' : (((X : Int)) != 6) = true := by simp; omega
    go_enter Try.func40, Try.ntmps40
    go_wp2_with fail
    refine HP.out.mono ?_
    rintro e w1 ⟨rfl, hb1⟩
    have b2 : Below w.heap.size w (w1.alloc (.cells M 42)) := hb1.alloc hb1.size _
    have k2 : Blk (w1.alloc (.cells M 42)) w1.heap.size 42 M := blk_new _ _ _
    generalize hg1 : w1.heap.size = g1 at *
    go_wp2_with (first
      | (refine wpList_allocStore (cs := M) rfl rfl 42 ?ho (.tmp 4) (.tmp 14) ?ho2 Try.zeroHead ?hz ?hx ?hy ?hn ?h1 ?_
         case ho => with_reducible rfl
         case ho2 => rfl
         case hz => exact zH_size
         case hx => rfl
         case hy => rfl
         case hn => exact hsz
         case h1 => exact o1
         rw [hg1])
      | fail)
    refine (HWh.out _ b2).mono ?_
    rintro e w3 ⟨rfl, hb3⟩
    have b3 := Below.on b2 b2.size hb3
    have c0 := ((k2.on hb3).cellA 0).trans m0
    clear b2 hb3 k2
    go_wp2
    go_ret2
    exact ⟨rfl, b3⟩
  · have hW : kW l = false := by simpa using q
    rw [hW] at HWh
    clear hbad q hW
    generalize kH l = M at *
    go_enter Try.func40, Try.ntmps40
    go_wp2_with fail
    refine HP.out.mono ?_
    rintro e w1 ⟨rfl, hb1⟩
    have b2 : Below w.heap.size w (w1.alloc (.cells M 42)) := hb1.alloc hb1.size _
    generalize hg1 : w1.heap.size = g1 at *
    go_wp2_with (first
      | (refine wpList_allocStore (cs := M) rfl rfl 42 ?ho (.tmp 4) (.tmp 14) ?ho2 Try.zeroHead ?hz ?hx ?hy ?hn ?h1 ?_
         case ho => with_reducible rfl
         case ho2 => rfl
         case hz => exact zH_size
         case hx => rfl
         case hy => rfl
         case hn => exact hsz
         case h1 => exact o1
         rw [hg1])
      | fail)
    refine (HWh.out _ b2).mono ?_
    rintro e w3 ⟨rfl, hb3⟩
    have b3 := Below.on b2 b2.size hb3
    clear b2 hb3
    go_wp2
    go_ret2
    exact ⟨rfl, b3⟩

set_option maxHeartbeats 2000000 in
theorem unreach6_ok (A : Option Addr) (n c : Nat) (l : List UInt8) (w : World) (hn : n ≤ 60000) (hc : n ≤ c) (hcm : c ≤ maxLen) (hs : Shows w w.heap.size A n l) (hE : pE6 l = 0) (hW : kW l = true) :
    Calls Try.prog 39 #[.slice A n c] w fun e w' => ∃ v, e = .returned (.tuple #[v, .int .i64 0]) ∧ Own w' w.heap.size v (40 + (8 + min n 1232)) (msg6 l) ∧ Below w.heap.size w w' := by
  have hz := (zero_of_info Try.zeroHead).1
  have hne : ¬ zH = #[] := by intro h; have := zH_size; rw [h] at this; cases this
  have hl := hs.len
  obtain ⟨g40, f4, _⟩ := pE6_facts hE
  obtain ⟨b, off, rfl, hbb, _⟩ := hs.2 (by omega)
  have HP := Lib.hid (parse6_any (some ⟨b, off, none⟩) n c l w (by omega) hc hcm hs)
  have HWh := Lib.hid (fun (W : World) (hW' : Below w.heap.size w W) => whole_any (some ⟨b, off, none⟩) n c l W (by omega) hc hcm ((hs.below hW').up hW'.size))
  rw [hE] at HP
  rw [hW] at HWh
  have e : pH6 l = hdL6 l := pH6_eq hE
  rw [e] at HP
  have hsz := hdL6_size l (by omega)
  have o1 : ((hdL6 l).all fun x => x.oneCell') = true := by unfold hdL6 hd6; exact hdv_one _ _ _ _ _
  have ls := src6_len (l := l) (by omega)
  have ld := dst6_len (l := l) (by omega)
  have R1 := fun (W : World) (g : Nat) (h : Blk W g 42 (hdL6 l)) => show W.rangeAt g 9 (adv 6 (src6 l)).toList from by unfold hdL6 hd6 at h; exact hdv_src (by rfl) h
  have R2 := fun (W : World) (g : Nat) (h : Blk W g 42 (hdL6 l)) => show W.rangeAt g 26 (adv 6 (dst6 l)).toList from by unfold hdL6 hd6 at h; exact hdv_dst (by rfl) (adv_size _ _ ls) h
  have z1 := Adr_size 6 _ ls
  have z2 := Adr_size 6 _ ld
  have hm : min n 1232 ≤ n := Nat.min_le_left _ _
  have hm2 : min n 1232 ≤ 1232 := Nat.min_le_right _ _
  have emin : (if (1232 : Int) < (n : Int) then (1232 : Int) else (n : Int)) = ((min n 1232 : Nat) : Int) := by split <;> omega
  have HM := Lib.hid (show msg6 l = pkt6 0 0 64 58 (dst6 l) (src6 l) (noteL 1 0 (65535 - osum (pre6 (dst6 l) (src6 l) (8 + min n 1232) ++ noteL 1 0 0 (l.take (min n 1232)))) (l.take (min n 1232))) by unfold msg6; rw [hl])
  have HF := Lib.hid (fun (W : World) (hW' : Below w.heap.size w W) => show Shows W W.heap.size (some ⟨b, off, none⟩) (min n 1232) (l.take (min n 1232)) by simpa using ((hs.below hW').up hW'.size).piece 0 (min n 1232) (by omega))
  have HPut := Lib.hid (fun (A2 : Option Addr) (n2 c2 : Nat) (bl : List UInt8) (W : World) (h1 : n2 ≤ 65495) (h2 : Shows W W.heap.size A2 n2 bl) => put6_in 0 0 0 0 0 0 0 64 58 (dst6 l) (src6 l) ld ls A2 n2 c2 bl W h1 h2 (by omega) (by omega) (by omega) (by omega))
  have HA := Lib.hid (fun (k : Nat) (hk : k ≤ 100000) (W : World) => ahead_any [0, 0, 0, ((0 : Nat) : Int), ((0 : Nat) : Int), 0, 0, ((64 : Nat) : Int), ((58 : Nat) : Int)] (dst6 l) (src6 l) rfl ld ls k hk W)
  have hJl := pre6_len (dst6 l) (src6 l) (8 + min n 1232) ld ls
  obtain ⟨s0, s1, s2, s3, s4, s5, s6, s7, s8, s9, s10, s11, s12, s13, s14, s15, es⟩ := list16 _ ls
  obtain ⟨t0, t1, t2, t3, t4, t5, t6, t7, t8, t9, t10, t11, t12, t13, t14, t15, et⟩ := list16 _ ld
  have HX := Lib.hid (show adv 6 [s0, s1, s2, s3, s4, s5, s6, s7, s8, s9, s10, s11, s12, s13, s14, s15] = adv 6 (src6 l) by rw [es])
  have HY := Lib.hid (show adv 6 [t0, t1, t2, t3, t4, t5, t6, t7, t8, t9, t10, t11, t12, t13, t14, t15] = adv 6 (dst6 l) by rw [et])
  have oB := hdv_one [0, 0, 0, ((0 : Nat) : Int), ((0 : Nat) : Int), 0, 0, ((64 : Nat) : Int), ((58 : Nat) : Int)] 6 6 (dst6 l) (src6 l)
  have zB := hdv_size [0, 0, 0, ((0 : Nat) : Int), ((0 : Nat) : Int), 0, 0, ((64 : Nat) : Int), ((58 : Nat) : Int)] (adv 6 (dst6 l)) (adv 6 (src6 l)) rfl (adv_size _ _ ld) (adv_size _ _ ls)
  have msB : (Try.prog.info? 42).map (·.size) = some (hdv [0, 0, 0, ((0 : Nat) : Int), ((0 : Nat) : Int), 0, 0, ((64 : Nat) : Int), ((58 : Nat) : Int)] (adv 6 (dst6 l)) (adv 6 (src6 l))).size := by rw [zB]; exact Try.infoHead
  have hFl : (l.take (min n 1232)).length = min n 1232 := by simp; omega
  clear es et ls ld hs hE hW e g40 f4
  generalize hBKe : hdv [0, 0, 0, ((0 : Nat) : Int), ((0 : Nat) : Int), 0, 0, ((64 : Nat) : Int), ((58 : Nat) : Int)] (adv 6 (dst6 l)) (adv 6 (src6 l)) = BK at *
  have HBE := Lib.hid hBKe
  clear hBKe
  generalize hdL6 l = M at *
  generalize adv 6 (src6 l) = XS at *
  generalize adv 6 (dst6 l) = XD at *
  generalize l.take (min n 1232) = F at *
  generalize min n 1232 = m at *
  have hmi : (m : Int) ≤ (n : Int) := by omega
  have hmc : (m : Int) ≤ (c : Int) := by omega
  have hm0 : (0 : Int) ≤ (m : Int) := by omega
  obtain ⟨N8, hN8⟩ : ∃ N8 : Nat, 8 + m = N8 := ⟨_, rfl⟩
  have iN8 : (8 : Int) + (m : Int) = (N8 : Int) := by omega
  have wN8 : IntKind.i64.wrap (N8 : Int) = (N8 : Int) := wrap_id N8 (by omega)
  have hN8b : N8 ≤ 1240 := by omega
  rw [hN8] at HM hJl
  have HN8 := Lib.hid hN8
  have HN := Lib.hid (fun (PA : Option Addr) (pc : Nat) (L : List Part) (W : World) (hW' : Below w.heap.size w W) (hp : Parts W W.heap.size PA 4 L) (hj : joinP L = pre6 (dst6 l) (src6 l) N8) => show Calls Try.prog 82 #[bv 1, bv 0, .slice (some ⟨b, off, none⟩) m c, .slice PA 4 pc] W fun e w' => ∃ v, e = .returned v ∧ Own w' W.heap.size v N8 (noteL 1 0 (65535 - osum (pre6 (dst6 l) (src6 l) N8 ++ noteL 1 0 0 F)) F) ∧ Below W.heap.size W w' by
    have h := nbytes_any 1 0 (some ⟨b, off, none⟩) m c F PA 4 pc L W (by omega) (by omega) (by rw [hj, hJl]; omega) (HF.out W hW') hp
    rw [hj, hN8] at h
    exact h)
  clear hN8 hJl
  go_enter Try.func39, Try.ntmps39
  go_wp2_with fail
  refine HP.out.mono ?_
  rintro e w1 ⟨rfl, hb1⟩
  have b2 : Below w.heap.size w (w1.alloc (.cells M 42)) := hb1.alloc hb1.size _
  have k2 : Blk (w1.alloc (.cells M 42)) w1.heap.size 42 M := blk_new _ _ _
  generalize hg1 : w1.heap.size = g1 at *
  go_wp2_with (first
    | (refine wpList_allocStore (cs := M) rfl rfl 42 ?ho (.tmp 4) (.tmp 11) ?ho2 Try.zeroHead ?hz ?hx ?hy ?hn ?h1 ?_
       case ho => with_reducible rfl
       case ho2 => rfl
       case hz => exact zH_size
       case hx => rfl
       case hy => rfl
       case hn => exact hsz
       case h1 => exact o1
       rw [hg1])
    | fail)
  refine (HWh.out _ b2).mono ?_
  rintro e w3 ⟨rfl, hb3⟩
  have b3 := Below.on b2 b2.size hb3
  have k3 := k2.on hb3
  clear b2 k2 hb1 hb3 HP HWh
  have b4 : Below w.heap.size w (w3.alloc (.cells BK 42)) := b3.alloc b3.size _
  have k4 : Blk (w3.alloc (.cells BK 42)) w3.heap.size 42 BK := blk_new _ _ _
  generalize hg3 : w3.heap.size = g3 at *
  go_wp2_with (first
    | (refine wpList_loadPart (g := g1) rfl 32 (.tmp 20) ?ho 26 ?hx XD _ (R2 _ _ k3) Try.underlying32 rfl ?hi ?_
       case ho => with_reducible rfl
       case hx => rfl
       case hi => exact z2)
    | (refine wpList_loadPart (g := g1) rfl 32 (.tmp 22) ?ho 9 ?hx XS _ (R1 _ _ k3) Try.underlying32 rfl ?hi ?_
       case ho => with_reducible rfl
       case hx => rfl
       case hi => exact z1)
    | (refine wpList_build rfl 42 ?fs ?ho (.agg BK) ?hr ?_
       case ho => with_reducible rfl
       case hr =>
         intro W
         have e1 := HX.out
         have e2 := HY.out
         have e3 := HBE.out
         rw [← e3, ← e1, ← e2]
         change _ = _
         kernel_rfl)
    | (refine wpList_allocStore (cs := BK) rfl rfl 42 ?ho (.tmp 6) (.tmp 24) ?ho2 Try.zeroHead ?hz ?hx ?hy ?hn ?h1 ?_
       case ho => with_reducible rfl
       case ho2 => rfl
       case hz => exact zH_size
       case hx => rfl
       case hy => rfl
       case hn => exact zB
       case h1 => exact oB
       rw [hg3])
    | fail)
  generalize w3.alloc (.cells BK 42) = W4 at *
  have qk : Below w.heap.size w W4.drew ∧ Blk W4.drew g3 42 BK := ⟨b4.drew, k4⟩
  clear b4 k4 k3 R1 R2 z1 z2 b3
  refine wp_region_held_drew (S := fun W => Below w.heap.size w W ∧ Blk W g3 42 BK) (by kernel_rfl) qk ?_
  intro hS
  refine wpAnyH_take (i := 0) (oi := ?o1) (v := .agg BK) ?hio1 (by kernel_rfl) (by kernel_rfl) (by kernel_rfl) ?hQo1 ?hyo1 hS ?_
  case hio1 => (simp only [List.getElem?_toArray, List.getElem?_cons_succ, List.getElem?_cons_zero]; rfl)
  case hQo1 => exact fun _ _ _ h => h
  case hyo1 => exact yieldsIf_load_mid (by rfl) 42 (.tmp 6) rfl g3 0 rfl BK.toList _ (fun W hW => Blk.range0 hW.2) Try.underlying42 rfl (by simpa using msB)
  try simp only [Act.put, List.setIfInBounds_toArray, List.set_cons_zero, List.set_cons_succ]
  refine wpAnyH_take (i := 1) (oi := ?o2) (v := ?vo2) ?hio2 (by kernel_rfl) (by kernel_rfl) (by kernel_rfl) ?hQo2 ?hyo2 hS ?_
  case hio2 => (simp only [List.getElem?_toArray, List.getElem?_cons_succ, List.getElem?_cons_zero]; rfl)
  case hQo2 => exact fun _ _ _ h => h
  case hyo2 =>
    refine Or.inl ⟨by rfl, ?_⟩
    intro W hW
    go_simp
    first | done | with_reducible rfl
  try simp only [Act.put, List.setIfInBounds_toArray, List.set_cons_zero, List.set_cons_succ]
  refine wpAnyH_take (i := 2) (oi := ?o3) (v := .agg BK) ?hio3 (by kernel_rfl) (by kernel_rfl) (by kernel_rfl) ?hQo3 ?hyo3 hS ?_
  case hio3 => (simp only [List.getElem?_toArray, List.getElem?_cons_succ, List.getElem?_cons_zero]; rfl)
  case hQo3 => exact fun _ _ _ h => h
  case hyo3 => exact yieldsIf_load_mid (by rfl) 42 (.tmp 6) rfl g3 0 rfl BK.toList _ (fun W hW => Blk.range0 hW.2) Try.underlying42 rfl (by simpa using msB)
  try simp only [Act.put, List.setIfInBounds_toArray, List.set_cons_zero, List.set_cons_succ]
  refine wpAnyH_take (i := 3) (oi := ?o4) (v := ?vo4) ?hio4 (by kernel_rfl) (by kernel_rfl) (by kernel_rfl) ?hQo4 ?hyo4 hS ?_
  case hio4 => (simp only [List.getElem?_toArray, List.getElem?_cons_succ, List.getElem?_cons_zero]; rfl)
  case hQo4 => exact fun _ _ _ h => h
  case hyo4 =>
    refine Or.inl ⟨by rfl, ?_⟩
    intro W hW
    go_simp
    first | done | with_reducible rfl
  try simp only [Act.put, List.setIfInBounds_toArray, List.set_cons_zero, List.set_cons_succ]
  refine wpAnyH_take (i := 4) (oi := ?o5) (v := ?vo5) ?hio5 (by kernel_rfl) (by kernel_rfl) (by kernel_rfl) ?hQo5 ?hyo5 hS ?_
  case hio5 => (simp only [List.getElem?_toArray, List.getElem?_cons_succ, List.getElem?_cons_zero]; rfl)
  case hQo5 => exact fun _ _ _ h => h
  case hyo5 =>
    refine Or.inl ⟨by rfl, ?_⟩
    intro W hW
    go_simp
    first | done | with_reducible rfl
  try simp only [Act.put, List.setIfInBounds_toArray, List.set_cons_zero, List.set_cons_succ]
  refine wpAnyH_take (i := 5) (oi := ?o6) (v := .int .i64 (N8 : Int)) ?hio6 (by kernel_rfl) (by kernel_rfl) (by kernel_rfl) ?hQo6 ?hyo6 hS ?_
  case hio6 => (simp only [List.getElem?_toArray, List.getElem?_cons_succ, List.getElem?_cons_zero]; rfl)
  case hQo6 => exact fun _ _ _ h => h
  case hyo6 => exact Or.inl ⟨by rfl, fun W hW => by go_simp⟩
  try simp only [Act.put, List.setIfInBounds_toArray, List.set_cons_zero, List.set_cons_succ]
  refine wpAnyH_ready (rs := [6]) (by kernel_rfl) (by simp) ?_
  refine AllReadyH.cons (o := ?o13) ?hoo13 (fun K hK => ?ho13) AllReadyH.nil
  case hoo13 => (simp only [List.getElem?_toArray, List.getElem?_cons_succ, List.getElem?_cons_zero]; rfl)
  case ho13 =>
    go_simp
    go_at_call 85
    refine (HA.out N8 (by omega) _).mono ?_
    rintro e w5 ⟨A5, c5, L5, rfl, s5, j5, hb5⟩
    have b5 := Below.on qk.1 qk.1.size hb5
    have k5 := qk.2.on hb5
    refine hK.out _ _ ⟨b5, k5⟩ (fun _ => ?_)
    clear hK K hb5
    try simp only [Act.put, List.setIfInBounds_toArray, List.set_cons_zero, List.set_cons_succ]
    refine wpAnyH_ready (rs := [7]) (by kernel_rfl) (by simp) ?_
    refine AllReadyH.cons (o := ?o12) ?hoo12 (fun K hK => ?ho12) AllReadyH.nil
    case hoo12 => (simp only [List.getElem?_toArray, List.getElem?_cons_succ, List.getElem?_cons_zero]; rfl)
    case ho12 =>
      go_simp
      go_at_call 82
      refine (HN.out A5 c5 L5 _ b5 s5 j5).mono ?_
      rintro e w6 ⟨v6, rfl, ho6, hb6⟩
      obtain ⟨A6, c6, rfl, _, _, s6⟩ := ho6.shows
      have b6 := Below.on b5 b5.size hb6
      have k6 := k5.on hb6
      refine hK.out _ _ ⟨b6, k6⟩ (fun _ => ?_)
      clear hK K hb6 ho6
      try simp only [Act.put, List.setIfInBounds_toArray, List.set_cons_zero, List.set_cons_succ]
      refine wpAnyH_ready (rs := [8]) (by kernel_rfl) (by simp) ?_
      refine AllReadyH.cons (o := ?o11) ?hoo11 (fun K hK => ?ho11) AllReadyH.nil
      case hoo11 => (simp only [List.getElem?_toArray, List.getElem?_cons_succ, List.getElem?_cons_zero]; rfl)
      case ho11 =>
        go_simp
        go_at_call 29
        refine (HPut.out A6 N8 c6 _ _ (by omega) s6).mono ?_
        rintro e w7 ⟨v7, rfl, ho7, hb7⟩
        have b7 := Below.on b6 b6.size hb7
        have o7 := ho7.base (b' := w.heap.size) b6.size
        have q7 : Below w.heap.size w w7 ∧ Blk w7 g3 42 BK := ⟨b7, k6.on hb7⟩
        refine hK.out _ _ q7 (fun _ => ?_)
        clear hK K hb7 ho7
        try simp only [Act.put, List.setIfInBounds_toArray, List.set_cons_zero, List.set_cons_succ]
        refine wpAnyH_take (i := 9) (oi := ?o7) (v := v7) ?hio7 (by kernel_rfl) (by kernel_rfl) (by kernel_rfl) ?hQo7 ?hyo7 q7 ?_
        case hio7 => (simp only [List.getElem?_toArray, List.getElem?_cons_succ, List.getElem?_cons_zero]; rfl)
        case hQo7 => exact fun _ _ _ h => h
        case hyo7 => exact Or.inl ⟨by rfl, fun W hW => by go_simp⟩
        try simp only [Act.put, List.setIfInBounds_toArray, List.set_cons_zero, List.set_cons_succ]
        refine wpAnyH_take (i := 10) (oi := ?o8) (v := .int .i64 0) ?hio8 (by kernel_rfl) (by kernel_rfl) (by kernel_rfl) ?hQo8 ?hyo8 q7 ?_
        case hio8 => (simp only [List.getElem?_toArray, List.getElem?_cons_succ, List.getElem?_cons_zero]; rfl)
        case hQo8 => exact fun _ _ _ h => h
        case hyo8 => exact Or.inl ⟨by rfl, fun W hW => by go_simp⟩
        try simp only [Act.put, List.setIfInBounds_toArray, List.set_cons_zero, List.set_cons_succ]
        refine wpAnyH_take (i := 11) (oi := ?o9) (v := v7) ?hio9 (by kernel_rfl) (by kernel_rfl) (by kernel_rfl) ?hQo9 ?hyo9 q7 ?_
        case hio9 => (simp only [List.getElem?_toArray, List.getElem?_cons_succ, List.getElem?_cons_zero]; rfl)
        case hQo9 => exact fun _ _ _ h => h
        case hyo9 => exact Or.inl ⟨by rfl, fun W hW => by go_simp⟩
        try simp only [Act.put, List.setIfInBounds_toArray, List.set_cons_zero, List.set_cons_succ]
        refine wpAnyH_take (i := 12) (oi := ?o10) (v := .int .i64 0) ?hio10 (by kernel_rfl) (by kernel_rfl) (by kernel_rfl) ?hQo10 ?hyo10 q7 ?_
        case hio10 => (simp only [List.getElem?_toArray, List.getElem?_cons_succ, List.getElem?_cons_zero]; rfl)
        case hQo10 => exact fun _ _ _ h => h
        case hyo10 => exact Or.inl ⟨by rfl, fun W hW => by go_simp⟩
        try simp only [Act.put, List.setIfInBounds_toArray, List.set_cons_zero, List.set_cons_succ]
        refine wpAnyH_done (by kernel_rfl) ?_ _
        go_wp2
        go_ret2
        exact ⟨v7, rfl, by rw [HM.out, HN8.out]; exact o7, b7⟩

set_option maxHeartbeats 4000000 in
theorem refUnreach6_ok (A : Option Addr) (n c : Nat) (l : List UInt8) (w : World) (hn : n ≤ 60000) (hc : n ≤ c) (hcm : c ≤ maxLen) (hs : Shows w w.heap.size A n l) (hE : pE6 l = 0) (hW : kW l = true) :
    Calls Try.prog 40 #[.slice A n c] w fun e w' => ∃ v, e = .returned (.tuple #[v, .bool true]) ∧ Own w' w.heap.size v (40 + (8 + min n 1232)) (msg6 l) ∧ Below w.heap.size w w' := by
  have hz := (zero_of_info Try.zeroHead).1
  have hne : ¬ zH = #[] := by intro h; have := zH_size; rw [h] at this; cases this
  have hl := hs.len
  obtain ⟨g40, f4, _⟩ := pE6_facts hE
  obtain ⟨b, off, rfl, hbb, _⟩ := hs.2 (by omega)
  have HP := Lib.hid (krefParse_any (some ⟨b, off, none⟩) n c l w (by omega) hc hcm hs)
  have HWh := Lib.hid (fun (W : World) (hW' : Below w.heap.size w W) => refWhole_any (some ⟨b, off, none⟩) n c l W (by omega) hc hcm ((hs.below hW').up hW'.size))
  rw [(psix hE).1] at HP
  rw [hW] at HWh
  have e : kH l = hdL6 l := (ksix (psix hE).1 (psix hE).2).2
  rw [e] at HP
  have m0 : (hdL6 l)[0]? = some (.int .i64 6) := by rw [← e, kX_cell l 0 (by omega), (psix hE).2]; rfl
  have hsz := hdL6_size l (by omega)
  have o1 : ((hdL6 l).all fun x => x.oneCell') = true := by unfold hdL6 hd6; exact hdv_one _ _ _ _ _
  have ls := src6_len (l := l) (by omega)
  have ld := dst6_len (l := l) (by omega)
  have R1 := fun (W : World) (g : Nat) (h : Blk W g 42 (hdL6 l)) => show W.rangeAt g 9 (adv 6 (src6 l)).toList from by unfold hdL6 hd6 at h; exact hdv_src (by rfl) h
  have R2 := fun (W : World) (g : Nat) (h : Blk W g 42 (hdL6 l)) => show W.rangeAt g 26 (adv 6 (dst6 l)).toList from by unfold hdL6 hd6 at h; exact hdv_dst (by rfl) (adv_size _ _ ls) h
  have z1 := Adr_size 6 _ ls
  have z2 := Adr_size 6 _ ld
  have hm : min n 1232 ≤ n := Nat.min_le_left _ _
  have hm2 : min n 1232 ≤ 1232 := Nat.min_le_right _ _
  have emin : (if (1232 : Int) < (n : Int) then (1232 : Int) else (n : Int)) = ((min n 1232 : Nat) : Int) := by split <;> omega
  have HM := Lib.hid (show msg6 l = pkt6 0 0 64 58 (dst6 l) (src6 l) (noteL 1 0 (65535 - osum (pre6 (dst6 l) (src6 l) (8 + min n 1232) ++ noteL 1 0 0 (l.take (min n 1232)))) (l.take (min n 1232))) by unfold msg6; rw [hl])
  have HF := Lib.hid (fun (W : World) (hW' : Below w.heap.size w W) => show Shows W W.heap.size (some ⟨b, off, none⟩) (min n 1232) (l.take (min n 1232)) by simpa using ((hs.below hW').up hW'.size).piece 0 (min n 1232) (by omega))
  have HPut := Lib.hid (fun (A2 : Option Addr) (n2 c2 : Nat) (bl : List UInt8) (W : World) (h1 : n2 ≤ 65495) (h2 : Shows W W.heap.size A2 n2 bl) => refPut6_ok 0 0 0 0 0 0 0 64 58 (dst6 l) (src6 l) ld ls A2 n2 c2 bl W h1 h2 (by omega) (by omega) (by omega) (by omega))
  have HSm := Lib.hid (fun (A2 : Option Addr) (n2 c2 : Nat) (l2 : List UInt8) (W : World) (h1 : n2 ≤ 100000) (h2 : Shows W W.heap.size A2 n2 l2) => summed6 [0, 0, 0, ((0 : Nat) : Int), ((0 : Nat) : Int), 0, 0, ((64 : Nat) : Int), ((58 : Nat) : Int)] (dst6 l) (src6 l) rfl ld ls A2 n2 c2 l2 W h1 h2)
  obtain ⟨s0, s1, s2, s3, s4, s5, s6, s7, s8, s9, s10, s11, s12, s13, s14, s15, es⟩ := list16 _ ls
  obtain ⟨t0, t1, t2, t3, t4, t5, t6, t7, t8, t9, t10, t11, t12, t13, t14, t15, et⟩ := list16 _ ld
  have HX := Lib.hid (show adv 6 [s0, s1, s2, s3, s4, s5, s6, s7, s8, s9, s10, s11, s12, s13, s14, s15] = adv 6 (src6 l) by rw [es])
  have HY := Lib.hid (show adv 6 [t0, t1, t2, t3, t4, t5, t6, t7, t8, t9, t10, t11, t12, t13, t14, t15] = adv 6 (dst6 l) by rw [et])
  have oB := hdv_one [0, 0, 0, ((0 : Nat) : Int), ((0 : Nat) : Int), 0, 0, ((64 : Nat) : Int), ((58 : Nat) : Int)] 6 6 (dst6 l) (src6 l)
  have zB := hdv_size [0, 0, 0, ((0 : Nat) : Int), ((0 : Nat) : Int), 0, 0, ((64 : Nat) : Int), ((58 : Nat) : Int)] (adv 6 (dst6 l)) (adv 6 (src6 l)) rfl (adv_size _ _ ld) (adv_size _ _ ls)
  have msB : (Try.prog.info? 42).map (·.size) = some (hdv [0, 0, 0, ((0 : Nat) : Int), ((0 : Nat) : Int), 0, 0, ((64 : Nat) : Int), ((58 : Nat) : Int)] (adv 6 (dst6 l)) (adv 6 (src6 l))).size := by rw [zB]; exact Try.infoHead
  have hFl : (l.take (min n 1232)).length = min n 1232 := by simp; omega
  clear es et ls ld hs hE hW e g40 f4
  generalize hBKe : hdv [0, 0, 0, ((0 : Nat) : Int), ((0 : Nat) : Int), 0, 0, ((64 : Nat) : Int), ((58 : Nat) : Int)] (adv 6 (dst6 l)) (adv 6 (src6 l)) = BK at *
  have HBE := Lib.hid hBKe
  clear hBKe
  generalize hdL6 l = M at *
  generalize adv 6 (src6 l) = XS at *
  generalize adv 6 (dst6 l) = XD at *
  generalize l.take (min n 1232) = F at *
  generalize min n 1232 = m at *
  have hmi : (m : Int) ≤ (n : Int) := by omega
  have hmc : (m : Int) ≤ (c : Int) := by omega
  have hm0 : (0 : Int) ≤ (m : Int) := by omega
  go_enter Try.func40, Try.ntmps40
  go_wp2_with fail
  refine HP.out.mono ?_
  rintro e w1 ⟨rfl, hb1⟩
  have b2 : Below w.heap.size w (w1.alloc (.cells M 42)) := hb1.alloc hb1.size _
  have k2 : Blk (w1.alloc (.cells M 42)) w1.heap.size 42 M := blk_new _ _ _
  have lt2 : w1.heap.size < (w1.alloc (.cells M 42)).heap.size := by simp
  generalize hg1 : w1.heap.size = g1 at *
  go_wp2_with (first
    | (refine wpList_allocStore (cs := M) rfl rfl 42 ?ho (.tmp 4) (.tmp 14) ?ho2 Try.zeroHead ?hz ?hx ?hy ?hn ?h1 ?_
       case ho => with_reducible rfl
       case ho2 => rfl
       case hz => exact zH_size
       case hx => rfl
       case hy => rfl
       case hn => exact hsz
       case h1 => exact o1
       rw [hg1])
    | fail)
  refine (HWh.out _ b2).mono ?_
  rintro e w3 ⟨rfl, hb3⟩
  have b3 := Below.on b2 b2.size hb3
  have k3 := k2.on hb3
  have lt3 : g1 < w3.heap.size := by have := hb3.size; omega
  have c0 := (k3.cellA 0).trans m0
  clear b2 k2 hb1 hb3 HP HWh lt2
  have o4 : Own (w3.alloc (.cells #[.int .u8 1, .int .u8 0, .int .u8 0, .int .u8 0, .int .u8 0, .int .u8 0, .int .u8 0, .int .u8 0] 5)) w3.heap.size (.slice (some ⟨w3.heap.size, 0, none⟩) 8 8) 8 [1, 0, 0, 0, 0, 0, 0, 0] := own_lit w3 w3.heap.size 8 _ _ rfl (Nat.le_refl _) rfl (by omega)
  have b4 : Below w3.heap.size w3 (w3.alloc (.cells #[.int .u8 1, .int .u8 0, .int .u8 0, .int .u8 0, .int .u8 0, .int .u8 0, .int .u8 0, .int .u8 0] 5)) := (Below.refl _ _).alloc (Nat.le_refl _) _
  have sF := HF.out _ (Below.on b3 b3.size b4)
  go_wp2_with (first
    | (at_builtin; refine wpList_appAny _ rfl _ _ rfl w3.heap.size _ 8 _ rfl o4 (some ⟨b, off, none⟩) m c _ F rfl sF (by omega) b4.size ?_
       intro v5 w5 ho5 hg5
       have b5 : Below w3.heap.size w3 w5 := b4.grown hg5 b4.size (fun k hk => (o4.lt k hk).1)
       have k5 := k3.below b5 lt3
       have ho5' : Own w5 w3.heap.size v5 (8 + m) (noteL 1 0 0 F) := ho5
       clear hg5 o4 b4 sF ho5
       obtain ⟨g, cap, rfl, hg⟩ := ho5'.blk (by omega)
       have hgl := (ho5'.lt g rfl).2
       have b6 : Below w3.heap.size w3 (w5.alloc (.cells BK 42)) := b5.alloc b5.size _
       have k6 : Blk (w5.alloc (.cells BK 42)) w5.heap.size 42 BK := blk_new _ _ _
       have o6 : Own (w5.alloc (.cells BK 42)) w3.heap.size (.slice (some ⟨g, 0, none⟩) (8 + m) cap) (8 + m) (noteL 1 0 0 F) := ho5'.alloc _
       clear b5 ho5'
       have hgne : ¬ w5.heap.size = g := by omega
       generalize hg5e : w5.heap.size = g5 at *)
    | (refine wpList_loadPart (g := g1) rfl 32 (.tmp 31) ?ho 26 ?hx XD _ (R2 _ _ k5) Try.underlying32 rfl ?hi ?_
       case ho => with_reducible rfl
       case hx => rfl
       case hi => exact z2)
    | (refine wpList_loadPart (g := g1) rfl 32 (.tmp 33) ?ho 9 ?hx XS _ (R1 _ _ k5) Try.underlying32 rfl ?hi ?_
       case ho => with_reducible rfl
       case hx => rfl
       case hi => exact z1)
    | (refine wpList_build rfl 42 ?fs ?ho (.agg BK) ?hr ?_
       case ho => with_reducible rfl
       case hr =>
         intro W
         have e1 := HX.out
         have e2 := HY.out
         have e3 := HBE.out
         rw [← e3, ← e1, ← e2]
         change _ = _
         kernel_rfl)
    | (refine wpList_allocStore (cs := BK) rfl rfl 42 ?ho (.tmp 7) (.tmp 35) ?ho2 Try.zeroHead ?hz ?hx ?hy ?hn ?h1 ?_
       case ho => with_reducible rfl
       case ho2 => rfl
       case hz => exact zH_size
       case hx => rfl
       case hy => rfl
       case hn => exact zB
       case h1 => exact oB
       rw [hg5e])
    | (refine wpList_loadBlk (g := g5) (t := 42) (cs := BK) rfl 42 (.tmp 7) ?ho ?hx ?hA _ Try.underlying42 rfl ?hi ?_
       case ho => with_reducible rfl
       case hx => rfl
       case hA => exact k6
       case hi => exact msB)
    | fail)
  refine (HSm.out _ (8 + m) _ _ _ (by omega) o6.shown).mono ?_
  rintro e w7 ⟨v7, rfl, ho7, hb7⟩
  obtain ⟨A7, c7, rfl, _, _, s7⟩ := ho7.shows
  have k7 := k6.on hb7
  have b7 := Below.on b6 b6.size hb7
  have o7 := o6.keep hb7
  clear k6 b6 hb7 o6 k5
  have HK := Lib.hid (refCheck_any A7 (40 + (8 + m)) c7 (pre6 (dst6 l) (src6 l) (8 + m) ++ noteL 1 0 0 F) w7 (by omega) s7)
  clear s7 ho7
  have lck : 65535 - osum (pre6 (dst6 l) (src6 l) (8 + m) ++ noteL 1 0 0 F) ≤ 65535 := by omega
  generalize hck : 65535 - osum (pre6 (dst6 l) (src6 l) (8 + m) ++ noteL 1 0 0 F) = ck at *
  have HCK := Lib.hid hck
  clear hck
  have e1 : (UInt8.ofNat (ck / 256)).toNat = ck / 256 := by simp; omega
  have e2 : (UInt8.ofNat (ck % 256)).toNat = ck % 256 := by simp
  have HN := Lib.hid (noteL_set 1 0 ck F)
  generalize UInt8.ofNat (ck / 256) = x1 at *
  generalize UInt8.ofNat (ck % 256) = x2 at *
  have f1 : (ck : Int) / 256 % 256 = (x1.toNat : Int) := by omega
  have f1' : (ck : Int) / 256 = (x1.toNat : Int) := by omega
  have f2 : (ck : Int) % 256 = (x2.toNat : Int) := by omega
  have ick : (ck : Int) ≤ 65535 := by omega
  obtain ⟨old2, hold2, _⟩ := o7.at (j := 2) (by omega)
  have hfr2 := World.ownsRow.frozenAt o7 2
  have o8 := (o7.put 2 x1).1
  have b8 : Below w3.heap.size w3 (w7.setCell ⟨g, 2, none⟩ (bv x1)) := b7.grown (o7.put 2 x1).2 b7.size (fun k hk => by injection hk with hk; omega)
  have k8 := k7.other ⟨g, 2, none⟩ (bv x1) (by simpa using hgne)
  obtain ⟨old3, hold3, _⟩ := o8.at (j := 3) (by omega)
  have hfr3 := World.ownsRow.frozenAt o8 3
  have o9 := (o8.put 3 x2).1
  have b9 : Below w3.heap.size w3 ((w7.setCell ⟨g, 2, none⟩ (bv x1)).setCell ⟨g, 3, none⟩ (bv x2)) := b8.grown (o8.put 3 x2).2 b8.size (fun k hk => by injection hk with hk; omega)
  have k9 := k8.other ⟨g, 3, none⟩ (bv x2) (by simpa using hgne)
  rw [HN.out] at o9
  have i2 : (2 : Int) < 8 + (m : Int) := by omega
  have i3 : (3 : Int) < 8 + (m : Int) := by omega
  have s9 := o9.shown
  clear e1 e2 o8 b8 k8 b7 k7 o9
  go_wp2_with (first
    | (refine wpList_loadBlk (g := g5) (t := 42) (cs := BK) rfl 42 (.tmp 7) ?ho ?hx ?hA _ Try.underlying42 rfl ?hi ?_
       case ho => with_reducible rfl
       case hx => rfl
       case hA => exact k9
       case hi => exact msB)
    | (go_at_call 75
       refine HK.out.mono ?_
       rintro e wq ⟨rfl, rfl⟩)
    | fail)
  refine (HPut.out _ (8 + m) _ _ _ (by omega) s9).mono ?_
  rintro e w10 ⟨v10, rfl, ho10, hb10⟩
  have b10 := Below.on b9 b9.size hb10
  have o10 := ho10.base (b' := w.heap.size) (by have := b3.size; have := b9.size; omega)
  clear ho10 hb10 s9 b9 k9
  go_wp2
  go_ret2
  exact ⟨v10, rfl, by rw [HM.out]; exact o10, Below.on b3 b3.size b10⟩

end Go.Proofs.Ytkokgoodpibboaa

/- RfA -/
namespace Go.Proofs.Ytkokgoodpibboaa
open Go.RowKit
set_option maxRecDepth 100000
set_option linter.unusedSimpArgs false
set_option linter.unusedVariables false

/-- An address of nobody; of many. -/
def unsB (v : Int) (l : List UInt8) : Bool := (v == 4 && l == zb 4 ++ zb 12) || (v == 6 && l == zb 16)
def mulB (v : Int) (x : Nat) : Bool := if v = 6 then decide (x = 255) else decide (224 ≤ x ∧ x ≤ 239)

theorem eqlAny {P : Program} {w : World} {o : Oper} {a : Act} {ops : Array Oper} {rest : List Oper} {cs ds : Array Value} {b : Bool} {Q : Exit → Act → World → Prop} (hw : Region.wanted o (yielded ops a.tmps) = true) (ty rt : TypeId) (x y : Operand) (ho : o.op = .binOp .eql ty x y rt)
    (hx : a.eval x = .agg cs) (hy : a.eval y = .agg ds) (hm : P.eqGuardType P.depth ty = false) (he : ∀ w, (Op.equalIn 10000 ty (.agg cs) (.agg ds)).run P w = .ok b w)
    (h : wpList P ops Q rest (a.put o.dst (.bool b)) w) : wpList P ops Q (o :: rest) a w := by
  refine wpList_on hw ?_
  unfold Oper.wp execOp
  simp only [ho, hx, hy, Sem.run_bind, run_eqGuard_agg w .eql ty x y _ _ hm, Result.andThen_ok, run_eql_struct, he w, Sem.run_pure]
  exact h
theorem Try.infoA16 : (Try.prog.info? 30).map (·.size) = some 16 := by kernel_rfl
theorem Try.plainA16 : Try.prog.eqGuardType Try.prog.depth 30 = false := by kernel_rfl
theorem adr_e0 (l l' : List UInt8) (hl : l.length = 16) (hl' : l'.length = 16) (w : World) : (Op.equalIn 10000 30 (.agg (l.map bv).toArray) (.agg (l'.map bv).toArray)).run Try.prog w = .ok (l == l') w :=
  run_equalIn_bytes (P := Try.prog) w 9998 30 5 16 Try.underlying30 Try.underlying5 (fun w => by
    have hs := Try.sizeU8
    cases hq : Try.prog.info? 5 with
    | none => simp [hq] at hs
    | some i => simp [sizeOf, typeInfo, hq] at *; exact hs) l l' hl hl'

set_option maxHeartbeats 1000000 in
theorem uns_any (v : Int) (l : List UInt8) (hl : l.length = 16) (w : World) :
    Calls Try.prog 119 #[.agg (adv v l)] w fun e w' => e = .returned (.bool (unsB v l)) ∧ Below w.heap.size w w' := by
  have k0 : Blk (w.alloc (.cells (adv v l) 32)) w.heap.size 32 (adv v l) := blk_new _ _ _
  have hb0 : Below w.heap.size w (w.alloc (.cells (adv v l) 32)) := (Below.refl _ _).alloc (Nat.le_refl _) _
  have hz := Adr_size v l hl
  have HF := Lib.hid (fun W => four_any (zb 4) rfl W)
  have HS := Lib.hid (fun W => addrSix_any (zb 16) rfl W)
  have HE1 := Lib.hid (fun W => adr_eq v 4 l (zb 4 ++ zb 12) hl rfl W)
  have HE2 := Lib.hid (fun W => adr_eq v 6 l (zb 16) hl rfl W)
  have HU := Lib.hid (show unsB v l = ((v == 4 && l == zb 4 ++ zb 12) || (v == 6 && l == zb 16)) from rfl)
  generalize unsB v l = U at *
  generalize (v == 4 && l == zb 4 ++ zb 12) = B1 at *
  generalize (v == 6 && l == zb 16) = B2 at *
  generalize adv v l = X at *
  generalize adv 4 (zb 4 ++ zb 12) = X4 at *
  generalize adv 6 (zb 16) = X6 at *
  cases B1
  all_goals
    go_enter Try.func119, Try.ntmps119
    go_wp2_with fail
    have hup : ∀ W : World, Below (w.alloc (.cells X 32)).heap.size (w.alloc (.cells X 32)) W → Below w.heap.size w W := fun W hW => Below.on hb0 hb0.size hW
    generalize w.alloc (.cells X 32) = w2 at *
    generalize hg1 : w.heap.size = g1 at *
    refine wp_region_below w2.heap.size (by kernel_rfl) (by kernel_rfl) ?_
    repeat (first
      | go_big_quiet_skip
      | (go_big_quiet_want
         first
           | (refine qb_load (g := g1) (t := 32) (cs := X) 32 (.tmp 1) ?ho ?hx ?hA _ Try.underlying32 rfl hz ?_
              case ho => with_reducible rfl
              case hx => rfl
              case hA => exact fun w' hw' => k0.on hw'
              go_big_quiet_on
              simp only [Act.put, List.setIfInBounds_toArray, List.set_cons_succ, List.set_cons_zero])
           | (refine qe_eql (cs := X) (ds := X4) (b := false) 32 32 (.tmp 3) (.tmp 5) ?ho ?hx ?hy Try.plainAddr ?he ?_
              case ho => with_reducible rfl
              case hx => rfl
              case hy => rfl
              case he => exact HE1.out
              go_big_quiet_on
              simp only [Act.put, List.setIfInBounds_toArray, List.set_cons_succ, List.set_cons_zero])
           | (refine qe_eql (cs := X) (ds := X4) (b := true) 32 32 (.tmp 3) (.tmp 5) ?ho ?hx ?hy Try.plainAddr ?he ?_
              case ho => with_reducible rfl
              case hx => rfl
              case hy => rfl
              case he => exact HE1.out
              go_big_quiet_on
              simp only [Act.put, List.setIfInBounds_toArray, List.set_cons_succ, List.set_cons_zero])
           | (refine qe_eql (cs := X) (ds := X6) (b := B2) 32 32 (.tmp 8) (.tmp 10) ?ho ?hx ?hy Try.plainAddr ?he ?_
              case ho => with_reducible rfl
              case hx => rfl
              case hy => rfl
              case he => exact HE2.out
              go_big_quiet_on
              simp only [Act.put, List.setIfInBounds_toArray, List.set_cons_succ, List.set_cons_zero])
           | (go_big_quiet_op
              first
                | go_big_quiet_on
                | (with_reducible refine ⟨_, fun _ _ => rfl, ?_⟩; go_big_quiet_on)
                | (apply Exists.intro
                   refine ⟨fun w' hw' => ?_, ?_⟩
                   · (go_at_call 112; refine (HF.out _).mono ?_; exact fun _ _ h => ⟨h.1, Below.on hw' hw'.size h.2⟩)
                   go_big_quiet_on)
                | (apply Exists.intro
                   refine ⟨fun w' hw' => ?_, ?_⟩
                   · (go_at_call 115; refine (HS.out _).mono ?_; exact fun _ _ h => ⟨h.1, Below.on hw' hw'.size h.2⟩)
                   go_big_quiet_on))))
    refine wpQuiet_nil ?_
    intro w3 hw3
    go_wp2
    go_ret
    exact ⟨by rw [HU.out]; rfl, by rw [hg1]; exact hup _ hw3⟩

set_option maxHeartbeats 1000000 in
theorem refUns_any (v : Int) (l : List UInt8) (hl : l.length = 16) (hok : okA v l = true) (w : World) :
    Calls Try.prog 94 #[.agg (adv v l)] w fun e w' => e = .returned (.bool (l == zb 16)) ∧ Below w.heap.size w w' := by
  have k0 : Blk (w.alloc (.cells (adv v l) 32)) w.heap.size 32 (adv v l) := blk_new _ _ _
  have hb0 : Below w.heap.size w (w.alloc (.cells (adv v l) 32)) := (Below.refl _ _).alloc (Nat.le_refl _) _
  have hz := Adr_size v l hl
  have HR := Lib.hid (fun W => refRight_any v l hl W)
  rw [hok] at HR
  have hR1 := fun (W : World) (h : Blk W w.heap.size 32 (adv v l)) => show W.rangeAt w.heap.size 1 (l.map bv).toArray.toList by
    have := h.advRange 16 (by omega)
    rw [List.take_of_length_le (by omega)] at this
    exact this
  have HE := Lib.hid (fun W => adr_e0 l (zb 16) hl rfl W)
  have hsz : (Try.prog.info? 30).map (·.size) = some (l.map bv).toArray.size := by
    have : (l.map bv).toArray.size = 16 := by simp [hl]
    rw [this]; exact Try.infoA16
  generalize (l == zb 16) = B at *
  generalize (l.map bv).toArray = LB at *
  generalize adv v l = X at *
  go_enter Try.func94, Try.ntmps94
  go_wp2_with (first
    | (refine wpList_loadBlk (g := w.heap.size) (t := 32) (cs := X) rfl 32 (.tmp 1) ?ho ?hx ?hA _ Try.underlying32 rfl ?hi ?_
       case ho => with_reducible rfl
       case hx => rfl
       case hA => exact k0
       case hi => exact hz)
    | fail)
  refine (HR.out _).mono ?_
  rintro e w1 ⟨rfl, hb1⟩
  have k1 := k0.on hb1
  have b1 := Below.on hb0 hb0.size hb1
  clear k0 hb0 hb1 HR
  cases B
  all_goals
    go_wp2_with (first
      | (refine wpList_loadPart (g := w.heap.size) rfl 30 (.tmp 6) ?ho 1 ?hx LB _ (hR1 _ k1) Try.underlying30 rfl ?hi ?_
         case ho => with_reducible rfl
         case hx => rfl
         case hi => exact hsz)
      | (refine eqlAny (b := false) (cs := LB) (ds := ((zb 16).map bv).toArray) rfl 30 30 (.tmp 7) (.tmp 8) ?ho ?hx ?hy Try.plainA16 ?he ?_
         case ho => with_reducible rfl
         case hx => rfl
         case hy => rfl
         case he => exact HE.out)
      | (refine eqlAny (b := true) (cs := LB) (ds := ((zb 16).map bv).toArray) rfl 30 30 (.tmp 7) (.tmp 8) ?ho ?hx ?hy Try.plainA16 ?he ?_
         case ho => with_reducible rfl
         case hx => rfl
         case hy => rfl
         case he => exact HE.out))
    go_ret
    exact ⟨rfl, b1⟩

set_option maxHeartbeats 1000000 in
theorem mul_any (v : Int) (l : List UInt8) (hl : l.length = 16) (hok : okA v l = true) (hv : v = 4 ∨ v = 6) (w : World) :
    Calls Try.prog 120 #[.agg (adv v l)] w fun e w' => e = .returned (.bool (mulB v ((l[0]?).getD 0).toNat)) ∧ Below w.heap.size w w' := by
  have k0 : Blk (w.alloc (.cells (adv v l) 32)) w.heap.size 32 (adv v l) := blk_new _ _ _
  have hb0 : Below w.heap.size w (w.alloc (.cells (adv v l) 32)) := (Below.refl _ _).alloc (Nat.le_refl _) _
  have hz := Adr_size v l hl
  have HS := Lib.hid (fun W => size_any v l hl W)
  have m1 : (adv v l)[1]? = some (.int .u8 (((l[0]?).getD 0).toNat : Int)) := by
    have h0 : l[0]? = some l[0] := List.getElem?_eq_getElem (by omega)
    rw [h0]
    exact adv_b v l 0 _ h0
  have hx := ((l[0]?).getD 0).toNat_lt
  generalize ((l[0]?).getD 0).toNat = x at *
  rcases hv with rfl | rfl
  · have e0 : sizeA 4 l = 4 := by simp [sizeA, hok]
    rw [e0] at HS
    generalize adv 4 l = X at *
    have hM : mulB 4 x = decide (224 ≤ x ∧ x ≤ 239) := rfl
    have hd : decide ((x : Int) / 16 = 14) = mulB 4 x := by
      rw [hM]
      by_cases h : 224 ≤ x ∧ x ≤ 239
      · rw [decide_eq_true h, decide_eq_true (by omega)]
      · rw [decide_eq_false h, decide_eq_false (by omega)]
    have hd' : ((x : Int) / 16 == 14) = mulB 4 x := hd
    generalize mulB 4 x = MB at *
    go_enter Try.func120, Try.ntmps120
    go_wp2_with (first
      | (refine wpList_loadBlk (g := w.heap.size) (t := 32) (cs := X) rfl 32 (.tmp 1) ?ho ?hx ?hA _ Try.underlying32 rfl ?hi ?_
         case ho => with_reducible rfl
         case hx => rfl
         case hA => exact k0
         case hi => exact hz)
      | fail)
    refine (HS.out _).mono ?_
    rintro e w1 ⟨rfl, hb1⟩
    have k1 := k0.on hb1
    have b1 := Below.on hb0 hb0.size hb1
    have c1 := (k1.cellA 1).trans m1
    clear k0 hb0 hb1 HS hM
    go_wp2
    go_ret
    exact ⟨by first | rfl | rw [← hd] | rw [hd'] | rw [hd], b1⟩
  · have e0 : sizeA 6 l = 16 := by simp [sizeA, hok]
    rw [e0] at HS
    generalize adv 6 l = X at *
    have hd : decide ((x : Int) = 255) = mulB 6 x := by
      rw [show mulB 6 x = decide (x = 255) from rfl]
      by_cases h : x = 255
      · rw [decide_eq_true h, decide_eq_true (by omega)]
      · rw [decide_eq_false h, decide_eq_false (by omega)]
    have hd' : ((x : Int) == 255) = mulB 6 x := hd
    generalize mulB 6 x = MB at *
    go_enter Try.func120, Try.ntmps120
    go_wp2_with (first
      | (refine wpList_loadBlk (g := w.heap.size) (t := 32) (cs := X) rfl 32 (.tmp 1) ?ho ?hx ?hA _ Try.underlying32 rfl ?hi ?_
         case ho => with_reducible rfl
         case hx => rfl
         case hA => exact k0
         case hi => exact hz)
      | fail)
    refine (HS.out _).mono ?_
    rintro e w1 ⟨rfl, hb1⟩
    have k1 := k0.on hb1
    have b1 := Below.on hb0 hb0.size hb1
    have c1 := (k1.cellA 1).trans m1
    clear k0 hb0 hb1 HS
    go_wp2
    go_ret
    exact ⟨by first | rfl | rw [← hd] | rw [hd'] | rw [hd], b1⟩

set_option maxHeartbeats 1000000 in
theorem refMul_any (v : Int) (l : List UInt8) (hl : l.length = 16) (hok : okA v l = true) (hv : v = 4 ∨ v = 6) (w : World) :
    Calls Try.prog 95 #[.agg (adv v l)] w fun e w' => e = .returned (.bool (mulB v ((l[0]?).getD 0).toNat)) ∧ Below w.heap.size w w' := by
  have k0 : Blk (w.alloc (.cells (adv v l) 32)) w.heap.size 32 (adv v l) := blk_new _ _ _
  have hb0 : Below w.heap.size w (w.alloc (.cells (adv v l) 32)) := (Below.refl _ _).alloc (Nat.le_refl _) _
  have hz := Adr_size v l hl
  have HS := Lib.hid (fun W => refRight_any v l hl W)
  rw [hok] at HS
  have m1 : (adv v l)[1]? = some (.int .u8 (((l[0]?).getD 0).toNat : Int)) := by
    have h0 : l[0]? = some l[0] := List.getElem?_eq_getElem (by omega)
    rw [h0]
    exact adv_b v l 0 _ h0
  have m0 := adv_v v l
  have c0 := (k0.cellA 0).trans m0
  have cc1 := (k0.cellA 1).trans m1
  have hx := ((l[0]?).getD 0).toNat_lt
  generalize ((l[0]?).getD 0).toNat = x at *
  rcases hv with rfl | rfl
  · generalize adv 4 l = X at *
    have hM : mulB 4 x = decide (224 ≤ x ∧ x ≤ 239) := rfl
    by_cases h1 : 224 ≤ x
    · by_cases h2 : x ≤ 239
      · have hR : mulB 4 x = true := by rw [hM]; exact decide_eq_true ⟨h1, h2⟩
        have d1 : decide ((224 : Int) ≤ (x : Int)) = true := decide_eq_true (by omega)
        have d2 : decide ((x : Int) ≤ 239) = true := decide_eq_true (by omega)
        rw [hR]
        clear hM hR h1 h2
        go_enter Try.func95, Try.ntmps95
        go_wp2_with (first
          | (refine wpList_loadBlk (g := w.heap.size) (t := 32) (cs := X) rfl 32 (.tmp 1) ?ho ?hx ?hA _ Try.underlying32 rfl ?hi ?_
             case ho => with_reducible rfl
             case hx => rfl
             case hA => exact k0
             case hi => exact hz)
          | fail)
        refine (HS.out _).mono ?_
        rintro e w1 ⟨rfl, hb1⟩
        have b1 := Below.on hb0 hb0.size hb1
        have c1 := ((k0.on hb1).cellA 1).trans m1
        clear k0 hb0 hb1 HS
        go_wp2
        go_ret
        exact ⟨rfl, b1⟩
      · have hR : mulB 4 x = false := by rw [hM]; exact decide_eq_false (by omega)
        have d1 : decide ((224 : Int) ≤ (x : Int)) = true := decide_eq_true (by omega)
        have d2 : decide ((x : Int) ≤ 239) = false := decide_eq_false (by omega)
        rw [hR]
        clear hM hR h1 h2
        go_enter Try.func95, Try.ntmps95
        go_wp2_with (first
          | (refine wpList_loadBlk (g := w.heap.size) (t := 32) (cs := X) rfl 32 (.tmp 1) ?ho ?hx ?hA _ Try.underlying32 rfl ?hi ?_
             case ho => with_reducible rfl
             case hx => rfl
             case hA => exact k0
             case hi => exact hz)
          | fail)
        refine (HS.out _).mono ?_
        rintro e w1 ⟨rfl, hb1⟩
        have b1 := Below.on hb0 hb0.size hb1
        have c1 := ((k0.on hb1).cellA 1).trans m1
        clear k0 hb0 hb1 HS
        go_wp2
        go_ret
        exact ⟨rfl, b1⟩
    · have hR : mulB 4 x = false := by rw [hM]; exact decide_eq_false (by omega)
      have d1 : decide ((224 : Int) ≤ (x : Int)) = false := decide_eq_false (by omega)
      rw [hR]
      clear hM hR h1
      go_enter Try.func95, Try.ntmps95
      go_wp2_with (first
        | (refine wpList_loadBlk (g := w.heap.size) (t := 32) (cs := X) rfl 32 (.tmp 1) ?ho ?hx ?hA _ Try.underlying32 rfl ?hi ?_
           case ho => with_reducible rfl
           case hx => rfl
           case hA => exact k0
           case hi => exact hz)
        | fail)
      refine (HS.out _).mono ?_
      rintro e w1 ⟨rfl, hb1⟩
      have b1 := Below.on hb0 hb0.size hb1
      have c1 := ((k0.on hb1).cellA 1).trans m1
      clear k0 hb0 hb1 HS
      go_wp2
      go_ret
      exact ⟨rfl, b1⟩
  · generalize adv 6 l = X at *
    have hd : decide ((x : Int) = 255) = mulB 6 x := by
      rw [show mulB 6 x = decide (x = 255) from rfl]
      by_cases h : x = 255
      · rw [decide_eq_true h, decide_eq_true (by omega)]
      · rw [decide_eq_false h, decide_eq_false (by omega)]
    have hd' : ((x : Int) == 255) = mulB 6 x := hd
    generalize mulB 6 x = MB at *
    clear k0
    go_enter Try.func95, Try.ntmps95
    go_wp2
    go_ret
    exact ⟨by first | rfl | rw [← hd] | rw [hd'] | rw [hd], hb0⟩

end Go.Proofs.Ytkokgoodpibboaa

/- RfB -/
namespace Go.Proofs.Ytkokgoodpibboaa
open Go.RowKit
set_option maxRecDepth 100000
set_option linter.unusedSimpArgs false
set_option linter.unusedVariables false

/-- The addresses of a packet's head. -/
def kSrc (l : List UInt8) : List UInt8 := if kX l 0 = 4 then srcL l ++ zb 12 else src6 l
def kDst (l : List UInt8) : List UInt8 := if kX l 0 = 4 then dstL l ++ zb 12 else dst6 l
theorem khead {l : List UInt8} (h : kE l = 0) : ∃ xs, kH l = hdv xs (adv (kX l 0 : Int) (kSrc l)) (adv (kX l 0 : Int) (kDst l)) ∧ xs.length = 9 ∧ ((kX l 0 : Int) = 4 ∨ (kX l 0 : Int) = 6) ∧ (kSrc l).length = 16 ∧ (kDst l).length = 16 ∧ okA (kX l 0 : Int) (kSrc l) = true ∧ okA (kX l 0 : Int) (kDst l) = true := by
  rcases (kfacts h).2.2.2.2 with h4 | ⟨h6, _⟩
  · obtain ⟨hE, hH⟩ := kfour h h4
    obtain ⟨h20, _⟩ := pE_zero hE
    have e1 : (srcL l).length = 4 := by simp [srcL]; omega
    have e2 : (dstL l).length = 4 := by simp [dstL]; omega
    unfold kSrc kDst
    rw [hH, h4, if_pos rfl, if_pos rfl]
    unfold hdL hdN
    exact ⟨_, rfl, rfl, .inl rfl, by simp [zb, e1], by simp [zb, e2], by simp [okA, e1], by simp [okA, e2]⟩
  · obtain ⟨hE, hH⟩ := ksix h h6
    have h40 := pH6_len hE
    unfold kSrc kDst
    rw [hH, h6, if_neg (by omega), if_neg (by omega)]
    unfold hdL6 hd6
    exact ⟨_, rfl, rfl, .inr rfl, src6_len h40, dst6_len h40, by simp [okA], by simp [okA]⟩
theorem uns_eq (v : Int) (l : List UInt8) (hv : v = 4 ∨ v = 6) : unsB v l = (l == zb 16) := by
  unfold unsB
  rcases hv with rfl | rfl
  · rw [show zb 4 ++ zb 12 = zb 16 from rfl]; simp
  · simp
/-- Goes it from one to one? Is a message due? -/
def btwB (l : List UInt8) : Bool := !(kSrc l == zb 16) && (!(mulB (kX l 0) (byt (kSrc l) 0)) && !(mulB (kX l 0) (byt (kDst l) 0)))
def dueB (l : List UInt8) : Bool := kW l && (!(kI l) && (!(kL l) && btwB l))

set_option maxHeartbeats 2000000 in
theorem between_any (l : List UInt8) (hE : kE l = 0) (w : World) :
    Calls Try.prog 92 #[.agg (kH l)] w fun e w' => e = .returned (.bool (btwB l)) ∧ Below w.heap.size w w' := by
  obtain ⟨xs, hH, hx, hv, ls, ld, os, od⟩ := khead hE
  rw [hH]
  have k0 : Blk (w.alloc (.cells (hdv xs (adv (kX l 0 : Int) (kSrc l)) (adv (kX l 0 : Int) (kDst l))) 42)) w.heap.size 42 (hdv xs (adv (kX l 0 : Int) (kSrc l)) (adv (kX l 0 : Int) (kDst l))) := blk_new _ _ _
  have hb0 : Below w.heap.size w (w.alloc (.cells (hdv xs (adv (kX l 0 : Int) (kSrc l)) (adv (kX l 0 : Int) (kDst l))) 42)) := (Below.refl _ _).alloc (Nat.le_refl _) _
  obtain ⟨g0, hg0⟩ : ∃ g0, w.heap.size = g0 := ⟨_, rfl⟩
  have R1 := fun (W : World) (h : Blk W g0 42 (hdv xs (adv (kX l 0 : Int) (kSrc l)) (adv (kX l 0 : Int) (kDst l)))) => hdv_src hx h
  have R2 := fun (W : World) (h : Blk W g0 42 (hdv xs (adv (kX l 0 : Int) (kSrc l)) (adv (kX l 0 : Int) (kDst l)))) => hdv_dst hx (adv_size _ _ ls) h
  have z1 := Adr_size (kX l 0) _ ls
  have z2 := Adr_size (kX l 0) _ ld
  have HU := Lib.hid (fun W => uns_any (kX l 0) (kSrc l) ls W)
  have HM1 := Lib.hid (fun W => mul_any (kX l 0) (kSrc l) ls os hv W)
  have HM2 := Lib.hid (fun W => mul_any (kX l 0) (kDst l) ld od hv W)
  rw [uns_eq _ _ hv] at HU
  have HB := Lib.hid (show btwB l = (!(kSrc l == zb 16) && (!(mulB (kX l 0) ((kSrc l)[0]?.getD 0).toNat) && !(mulB (kX l 0) ((kDst l)[0]?.getD 0).toNat))) from rfl)
  rw [hg0] at k0
  clear hH os od
  generalize hdv xs (adv (kX l 0 : Int) (kSrc l)) (adv (kX l 0 : Int) (kDst l)) = M at *
  generalize adv (kX l 0 : Int) (kSrc l) = XS at *
  generalize adv (kX l 0 : Int) (kDst l) = XD at *
  generalize (kSrc l == zb 16) = BU at *
  generalize mulB (kX l 0) ((kSrc l)[0]?.getD 0).toNat = BM at *
  generalize mulB (kX l 0) ((kDst l)[0]?.getD 0).toNat = BD at *
  generalize btwB l = RB at *
  clear hv hx ls ld
  go_enter Try.func92, Try.ntmps92
  go_wp2_with (first
    | (refine wpList_loadPart (g := g0) rfl 32 (.tmp 3) ?ho 9 ?hx XS _ (R1 _ k0) Try.underlying32 rfl ?hi ?_
       case ho => with_reducible rfl
       case hx => rfl
       case hi => exact z1)
    | fail)
  refine (HU.out _).mono ?_
  rintro e v0 ⟨rfl, hv0⟩
  have kv0 := k0.on hv0
  have bv0 := Below.on hb0 hb0.size hv0
  clear hv0
  cases BU
  rotate_left
  · go_wp2
    go_ret
    exact ⟨by rw [HB.out]; rfl, bv0⟩
  go_wp2_with (first
    | (refine wpList_loadPart (g := g0) rfl 32 (.tmp 8) ?ho 9 ?hx XS _ (R1 _ kv0) Try.underlying32 rfl ?hi ?_
       case ho => with_reducible rfl
       case hx => rfl
       case hi => exact z1)
    | fail)
  refine (HM1.out _).mono ?_
  rintro e v1 ⟨rfl, hv1⟩
  have kv1 := kv0.on hv1
  have bv1 := Below.on bv0 bv0.size hv1
  clear hv1
  cases BM
  rotate_left
  · go_wp2
    go_ret
    exact ⟨by rw [HB.out]; rfl, bv1⟩
  go_wp2_with (first
    | (refine wpList_loadPart (g := g0) rfl 32 (.tmp 14) ?ho 26 ?hx XD _ (R2 _ kv1) Try.underlying32 rfl ?hi ?_
       case ho => with_reducible rfl
       case hx => rfl
       case hi => exact z2)
    | fail)
  refine (HM2.out _).mono ?_
  rintro e v2 ⟨rfl, hv2⟩
  have kv2 := kv1.on hv2
  have bv2 := Below.on bv1 bv1.size hv2
  clear hv2
  cases BD
  all_goals
    go_wp2
    go_ret
    exact ⟨by rw [HB.out]; rfl, bv2⟩

set_option maxHeartbeats 2000000 in
theorem due_any (A : Option Addr) (n c : Nat) (l : List UInt8) (w : World) (hn : n ≤ 100000) (hc : n ≤ c) (hcm : c ≤ maxLen) (hs : Shows w w.heap.size A n l) :
    Calls Try.prog 45 #[.slice A n c] w fun e w' => e = .returned (.bool (dueB l)) ∧ Below w.heap.size w w' := by
  have hz := (zero_of_info Try.zeroHead).1
  have hne : ¬ zH = #[] := by intro h; have := zH_size; rw [h] at this; cases this
  have hsz := kH_size l
  have o1 := kH_one l
  have ms : (Try.prog.info? 42).map (·.size) = some (kH l).size := by rw [hsz]; exact Try.infoHead
  have HP := Lib.hid (kparse_any A n c l w (by omega) hc hcm hs)
  have HWh := Lib.hid (fun (W : World) (hW' : Below w.heap.size w W) => whole_any A n c l W (by omega) hc hcm ((hs.below hW').up hW'.size))
  have HIs := Lib.hid (fun (W : World) (hW' : Below w.heap.size w W) => isErr_any A n c l W (by omega) hc hcm ((hs.below hW').up hW'.size))
  have HLa := Lib.hid (fun (W : World) (hW' : Below w.heap.size w W) => later_any A n c l W (by omega) hc hcm ((hs.below hW').up hW'.size))
  clear hs
  by_cases q : ¬ kE l = 0
  · have HB := Lib.hid (show dueB l = false by
      have : kW l = false := by
        cases h : kW l
        · rfl
        · exact absurd (kW_zero h) q
      unfold dueB; rw [this]; rfl)
    clear HWh HIs HLa
    generalize dueB l = RB at *
    generalize kH l = M at *
    generalize kE l = E0 at *
    have d0 : decide ((E0 : Int) = 0) = false := decide_eq_false (by omega)
    have d0' : (((E0 : Int)) == 0) = false := by simp; omega
    have d0'' : (((E0 : Int)) != 0) = true := by simp; omega
    go_enter Try.func45, Try.ntmps45
    go_wp2_with fail
    refine HP.out.mono ?_
    rintro e w1 ⟨rfl, hb1⟩
    have b2 : Below w.heap.size w (w1.alloc (.cells M 42)) := hb1.alloc hb1.size _
    have k2 : Blk (w1.alloc (.cells M 42)) w1.heap.size 42 M := blk_new _ _ _
    generalize hg1 : w1.heap.size = g1 at *
    go_wp2_with (first
        | (refine wpList_allocStore (cs := M) rfl rfl 42 ?ho (.tmp 3) (.tmp 8) ?ho2 Try.zeroHead ?hz ?hx ?hy ?hn ?h1 ?_
           case ho => with_reducible rfl
           case ho2 => rfl
           case hz => exact zH_size
           case hx => rfl
           case hy => rfl
           case hn => exact hsz
           case h1 => exact o1
           rw [hg1]))
    go_ret
    exact ⟨by rw [HB.out]; rfl, b2⟩
  have q0 : kE l = 0 := by omega
  rw [q0] at HP
  have HBt := Lib.hid (fun W => between_any l q0 W)
  clear q q0
  have HB := Lib.hid (show dueB l = (kW l && (!(kI l) && (!(kL l) && btwB l))) from rfl)
  generalize btwB l = RT at *
  generalize dueB l = RB at *
  generalize kH l = M at *
  generalize kI l = BI at *
  generalize kL l = BL at *
  generalize kW l = BW at *
  go_enter Try.func45, Try.ntmps45
  go_wp2_with fail
  refine HP.out.mono ?_
  rintro e w1 ⟨rfl, hb1⟩
  have b2 : Below w.heap.size w (w1.alloc (.cells M 42)) := hb1.alloc hb1.size _
  have k2 : Blk (w1.alloc (.cells M 42)) w1.heap.size 42 M := blk_new _ _ _
  generalize hg1 : w1.heap.size = g1 at *
  go_wp2_with (first
        | (refine wpList_allocStore (cs := M) rfl rfl 42 ?ho (.tmp 3) (.tmp 8) ?ho2 Try.zeroHead ?hz ?hx ?hy ?hn ?h1 ?_
           case ho => with_reducible rfl
           case ho2 => rfl
           case hz => exact zH_size
           case hx => rfl
           case hy => rfl
           case hn => exact hsz
           case h1 => exact o1
           rw [hg1])
        | fail)
  refine (HWh.out _ b2).mono ?_
  rintro e w3 ⟨rfl, hb3⟩
  have b3 := Below.on b2 b2.size hb3
  have k3 := k2.on hb3
  clear b2 k2 hb3
  cases BW
  · go_wp2
    go_ret
    exact ⟨by rw [HB.out]; rfl, b3⟩
  go_wp2_with fail
  refine (HIs.out _ b3).mono ?_
  rintro e w4 ⟨rfl, hb4⟩
  have b4 := Below.on b3 b3.size hb4
  have k4 := k3.on hb4
  clear b3 k3 hb4
  cases BI
  rotate_left
  · go_wp2
    go_ret
    exact ⟨by rw [HB.out]; rfl, b4⟩
  go_wp2_with fail
  refine (HLa.out _ b4).mono ?_
  rintro e w5 ⟨rfl, hb5⟩
  have b5 := Below.on b4 b4.size hb5
  have k5 := k4.on hb5
  clear b4 k4 hb5
  cases BL
  rotate_left
  · go_wp2
    go_ret
    exact ⟨by rw [HB.out]; rfl, b5⟩
  go_wp2_with (first
    | (refine wpList_loadBlk (g := g1) (t := 42) (cs := M) rfl 42 (.tmp 3) ?ho ?hx ?hA _ Try.underlying42 rfl ?hi ?_
       case ho => with_reducible rfl
       case hx => rfl
       case hA => exact k5
       case hi => exact ms)
    | fail)
  refine (HBt.out _).mono ?_
  rintro e w6 ⟨rfl, hb6⟩
  have b6 := Below.on b5 b5.size hb6
  clear b5 k5 hb6
  cases RT
  all_goals
    go_wp2
    go_ret
    exact ⟨by rw [HB.out]; rfl, b6⟩

set_option maxHeartbeats 2000000 in
theorem refDue_any (A : Option Addr) (n c : Nat) (l : List UInt8) (w : World) (hn : n ≤ 100000) (hc : n ≤ c) (hcm : c ≤ maxLen) (hs : Shows w w.heap.size A n l) :
    Calls Try.prog 46 #[.slice A n c] w fun e w' => e = .returned (.bool (dueB l)) ∧ Below w.heap.size w w' := by
  have hz := (zero_of_info Try.zeroHead).1
  have hne : ¬ zH = #[] := by intro h; have := zH_size; rw [h] at this; cases this
  have hsz := kH_size l
  have o1 := kH_one l
  have ms : (Try.prog.info? 42).map (·.size) = some (kH l).size := by rw [hsz]; exact Try.infoHead
  have HP := Lib.hid (krefParse_any A n c l w (by omega) hc hcm hs)
  have HWh := Lib.hid (fun (W : World) (hW' : Below w.heap.size w W) => refWhole_any A n c l W (by omega) hc hcm ((hs.below hW').up hW'.size))
  have HIs := Lib.hid (fun (W : World) (hW' : Below w.heap.size w W) => refIsErr_any A n c l W (by omega) hc hcm ((hs.below hW').up hW'.size))
  have HLa := Lib.hid (fun (W : World) (hW' : Below w.heap.size w W) => refLater_any A n c l W (by omega) hc hcm ((hs.below hW').up hW'.size))
  clear hs
  have HB := Lib.hid (show dueB l = (kW l && (!(kI l) && (!(kL l) && btwB l))) from rfl)
  by_cases qW : kW l = true
  · have hE := kW_zero qW
    obtain ⟨xs, hH, hx, hv, ls, ld, os, od⟩ := khead hE
    rw [hE] at HP
    rw [qW] at HWh
    clear hE
    have HB2 := Lib.hid (show btwB l = (!(kSrc l == zb 16) && (!(mulB (kX l 0) ((kSrc l)[0]?.getD 0).toNat) && !(mulB (kX l 0) ((kDst l)[0]?.getD 0).toNat))) from rfl)
    rw [qW] at HB
    have R1 := fun (g0 : Nat) (W : World) (h : Blk W g0 42 (kH l)) => show W.rangeAt g0 9 (adv (kX l 0 : Int) (kSrc l)).toList by rw [hH] at h; exact hdv_src hx h
    have R2 := fun (g0 : Nat) (W : World) (h : Blk W g0 42 (kH l)) => show W.rangeAt g0 26 (adv (kX l 0 : Int) (kDst l)).toList by rw [hH] at h; exact hdv_dst hx (adv_size _ _ ls) h
    have z1 := Adr_size (kX l 0) _ ls
    have z2 := Adr_size (kX l 0) _ ld
    have HU := Lib.hid (fun W => refUns_any (kX l 0) (kSrc l) ls os W)
    have HM1 := Lib.hid (fun W => refMul_any (kX l 0) (kSrc l) ls os hv W)
    have HM2 := Lib.hid (fun W => refMul_any (kX l 0) (kDst l) ld od hv W)
    clear hH os od hv hx ls ld qW
    generalize adv (kX l 0 : Int) (kSrc l) = XS at *
    generalize adv (kX l 0 : Int) (kDst l) = XD at *
    generalize (kSrc l == zb 16) = BU at *
    generalize mulB (kX l 0) ((kSrc l)[0]?.getD 0).toNat = BM at *
    generalize mulB (kX l 0) ((kDst l)[0]?.getD 0).toNat = BD at *
    generalize btwB l = RT at *
    generalize dueB l = RB at *
    generalize kH l = M at *
    generalize kI l = BI at *
    generalize kL l = BL at *
    go_enter Try.func46, Try.ntmps46
    go_wp2_with fail
    refine HP.out.mono ?_
    rintro e w1 ⟨rfl, hb1⟩
    have b2 : Below w.heap.size w (w1.alloc (.cells M 42)) := hb1.alloc hb1.size _
    have k2 : Blk (w1.alloc (.cells M 42)) w1.heap.size 42 M := blk_new _ _ _
    generalize hg1 : w1.heap.size = g1 at *
    go_wp2_with (first
        | (refine wpList_allocStore (cs := M) rfl rfl 42 ?ho (.tmp 3) (.tmp 8) ?ho2 Try.zeroHead ?hz ?hx ?hy ?hn ?h1 ?_
           case ho => with_reducible rfl
           case ho2 => rfl
           case hz => exact zH_size
           case hx => rfl
           case hy => rfl
           case hn => exact hsz
           case h1 => exact o1
           rw [hg1])
        | fail)
    refine (HWh.out _ b2).mono ?_
    rintro e w3 ⟨rfl, hb3⟩
    have b3 := Below.on b2 b2.size hb3
    have k3 := k2.on hb3
    clear b2 k2 hb3
    go_wp2_with fail
    refine (HIs.out _ b3).mono ?_
    rintro e w4 ⟨rfl, hb4⟩
    have b4 := Below.on b3 b3.size hb4
    have k4 := k3.on hb4
    clear b3 k3 hb4
    cases BI
    rotate_left
    · go_wp2
      go_ret
      exact ⟨by rw [HB.out]; rfl, b4⟩
    go_wp2_with fail
    refine (HLa.out _ b4).mono ?_
    rintro e w5 ⟨rfl, hb5⟩
    have b5 := Below.on b4 b4.size hb5
    have k5 := k4.on hb5
    clear b4 k4 hb5
    cases BL
    rotate_left
    · go_wp2
      go_ret
      exact ⟨by rw [HB.out]; rfl, b5⟩
    go_wp2_with (first
      | (refine wpList_loadPart (g := g1) rfl 32 (.tmp 21) ?ho 9 ?hx XS _ (R1 _ _ k5) Try.underlying32 rfl ?hi ?_
         case ho => with_reducible rfl
         case hx => rfl
         case hi => exact z1)
      | fail)
    refine (HU.out _).mono ?_
    rintro e v0 ⟨rfl, hv0⟩
    have kv0 := k5.on hv0
    have bv0 := Below.on b5 b5.size hv0
    clear hv0
    cases BU
    rotate_left
    · go_wp2
      go_ret
      exact ⟨by rw [HB.out, HB2.out]; rfl, bv0⟩
    go_wp2_with (first
      | (refine wpList_loadPart (g := g1) rfl 32 (.tmp 26) ?ho 9 ?hx XS _ (R1 _ _ kv0) Try.underlying32 rfl ?hi ?_
         case ho => with_reducible rfl
         case hx => rfl
         case hi => exact z1)
      | fail)
    refine (HM1.out _).mono ?_
    rintro e v1 ⟨rfl, hv1⟩
    have kv1 := kv0.on hv1
    have bv1 := Below.on bv0 bv0.size hv1
    clear hv1
    cases BM
    rotate_left
    · go_wp2
      go_ret
      exact ⟨by rw [HB.out, HB2.out]; rfl, bv1⟩
    go_wp2_with (first
      | (refine wpList_loadPart (g := g1) rfl 32 (.tmp 32) ?ho 26 ?hx XD _ (R2 _ _ kv1) Try.underlying32 rfl ?hi ?_
         case ho => with_reducible rfl
         case hx => rfl
         case hi => exact z2)
      | fail)
    refine (HM2.out _).mono ?_
    rintro e v2 ⟨rfl, hv2⟩
    have kv2 := kv1.on hv2
    have bv2 := Below.on bv1 bv1.size hv2
    clear hv2
    cases BD
    all_goals
      go_wp2
      go_ret
      exact ⟨by rw [HB.out, HB2.out]; rfl, bv2⟩
  · have hW : kW l = false := by simpa using qW
    rw [hW] at HWh HB
    clear qW hW HIs HLa
    generalize dueB l = RB at *
    generalize kH l = M at *
    go_enter Try.func46, Try.ntmps46
    go_wp2_with fail
    refine HP.out.mono ?_
    rintro e w1 ⟨rfl, hb1⟩
    have b2 : Below w.heap.size w (w1.alloc (.cells M 42)) := hb1.alloc hb1.size _
    have k2 : Blk (w1.alloc (.cells M 42)) w1.heap.size 42 M := blk_new _ _ _
    generalize hg1 : w1.heap.size = g1 at *
    go_wp2_with (first
        | (refine wpList_allocStore (cs := M) rfl rfl 42 ?ho (.tmp 3) (.tmp 8) ?ho2 Try.zeroHead ?hz ?hx ?hy ?hn ?h1 ?_
           case ho => with_reducible rfl
           case ho2 => rfl
           case hz => exact zH_size
           case hx => rfl
           case hy => rfl
           case hn => exact hsz
           case h1 => exact o1
           rw [hg1])
        | fail)
    refine (HWh.out _ b2).mono ?_
    rintro e w3 ⟨rfl, hb3⟩
    have b3 := Below.on b2 b2.size hb3
    clear b2 k2 hb3
    go_wp2
    go_ret
    exact ⟨by rw [HB.out]; rfl, b3⟩

end Go.Proofs.Ytkokgoodpibboaa

/- RfC -/
namespace Go.Proofs.Ytkokgoodpibboaa
open Go.RowKit
set_option maxRecDepth 100000
set_option linter.unusedSimpArgs false
set_option linter.unusedVariables false

/-- The message that answers a packet, and how many bytes it has. -/
def ansL (l : List UInt8) : List UInt8 := if kX l 0 = 4 then msg4 l else msg6 l
def ansN (l : List UInt8) : Nat := if kX l 0 = 4 then 20 + (8 + min l.length 548) else 40 + (8 + min l.length 1232)
theorem due_whole {l : List UInt8} (h : dueB l = true) : kW l = true := by
  unfold dueB at h
  cases hw : kW l
  · rw [hw] at h; cases h
  · rfl
theorem ansN_le (l : List UInt8) : ansN l ≤ 1280 := by
  unfold ansN
  have h1 : min l.length 548 ≤ 548 := Nat.min_le_right _ _
  have h2 : min l.length 1232 ≤ 1232 := Nat.min_le_right _ _
  split <;> omega

theorem ans_no (A : Option Addr) (n c : Nat) (l : List UInt8) (w : World) (hn : n ≤ 60000) (hc : n ≤ c) (hcm : c ≤ maxLen) (hs : Shows w w.heap.size A n l) (hd : dueB l = false) :
    Calls Try.prog 44 #[.slice A n c] w fun e w' => e = .returned (.tuple #[.slice none 0 0, .bool false]) ∧ Below w.heap.size w w' := by
  have HD := Lib.hid (due_any A n c l w (by omega) hc hcm hs)
  rw [hd] at HD
  clear hs hd
  go_enter Try.func44, Try.ntmps44
  go_wp2_with fail
  refine HD.out.mono ?_
  rintro e w1 ⟨rfl, hb1⟩
  go_wp2
  go_ret2
  exact ⟨rfl, hb1⟩

set_option maxHeartbeats 2000000 in
theorem ans_yes (A : Option Addr) (n c : Nat) (l : List UInt8) (w : World) (hn : n ≤ 60000) (hc : n ≤ c) (hcm : c ≤ maxLen) (hs : Shows w w.heap.size A n l) (hd : dueB l = true) :
    Calls Try.prog 44 #[.slice A n c] w fun e w' => ∃ v, e = .returned (.tuple #[v, .bool true]) ∧ Own w' w.heap.size v (ansN l) (ansL l) ∧ Below w.heap.size w w' := by
  have hz := (zero_of_info Try.zeroHead).1
  have hne : ¬ zH = #[] := by intro h; have := zH_size; rw [h] at this; cases this
  have hl := hs.len
  have hW := due_whole hd
  have hE := kW_zero hW
  have HD := Lib.hid (due_any A n c l w (by omega) hc hcm hs)
  rw [hd] at HD
  clear hd
  have HP := Lib.hid (fun (W : World) (hW' : Below w.heap.size w W) => kparse_any A n c l W (by omega) hc hcm ((hs.below hW').up hW'.size))
  rw [hE] at HP
  have hsz := kH_size l
  have o1 := kH_one l
  have m0 := kX_cell l 0 (by omega)
  rcases (kfacts hE).2.2.2.2 with h4 | ⟨h6, _⟩
  · have pE0 := (kfour hE h4).1
    have HUn := Lib.hid (fun (W : World) (hW' : Below w.heap.size w W) => unreach4_ok A n c l W hn hc hcm ((hs.below hW').up hW'.size) pE0 hW)
    have eL : ansL l = msg4 l := by unfold ansL; rw [if_pos h4]
    have eN : ansN l = 20 + (8 + min n 548) := by unfold ansN; rw [if_pos h4, hl]
    rw [eL, eN]
    rw [h4] at m0
    have m0' : (kH l)[0]? = some (.int .i64 4) := m0
    clear m0 eL eN pE0 hs hE hW h4
    generalize kH l = M at *
    generalize msg4 l = ML at *
    generalize 20 + (8 + min n 548) = N at *
    go_enter Try.func44, Try.ntmps44
    go_wp2_with fail
    refine HD.out.mono ?_
    rintro e w0 ⟨rfl, hb0⟩
    go_wp2_with fail
    refine (HP.out _ hb0).mono ?_
    rintro e w1 ⟨rfl, hb1⟩
    have b1 := Below.on hb0 hb0.size hb1
    have b2 : Below w.heap.size w (w1.alloc (.cells M 42)) := b1.alloc b1.size _
    have k2 : Blk (w1.alloc (.cells M 42)) w1.heap.size 42 M := blk_new _ _ _
    have c0 := (k2.cellA 0).trans m0'
    clear b1 hb1 hb0
    generalize hg1 : w1.heap.size = g1 at *
    go_wp2_with (first
      | (refine wpList_allocStore (cs := M) rfl rfl 42 ?ho (.tmp 5) (.tmp 15) ?ho2 Try.zeroHead ?hz ?hx ?hy ?hn ?h1 ?_
         case ho => with_reducible rfl
         case ho2 => rfl
         case hz => exact zH_size
         case hx => rfl
         case hy => rfl
         case hn => exact hsz
         case h1 => exact o1
         rw [hg1])
      | fail)
    refine (HUn.out _ b2).mono ?_
    rintro e w3 ⟨v3, rfl, ho3, hb3⟩
    have b3 := Below.on b2 b2.size hb3
    have o3 := ho3.base (b' := w.heap.size) b2.size
    clear b2 k2 hb3 ho3 c0
    go_wp2
    go_ret2
    exact ⟨v3, rfl, o3, b3⟩
  · have pE0 := (ksix hE h6).1
    have HUn := Lib.hid (fun (W : World) (hW' : Below w.heap.size w W) => unreach6_ok A n c l W hn hc hcm ((hs.below hW').up hW'.size) pE0 hW)
    have eL : ansL l = msg6 l := by unfold ansL; rw [if_neg (by omega)]
    have eN : ansN l = 40 + (8 + min n 1232) := by unfold ansN; rw [if_neg (by omega), hl]
    rw [eL, eN]
    rw [h6] at m0
    have m0' : (kH l)[0]? = some (.int .i64 6) := m0
    clear m0 eL eN pE0 hs hE hW h6
    generalize kH l = M at *
    generalize msg6 l = ML at *
    generalize 40 + (8 + min n 1232) = N at *
    go_enter Try.func44, Try.ntmps44
    go_wp2_with fail
    refine HD.out.mono ?_
    rintro e w0 ⟨rfl, hb0⟩
    go_wp2_with fail
    refine (HP.out _ hb0).mono ?_
    rintro e w1 ⟨rfl, hb1⟩
    have b1 := Below.on hb0 hb0.size hb1
    have b2 : Below w.heap.size w (w1.alloc (.cells M 42)) := b1.alloc b1.size _
    have k2 : Blk (w1.alloc (.cells M 42)) w1.heap.size 42 M := blk_new _ _ _
    have c0 := (k2.cellA 0).trans m0'
    clear b1 hb1 hb0
    generalize hg1 : w1.heap.size = g1 at *
    go_wp2_with (first
      | (refine wpList_allocStore (cs := M) rfl rfl 42 ?ho (.tmp 5) (.tmp 15) ?ho2 Try.zeroHead ?hz ?hx ?hy ?hn ?h1 ?_
         case ho => with_reducible rfl
         case ho2 => rfl
         case hz => exact zH_size
         case hx => rfl
         case hy => rfl
         case hn => exact hsz
         case h1 => exact o1
         rw [hg1])
      | fail)
    refine (HUn.out _ b2).mono ?_
    rintro e w3 ⟨v3, rfl, ho3, hb3⟩
    have b3 := Below.on b2 b2.size hb3
    have o3 := ho3.base (b' := w.heap.size) b2.size
    clear b2 k2 hb3 ho3 c0
    go_wp2
    go_ret2
    exact ⟨v3, rfl, o3, b3⟩

theorem refAns_no (A : Option Addr) (n c : Nat) (l : List UInt8) (w : World) (hn : n ≤ 60000) (hc : n ≤ c) (hcm : c ≤ maxLen) (hs : Shows w w.heap.size A n l) (hd : dueB l = false) :
    Calls Try.prog 47 #[.slice A n c] w fun e w' => e = .returned (.slice none 0 0) ∧ Below w.heap.size w w' := by
  have HD := Lib.hid (refDue_any A n c l w (by omega) hc hcm hs)
  rw [hd] at HD
  clear hs hd
  go_enter Try.func47, Try.ntmps47
  go_wp2_with fail
  refine HD.out.mono ?_
  rintro e w1 ⟨rfl, hb1⟩
  go_wp2
  go_ret
  exact ⟨rfl, hb1⟩

set_option maxHeartbeats 2000000 in
theorem refAns_yes (A : Option Addr) (n c : Nat) (l : List UInt8) (w : World) (hn : n ≤ 60000) (hc : n ≤ c) (hcm : c ≤ maxLen) (hs : Shows w w.heap.size A n l) (hd : dueB l = true) :
    Calls Try.prog 47 #[.slice A n c] w fun e w' => ∃ v, e = .returned v ∧ Own w' w.heap.size v (ansN l) (ansL l) ∧ Below w.heap.size w w' := by
  have hz := (zero_of_info Try.zeroHead).1
  have hne : ¬ zH = #[] := by intro h; have := zH_size; rw [h] at this; cases this
  have hl := hs.len
  have hW := due_whole hd
  have hE := kW_zero hW
  have HD := Lib.hid (refDue_any A n c l w (by omega) hc hcm hs)
  rw [hd] at HD
  clear hd
  have HP := Lib.hid (fun (W : World) (hW' : Below w.heap.size w W) => krefParse_any A n c l W (by omega) hc hcm ((hs.below hW').up hW'.size))
  rw [hE] at HP
  have hsz := kH_size l
  have o1 := kH_one l
  have m0 := kX_cell l 0 (by omega)
  rcases (kfacts hE).2.2.2.2 with h4 | ⟨h6, _⟩
  · have pE0 := (kfour hE h4).1
    have HUn := Lib.hid (fun (W : World) (hW' : Below w.heap.size w W) => refUnreach4_ok A n c l W hn hc hcm ((hs.below hW').up hW'.size) pE0 hW)
    have eL : ansL l = msg4 l := by unfold ansL; rw [if_pos h4]
    have eN : ansN l = 20 + (8 + min n 548) := by unfold ansN; rw [if_pos h4, hl]
    rw [eL, eN]
    rw [h4] at m0
    have m0' : (kH l)[0]? = some (.int .i64 4) := m0
    clear m0 eL eN pE0 hs hE hW h4
    generalize kH l = M at *
    generalize msg4 l = ML at *
    generalize 20 + (8 + min n 548) = N at *
    go_enter Try.func47, Try.ntmps47
    go_wp2_with fail
    refine HD.out.mono ?_
    rintro e w0 ⟨rfl, hb0⟩
    go_wp2_with fail
    refine (HP.out _ hb0).mono ?_
    rintro e w1 ⟨rfl, hb1⟩
    have b1 := Below.on hb0 hb0.size hb1
    have b2 : Below w.heap.size w (w1.alloc (.cells M 42)) := b1.alloc b1.size _
    have k2 : Blk (w1.alloc (.cells M 42)) w1.heap.size 42 M := blk_new _ _ _
    have c0 := (k2.cellA 0).trans m0'
    clear b1 hb1 hb0
    generalize hg1 : w1.heap.size = g1 at *
    go_wp2_with (first
      | (refine wpList_allocStore (cs := M) rfl rfl 42 ?ho (.tmp 3) (.tmp 15) ?ho2 Try.zeroHead ?hz ?hx ?hy ?hn ?h1 ?_
         case ho => with_reducible rfl
         case ho2 => rfl
         case hz => exact zH_size
         case hx => rfl
         case hy => rfl
         case hn => exact hsz
         case h1 => exact o1
         rw [hg1])
      | fail)
    refine (HUn.out _ b2).mono ?_
    rintro e w3 ⟨v3, rfl, ho3, hb3⟩
    have b3 := Below.on b2 b2.size hb3
    have o3 := ho3.base (b' := w.heap.size) b2.size
    clear b2 k2 hb3 ho3 c0
    go_wp2
    go_ret
    exact ⟨v3, rfl, o3, b3⟩
  · have pE0 := (ksix hE h6).1
    have HUn := Lib.hid (fun (W : World) (hW' : Below w.heap.size w W) => refUnreach6_ok A n c l W hn hc hcm ((hs.below hW').up hW'.size) pE0 hW)
    have eL : ansL l = msg6 l := by unfold ansL; rw [if_neg (by omega)]
    have eN : ansN l = 40 + (8 + min n 1232) := by unfold ansN; rw [if_neg (by omega), hl]
    rw [eL, eN]
    rw [h6] at m0
    have m0' : (kH l)[0]? = some (.int .i64 6) := m0
    clear m0 eL eN pE0 hs hE hW h6
    generalize kH l = M at *
    generalize msg6 l = ML at *
    generalize 40 + (8 + min n 1232) = N at *
    go_enter Try.func47, Try.ntmps47
    go_wp2_with fail
    refine HD.out.mono ?_
    rintro e w0 ⟨rfl, hb0⟩
    go_wp2_with fail
    refine (HP.out _ hb0).mono ?_
    rintro e w1 ⟨rfl, hb1⟩
    have b1 := Below.on hb0 hb0.size hb1
    have b2 : Below w.heap.size w (w1.alloc (.cells M 42)) := b1.alloc b1.size _
    have k2 : Blk (w1.alloc (.cells M 42)) w1.heap.size 42 M := blk_new _ _ _
    have c0 := (k2.cellA 0).trans m0'
    clear b1 hb1 hb0
    generalize hg1 : w1.heap.size = g1 at *
    go_wp2_with (first
      | (refine wpList_allocStore (cs := M) rfl rfl 42 ?ho (.tmp 3) (.tmp 15) ?ho2 Try.zeroHead ?hz ?hx ?hy ?hn ?h1 ?_
         case ho => with_reducible rfl
         case ho2 => rfl
         case hz => exact zH_size
         case hx => rfl
         case hy => rfl
         case hn => exact hsz
         case h1 => exact o1
         rw [hg1])
      | fail)
    refine (HUn.out _ b2).mono ?_
    rintro e w3 ⟨v3, rfl, ho3, hb3⟩
    have b3 := Below.on b2 b2.size hb3
    have o3 := ho3.base (b' := w.heap.size) b2.size
    clear b2 k2 hb3 ho3 c0
    go_wp2
    go_ret
    exact ⟨v3, rfl, o3, b3⟩

def exA : List UInt8 := [10, 0, 0, 1, 0, 0, 0, 0, 0, 0, 0, 0, 0, 0, 0, 0]
def exM : List UInt8 := [224, 0, 0, 1, 0, 0, 0, 0, 0, 0, 0, 0, 0, 0, 0, 0]
def exB1 : List UInt8 := pkt 0 0 0 0 0 0 [10, 0, 0, 1] [224, 0, 0, 1] []
def exB2 : List UInt8 := pkt 0 0 0 0 0 0 [10, 0, 0, 1] [10, 0, 0, 1] []
theorem exB1_due : dueB exB1 = false := by decide +kernel
theorem exB2_due : dueB exB2 = true := by decide +kernel
theorem exB2_n : ansN exB2 = 48 := by decide +kernel

set_option maxHeartbeats 2000000 in
theorem alive24 (w : World) : Calls Try.prog 43 #[] w fun e w' => e = .returned (.bool true) ∧ Below w.heap.size w w' := by
  have hza := (zero_of_info Try.zeroAddr).1
  have zne : ¬ adv 0 (zb 16) = #[] := by simp [adv]
  have HQ1 := Lib.hid (fun (W : World) => put_in 0 0 0 0 0 0 0 0 0 exA exM rfl rfl none 0 0 [] W (by omega) (shows_none _ _) (by omega) (by omega) (by omega) (by omega) (by omega) (by omega) (by decide +kernel) (by decide +kernel))
  have HQ2 := Lib.hid (fun (W : World) => put_in 0 0 0 0 0 0 0 0 0 exA exA rfl rfl none 0 0 [] W (by omega) (shows_none _ _) (by omega) (by omega) (by omega) (by omega) (by omega) (by omega) (by decide +kernel) (by decide +kernel))
  rw [show pkt 0 0 0 0 0 0 (exA.take 4) (exM.take 4) [] = exB1 from rfl] at HQ1
  rw [show pkt 0 0 0 0 0 0 (exA.take 4) (exA.take 4) [] = exB2 from rfl] at HQ2
  have z6 : (adv 4 exA).size = 17 := rfl
  have o6 : ((adv 4 exA).all fun x => x.oneCell') = true := adv_one _ _
  have zi6 : (Try.prog.info? 32).map (·.size) = some (adv 4 exA).size := by rw [z6]; exact Try.infoAddr
  have b2 : Below w.heap.size w (w.alloc (.cells (adv 4 exA) 32)) := (Below.refl _ _).alloc (Nat.le_refl _) _
  have k2 : Blk (w.alloc (.cells (adv 4 exA) 32)) w.heap.size 32 (adv 4 exA) := blk_new _ _ _
  obtain ⟨g0, hg0⟩ : ∃ g0, w.heap.size = g0 := ⟨_, rfl⟩
  rw [hg0] at k2
  obtain ⟨W2, hW2⟩ : ∃ W2, w.alloc (.cells (adv 4 exA) 32) = W2 := ⟨_, rfl⟩
  rw [hW2] at b2 k2
  go_enter Try.func43, Try.ntmps43
  go_wp2_with (first
    | (refine wpList_build rfl 32 ?fs ?ho (.agg (adv 4 exA)) ?hr ?_
       case ho => with_reducible rfl
       case hr =>
         intro W
         change _ = _
         kernel_rfl)
    | (refine wpList_build rfl 32 ?fs ?ho (.agg (adv 4 exM)) ?hr ?_
       case ho => with_reducible rfl
       case hr =>
         intro W
         change _ = _
         kernel_rfl)
    | (refine wpList_allocStore (cs := adv 4 exA) rfl rfl 32 ?ho (.tmp 1) (.tmp 11) ?ho2 Try.zeroAddr ?hz ?hx ?hy ?hn ?h1 ?_
       case ho => with_reducible rfl
       case ho2 => rfl
       case hz => rfl
       case hx => rfl
       case hy => rfl
       case hn => exact z6
       case h1 => exact o6
       rw [hg0, hW2])
    | (refine wpList_loadBlk (g := g0) (t := 32) (cs := adv 4 exA) rfl 32 (.tmp 1) ?ho ?hx ?hA _ Try.underlying32 rfl ?hi ?_
       case ho => with_reducible rfl
       case hx => rfl
       case hA => exact k2
       case hi => exact zi6)
    | (refine wpList_build rfl 42 ?fs ?ho (.agg (hdv [0, 0, 0, ((0 : Nat) : Int), ((0 : Nat) : Int), ((0 : Nat) : Int), ((0 : Nat) : Int), ((0 : Nat) : Int), ((0 : Nat) : Int)] (adv 4 exA) (adv 4 exM))) ?hr ?_
       case ho => with_reducible rfl
       case hr =>
         intro W
         change _ = _
         kernel_rfl)
    | fail)
  refine (HQ1.out _).mono ?_
  rintro e w3 ⟨v3, rfl, ho3, hb3⟩
  have b3 := Below.on b2 b2.size hb3
  have k3 := k2.on hb3
  have o3 := ho3.shows
  obtain ⟨A3, c3, rfl, g1, g2, s3⟩ := o3
  clear b2 k2 hb3 ho3 HQ1
  go_wp2_with (first
    | (refine wpList_loadBlk (g := g0) (t := 32) (cs := adv 4 exA) rfl 32 (.tmp 1) ?ho ?hx ?hA _ Try.underlying32 rfl ?hi ?_
       case ho => with_reducible rfl
       case hx => rfl
       case hA => exact k3
       case hi => exact zi6)
    | (refine wpList_build rfl 42 ?fs ?ho (.agg (hdv [0, 0, 0, ((0 : Nat) : Int), ((0 : Nat) : Int), ((0 : Nat) : Int), ((0 : Nat) : Int), ((0 : Nat) : Int), ((0 : Nat) : Int)] (adv 4 exA) (adv 4 exA))) ?hr ?_
       case ho => with_reducible rfl
       case hr =>
         intro W
         change _ = _
         kernel_rfl)
    | fail)
  refine (HQ2.out _).mono ?_
  rintro e w4 ⟨v4, rfl, ho4, hb4⟩
  have b4 := Below.on b3 b3.size hb4
  have s3' := (s3.below hb4).up hb4.size
  obtain ⟨A4, c4, rfl, g3, g4, s4⟩ := ho4.shows
  clear b3 k3 hb4 ho4 HQ2 s3
  have H5 := Lib.hid (ans_no A3 (20 + 0) c3 exB1 w4 (by omega) g1 g2 s3' exB1_due)
  have H6 := Lib.hid (fun (W : World) (hW : Below w4.heap.size w4 W) => ans_yes A4 (20 + 0) c4 exB2 W (by omega) g3 g4 ((s4.below hW).up hW.size) exB2_due)
  rw [exB2_n] at H6
  clear s3' s4
  go_wp2_with fail
  refine H5.out.mono ?_
  rintro e w5 ⟨rfl, hb5⟩
  have b5 := Below.on b4 b4.size hb5
  clear H5
  go_wp2_with fail
  refine (H6.out _ hb5).mono ?_
  rintro e w6 ⟨v6, rfl, ho6, hb6⟩
  have b6 := Below.on b5 b5.size hb6
  obtain ⟨A6, c6, rfl, _, _, _⟩ := ho6.shows
  clear H6 hb5 hb6 b5 b4 ho6
  go_wp2
  go_ret
  exact ⟨rfl, b6⟩

end Go.Proofs.Ytkokgoodpibboaa

/- RfM -/
namespace Go.Proofs.Ytkokgoodpibboaa
open Go.RowKit
set_option maxRecDepth 100000
set_option linter.unusedSimpArgs false
set_option linter.unusedVariables false

theorem kI_four {C I F P L : Nat} {s d body m : List UInt8} (h : PktFacts C I F 0 L P s d body m) (hP : P = 1) (h3 : body[0]? = some 3) : kI m = true := by
  obtain ⟨k0, k1, k2, k6, k8⟩ := h.kX
  have hb : 0 < body.length := by
    cases body with
    | nil => cases h3
    | cons a t => simp
  have hr := h.rest
  unfold restL at hr
  rw [h.size, h.tot] at hr
  have e : m[20]? = some 3 := by
    have e1 : ((m.drop 20).take (20 + body.length - 20))[0]? = some 3 := by rw [hr]; exact h3
    rw [List.getElem?_take, if_pos (by omega), List.getElem?_drop] at e1
    exact e1
  have hB : kB m = 3 := by unfold kB byt; rw [k1, e]; rfl
  unfold kI
  rw [h.kE, k0, k1, k2, k6, k8, hB, hP, decide_eq_true (show 20 < 20 + body.length by omega)]
  rfl
theorem msg4_facts {l : List UInt8} (hE : pE l = 0) : PktFacts 192 0 0 0 64 1 (dstL l) (srcL l) (noteL 3 1 (65535 - osum (noteL 3 1 0 (l.take (min l.length 548)))) (l.take (min l.length 548))) (msg4 l) := by
  obtain ⟨h20, _⟩ := pE_zero hE
  have hm : min l.length 548 ≤ 548 := Nat.min_le_right _ _
  exact pkt_facts 192 0 0 0 64 1 _ _ _ (by simp [dstL]; omega) (by simp [srcL]; omega) (by rw [noteL_len, List.length_take]; omega) (by omega) (by omega) (by omega) (by omega) (by omega) (by omega)
theorem kI_six {C I P L : Nat} {s d body m : List UInt8} (h : Pkt6Facts C I L P s d body m) (hP : P = 58) (h3 : body[0]? = some 1) : kI m = true := by
  obtain ⟨k0, k1, k2, k8⟩ := h.kX
  have hb : 0 < body.length := by
    cases body with
    | nil => cases h3
    | cons a t => simp
  have e : m[40]? = some 1 := by
    have e1 : (m.drop 40)[0]? = some 1 := by rw [h.rest]; exact h3
    rw [List.getElem?_drop] at e1
    exact e1
  have hB : kB m = 1 := by unfold kB byt; rw [k1, e]; rfl
  unfold kI
  rw [h.kE, k0, k1, k2, k8, hB, hP, decide_eq_true (show 40 < 40 + body.length by omega)]
  rfl
theorem msg6_facts {l : List UInt8} (hE : pE6 l = 0) : Pkt6Facts 0 0 64 58 (dst6 l) (src6 l) (noteL 1 0 (65535 - osum (pre6 (dst6 l) (src6 l) (8 + min l.length 1232) ++ noteL 1 0 0 (l.take (min l.length 1232)))) (l.take (min l.length 1232))) (msg6 l) := by
  have h40 := pH6_len hE
  have hm : min l.length 1232 ≤ 1232 := Nat.min_le_right _ _
  exact pkt6_facts 0 0 64 58 _ _ _ (dst6_len (by omega)) (src6_len (by omega)) (by rw [noteL_len, List.length_take]; omega) (by omega) (by omega) (by omega) (by omega)

end Go.Proofs.Ytkokgoodpibboaa

/- RfE -/
namespace Go.Proofs.Ytkokgoodpibboaa
open Go.RowKit
set_option maxRecDepth 100000
set_option linter.unusedSimpArgs false
set_option linter.unusedVariables false

/-- What a message that answers a packet says: to whom the packet came from, one whole packet, no packet to be answered. -/
theorem ans_head {l : List UInt8} (hd : dueB l = true) : kE (ansL l) = 0 ∧ kX (ansL l) 0 = kX l 0 ∧ kSrc (ansL l) = kDst l ∧ kDst (ansL l) = kSrc l ∧ kW (ansL l) = true ∧ dueB (ansL l) = false := by
  have hW := due_whole hd
  have hE := kW_zero hW
  have nd : ∀ m : List UInt8, kI m = true → dueB m = false := by
    intro m h
    unfold dueB
    rw [h]
    cases kW m <;> rfl
  rcases (kfacts hE).2.2.2.2 with h4 | ⟨h6, _⟩
  · have pE0 := (kfour hE h4).1
    have h := msg4_facts pE0
    have e : ansL l = msg4 l := by unfold ansL; rw [if_pos h4]
    have hm : min l.length 548 ≤ 548 := Nat.min_le_right _ _
    rw [e]
    refine ⟨h.kE, by rw [h.kX.1, h4], ?_, ?_, h.kW (by rw [noteL_len, List.length_take]; omega), nd _ (kI_four h rfl rfl)⟩
    · unfold kSrc kDst
      rw [h.kX.1, h4, if_pos rfl, if_pos rfl, h.src]
    · unfold kSrc kDst
      rw [h.kX.1, h4, if_pos rfl, if_pos rfl, h.dst]
  · have pE0 := (ksix hE h6).1
    have h := msg6_facts pE0
    have e : ansL l = msg6 l := by unfold ansL; rw [if_neg (by omega)]
    have hm : min l.length 1232 ≤ 1232 := Nat.min_le_right _ _
    rw [e]
    refine ⟨h.kE, by rw [h.kX.1, h6], ?_, ?_, h.kW (by rw [noteL_len, List.length_take]; omega), nd _ (kI_six h rfl rfl)⟩
    · unfold kSrc kDst
      rw [h.kX.1, h6, if_neg (by omega), if_neg (by omega), h.src]
    · unfold kSrc kDst
      rw [h.kX.1, h6, if_neg (by omega), if_neg (by omega), h.dst]

set_option maxHeartbeats 4000000 in
theorem walk_RefuseOnce (A : Option Addr) (n c : Nat) (l : List UInt8) {w : World} (hc : n ≤ c ∧ c ≤ maxLen) (hs : Shows w w.heap.size A n l) :
    Calls Try.prog 12 #[.slice A n c] w fun e w' => e = .returned (.bool true) ∧ Below w.heap.size w w' := by
  obtain ⟨hc1, hc2⟩ := hc
  by_cases hn : 3000 < n
  · have hni : (3000 : Int) < (n : Int) := by omega
    have d : decide ((3000 : Int) < (n : Int)) = true := decide_eq_true hni
    go_enter Try.func12, Try.ntmps12
    go_wp2_with fail
    refine (alive24 w).mono ?_
    rintro e w1 ⟨rfl, hb1⟩
    go_wp2
    go_ret
    exact ⟨rfl, hb1⟩
  have d : decide ((3000 : Int) < (n : Int)) = false := decide_eq_false (by omega)
  cases hd : dueB l
  · have H1 := Lib.hid (ans_no A n c l w (by omega) hc1 hc2 hs hd)
    clear hs hd
    go_enter Try.func12, Try.ntmps12
    go_wp2_with fail
    refine H1.out.mono ?_
    rintro e w1 ⟨rfl, b1⟩
    go_wp2_with fail
    refine (alive24 _).mono ?_
    rintro e w7 ⟨rfl, hb7⟩
    have b7 := Below.on b1 b1.size hb7
    clear b1 hb7
    go_wp2
    go_ret
    exact ⟨rfl, b7⟩
  · have hz := (zero_of_info Try.zeroHead).1
    have hne : ¬ zH = #[] := by intro h; have := zH_size; rw [h] at this; cases this
    have hE := kW_zero (due_whole hd)
    obtain ⟨mE, mX, mS, mD, mW, mN⟩ := ans_head hd
    obtain ⟨xs, hH, hx, hv, ls, ld, _, _⟩ := khead hE
    obtain ⟨ys, hH2, hx2, _, _, _, _, _⟩ := khead mE
    rw [mX, mS, mD] at hH2
    have hN := ansN_le l
    have H1 := Lib.hid (ans_yes A n c l w (by omega) hc1 hc2 hs hd)
    have HP1 := Lib.hid (fun (W : World) (hW' : Below w.heap.size w W) => krefParse_any A n c l W (by omega) hc1 hc2 ((hs.below hW').up hW'.size))
    rw [hE] at HP1
    have HP2 := Lib.hid (fun (A2 : Option Addr) (c2 : Nat) (W : World) (h1 : ansN l ≤ c2) (h2 : c2 ≤ maxLen) (h : Shows W W.heap.size A2 (ansN l) (ansL l)) => krefParse_any A2 (ansN l) c2 (ansL l) W (by omega) h1 h2 h)
    rw [mE] at HP2
    have HA2 := Lib.hid (fun (A2 : Option Addr) (c2 : Nat) (W : World) (h1 : ansN l ≤ c2) (h2 : c2 ≤ maxLen) (h : Shows W W.heap.size A2 (ansN l) (ansL l)) => ans_no A2 (ansN l) c2 (ansL l) W (by omega) h1 h2 h mN)
    have HW2 := Lib.hid (fun (A2 : Option Addr) (c2 : Nat) (W : World) (h1 : ansN l ≤ c2) (h2 : c2 ≤ maxLen) (h : Shows W W.heap.size A2 (ansN l) (ansL l)) => refWhole_any A2 (ansN l) c2 (ansL l) W (by omega) h1 h2 h)
    rw [mW] at HW2
    have hsz1 := kH_size l
    have o1 := kH_one l
    have hsz2 := kH_size (ansL l)
    have o2 := kH_one (ansL l)
    have m0 := kX_cell l 0 (by omega)
    have n0 := kX_cell (ansL l) 0 (by omega)
    rw [mX] at n0
    have R1 := fun (g : Nat) (W : World) (h : Blk W g 42 (kH l)) => show W.rangeAt g 9 (adv (kX l 0 : Int) (kSrc l)).toList by rw [hH] at h; exact hdv_src hx h
    have R2 := fun (g : Nat) (W : World) (h : Blk W g 42 (kH l)) => show W.rangeAt g 26 (adv (kX l 0 : Int) (kDst l)).toList by rw [hH] at h; exact hdv_dst hx (adv_size _ _ ls) h
    have Q1 := fun (g : Nat) (W : World) (h : Blk W g 42 (kH (ansL l))) => show W.rangeAt g 9 (adv (kX l 0 : Int) (kDst l)).toList by rw [hH2] at h; exact hdv_src hx2 h
    have Q2 := fun (g : Nat) (W : World) (h : Blk W g 42 (kH (ansL l))) => show W.rangeAt g 26 (adv (kX l 0 : Int) (kSrc l)).toList by rw [hH2] at h; exact hdv_dst hx2 (adv_size _ _ ld) h
    have z1 := Adr_size (kX l 0) _ ls
    have z2 := Adr_size (kX l 0) _ ld
    have HE1 := Lib.hid (fun W => show (Op.equalIn 10000 32 (.agg (adv (kX l 0 : Int) (kSrc l))) (.agg (adv (kX l 0 : Int) (kSrc l)))).run Try.prog W = .ok true W by rw [adr_eq _ _ _ _ ls ls]; simp)
    have HE2 := Lib.hid (fun W => show (Op.equalIn 10000 32 (.agg (adv (kX l 0 : Int) (kDst l))) (.agg (adv (kX l 0 : Int) (kDst l)))).run Try.prog W = .ok true W by rw [adr_eq _ _ _ _ ld ld]; simp)
    clear hs hd hE mE mX mS mD mW mN hH hH2 hx hx2 hv ls ld
    generalize adv (kX l 0 : Int) (kSrc l) = XS at *
    generalize adv (kX l 0 : Int) (kDst l) = XD at *
    generalize kX l 0 = V at *
    generalize kH (ansL l) = M2 at *
    generalize kH l = M1 at *
    generalize ansN l = N at *
    generalize ansL l = AL at *
    go_enter Try.func12, Try.ntmps12
    go_wp2_with fail
    refine H1.out.mono ?_
    rintro e w1 ⟨v1, rfl, ho1, b1⟩
    obtain ⟨A1, c1, rfl, g1, g2, s1⟩ := ho1.shows
    clear ho1 H1
    go_wp2_with fail
    refine (HP1.out _ b1).mono ?_
    rintro e w2 ⟨rfl, hb2⟩
    have b2 := Below.on b1 b1.size hb2
    have s2 := (s1.below hb2).up hb2.size
    clear s1 hb2 b1
    have b3 : Below w.heap.size w (w2.alloc (.cells M1 42)) := b2.alloc b2.size _
    have k3 : Blk (w2.alloc (.cells M1 42)) w2.heap.size 42 M1 := blk_new _ _ _
    have s3 := (s2.alloc (Nat.le_refl _) (.cells M1 42)).up (show w2.heap.size ≤ (w2.alloc (.cells M1 42)).heap.size by simp)
    clear s2 b2
    generalize hg2 : w2.heap.size = gg2 at *
    go_wp2_with (first
      | (refine wpList_allocStore (cs := M1) rfl rfl 42 ?ho (.tmp 5) (.tmp 31) ?ho2 Try.zeroHead ?hz ?hx ?hy ?hn ?h1 ?_
         case ho => with_reducible rfl
         case ho2 => rfl
         case hz => exact zH_size
         case hx => rfl
         case hy => rfl
         case hn => exact hsz1
         case h1 => exact o1
         rw [hg2])
      | fail)
    refine (HP2.out A1 c1 _ g1 g2 s3).mono ?_
    rintro e w4 ⟨rfl, hb4⟩
    have b4 := Below.on b3 b3.size hb4
    have k4 := k3.on hb4
    have s4 := (s3.below hb4).up hb4.size
    clear s3 hb4 b3 k3
    have b5 : Below w.heap.size w (w4.alloc (.cells M2 42)) := b4.alloc b4.size _
    have k5 : Blk (w4.alloc (.cells M2 42)) gg2 42 M1 := k4.alloc _
    have p5 : Blk (w4.alloc (.cells M2 42)) w4.heap.size 42 M2 := blk_new _ _ _
    have s5 := (s4.alloc (Nat.le_refl _) (.cells M2 42)).up (show w4.heap.size ≤ (w4.alloc (.cells M2 42)).heap.size by simp)
    clear s4 b4 k4
    generalize hg4 : w4.heap.size = gg4 at *
    go_wp2_with (first
      | (refine wpList_allocStore (cs := M2) rfl rfl 42 ?ho (.tmp 7) (.tmp 36) ?ho2 Try.zeroHead ?hz ?hx ?hy ?hn ?h1 ?_
         case ho => with_reducible rfl
         case ho2 => rfl
         case hz => exact zH_size
         case hx => rfl
         case hy => rfl
         case hn => exact hsz2
         case h1 => exact o2
         rw [hg4])
      | fail)
    refine (HA2.out A1 c1 _ g1 g2 s5).mono ?_
    rintro e w6 ⟨rfl, hb6⟩
    have b6 := Below.on b5 b5.size hb6
    have k6 := k5.on hb6
    have p6 := p5.on hb6
    have s6 := (s5.below hb6).up hb6.size
    have c0 := (k6.cellA 0).trans m0
    have d0 := (p6.cellA 0).trans n0
    clear s5 hb6 b5 k5 p5
    go_wp2_with (first
      | (refine wpList_loadPart (g := gg4) rfl 32 (.tmp 57) ?ho 26 ?hx XS _ (Q2 _ _ p6) Try.underlying32 rfl ?hi ?_
         case ho => with_reducible rfl
         case hx => rfl
         case hi => exact z1)
      | (refine wpList_loadPart (g := gg2) rfl 32 (.tmp 59) ?ho 9 ?hx XS _ (R1 _ _ k6) Try.underlying32 rfl ?hi ?_
         case ho => with_reducible rfl
         case hx => rfl
         case hi => exact z1)
      | (refine eqlAny (b := true) (cs := XS) (ds := XS) rfl 32 32 (.tmp 58) (.tmp 60) ?ho ?hx ?hy Try.plainAddr ?he ?_
         case ho => with_reducible rfl
         case hx => rfl
         case hy => rfl
         case he => exact HE1.out)
      | (refine wpList_loadPart (g := gg4) rfl 32 (.tmp 64) ?ho 9 ?hx XD _ (Q1 _ _ p6) Try.underlying32 rfl ?hi ?_
         case ho => with_reducible rfl
         case hx => rfl
         case hi => exact z2)
      | (refine wpList_loadPart (g := gg2) rfl 32 (.tmp 66) ?ho 26 ?hx XD _ (R2 _ _ k6) Try.underlying32 rfl ?hi ?_
         case ho => with_reducible rfl
         case hx => rfl
         case hi => exact z2)
      | (refine eqlAny (b := true) (cs := XD) (ds := XD) rfl 32 32 (.tmp 65) (.tmp 67) ?ho ?hx ?hy Try.plainAddr ?he ?_
         case ho => with_reducible rfl
         case hx => rfl
         case hy => rfl
         case he => exact HE2.out)
      | fail)
    refine (HW2.out A1 c1 _ g1 g2 s6).mono ?_
    rintro e w7 ⟨rfl, hb7⟩
    have b7 := Below.on b6 b6.size hb7
    clear s6 hb7 b6 k6 p6 c0 d0
    go_wp2_with fail
    refine (alive24 _).mono ?_
    rintro e w8 ⟨rfl, hb8⟩
    have b8 := Below.on b7 b7.size hb8
    clear b7 hb8
    go_wp2
    go_ret
    exact ⟨rfl, b8⟩

end Go.Proofs.Ytkokgoodpibboaa
