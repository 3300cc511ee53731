
/- Contract: crawlwayref22.Read. -/
import Derived.Test.YtblfllidejdehaaNtD
namespace Go.Proofs.Ytblfllidejdehaa
open Go.RowKit
set_option linter.unusedSimpArgs false
set_option linter.unusedVariables false

set_option maxRecDepth 100000 in
set_option maxHeartbeats 1500000 in
theorem refRead4_bad (A : Option Addr) (n c : Nat) (l : List UInt8) (w : World) (hn : n ≤ 100000) (hc : n ≤ c) (hcm : c ≤ maxLen) (hs : Shows w w.heap.size A n l) (hE : ¬ r4E l = 0) :
    Calls Try.prog 33 #[.slice A n c] w fun e w' => e = .returned (.tuple #[.slice none 0 0, .int .i64 (r4E l : Int)]) ∧ Below w.heap.size w w' := by
  have hz := (zero_of_info Try.zeroHead).1
  have hne : ¬ zH = #[] := by intro h; have := zH_size; rw [h] at this; cases this
  have HP := Lib.hid (refParse4_all A n c l w (by omega) hc hcm hs)
  have hl := hs.len
  have hsz := pH_size l
  have o1 := pH_one l
  by_cases q0 : ¬ pE l = 0
  · have HF := Lib.hid (show r4E l = pE l by unfold r4E; rw [if_neg q0])
    clear hs hE
    generalize r4E l = RE at *
    generalize pH l = M at *
    generalize pE l = E0 at *
    have d0 : decide ((E0 : Int) = 0) = false := decide_eq_false (by omega)
    have d0' : (((E0 : Int)) == 0) = false := by simp; omega
    have d0'' : (((E0 : Int)) != 0) = true := by simp; omega
    go_enter Try.func33, Try.ntmps33
    go_wp2_with fail
    refine HP.out.mono ?_
    rintro e w1 ⟨rfl, hb1⟩
    have b2 : Below w.heap.size w (w1.alloc (.cells M 28)) := hb1.alloc hb1.size _
    have k2 : Blk (w1.alloc (.cells M 28)) w1.heap.size 28 M := blk_new _ _ _
    generalize hg1 : w1.heap.size = g1 at *
    go_wp2_with (first
      | (refine wpList_allocStore (cs := M) rfl rfl 28 ?ho (.tmp 4) (.tmp 10) ?ho2 Try.zeroHead ?hz ?hx ?hy ?hn ?h1 ?_
         case ho => with_reducible rfl
         case ho2 => rfl
         case hz => exact zH_size
         case hx => rfl
         case hy => rfl
         case hn => exact hsz
         case h1 => exact o1
         rw [hg1]))
    go_ret2
    exact ⟨by rw [HF.out]; rfl, b2⟩
  have q0' : pE l = 0 := by omega
  obtain ⟨m1, m2, m8⟩ := pH_cells q0'
  obtain ⟨f1, f2, f3, f4⟩ := pE_facts q0'
  rw [hl] at f4
  obtain ⟨b, off, rfl, hbb, _⟩ := hs.2 (by omega)
  have HSr := Lib.hid (fun (W : World) (hW : Below w.heap.size w W) => restL_shows ((hs.below hW).up hW.size) q0')
  have hrl := restL_len q0'
  have HSm := Lib.hid (fun (A2 : Option Addr) (n2 c2 : Nat) (W : World) => show Calls Try.prog 59 #[.agg (pH l), .slice A2 n2 c2] W fun e w' => e = .returned (.slice A2 n2 c2) ∧ Below W.heap.size W w' by
    have e : pH l = hdL l := by unfold pH; rw [if_pos q0']
    rw [e]
    unfold hdL hdN
    exact summed4 _ (srcL l) (by simp [srcL]; omega) _ rfl (adv_size _ _ (by simp [dstL, zb]; omega)) A2 n2 c2 W)
  have ms : (Try.prog.info? 28).map (·.size) = some (pH l).size := by rw [hsz]; exact Try.infoHead
  rw [q0'] at HP
  have HR := Lib.hid (show r4E l = if prL l = 1 then fE 3 1 [] (restL l) else 9 by unfold r4E; rw [if_pos q0'])
  clear hs q0 q0'
  generalize restL l = R at *
  generalize r4E l = RE at *
  generalize pH l = M at *
  generalize sizeL l = S at *
  generalize totL l = T at *
  generalize prL l = P at *
  by_cases q1 : ¬ P = 1
  · have HF := Lib.hid (show RE = 9 by rw [HR.out, if_neg q1])
    clear HR hE
    have d1 : decide ((P : Int) = 1) = false := decide_eq_false (by omega)
    have d1' : (((P : Int)) == 1) = false := by simp; omega
    have d1'' : (((P : Int)) != 1) = true := by simp; omega
    go_enter Try.func33, Try.ntmps33
    go_wp2_with fail
    refine HP.out.mono ?_
    rintro e w1 ⟨rfl, hb1⟩
    have b2 : Below w.heap.size w (w1.alloc (.cells M 28)) := hb1.alloc hb1.size _
    have k2 : Blk (w1.alloc (.cells M 28)) w1.heap.size 28 M := blk_new _ _ _
    generalize hg1 : w1.heap.size = g1 at *
    have c1 := (k2.cellA 1).trans m1
    have c2 := (k2.cellA 2).trans m2
    have c8 := (k2.cellA 8).trans m8
    go_wp2_with (first
      | (refine wpList_allocStore (cs := M) rfl rfl 28 ?ho (.tmp 4) (.tmp 10) ?ho2 Try.zeroHead ?hz ?hx ?hy ?hn ?h1 ?_
         case ho => with_reducible rfl
         case ho2 => rfl
         case hz => exact zH_size
         case hx => rfl
         case hy => rfl
         case hn => exact hsz
         case h1 => exact o1
         rw [hg1]))
    go_ret2
    exact ⟨by rw [HF.out]; rfl, b2⟩
  obtain rfl : P = 1 := by omega
  have m8' : M[8]? = some (.int .i64 1) := m8
  clear m8
  have m8 := m8'
  clear m8'
  rw [HR.out, if_pos rfl] at hE
  have HQ := Lib.hid (show RE = fE 3 1 [] R by rw [HR.out, if_pos rfl])
  clear HR
  have iST : (S : Int) ≤ (T : Int) := by omega
  have iTc : (T : Int) ≤ (c : Int) := by omega
  by_cases q2 : T - S < 8
  · have HF := Lib.hid (show RE = 3 by rw [HQ.out]; unfold fE; rw [hrl, if_pos q2])
    have d2 : decide (((T - S : Nat) : Int) < 8) = true := decide_eq_true (by omega)
    have d2' : decide ((T : Int) - (S : Int) < 8) = true := decide_eq_true (by omega)
    clear HSr HQ hE
    by_cases q3 : c = S
    · obtain rfl : T = S := by omega
      subst q3
      go_enter Try.func33, Try.ntmps33
      go_wp2_with fail
      refine HP.out.mono ?_
      rintro e w1 ⟨rfl, hb1⟩
      have b2 : Below w.heap.size w (w1.alloc (.cells M 28)) := hb1.alloc hb1.size _
      have k2 : Blk (w1.alloc (.cells M 28)) w1.heap.size 28 M := blk_new _ _ _
      generalize hg1 : w1.heap.size = g1 at *
      have c1 := (k2.cellA 1).trans m1
      have c2 := (k2.cellA 2).trans m2
      have c8 := (k2.cellA 8).trans m8
      go_wp2_with (first
        | (refine wpList_allocStore (cs := M) rfl rfl 28 ?ho (.tmp 4) (.tmp 10) ?ho2 Try.zeroHead ?hz ?hx ?hy ?hn ?h1 ?_
           case ho => with_reducible rfl
           case ho2 => rfl
           case hz => exact zH_size
           case hx => rfl
           case hy => rfl
           case hn => exact hsz
           case h1 => exact o1
           rw [hg1]))
      go_ret2
      exact ⟨by rw [HF.out]; rfl, b2⟩
    · go_enter Try.func33, Try.ntmps33
      go_wp2_with fail
      refine HP.out.mono ?_
      rintro e w1 ⟨rfl, hb1⟩
      have b2 : Below w.heap.size w (w1.alloc (.cells M 28)) := hb1.alloc hb1.size _
      have k2 : Blk (w1.alloc (.cells M 28)) w1.heap.size 28 M := blk_new _ _ _
      generalize hg1 : w1.heap.size = g1 at *
      have c1 := (k2.cellA 1).trans m1
      have c2 := (k2.cellA 2).trans m2
      have c8 := (k2.cellA 8).trans m8
      go_wp2_with (first
        | (refine wpList_allocStore (cs := M) rfl rfl 28 ?ho (.tmp 4) (.tmp 10) ?ho2 Try.zeroHead ?hz ?hx ?hy ?hn ?h1 ?_
           case ho => with_reducible rfl
           case ho2 => rfl
           case hz => exact zH_size
           case hx => rfl
           case hy => rfl
           case hn => exact hsz
           case h1 => exact o1
           rw [hg1]))
      go_ret2
      exact ⟨by rw [HF.out]; rfl, b2⟩
  have d2 : decide (((T - S : Nat) : Int) < 8) = false := decide_eq_false (by omega)
  have d2' : decide ((T : Int) - (S : Int) < 8) = false := decide_eq_false (by omega)
  have q3 : ¬ c = S := by omega
  have HY := Lib.hid (fun (i : Nat) (hi : i < T - S) (W : World) (hW : Below w.heap.size w W) => show W.cell? ⟨b, off + S + i, none⟩ = some (.int .u8 (byt R i : Int)) from (HSr.out W hW).byt i hi)
  have H0 := Lib.hid (HY.out 0 (by omega))
  have H1 := Lib.hid (HY.out 1 (by omega))
  have H4 := Lib.hid (HY.out 4 (by omega))
  have H5 := Lib.hid (HY.out 5 (by omega))
  have H6 := Lib.hid (HY.out 6 (by omega))
  have H7 := Lib.hid (HY.out 7 (by omega))
  have HSu := Lib.hid (fun (W : World) (hW : Below w.heap.size w W) => refSum_any (some ⟨b, off + S, none⟩) (T - S) (c - S) R W (by omega) (HSr.out W hW))
  have in0 : (0 : Int) < ((T - S : Nat) : Int) := by omega
  have in0' : 0 < T - S := by omega
  have in0'' : S < T := by omega
  have in1 : (1 : Int) < ((T - S : Nat) : Int) := by omega
  have in1' : (1 : Int) < (T : Int) - (S : Int) := by omega
  have in4 : (4 : Int) < ((T - S : Nat) : Int) := by omega
  have in4' : (4 : Int) < (T : Int) - (S : Int) := by omega
  have in5 : (5 : Int) < ((T - S : Nat) : Int) := by omega
  have in5' : (5 : Int) < (T : Int) - (S : Int) := by omega
  have in6 : (6 : Int) < ((T - S : Nat) : Int) := by omega
  have in6' : (6 : Int) < (T : Int) - (S : Int) := by omega
  have in7 : (7 : Int) < ((T - S : Nat) : Int) := by omega
  have in7' : (7 : Int) < (T : Int) - (S : Int) := by omega
  have HQ2 := Lib.hid (show RE = if byt R 0 = 3 ∧ byt R 1 = 1 then (if osum R = 65535 then (if byt R 4 = 0 ∧ byt R 5 = 0 ∧ byt R 6 = 0 ∧ byt R 7 = 0 then 0 else 10) else 11) else 9 by rw [HQ.out]; unfold fE; rw [if_neg (by omega)]; rfl)
  have hE2 : ¬ RE = 0 := by rw [HQ.out]; exact hE
  clear HY HSr HQ hE
  generalize byt R 0 = Y0 at *
  generalize byt R 1 = Y1 at *
  generalize byt R 4 = Y4 at *
  generalize byt R 5 = Y5 at *
  generalize byt R 6 = Y6 at *
  generalize byt R 7 = Y7 at *
  generalize osum R = OS at *
  by_cases r0 : ¬ Y0 = 3
  · have HF := Lib.hid (show RE = 9 by rw [HQ2.out, if_neg (by omega)])
    clear HQ2 hE2
    have e0 : decide ((Y0 : Int) = 3) = false := decide_eq_false (by omega)
    have e0' : (((Y0 : Int)) == 3) = false := by simp; omega
    have e0'' : (((Y0 : Int)) != 3) = true := by simp; omega
    go_enter Try.func33, Try.ntmps33
    go_wp2_with fail
    refine HP.out.mono ?_
    rintro e w1 ⟨rfl, hb1⟩
    have b2 : Below w.heap.size w (w1.alloc (.cells M 28)) := hb1.alloc hb1.size _
    have k2 : Blk (w1.alloc (.cells M 28)) w1.heap.size 28 M := blk_new _ _ _
    generalize hg1 : w1.heap.size = g1 at *
    have c1 := (k2.cellA 1).trans m1
    have c2 := (k2.cellA 2).trans m2
    have c8 := (k2.cellA 8).trans m8
    have y0 : (w1.alloc (.cells M 28)).cell? ⟨b, off + S, none⟩ = some (.int .u8 (Y0 : Int)) := H0.out _ b2
    have y1 := H1.out _ b2
    go_wp2_with (first
      | (refine wpList_allocStore (cs := M) rfl rfl 28 ?ho (.tmp 4) (.tmp 10) ?ho2 Try.zeroHead ?hz ?hx ?hy ?hn ?h1 ?_
         case ho => with_reducible rfl
         case ho2 => rfl
         case hz => exact zH_size
         case hx => rfl
         case hy => rfl
         case hn => exact hsz
         case h1 => exact o1
         rw [hg1]))
    go_ret2
    exact ⟨by rw [HF.out]; rfl, b2⟩
  obtain rfl : Y0 = 3 := by omega
  by_cases r1 : ¬ Y1 = 1
  · have HF := Lib.hid (show RE = 9 by rw [HQ2.out, if_neg (by omega)])
    clear HQ2 hE2
    have e1 : decide ((Y1 : Int) = 1) = false := decide_eq_false (by omega)
    have e1' : (((Y1 : Int)) == 1) = false := by simp; omega
    have e1'' : (((Y1 : Int)) != 1) = true := by simp; omega
    go_enter Try.func33, Try.ntmps33
    go_wp2_with fail
    refine HP.out.mono ?_
    rintro e w1 ⟨rfl, hb1⟩
    have b2 : Below w.heap.size w (w1.alloc (.cells M 28)) := hb1.alloc hb1.size _
    have k2 : Blk (w1.alloc (.cells M 28)) w1.heap.size 28 M := blk_new _ _ _
    generalize hg1 : w1.heap.size = g1 at *
    have c1 := (k2.cellA 1).trans m1
    have c2 := (k2.cellA 2).trans m2
    have c8 := (k2.cellA 8).trans m8
    have y0 : (w1.alloc (.cells M 28)).cell? ⟨b, off + S, none⟩ = some (.int .u8 3) := H0.out _ b2
    have y1 := H1.out _ b2
    go_wp2_with (first
      | (refine wpList_allocStore (cs := M) rfl rfl 28 ?ho (.tmp 4) (.tmp 10) ?ho2 Try.zeroHead ?hz ?hx ?hy ?hn ?h1 ?_
         case ho => with_reducible rfl
         case ho2 => rfl
         case hz => exact zH_size
         case hx => rfl
         case hy => rfl
         case hn => exact hsz
         case h1 => exact o1
         rw [hg1]))
    go_ret2
    exact ⟨by rw [HF.out]; rfl, b2⟩
  obtain rfl : Y1 = 1 := by omega
  by_cases r2 : ¬ OS = 65535
  · have HF := Lib.hid (show RE = 11 by rw [HQ2.out, if_pos ⟨rfl, rfl⟩, if_neg r2])
    clear HQ2 hE2
    have e2 : decide ((OS : Int) = 65535) = false := decide_eq_false (by omega)
    have e2' : (((OS : Int)) == 65535) = false := by simp; omega
    have e2'' : (((OS : Int)) != 65535) = true := by simp; omega
    go_enter Try.func33, Try.ntmps33
    go_wp2_with fail
    refine HP.out.mono ?_
    rintro e w1 ⟨rfl, hb1⟩
    have b2 : Below w.heap.size w (w1.alloc (.cells M 28)) := hb1.alloc hb1.size _
    have k2 : Blk (w1.alloc (.cells M 28)) w1.heap.size 28 M := blk_new _ _ _
    generalize hg1 : w1.heap.size = g1 at *
    have c1 := (k2.cellA 1).trans m1
    have c2 := (k2.cellA 2).trans m2
    have c8 := (k2.cellA 8).trans m8
    have y0 : (w1.alloc (.cells M 28)).cell? ⟨b, off + S, none⟩ = some (.int .u8 3) := H0.out _ b2
    have y1 := H1.out _ b2
    go_wp2_with (first
      | (refine wpList_allocStore (cs := M) rfl rfl 28 ?ho (.tmp 4) (.tmp 10) ?ho2 Try.zeroHead ?hz ?hx ?hy ?hn ?h1 ?_
         case ho => with_reducible rfl
         case ho2 => rfl
         case hz => exact zH_size
         case hx => rfl
         case hy => rfl
         case hn => exact hsz
         case h1 => exact o1
         rw [hg1])
      | (refine wpList_loadBlk (g := g1) (t := 28) (cs := M) rfl 28 (.tmp 4) ?ho ?hx ?hA _ Try.underlying28 rfl ?hi ?_
         case ho => with_reducible rfl
         case hx => rfl
         case hA => exact k2
         case hi => exact ms)
      | fail)
    refine (HSm.out _ _ _ _).mono ?_
    rintro e w3 ⟨rfl, hb3⟩
    have b3 := Below.on b2 b2.size hb3
    clear hb3
    go_wp2_with fail
    refine (HSu.out _ b3).mono ?_
    rintro e w' ⟨rfl, rfl⟩
    have y4 := H4.out _ b3
    have y5 := H5.out _ b3
    have y6 := H6.out _ b3
    have y7 := H7.out _ b3
    go_wp2
    go_ret2
    exact ⟨by rw [HF.out]; rfl, b3⟩
  obtain rfl : OS = 65535 := by omega
  have HF := Lib.hid (show ¬ (Y4 = 0 ∧ Y5 = 0 ∧ Y6 = 0 ∧ Y7 = 0) → RE = 10 from fun h => by rw [HQ2.out, if_pos ⟨rfl, rfl⟩, if_pos rfl, if_neg h])
  have hnz : ¬ (Y4 = 0 ∧ Y5 = 0 ∧ Y6 = 0 ∧ Y7 = 0) := fun h => hE2 (by rw [HQ2.out, if_pos ⟨rfl, rfl⟩, if_pos rfl, if_pos h])
  have HG := Lib.hid (HF.out hnz)
  clear HF HQ2 hE2
  have HF := HG
  clear HG
  by_cases r4 : ¬ Y4 = 0
  · clear hnz
    have e4 : decide ((Y4 : Int) = 0) = false := decide_eq_false (by omega)
    have e4' : (((Y4 : Int)) == 0) = false := by simp; omega
    have e4'' : (((Y4 : Int)) != 0) = true := by simp; omega
    go_enter Try.func33, Try.ntmps33
    go_wp2_with fail
    refine HP.out.mono ?_
    rintro e w1 ⟨rfl, hb1⟩
    have b2 : Below w.heap.size w (w1.alloc (.cells M 28)) := hb1.alloc hb1.size _
    have k2 : Blk (w1.alloc (.cells M 28)) w1.heap.size 28 M := blk_new _ _ _
    generalize hg1 : w1.heap.size = g1 at *
    have c1 := (k2.cellA 1).trans m1
    have c2 := (k2.cellA 2).trans m2
    have c8 := (k2.cellA 8).trans m8
    have y0 : (w1.alloc (.cells M 28)).cell? ⟨b, off + S, none⟩ = some (.int .u8 3) := H0.out _ b2
    have y1 := H1.out _ b2
    go_wp2_with (first
      | (refine wpList_allocStore (cs := M) rfl rfl 28 ?ho (.tmp 4) (.tmp 10) ?ho2 Try.zeroHead ?hz ?hx ?hy ?hn ?h1 ?_
         case ho => with_reducible rfl
         case ho2 => rfl
         case hz => exact zH_size
         case hx => rfl
         case hy => rfl
         case hn => exact hsz
         case h1 => exact o1
         rw [hg1])
      | (refine wpList_loadBlk (g := g1) (t := 28) (cs := M) rfl 28 (.tmp 4) ?ho ?hx ?hA _ Try.underlying28 rfl ?hi ?_
         case ho => with_reducible rfl
         case hx => rfl
         case hA => exact k2
         case hi => exact ms)
      | fail)
    refine (HSm.out _ _ _ _).mono ?_
    rintro e w3 ⟨rfl, hb3⟩
    have b3 := Below.on b2 b2.size hb3
    clear hb3
    go_wp2_with fail
    refine (HSu.out _ b3).mono ?_
    rintro e w' ⟨rfl, rfl⟩
    have y4 := H4.out _ b3
    have y5 := H5.out _ b3
    have y6 := H6.out _ b3
    have y7 := H7.out _ b3
    go_wp2
    go_ret2
    exact ⟨by rw [HF.out]; rfl, b3⟩
  obtain rfl : Y4 = 0 := by omega
  by_cases r5 : ¬ Y5 = 0
  · clear hnz
    have e5 : decide ((Y5 : Int) = 0) = false := decide_eq_false (by omega)
    have e5' : (((Y5 : Int)) == 0) = false := by simp; omega
    have e5'' : (((Y5 : Int)) != 0) = true := by simp; omega
    go_enter Try.func33, Try.ntmps33
    go_wp2_with fail
    refine HP.out.mono ?_
    rintro e w1 ⟨rfl, hb1⟩
    have b2 : Below w.heap.size w (w1.alloc (.cells M 28)) := hb1.alloc hb1.size _
    have k2 : Blk (w1.alloc (.cells M 28)) w1.heap.size 28 M := blk_new _ _ _
    generalize hg1 : w1.heap.size = g1 at *
    have c1 := (k2.cellA 1).trans m1
    have c2 := (k2.cellA 2).trans m2
    have c8 := (k2.cellA 8).trans m8
    have y0 : (w1.alloc (.cells M 28)).cell? ⟨b, off + S, none⟩ = some (.int .u8 3) := H0.out _ b2
    have y1 := H1.out _ b2
    go_wp2_with (first
      | (refine wpList_allocStore (cs := M) rfl rfl 28 ?ho (.tmp 4) (.tmp 10) ?ho2 Try.zeroHead ?hz ?hx ?hy ?hn ?h1 ?_
         case ho => with_reducible rfl
         case ho2 => rfl
         case hz => exact zH_size
         case hx => rfl
         case hy => rfl
         case hn => exact hsz
         case h1 => exact o1
         rw [hg1])
      | (refine wpList_loadBlk (g := g1) (t := 28) (cs := M) rfl 28 (.tmp 4) ?ho ?hx ?hA _ Try.underlying28 rfl ?hi ?_
         case ho => with_reducible rfl
         case hx => rfl
         case hA => exact k2
         case hi => exact ms)
      | fail)
    refine (HSm.out _ _ _ _).mono ?_
    rintro e w3 ⟨rfl, hb3⟩
    have b3 := Below.on b2 b2.size hb3
    clear hb3
    go_wp2_with fail
    refine (HSu.out _ b3).mono ?_
    rintro e w' ⟨rfl, rfl⟩
    have y4 := H4.out _ b3
    have y5 := H5.out _ b3
    have y6 := H6.out _ b3
    have y7 := H7.out _ b3
    go_wp2
    go_ret2
    exact ⟨by rw [HF.out]; rfl, b3⟩
  obtain rfl : Y5 = 0 := by omega
  by_cases r6 : ¬ Y6 = 0
  · clear hnz
    have e6 : decide ((Y6 : Int) = 0) = false := decide_eq_false (by omega)
    have e6' : (((Y6 : Int)) == 0) = false := by simp; omega
    have e6'' : (((Y6 : Int)) != 0) = true := by simp; omega
    go_enter Try.func33, Try.ntmps33
    go_wp2_with fail
    refine HP.out.mono ?_
    rintro e w1 ⟨rfl, hb1⟩
    have b2 : Below w.heap.size w (w1.alloc (.cells M 28)) := hb1.alloc hb1.size _
    have k2 : Blk (w1.alloc (.cells M 28)) w1.heap.size 28 M := blk_new _ _ _
    generalize hg1 : w1.heap.size = g1 at *
    have c1 := (k2.cellA 1).trans m1
    have c2 := (k2.cellA 2).trans m2
    have c8 := (k2.cellA 8).trans m8
    have y0 : (w1.alloc (.cells M 28)).cell? ⟨b, off + S, none⟩ = some (.int .u8 3) := H0.out _ b2
    have y1 := H1.out _ b2
    go_wp2_with (first
      | (refine wpList_allocStore (cs := M) rfl rfl 28 ?ho (.tmp 4) (.tmp 10) ?ho2 Try.zeroHead ?hz ?hx ?hy ?hn ?h1 ?_
         case ho => with_reducible rfl
         case ho2 => rfl
         case hz => exact zH_size
         case hx => rfl
         case hy => rfl
         case hn => exact hsz
         case h1 => exact o1
         rw [hg1])
      | (refine wpList_loadBlk (g := g1) (t := 28) (cs := M) rfl 28 (.tmp 4) ?ho ?hx ?hA _ Try.underlying28 rfl ?hi ?_
         case ho => with_reducible rfl
         case hx => rfl
         case hA => exact k2
         case hi => exact ms)
      | fail)
    refine (HSm.out _ _ _ _).mono ?_
    rintro e w3 ⟨rfl, hb3⟩
    have b3 := Below.on b2 b2.size hb3
    clear hb3
    go_wp2_with fail
    refine (HSu.out _ b3).mono ?_
    rintro e w' ⟨rfl, rfl⟩
    have y4 := H4.out _ b3
    have y5 := H5.out _ b3
    have y6 := H6.out _ b3
    have y7 := H7.out _ b3
    go_wp2
    go_ret2
    exact ⟨by rw [HF.out]; rfl, b3⟩
  obtain rfl : Y6 = 0 := by omega
  have r7 : ¬ Y7 = 0 := by omega
  clear hnz
  have e7 : decide ((Y7 : Int) = 0) = false := decide_eq_false (by omega)
  have e7' : (((Y7 : Int)) == 0) = false := by simp; omega
  have e7'' : (((Y7 : Int)) != 0) = true := by simp; omega
  go_enter Try.func33, Try.ntmps33
  go_wp2_with fail
  refine HP.out.mono ?_
  rintro e w1 ⟨rfl, hb1⟩
  have b2 : Below w.heap.size w (w1.alloc (.cells M 28)) := hb1.alloc hb1.size _
  have k2 : Blk (w1.alloc (.cells M 28)) w1.heap.size 28 M := blk_new _ _ _
  generalize hg1 : w1.heap.size = g1 at *
  have c1 := (k2.cellA 1).trans m1
  have c2 := (k2.cellA 2).trans m2
  have c8 := (k2.cellA 8).trans m8
  have y0 : (w1.alloc (.cells M 28)).cell? ⟨b, off + S, none⟩ = some (.int .u8 3) := H0.out _ b2
  have y1 := H1.out _ b2
  go_wp2_with (first
    | (refine wpList_allocStore (cs := M) rfl rfl 28 ?ho (.tmp 4) (.tmp 10) ?ho2 Try.zeroHead ?hz ?hx ?hy ?hn ?h1 ?_
       case ho => with_reducible rfl
       case ho2 => rfl
       case hz => exact zH_size
       case hx => rfl
       case hy => rfl
       case hn => exact hsz
       case h1 => exact o1
       rw [hg1])
    | (refine wpList_loadBlk (g := g1) (t := 28) (cs := M) rfl 28 (.tmp 4) ?ho ?hx ?hA _ Try.underlying28 rfl ?hi ?_
       case ho => with_reducible rfl
       case hx => rfl
       case hA => exact k2
       case hi => exact ms)
    | fail)
  refine (HSm.out _ _ _ _).mono ?_
  rintro e w3 ⟨rfl, hb3⟩
  have b3 := Below.on b2 b2.size hb3
  clear hb3
  go_wp2_with fail
  refine (HSu.out _ b3).mono ?_
  rintro e w' ⟨rfl, rfl⟩
  have y4 := H4.out _ b3
  have y5 := H5.out _ b3
  have y6 := H6.out _ b3
  have y7 := H7.out _ b3
  go_wp2
  go_ret2
  exact ⟨by rw [HF.out]; rfl, b3⟩

end Go.Proofs.Ytblfllidejdehaa
