
/- Out of the texts IxD, IxE, IxF, IxH (tools/merge.py). -/
import Derived.Test.YtkokgoodpibboaaIxC
import Derived.Test.YtkokgoodpibboaaRpF
/- IxD -/
namespace Go.Proofs.Ytkokgoodpibboaa
open Go.RowKit
set_option maxRecDepth 100000
set_option linter.unusedSimpArgs false
set_option linter.unusedVariables false

set_option maxRecDepth 100000 in
set_option maxHeartbeats 1500000 in
theorem refRead6_bad (A : Option Addr) (n c : Nat) (l : List UInt8) (w : World) (hn : n ≤ 100000) (hc : n ≤ c) (hcm : c ≤ maxLen) (hs : Shows w w.heap.size A n l) (hE : ¬ r6E l = 0) :
    Calls Try.prog 42 #[.slice A n c] w fun e w' => e = .returned (.tuple #[.slice none 0 0, .int .i64 (r6E l : Int)]) ∧ Below w.heap.size w w' := by
  have hz := (zero_of_info Try.zeroHead).1
  have hne : ¬ zH = #[] := by intro h; have := zH_size; rw [h] at this; cases this
  have HP := Lib.hid (refParse6_all A n c l w (by omega) hc hcm hs)
  have hl := hs.len
  have hsz := pH6_size l
  have o1 := pH6_one l
  by_cases q0 : ¬ pE6 l = 0
  · have HF := Lib.hid (show r6E l = pE6 l by unfold r6E; rw [if_neg q0])
    clear hs hE
    generalize r6E l = RE at *
    generalize pH6 l = M at *
    generalize pE6 l = E0 at *
    have d0 : decide ((E0 : Int) = 0) = false := decide_eq_false (by omega)
    have d0' : (((E0 : Int)) == 0) = false := by simp; omega
    have d0'' : (((E0 : Int)) != 0) = true := by simp; omega
    go_enter Try.func42, Try.ntmps42
    go_wp2_with fail
    refine HP.out.mono ?_
    rintro e w1 ⟨rfl, hb1⟩
    have b2 : Below w.heap.size w (w1.alloc (.cells M 42)) := hb1.alloc hb1.size _
    have k2 : Blk (w1.alloc (.cells M 42)) w1.heap.size 42 M := blk_new _ _ _
    generalize hg1 : w1.heap.size = g1 at *
    go_wp2_with (first
      | (refine wpList_allocStore (cs := M) rfl rfl 42 ?ho (.tmp 4) (.tmp 10) ?ho2 Try.zeroHead ?hz ?hx ?hy ?hn ?h1 ?_
         case ho => with_reducible rfl
         case ho2 => rfl
         case hz => exact zH_size
         case hx => rfl
         case hy => rfl
         case hn => exact hsz
         case h1 => exact o1
         rw [hg1]))
    go_ret2
    exact ⟨by rw [HF.out]; rfl, b2⟩
  have q0' : pE6 l = 0 := by omega
  obtain ⟨m1', m2, m8⟩ := pH6_cells q0'
  obtain ⟨S, hS40⟩ : ∃ S : Nat, S = 40 := ⟨40, rfl⟩
  have m1 : (pH6 l)[1]? = some (.int .i64 (S : Int)) := by rw [hS40]; exact m1'
  clear m1'
  obtain ⟨g40, f4, _⟩ := pE6_facts q0'
  have f1 : 20 ≤ S := by omega
  have f2 : S ≤ 60 := by omega
  have f3 : S ≤ tot6 l := by unfold tot6; omega
  rw [hl] at f4 g40
  obtain ⟨b, off, rfl, hbb, _⟩ := hs.2 (by omega)
  have HSr := Lib.hid (fun (W : World) (hW : Below w.heap.size w W) => show Shows W W.heap.size (some ⟨b, off + S, none⟩) (tot6 l - S) (rest6 l) by rw [hS40]; exact rest6_shows ((hs.below hW).up hW.size) q0')
  have hrl : (rest6 l).length = tot6 l - S := by rw [hS40]; exact rest6_len q0'
  have hJl := pre6_len (src6 l) (dst6 l) (tot6 l - S) (src6_len (by omega)) (dst6_len (by omega))
  have HSm := Lib.hid (fun (A2 : Option Addr) (c2 : Nat) (W : World) (h : Shows W W.heap.size A2 (tot6 l - S) (rest6 l)) => show Calls Try.prog 86 #[.agg (pH6 l), .slice A2 (tot6 l - S) c2] W fun e w' => ∃ v, e = .returned v ∧ Own w' W.heap.size v (40 + (tot6 l - S)) (pre6 (src6 l) (dst6 l) (tot6 l - S) ++ rest6 l) ∧ Below W.heap.size W w' by
    rw [pH6_eq q0']
    unfold hdL6 hd6
    exact summed6 _ (src6 l) (dst6 l) rfl (src6_len (by omega)) (dst6_len (by omega)) A2 (tot6 l - S) c2 (rest6 l) W (by omega) h)
  have HSu := Lib.hid (fun (A2 : Option Addr) (c2 : Nat) (W : World) (h : Shows W W.heap.size A2 (40 + (tot6 l - S)) (pre6 (src6 l) (dst6 l) (tot6 l - S) ++ rest6 l)) => refSum_any A2 (40 + (tot6 l - S)) c2 (pre6 (src6 l) (dst6 l) (tot6 l - S) ++ rest6 l) W (by omega) h)
  have ms : (Try.prog.info? 42).map (·.size) = some (pH6 l).size := by rw [hsz]; exact Try.infoHead
  rw [q0'] at HP
  have HR := Lib.hid (show r6E l = if pr6 l = 58 then fE 1 0 (pre6 (src6 l) (dst6 l) (tot6 l - S)) (rest6 l) else 9 by rw [hS40]; unfold r6E; rw [if_pos q0'])
  clear hs q0 q0' hS40
  generalize rest6 l = R at *
  generalize pre6 (src6 l) (dst6 l) (tot6 l - S) = J at *
  generalize r6E l = RE at *
  generalize pH6 l = M at *
  generalize tot6 l = T at *
  generalize pr6 l = P at *
  by_cases q1 : ¬ P = 58
  · have HF := Lib.hid (show RE = 9 by rw [HR.out, if_neg q1])
    clear HR hE
    have d1 : decide ((P : Int) = 58) = false := decide_eq_false (by omega)
    have d1' : (((P : Int)) == 58) = false := by simp; omega
    have d1'' : (((P : Int)) != 58) = true := by simp; omega
    go_enter Try.func42, Try.ntmps42
    go_wp2_with fail
    refine HP.out.mono ?_
    rintro e w1 ⟨rfl, hb1⟩
    have b2 : Below w.heap.size w (w1.alloc (.cells M 42)) := hb1.alloc hb1.size _
    have k2 : Blk (w1.alloc (.cells M 42)) w1.heap.size 42 M := blk_new _ _ _
    generalize hg1 : w1.heap.size = g1 at *
    have c1 := (k2.cellA 1).trans m1
    have c2 := (k2.cellA 2).trans m2
    have c8 := (k2.cellA 8).trans m8
    go_wp2_with (first
      | (refine wpList_allocStore (cs := M) rfl rfl 42 ?ho (.tmp 4) (.tmp 10) ?ho2 Try.zeroHead ?hz ?hx ?hy ?hn ?h1 ?_
         case ho => with_reducible rfl
         case ho2 => rfl
         case hz => exact zH_size
         case hx => rfl
         case hy => rfl
         case hn => exact hsz
         case h1 => exact o1
         rw [hg1]))
    go_ret2
    exact ⟨by rw [HF.out]; rfl, b2⟩
  obtain rfl : P = 58 := by omega
  have m8' : M[8]? = some (.int .i64 58) := m8
  clear m8
  have m8 := m8'
  clear m8'
  rw [HR.out, if_pos rfl] at hE
  have HQ := Lib.hid (show RE = fE 1 0 J R by rw [HR.out, if_pos rfl])
  clear HR
  have iST : (S : Int) ≤ (T : Int) := by omega
  have iTc : (T : Int) ≤ (c : Int) := by omega
  by_cases q2 : T - S < 8
  · have HF := Lib.hid (show RE = 3 by rw [HQ.out]; unfold fE; rw [hrl, if_pos q2])
    have d2 : decide (((T - S : Nat) : Int) < 8) = true := decide_eq_true (by omega)
    have d2' : decide ((T : Int) - (S : Int) < 8) = true := decide_eq_true (by omega)
    clear HSr HQ hE hrl hJl
    by_cases q3 : c = S
    · obtain rfl : T = S := by omega
      subst q3
      go_enter Try.func42, Try.ntmps42
      go_wp2_with fail
      refine HP.out.mono ?_
      rintro e w1 ⟨rfl, hb1⟩
      have b2 : Below w.heap.size w (w1.alloc (.cells M 42)) := hb1.alloc hb1.size _
      have k2 : Blk (w1.alloc (.cells M 42)) w1.heap.size 42 M := blk_new _ _ _
      generalize hg1 : w1.heap.size = g1 at *
      have c1 := (k2.cellA 1).trans m1
      have c2 := (k2.cellA 2).trans m2
      have c8 := (k2.cellA 8).trans m8
      go_wp2_with (first
        | (refine wpList_allocStore (cs := M) rfl rfl 42 ?ho (.tmp 4) (.tmp 10) ?ho2 Try.zeroHead ?hz ?hx ?hy ?hn ?h1 ?_
           case ho => with_reducible rfl
           case ho2 => rfl
           case hz => exact zH_size
           case hx => rfl
           case hy => rfl
           case hn => exact hsz
           case h1 => exact o1
           rw [hg1]))
      go_ret2
      exact ⟨by rw [HF.out]; rfl, b2⟩
    · go_enter Try.func42, Try.ntmps42
      go_wp2_with fail
      refine HP.out.mono ?_
      rintro e w1 ⟨rfl, hb1⟩
      have b2 : Below w.heap.size w (w1.alloc (.cells M 42)) := hb1.alloc hb1.size _
      have k2 : Blk (w1.alloc (.cells M 42)) w1.heap.size 42 M := blk_new _ _ _
      generalize hg1 : w1.heap.size = g1 at *
      have c1 := (k2.cellA 1).trans m1
      have c2 := (k2.cellA 2).trans m2
      have c8 := (k2.cellA 8).trans m8
      go_wp2_with (first
        | (refine wpList_allocStore (cs := M) rfl rfl 42 ?ho (.tmp 4) (.tmp 10) ?ho2 Try.zeroHead ?hz ?hx ?hy ?hn ?h1 ?_
           case ho => with_reducible rfl
           case ho2 => rfl
           case hz => exact zH_size
           case hx => rfl
           case hy => rfl
           case hn => exact hsz
           case h1 => exact o1
           rw [hg1]))
      go_ret2
      exact ⟨by rw [HF.out]; rfl, b2⟩
  have d2 : decide (((T - S : Nat) : Int) < 8) = false := decide_eq_false (by omega)
  have d2' : decide ((T : Int) - (S : Int) < 8) = false := decide_eq_false (by omega)
  have q3 : ¬ c = S := by omega
  have HY := Lib.hid (fun (i : Nat) (hi : i < T - S) (W : World) (hW : Below w.heap.size w W) => show W.cell? ⟨b, off + S + i, none⟩ = some (.int .u8 (byt R i : Int)) from (HSr.out W hW).byt i hi)
  have H0 := Lib.hid (HY.out 0 (by omega))
  have H1 := Lib.hid (HY.out 1 (by omega))
  have H4 := Lib.hid (HY.out 4 (by omega))
  have H5 := Lib.hid (HY.out 5 (by omega))
  have H6 := Lib.hid (HY.out 6 (by omega))
  have H7 := Lib.hid (HY.out 7 (by omega))
  have in0 : (0 : Int) < ((T - S : Nat) : Int) := by omega
  have in0' : 0 < T - S := by omega
  have in0'' : S < T := by omega
  have in1 : (1 : Int) < ((T - S : Nat) : Int) := by omega
  have in1' : (1 : Int) < (T : Int) - (S : Int) := by omega
  have in4 : (4 : Int) < ((T - S : Nat) : Int) := by omega
  have in4' : (4 : Int) < (T : Int) - (S : Int) := by omega
  have in5 : (5 : Int) < ((T - S : Nat) : Int) := by omega
  have in5' : (5 : Int) < (T : Int) - (S : Int) := by omega
  have in6 : (6 : Int) < ((T - S : Nat) : Int) := by omega
  have in6' : (6 : Int) < (T : Int) - (S : Int) := by omega
  have in7 : (7 : Int) < ((T - S : Nat) : Int) := by omega
  have in7' : (7 : Int) < (T : Int) - (S : Int) := by omega
  have HQ2 := Lib.hid (show RE = if byt R 0 = 1 ∧ byt R 1 = 0 then (if osum (J ++ R) = 65535 then (if byt R 4 = 0 ∧ byt R 5 = 0 ∧ byt R 6 = 0 ∧ byt R 7 = 0 then 0 else 10) else 11) else 9 by rw [HQ.out]; unfold fE; rw [if_neg (by omega)])
  have hE2 : ¬ RE = 0 := by rw [HQ.out]; exact hE
  clear HY HQ hE hrl hJl
  generalize byt R 0 = Y0 at *
  generalize byt R 1 = Y1 at *
  generalize byt R 4 = Y4 at *
  generalize byt R 5 = Y5 at *
  generalize byt R 6 = Y6 at *
  generalize byt R 7 = Y7 at *
  generalize osum (J ++ R) = OS at *
  by_cases r0 : ¬ Y0 = 1
  · have HF := Lib.hid (show RE = 9 by rw [HQ2.out, if_neg (by omega)])
    clear HQ2 hE2
    have e0 : decide ((Y0 : Int) = 1) = false := decide_eq_false (by omega)
    have e0' : (((Y0 : Int)) == 1) = false := by simp; omega
    have e0'' : (((Y0 : Int)) != 1) = true := by simp; omega
    go_enter Try.func42, Try.ntmps42
    go_wp2_with fail
    refine HP.out.mono ?_
    rintro e w1 ⟨rfl, hb1⟩
    have b2 : Below w.heap.size w (w1.alloc (.cells M 42)) := hb1.alloc hb1.size _
    have k2 : Blk (w1.alloc (.cells M 42)) w1.heap.size 42 M := blk_new _ _ _
    generalize hg1 : w1.heap.size = g1 at *
    have c1 := (k2.cellA 1).trans m1
    have c2 := (k2.cellA 2).trans m2
    have c8 := (k2.cellA 8).trans m8
    have y0 : (w1.alloc (.cells M 42)).cell? ⟨b, off + S, none⟩ = some (.int .u8 (Y0 : Int)) := H0.out _ b2
    have y1 := H1.out _ b2
    go_wp2_with (first
      | (refine wpList_allocStore (cs := M) rfl rfl 42 ?ho (.tmp 4) (.tmp 10) ?ho2 Try.zeroHead ?hz ?hx ?hy ?hn ?h1 ?_
         case ho => with_reducible rfl
         case ho2 => rfl
         case hz => exact zH_size
         case hx => rfl
         case hy => rfl
         case hn => exact hsz
         case h1 => exact o1
         rw [hg1]))
    go_ret2
    exact ⟨by rw [HF.out]; rfl, b2⟩
  obtain rfl : Y0 = 1 := by omega
  by_cases r1 : ¬ Y1 = 0
  · have HF := Lib.hid (show RE = 9 by rw [HQ2.out, if_neg (by omega)])
    clear HQ2 hE2
    have e1 : decide ((Y1 : Int) = 0) = false := decide_eq_false (by omega)
    have e1' : (((Y1 : Int)) == 0) = false := by simp; omega
    have e1'' : (((Y1 : Int)) != 0) = true := by simp; omega
    go_enter Try.func42, Try.ntmps42
    go_wp2_with fail
    refine HP.out.mono ?_
    rintro e w1 ⟨rfl, hb1⟩
    have b2 : Below w.heap.size w (w1.alloc (.cells M 42)) := hb1.alloc hb1.size _
    have k2 : Blk (w1.alloc (.cells M 42)) w1.heap.size 42 M := blk_new _ _ _
    generalize hg1 : w1.heap.size = g1 at *
    have c1 := (k2.cellA 1).trans m1
    have c2 := (k2.cellA 2).trans m2
    have c8 := (k2.cellA 8).trans m8
    have y0 : (w1.alloc (.cells M 42)).cell? ⟨b, off + S, none⟩ = some (.int .u8 1) := H0.out _ b2
    have y1 := H1.out _ b2
    go_wp2_with (first
      | (refine wpList_allocStore (cs := M) rfl rfl 42 ?ho (.tmp 4) (.tmp 10) ?ho2 Try.zeroHead ?hz ?hx ?hy ?hn ?h1 ?_
         case ho => with_reducible rfl
         case ho2 => rfl
         case hz => exact zH_size
         case hx => rfl
         case hy => rfl
         case hn => exact hsz
         case h1 => exact o1
         rw [hg1]))
    go_ret2
    exact ⟨by rw [HF.out]; rfl, b2⟩
  obtain rfl : Y1 = 0 := by omega
  by_cases r2 : ¬ OS = 65535
  · have HF := Lib.hid (show RE = 11 by rw [HQ2.out, if_pos ⟨rfl, rfl⟩, if_neg r2])
    clear HQ2 hE2
    have e2 : decide ((OS : Int) = 65535) = false := decide_eq_false (by omega)
    have e2' : (((OS : Int)) == 65535) = false := by simp; omega
    have e2'' : (((OS : Int)) != 65535) = true := by simp; omega
    go_enter Try.func42, Try.ntmps42
    go_wp2_with fail
    refine HP.out.mono ?_
    rintro e w1 ⟨rfl, hb1⟩
    have b2 : Below w.heap.size w (w1.alloc (.cells M 42)) := hb1.alloc hb1.size _
    have k2 : Blk (w1.alloc (.cells M 42)) w1.heap.size 42 M := blk_new _ _ _
    generalize hg1 : w1.heap.size = g1 at *
    have c1 := (k2.cellA 1).trans m1
    have c2 := (k2.cellA 2).trans m2
    have c8 := (k2.cellA 8).trans m8
    have y0 : (w1.alloc (.cells M 42)).cell? ⟨b, off + S, none⟩ = some (.int .u8 1) := H0.out _ b2
    have y1 := H1.out _ b2
    go_wp2_with (first
      | (refine wpList_allocStore (cs := M) rfl rfl 42 ?ho (.tmp 4) (.tmp 10) ?ho2 Try.zeroHead ?hz ?hx ?hy ?hn ?h1 ?_
         case ho => with_reducible rfl
         case ho2 => rfl
         case hz => exact zH_size
         case hx => rfl
         case hy => rfl
         case hn => exact hsz
         case h1 => exact o1
         rw [hg1])
      | (refine wpList_loadBlk (g := g1) (t := 42) (cs := M) rfl 42 (.tmp 4) ?ho ?hx ?hA _ Try.underlying42 rfl ?hi ?_
         case ho => with_reducible rfl
         case hx => rfl
         case hA => exact k2
         case hi => exact ms)
      | fail)
    refine (HSm.out _ _ _ (HSr.out _ b2)).mono ?_
    rintro e w3 ⟨v3, rfl, ho3, hb3⟩
    obtain ⟨A3, c3, rfl, _, _, s3⟩ := ho3.shows
    have b3 := Below.on b2 b2.size hb3
    clear hb3
    go_wp2_with fail
    refine (HSu.out _ _ _ s3).mono ?_
    rintro e w' ⟨rfl, rfl⟩
    have y4 := H4.out _ b3
    have y5 := H5.out _ b3
    have y6 := H6.out _ b3
    have y7 := H7.out _ b3
    go_wp2
    go_ret2
    exact ⟨by rw [HF.out]; rfl, b3⟩
  obtain rfl : OS = 65535 := by omega
  have HF := Lib.hid (show ¬ (Y4 = 0 ∧ Y5 = 0 ∧ Y6 = 0 ∧ Y7 = 0) → RE = 10 from fun h => by rw [HQ2.out, if_pos ⟨rfl, rfl⟩, if_pos rfl, if_neg h])
  have hnz : ¬ (Y4 = 0 ∧ Y5 = 0 ∧ Y6 = 0 ∧ Y7 = 0) := fun h => hE2 (by rw [HQ2.out, if_pos ⟨rfl, rfl⟩, if_pos rfl, if_pos h])
  have HG := Lib.hid (HF.out hnz)
  clear HF HQ2 hE2
  have HF := HG
  clear HG
  by_cases r4 : ¬ Y4 = 0
  · clear hnz
    have e4 : decide ((Y4 : Int) = 0) = false := decide_eq_false (by omega)
    have e4' : (((Y4 : Int)) == 0) = false := by simp; omega
    have e4'' : (((Y4 : Int)) != 0) = true := by simp; omega
    go_enter Try.func42, Try.ntmps42
    go_wp2_with fail
    refine HP.out.mono ?_
    rintro e w1 ⟨rfl, hb1⟩
    have b2 : Below w.heap.size w (w1.alloc (.cells M 42)) := hb1.alloc hb1.size _
    have k2 : Blk (w1.alloc (.cells M 42)) w1.heap.size 42 M := blk_new _ _ _
    generalize hg1 : w1.heap.size = g1 at *
    have c1 := (k2.cellA 1).trans m1
    have c2 := (k2.cellA 2).trans m2
    have c8 := (k2.cellA 8).trans m8
    have y0 : (w1.alloc (.cells M 42)).cell? ⟨b, off + S, none⟩ = some (.int .u8 1) := H0.out _ b2
    have y1 := H1.out _ b2
    go_wp2_with (first
      | (refine wpList_allocStore (cs := M) rfl rfl 42 ?ho (.tmp 4) (.tmp 10) ?ho2 Try.zeroHead ?hz ?hx ?hy ?hn ?h1 ?_
         case ho => with_reducible rfl
         case ho2 => rfl
         case hz => exact zH_size
         case hx => rfl
         case hy => rfl
         case hn => exact hsz
         case h1 => exact o1
         rw [hg1])
      | (refine wpList_loadBlk (g := g1) (t := 42) (cs := M) rfl 42 (.tmp 4) ?ho ?hx ?hA _ Try.underlying42 rfl ?hi ?_
         case ho => with_reducible rfl
         case hx => rfl
         case hA => exact k2
         case hi => exact ms)
      | fail)
    refine (HSm.out _ _ _ (HSr.out _ b2)).mono ?_
    rintro e w3 ⟨v3, rfl, ho3, hb3⟩
    obtain ⟨A3, c3, rfl, _, _, s3⟩ := ho3.shows
    have b3 := Below.on b2 b2.size hb3
    clear hb3
    go_wp2_with fail
    refine (HSu.out _ _ _ s3).mono ?_
    rintro e w' ⟨rfl, rfl⟩
    have y4 := H4.out _ b3
    have y5 := H5.out _ b3
    have y6 := H6.out _ b3
    have y7 := H7.out _ b3
    go_wp2
    go_ret2
    exact ⟨by rw [HF.out]; rfl, b3⟩
  obtain rfl : Y4 = 0 := by omega
  by_cases r5 : ¬ Y5 = 0
  · clear hnz
    have e5 : decide ((Y5 : Int) = 0) = false := decide_eq_false (by omega)
    have e5' : (((Y5 : Int)) == 0) = false := by simp; omega
    have e5'' : (((Y5 : Int)) != 0) = true := by simp; omega
    go_enter Try.func42, Try.ntmps42
    go_wp2_with fail
    refine HP.out.mono ?_
    rintro e w1 ⟨rfl, hb1⟩
    have b2 : Below w.heap.size w (w1.alloc (.cells M 42)) := hb1.alloc hb1.size _
    have k2 : Blk (w1.alloc (.cells M 42)) w1.heap.size 42 M := blk_new _ _ _
    generalize hg1 : w1.heap.size = g1 at *
    have c1 := (k2.cellA 1).trans m1
    have c2 := (k2.cellA 2).trans m2
    have c8 := (k2.cellA 8).trans m8
    have y0 : (w1.alloc (.cells M 42)).cell? ⟨b, off + S, none⟩ = some (.int .u8 1) := H0.out _ b2
    have y1 := H1.out _ b2
    go_wp2_with (first
      | (refine wpList_allocStore (cs := M) rfl rfl 42 ?ho (.tmp 4) (.tmp 10) ?ho2 Try.zeroHead ?hz ?hx ?hy ?hn ?h1 ?_
         case ho => with_reducible rfl
         case ho2 => rfl
         case hz => exact zH_size
         case hx => rfl
         case hy => rfl
         case hn => exact hsz
         case h1 => exact o1
         rw [hg1])
      | (refine wpList_loadBlk (g := g1) (t := 42) (cs := M) rfl 42 (.tmp 4) ?ho ?hx ?hA _ Try.underlying42 rfl ?hi ?_
         case ho => with_reducible rfl
         case hx => rfl
         case hA => exact k2
         case hi => exact ms)
      | fail)
    refine (HSm.out _ _ _ (HSr.out _ b2)).mono ?_
    rintro e w3 ⟨v3, rfl, ho3, hb3⟩
    obtain ⟨A3, c3, rfl, _, _, s3⟩ := ho3.shows
    have b3 := Below.on b2 b2.size hb3
    clear hb3
    go_wp2_with fail
    refine (HSu.out _ _ _ s3).mono ?_
    rintro e w' ⟨rfl, rfl⟩
    have y4 := H4.out _ b3
    have y5 := H5.out _ b3
    have y6 := H6.out _ b3
    have y7 := H7.out _ b3
    go_wp2
    go_ret2
    exact ⟨by rw [HF.out]; rfl, b3⟩
  obtain rfl : Y5 = 0 := by omega
  by_cases r6 : ¬ Y6 = 0
  · clear hnz
    have e6 : decide ((Y6 : Int) = 0) = false := decide_eq_false (by omega)
    have e6' : (((Y6 : Int)) == 0) = false := by simp; omega
    have e6'' : (((Y6 : Int)) != 0) = true := by simp; omega
    go_enter Try.func42, Try.ntmps42
    go_wp2_with fail
    refine HP.out.mono ?_
    rintro e w1 ⟨rfl, hb1⟩
    have b2 : Below w.heap.size w (w1.alloc (.cells M 42)) := hb1.alloc hb1.size _
    have k2 : Blk (w1.alloc (.cells M 42)) w1.heap.size 42 M := blk_new _ _ _
    generalize hg1 : w1.heap.size = g1 at *
    have c1 := (k2.cellA 1).trans m1
    have c2 := (k2.cellA 2).trans m2
    have c8 := (k2.cellA 8).trans m8
    have y0 : (w1.alloc (.cells M 42)).cell? ⟨b, off + S, none⟩ = some (.int .u8 1) := H0.out _ b2
    have y1 := H1.out _ b2
    go_wp2_with (first
      | (refine wpList_allocStore (cs := M) rfl rfl 42 ?ho (.tmp 4) (.tmp 10) ?ho2 Try.zeroHead ?hz ?hx ?hy ?hn ?h1 ?_
         case ho => with_reducible rfl
         case ho2 => rfl
         case hz => exact zH_size
         case hx => rfl
         case hy => rfl
         case hn => exact hsz
         case h1 => exact o1
         rw [hg1])
      | (refine wpList_loadBlk (g := g1) (t := 42) (cs := M) rfl 42 (.tmp 4) ?ho ?hx ?hA _ Try.underlying42 rfl ?hi ?_
         case ho => with_reducible rfl
         case hx => rfl
         case hA => exact k2
         case hi => exact ms)
      | fail)
    refine (HSm.out _ _ _ (HSr.out _ b2)).mono ?_
    rintro e w3 ⟨v3, rfl, ho3, hb3⟩
    obtain ⟨A3, c3, rfl, _, _, s3⟩ := ho3.shows
    have b3 := Below.on b2 b2.size hb3
    clear hb3
    go_wp2_with fail
    refine (HSu.out _ _ _ s3).mono ?_
    rintro e w' ⟨rfl, rfl⟩
    have y4 := H4.out _ b3
    have y5 := H5.out _ b3
    have y6 := H6.out _ b3
    have y7 := H7.out _ b3
    go_wp2
    go_ret2
    exact ⟨by rw [HF.out]; rfl, b3⟩
  obtain rfl : Y6 = 0 := by omega
  have r7 : ¬ Y7 = 0 := by omega
  clear hnz
  have e7 : decide ((Y7 : Int) = 0) = false := decide_eq_false (by omega)
  have e7' : (((Y7 : Int)) == 0) = false := by simp; omega
  have e7'' : (((Y7 : Int)) != 0) = true := by simp; omega
  go_enter Try.func42, Try.ntmps42
  go_wp2_with fail
  refine HP.out.mono ?_
  rintro e w1 ⟨rfl, hb1⟩
  have b2 : Below w.heap.size w (w1.alloc (.cells M 42)) := hb1.alloc hb1.size _
  have k2 : Blk (w1.alloc (.cells M 42)) w1.heap.size 42 M := blk_new _ _ _
  generalize hg1 : w1.heap.size = g1 at *
  have c1 := (k2.cellA 1).trans m1
  have c2 := (k2.cellA 2).trans m2
  have c8 := (k2.cellA 8).trans m8
  have y0 : (w1.alloc (.cells M 42)).cell? ⟨b, off + S, none⟩ = some (.int .u8 1) := H0.out _ b2
  have y1 := H1.out _ b2
  go_wp2_with (first
    | (refine wpList_allocStore (cs := M) rfl rfl 42 ?ho (.tmp 4) (.tmp 10) ?ho2 Try.zeroHead ?hz ?hx ?hy ?hn ?h1 ?_
       case ho => with_reducible rfl
       case ho2 => rfl
       case hz => exact zH_size
       case hx => rfl
       case hy => rfl
       case hn => exact hsz
       case h1 => exact o1
       rw [hg1])
    | (refine wpList_loadBlk (g := g1) (t := 42) (cs := M) rfl 42 (.tmp 4) ?ho ?hx ?hA _ Try.underlying42 rfl ?hi ?_
       case ho => with_reducible rfl
       case hx => rfl
       case hA => exact k2
       case hi => exact ms)
    | fail)
  refine (HSm.out _ _ _ (HSr.out _ b2)).mono ?_
  rintro e w3 ⟨v3, rfl, ho3, hb3⟩
  obtain ⟨A3, c3, rfl, _, _, s3⟩ := ho3.shows
  have b3 := Below.on b2 b2.size hb3
  clear hb3
  go_wp2_with fail
  refine (HSu.out _ _ _ s3).mono ?_
  rintro e w' ⟨rfl, rfl⟩
  have y4 := H4.out _ b3
  have y5 := H5.out _ b3
  have y6 := H6.out _ b3
  have y7 := H7.out _ b3
  go_wp2
  go_ret2
  exact ⟨by rw [HF.out]; rfl, b3⟩

end Go.Proofs.Ytkokgoodpibboaa

/- IxE -/
namespace Go.Proofs.Ytkokgoodpibboaa
open Go.RowKit
set_option linter.unusedSimpArgs false
set_option linter.unusedVariables false

set_option maxRecDepth 100000 in
set_option maxHeartbeats 1500000 in
theorem refRead6_ok (A : Option Addr) (n c : Nat) (l : List UInt8) (w : World) (hn : n ≤ 100000) (hc : n ≤ c) (hcm : c ≤ maxLen) (hs : Shows w w.heap.size A n l) (hE : r6E l = 0) :
    Calls Try.prog 42 #[.slice A n c] w fun e w' => ∃ A' c', e = .returned (.tuple #[.slice A' (tot6 l - 40 - 8) c', .int .i64 0]) ∧ Shows w' w'.heap.size A' (tot6 l - 40 - 8) ((rest6 l).drop 8) ∧ Below w.heap.size w w' := by
  have hz := (zero_of_info Try.zeroHead).1
  have hne : ¬ zH = #[] := by intro h; have := zH_size; rw [h] at this; cases this
  have HP := Lib.hid (refParse6_all A n c l w (by omega) hc hcm hs)
  have hl := hs.len
  have hsz := pH6_size l
  have o1 := pH6_one l
  have q0' : pE6 l = 0 := by
    unfold r6E at hE
    split at hE
    · assumption
    · exact hE
  obtain ⟨m1', m2, m8⟩ := pH6_cells q0'
  obtain ⟨S, hS40⟩ : ∃ S : Nat, S = 40 := ⟨40, rfl⟩
  have m1 : (pH6 l)[1]? = some (.int .i64 (S : Int)) := by rw [hS40]; exact m1'
  clear m1'
  rw [← hS40]
  obtain ⟨g40, f4, _⟩ := pE6_facts q0'
  have f1 : 20 ≤ S := by omega
  have f2 : S ≤ 60 := by omega
  have f3 : S ≤ tot6 l := by unfold tot6; omega
  rw [hl] at f4 g40
  obtain ⟨b, off, rfl, hbb, _⟩ := hs.2 (by omega)
  have HSr := Lib.hid (fun (W : World) (hW : Below w.heap.size w W) => show Shows W W.heap.size (some ⟨b, off + S, none⟩) (tot6 l - S) (rest6 l) by rw [hS40]; exact rest6_shows ((hs.below hW).up hW.size) q0')
  have hrl : (rest6 l).length = tot6 l - S := by rw [hS40]; exact rest6_len q0'
  have hJl := pre6_len (src6 l) (dst6 l) (tot6 l - S) (src6_len (by omega)) (dst6_len (by omega))
  have HSm := Lib.hid (fun (A2 : Option Addr) (c2 : Nat) (W : World) (h : Shows W W.heap.size A2 (tot6 l - S) (rest6 l)) => show Calls Try.prog 86 #[.agg (pH6 l), .slice A2 (tot6 l - S) c2] W fun e w' => ∃ v, e = .returned v ∧ Own w' W.heap.size v (40 + (tot6 l - S)) (pre6 (src6 l) (dst6 l) (tot6 l - S) ++ rest6 l) ∧ Below W.heap.size W w' by
    rw [pH6_eq q0']
    unfold hdL6 hd6
    exact summed6 _ (src6 l) (dst6 l) rfl (src6_len (by omega)) (dst6_len (by omega)) A2 (tot6 l - S) c2 (rest6 l) W (by omega) h)
  have HSu := Lib.hid (fun (A2 : Option Addr) (c2 : Nat) (W : World) (h : Shows W W.heap.size A2 (40 + (tot6 l - S)) (pre6 (src6 l) (dst6 l) (tot6 l - S) ++ rest6 l)) => refSum_any A2 (40 + (tot6 l - S)) c2 (pre6 (src6 l) (dst6 l) (tot6 l - S) ++ rest6 l) W (by omega) h)
  have ms : (Try.prog.info? 42).map (·.size) = some (pH6 l).size := by rw [hsz]; exact Try.infoHead
  rw [q0'] at HP
  have hF : pr6 l = 58 ∧ fE 1 0 (pre6 (src6 l) (dst6 l) (tot6 l - S)) (rest6 l) = 0 := by
    rw [hS40]
    unfold r6E at hE
    rw [if_pos q0'] at hE
    split at hE
    · exact ⟨by assumption, hE⟩
    · cases hE
  obtain ⟨e8, hF⟩ := hF
  rw [e8] at m8
  have m8' : (pH6 l)[8]? = some (.int .i64 58) := m8
  clear m8
  have m8 := m8'
  clear m8'
  unfold fE at hF
  rw [hrl] at hF
  by_cases h8 : tot6 l - S < 8
  · rw [if_pos h8] at hF; cases hF
  rw [if_neg h8] at hF
  clear hs hE e8 q0' hS40
  generalize rest6 l = R at *
  generalize pre6 (src6 l) (dst6 l) (tot6 l - S) = J at *
  generalize pH6 l = M at *
  generalize tot6 l = T at *
  have iST : (S : Int) ≤ (T : Int) := by omega
  have iTc : (T : Int) ≤ (c : Int) := by omega
  have d2 : decide (((T - S : Nat) : Int) < 8) = false := decide_eq_false (by omega)
  have d2' : decide ((T : Int) - (S : Int) < 8) = false := decide_eq_false (by omega)
  have q3 : ¬ c = S := by omega
  have HY := Lib.hid (fun (i : Nat) (hi : i < T - S) (W : World) (hW : Below w.heap.size w W) => show W.cell? ⟨b, off + S + i, none⟩ = some (.int .u8 (byt R i : Int)) from (HSr.out W hW).byt i hi)
  have H0 := Lib.hid (HY.out 0 (by omega))
  have H1 := Lib.hid (HY.out 1 (by omega))
  have H4 := Lib.hid (HY.out 4 (by omega))
  have H5 := Lib.hid (HY.out 5 (by omega))
  have H6 := Lib.hid (HY.out 6 (by omega))
  have H7 := Lib.hid (HY.out 7 (by omega))
  have in0 : (0 : Int) < ((T - S : Nat) : Int) := by omega
  have in0' : 0 < T - S := by omega
  have in0'' : S < T := by omega
  have in1 : (1 : Int) < ((T - S : Nat) : Int) := by omega
  have in1' : (1 : Int) < (T : Int) - (S : Int) := by omega
  have in4 : (4 : Int) < ((T - S : Nat) : Int) := by omega
  have in4' : (4 : Int) < (T : Int) - (S : Int) := by omega
  have in5 : (5 : Int) < ((T - S : Nat) : Int) := by omega
  have in5' : (5 : Int) < (T : Int) - (S : Int) := by omega
  have in6 : (6 : Int) < ((T - S : Nat) : Int) := by omega
  have in6' : (6 : Int) < (T : Int) - (S : Int) := by omega
  have in7 : (7 : Int) < ((T - S : Nat) : Int) := by omega
  have in7' : (7 : Int) < (T : Int) - (S : Int) := by omega
  have HD1 := Lib.hid (fun (W : World) (hW : Below w.heap.size w W) => show Shows W W.heap.size (some ⟨b, off + S + 8, none⟩) (T - S - 8) (R.drop 8) by
    have := (HSr.out W hW).piece 8 (T - S - 8) (by omega)
    rw [List.take_of_length_le (by simp; omega)] at this
    exact this)
  have HD2 := Lib.hid (fun (W : World) (h : T - S = 8) => show Shows W W.heap.size (some ⟨b, off + S, none⟩) (T - S - 8) (R.drop 8) from ⟨by simp; omega, fun h => absurd h (by omega)⟩)
  clear HY hrl hJl
  have g1 : byt R 0 = 1 ∧ byt R 1 = 0 := by
    by_cases h : byt R 0 = 1 ∧ byt R 1 = 0
    · exact h
    · rw [if_neg h] at hF; cases hF
  rw [if_pos g1] at hF
  have g2 : osum (J ++ R) = 65535 := by
    by_cases h : osum (J ++ R) = 65535
    · exact h
    · rw [if_neg (by simpa using h)] at hF; cases hF
  rw [if_pos (by simpa using g2)] at hF
  have g3 : byt R 4 = 0 ∧ byt R 5 = 0 ∧ byt R 6 = 0 ∧ byt R 7 = 0 := by
    by_cases h : byt R 4 = 0 ∧ byt R 5 = 0 ∧ byt R 6 = 0 ∧ byt R 7 = 0
    · exact h
    · rw [if_neg h] at hF; cases hF
  clear hF
  rw [g1.1] at H0
  rw [g1.2] at H1
  rw [g3.1] at H4
  rw [g3.2.1] at H5
  rw [g3.2.2.1] at H6
  rw [g3.2.2.2] at H7
  rw [g2] at HSu
  clear g1 g2 g3
  generalize hDe : R.drop 8 = D at *
  clear hDe
  have ih8 : (8 : Int) ≤ ((T - S : Nat) : Int) := by omega
  have ih8' : (8 : Int) ≤ (T : Int) - (S : Int) := by omega
  by_cases q5 : c - S = 8
  · have N8 := Lib.hid (show T - S = 8 by omega)
    go_enter Try.func42, Try.ntmps42
    go_wp2_with fail
    refine HP.out.mono ?_
    rintro e w1 ⟨rfl, hb1⟩
    have b2 : Below w.heap.size w (w1.alloc (.cells M 42)) := hb1.alloc hb1.size _
    have k2 : Blk (w1.alloc (.cells M 42)) w1.heap.size 42 M := blk_new _ _ _
    generalize hg1 : w1.heap.size = g1 at *
    have c1 := (k2.cellA 1).trans m1
    have c2 := (k2.cellA 2).trans m2
    have c8 := (k2.cellA 8).trans m8
    have y0 : (w1.alloc (.cells M 42)).cell? ⟨b, off + S, none⟩ = some (.int .u8 1) := H0.out _ b2
    have y1 := H1.out _ b2
    go_wp2_with (first
      | (refine wpList_allocStore (cs := M) rfl rfl 42 ?ho (.tmp 4) (.tmp 10) ?ho2 Try.zeroHead ?hz ?hx ?hy ?hn ?h1 ?_
         case ho => with_reducible rfl
         case ho2 => rfl
         case hz => exact zH_size
         case hx => rfl
         case hy => rfl
         case hn => exact hsz
         case h1 => exact o1
         rw [hg1])
      | (refine wpList_loadBlk (g := g1) (t := 42) (cs := M) rfl 42 (.tmp 4) ?ho ?hx ?hA _ Try.underlying42 rfl ?hi ?_
         case ho => with_reducible rfl
         case hx => rfl
         case hA => exact k2
         case hi => exact ms)
      | fail)
    refine (HSm.out _ _ _ (HSr.out _ b2)).mono ?_
    rintro e w3 ⟨v3, rfl, ho3, hb3⟩
    obtain ⟨A3, c3, rfl, _, _, s3⟩ := ho3.shows
    have b3 := Below.on b2 b2.size hb3
    clear hb3
    go_wp2_with fail
    refine (HSu.out _ _ _ s3).mono ?_
    rintro e w' ⟨rfl, rfl⟩
    have y4 := H4.out _ b3
    have y5 := H5.out _ b3
    have y6 := H6.out _ b3
    have y7 := H7.out _ b3
    go_wp2
    go_ret2
    exact ⟨_, _, rfl, HD2.out _ N8.out, b3⟩
  · go_enter Try.func42, Try.ntmps42
    go_wp2_with fail
    refine HP.out.mono ?_
    rintro e w1 ⟨rfl, hb1⟩
    have b2 : Below w.heap.size w (w1.alloc (.cells M 42)) := hb1.alloc hb1.size _
    have k2 : Blk (w1.alloc (.cells M 42)) w1.heap.size 42 M := blk_new _ _ _
    generalize hg1 : w1.heap.size = g1 at *
    have c1 := (k2.cellA 1).trans m1
    have c2 := (k2.cellA 2).trans m2
    have c8 := (k2.cellA 8).trans m8
    have y0 : (w1.alloc (.cells M 42)).cell? ⟨b, off + S, none⟩ = some (.int .u8 1) := H0.out _ b2
    have y1 := H1.out _ b2
    go_wp2_with (first
      | (refine wpList_allocStore (cs := M) rfl rfl 42 ?ho (.tmp 4) (.tmp 10) ?ho2 Try.zeroHead ?hz ?hx ?hy ?hn ?h1 ?_
         case ho => with_reducible rfl
         case ho2 => rfl
         case hz => exact zH_size
         case hx => rfl
         case hy => rfl
         case hn => exact hsz
         case h1 => exact o1
         rw [hg1])
      | (refine wpList_loadBlk (g := g1) (t := 42) (cs := M) rfl 42 (.tmp 4) ?ho ?hx ?hA _ Try.underlying42 rfl ?hi ?_
         case ho => with_reducible rfl
         case hx => rfl
         case hA => exact k2
         case hi => exact ms)
      | fail)
    refine (HSm.out _ _ _ (HSr.out _ b2)).mono ?_
    rintro e w3 ⟨v3, rfl, ho3, hb3⟩
    obtain ⟨A3, c3, rfl, _, _, s3⟩ := ho3.shows
    have b3 := Below.on b2 b2.size hb3
    clear hb3
    go_wp2_with fail
    refine (HSu.out _ _ _ s3).mono ?_
    rintro e w' ⟨rfl, rfl⟩
    have y4 := H4.out _ b3
    have y5 := H5.out _ b3
    have y6 := H6.out _ b3
    have y7 := H7.out _ b3
    go_wp2
    go_ret2
    exact ⟨_, _, rfl, HD1.out _ b3, b3⟩

end Go.Proofs.Ytkokgoodpibboaa

/- IxF -/
namespace Go.Proofs.Ytkokgoodpibboaa
open Go.RowKit
set_option linter.unusedSimpArgs false
set_option linter.unusedVariables false

/-- The message that a packet of family 6 did not arrive. -/
def msg6 (l : List UInt8) : List UInt8 := pkt6 0 0 64 58 (dst6 l) (src6 l) (noteL 1 0 (65535 - osum (pre6 (dst6 l) (src6 l) (8 + min l.length 1232) ++ noteL 1 0 0 (l.take (min l.length 1232)))) (l.take (min l.length 1232)))
theorem ksix {l : List UInt8} (hE : kE l = 0) (h6 : kX l 0 = 6) : pE6 l = 0 ∧ kH l = hdL6 l := by
  have h0 := kE_len hE
  unfold kE at hE
  rw [if_neg h0] at hE
  by_cases f4 : fam l = 4
  · rw [if_pos f4] at hE
    have := (pfour hE).2
    omega
  · rw [if_neg f4] at hE
    by_cases f6 : fam l = 6
    · rw [if_pos f6] at hE
      refine ⟨hE, ?_⟩
      unfold kH
      rw [if_neg h0, if_neg f4, if_pos f6]
      exact pH6_eq hE
    · rw [if_neg f6] at hE; cases hE
theorem psix {l : List UInt8} (hE : pE6 l = 0) : kE l = 0 ∧ kX l 0 = 6 := by
  obtain ⟨h40, _, hv⟩ := pE6_facts hE
  have f6 : fam l = 6 := by rw [fam_n1 l (by omega), hv]
  have eH : kH l = hdL6 l := by unfold kH; rw [if_neg (by omega), f6, if_neg (by omega), if_pos rfl]; exact pH6_eq hE
  refine ⟨by unfold kE; rw [if_neg (by omega), f6, if_neg (by omega), if_pos rfl]; exact hE, ?_⟩
  unfold kX
  rw [eH]
  unfold hdL6 hd6
  rw [hdv_num _ _ _ 0 _ rfl, hv]
  rfl

set_option maxHeartbeats 1000000 in
theorem unreach6_bad (A : Option Addr) (n c : Nat) (l : List UInt8) (w : World) (hn : n ≤ 60000) (hc : n ≤ c) (hcm : c ≤ maxLen) (hs : Shows w w.heap.size A n l) (hbad : ¬ (pE6 l = 0 ∧ kW l = true)) :
    Calls Try.prog 39 #[.slice A n c] w fun e w' => e = .returned (.tuple #[.slice none 0 0, .int .i64 1]) ∧ Below w.heap.size w w' := by
  have hz := (zero_of_info Try.zeroHead).1
  have hne : ¬ zH = #[] := by intro h; have := zH_size; rw [h] at this; cases this
  have HP := Lib.hid (parse6_any A n c l w (by omega) hc hcm hs)
  have HWh := Lib.hid (fun (W : World) (hW' : Below w.heap.size w W) => whole_any A n c l W (by omega) hc hcm ((hs.below hW').up hW'.size))
  have hsz := pH6_size l
  have o1 := pH6_one l
  clear hs
  generalize pH6 l = M at *
  by_cases q : ¬ pE6 l = 0
  · clear hbad HWh
    generalize pE6 l = E0 at *
    have d0 : decide ((E0 : Int) = 0) = false := decide_eq_false (by omega)
    have d0' : (((E0 : Int)) == 0) = false := by simp; omega
    have d0'' : (((E0 : Int)) != 0) = true := by simp; omega
    go_enter Try.func39, Try.ntmps39
    go_wp2_with fail
    refine HP.out.mono ?_
    rintro e w1 ⟨rfl, hb1⟩
    have b2 : Below w.heap.size w (w1.alloc (.cells M 42)) := hb1.alloc hb1.size _
    generalize hg1 : w1.heap.size = g1 at *
    go_wp2_with (first
      | (refine wpList_allocStore (cs := M) rfl rfl 42 ?ho (.tmp 4) (.tmp 11) ?ho2 Try.zeroHead ?hz ?hx ?hy ?hn ?h1 ?_
         case ho => with_reducible rfl
         case ho2 => rfl
         case hz => exact zH_size
         case hx => rfl
         case hy => rfl
         case hn => exact hsz
         case h1 => exact o1
         rw [hg1]))
    go_ret2
    exact ⟨rfl, b2⟩
  · have q0 : pE6 l = 0 := by omega
    rw [q0] at HP
    have hW : kW l = false := by
      cases h : kW l
      · rfl
      · exact absurd ⟨q0, h⟩ hbad
    rw [hW] at HWh
    clear hbad q q0 hW
    go_enter Try.func39, Try.ntmps39
    go_wp2_with fail
    refine HP.out.mono ?_
    rintro e w1 ⟨rfl, hb1⟩
    have b2 : Below w.heap.size w (w1.alloc (.cells M 42)) := hb1.alloc hb1.size _
    generalize hg1 : w1.heap.size = g1 at *
    go_wp2_with (first
      | (refine wpList_allocStore (cs := M) rfl rfl 42 ?ho (.tmp 4) (.tmp 11) ?ho2 Try.zeroHead ?hz ?hx ?hy ?hn ?h1 ?_
         case ho => with_reducible rfl
         case ho2 => rfl
         case hz => exact zH_size
         case hx => rfl
         case hy => rfl
         case hn => exact hsz
         case h1 => exact o1
         rw [hg1])
      | fail)
    refine (HWh.out _ b2).mono ?_
    rintro e w3 ⟨rfl, hb3⟩
    have b3 := Below.on b2 b2.size hb3
    clear b2 hb3
    go_wp2
    go_ret2
    exact ⟨rfl, b3⟩

set_option maxHeartbeats 1000000 in
theorem refUnreach6_bad (A : Option Addr) (n c : Nat) (l : List UInt8) (w : World) (hn : n ≤ 60000) (hc : n ≤ c) (hcm : c ≤ maxLen) (hs : Shows w w.heap.size A n l) (hbad : ¬ (pE6 l = 0 ∧ kW l = true)) :
    Calls Try.prog 40 #[.slice A n c] w fun e w' => e = .returned (.tuple #[.slice none 0 0, .bool false]) ∧ Below w.heap.size w w' := by
  have hz := (zero_of_info Try.zeroHead).1
  have hne : ¬ zH = #[] := by intro h; have := zH_size; rw [h] at this; cases this
  have HP := Lib.hid (krefParse_any A n c l w (by omega) hc hcm hs)
  have HWh := Lib.hid (fun (W : World) (hW' : Below w.heap.size w W) => refWhole_any A n c l W (by omega) hc hcm ((hs.below hW').up hW'.size))
  have hsz := kH_size l
  have o1 := kH_one l
  have m0 := kX_cell l 0 (by omega)
  clear hs
  by_cases q : kW l = true
  · have q4 : ¬ kX l 0 = 6 := fun h4 => hbad ⟨(ksix (kW_zero q) h4).1, q⟩
    rw [q] at HWh
    clear hbad q
    generalize kH l = M at *
    generalize kX l 0 = X at *
    have d0 : decide ((X : Int) = 6) = false := decide_eq_false (by omega)
    have d0' : (((X : Int)) == 6) = false := by simp; omega
    have d0'' : (((X : Int)) != 6) = true := by simp; omega
    go_enter Try.func40, Try.ntmps40
    go_wp2_with fail
    refine HP.out.mono ?_
    rintro e w1 ⟨rfl, hb1⟩
    have b2 : Below w.heap.size w (w1.alloc (.cells M 42)) := hb1.alloc hb1.size _
    have k2 : Blk (w1.alloc (.cells M 42)) w1.heap.size 42 M := blk_new _ _ _
    generalize hg1 : w1.heap.size = g1 at *
    go_wp2_with (first
      | (refine wpList_allocStore (cs := M) rfl rfl 42 ?ho (.tmp 4) (.tmp 14) ?ho2 Try.zeroHead ?hz ?hx ?hy ?hn ?h1 ?_
         case ho => with_reducible rfl
         case ho2 => rfl
         case hz => exact zH_size
         case hx => rfl
         case hy => rfl
         case hn => exact hsz
         case h1 => exact o1
         rw [hg1])
      | fail)
    refine (HWh.out _ b2).mono ?_
    rintro e w3 ⟨rfl, hb3⟩
    have b3 := Below.on b2 b2.size hb3
    have c0 := ((k2.on hb3).cellA 0).trans m0
    clear b2 hb3 k2
    go_wp2
    go_ret2
    exact ⟨rfl, b3⟩
  · have hW : kW l = false := by simpa using q
    rw [hW] at HWh
    clear hbad q hW
    generalize kH l = M at *
    go_enter Try.func40, Try.ntmps40
    go_wp2_with fail
    refine HP.out.mono ?_
    rintro e w1 ⟨rfl, hb1⟩
    have b2 : Below w.heap.size w (w1.alloc (.cells M 42)) := hb1.alloc hb1.size _
    generalize hg1 : w1.heap.size = g1 at *
    go_wp2_with (first
      | (refine wpList_allocStore (cs := M) rfl rfl 42 ?ho (.tmp 4) (.tmp 14) ?ho2 Try.zeroHead ?hz ?hx ?hy ?hn ?h1 ?_
         case ho => with_reducible rfl
         case ho2 => rfl
         case hz => exact zH_size
         case hx => rfl
         case hy => rfl
         case hn => exact hsz
         case h1 => exact o1
         rw [hg1])
      | fail)
    refine (HWh.out _ b2).mono ?_
    rintro e w3 ⟨rfl, hb3⟩
    have b3 := Below.on b2 b2.size hb3
    clear b2 hb3
    go_wp2
    go_ret2
    exact ⟨rfl, b3⟩

set_option maxHeartbeats 2000000 in
theorem unreach6_ok (A : Option Addr) (n c : Nat) (l : List UInt8) (w : World) (hn : n ≤ 60000) (hc : n ≤ c) (hcm : c ≤ maxLen) (hs : Shows w w.heap.size A n l) (hE : pE6 l = 0) (hW : kW l = true) :
    Calls Try.prog 39 #[.slice A n c] w fun e w' => ∃ v, e = .returned (.tuple #[v, .int .i64 0]) ∧ Own w' w.heap.size v (40 + (8 + min n 1232)) (msg6 l) ∧ Below w.heap.size w w' := by
  have hz := (zero_of_info Try.zeroHead).1
  have hne : ¬ zH = #[] := by intro h; have := zH_size; rw [h] at this; cases this
  have hl := hs.len
  obtain ⟨g40, f4, _⟩ := pE6_facts hE
  obtain ⟨b, off, rfl, hbb, _⟩ := hs.2 (by omega)
  have HP := Lib.hid (parse6_any (some ⟨b, off, none⟩) n c l w (by omega) hc hcm hs)
  have HWh := Lib.hid (fun (W : World) (hW' : Below w.heap.size w W) => whole_any (some ⟨b, off, none⟩) n c l W (by omega) hc hcm ((hs.below hW').up hW'.size))
  rw [hE] at HP
  rw [hW] at HWh
  have e : pH6 l = hdL6 l := pH6_eq hE
  rw [e] at HP
  have hsz := hdL6_size l (by omega)
  have o1 : ((hdL6 l).all fun x => x.oneCell') = true := by unfold hdL6 hd6; exact hdv_one _ _ _ _ _
  have ls := src6_len (l := l) (by omega)
  have ld := dst6_len (l := l) (by omega)
  have R1 := fun (W : World) (g : Nat) (h : Blk W g 42 (hdL6 l)) => show W.rangeAt g 9 (adv 6 (src6 l)).toList from by unfold hdL6 hd6 at h; exact hdv_src (by rfl) h
  have R2 := fun (W : World) (g : Nat) (h : Blk W g 42 (hdL6 l)) => show W.rangeAt g 26 (adv 6 (dst6 l)).toList from by unfold hdL6 hd6 at h; exact hdv_dst (by rfl) (adv_size _ _ ls) h
  have z1 := Adr_size 6 _ ls
  have z2 := Adr_size 6 _ ld
  have hm : min n 1232 ≤ n := Nat.min_le_left _ _
  have hm2 : min n 1232 ≤ 1232 := Nat.min_le_right _ _
  have emin : (if (1232 : Int) < (n : Int) then (1232 : Int) else (n : Int)) = ((min n 1232 : Nat) : Int) := by split <;> omega
  have HM := Lib.hid (show msg6 l = pkt6 0 0 64 58 (dst6 l) (src6 l) (noteL 1 0 (65535 - osum (pre6 (dst6 l) (src6 l) (8 + min n 1232) ++ noteL 1 0 0 (l.take (min n 1232)))) (l.take (min n 1232))) by unfold msg6; rw [hl])
  have HF := Lib.hid (fun (W : World) (hW' : Below w.heap.size w W) => show Shows W W.heap.size (some ⟨b, off, none⟩) (min n 1232) (l.take (min n 1232)) by simpa using ((hs.below hW').up hW'.size).piece 0 (min n 1232) (by omega))
  have HPut := Lib.hid (fun (A2 : Option Addr) (n2 c2 : Nat) (bl : List UInt8) (W : World) (h1 : n2 ≤ 65495) (h2 : Shows W W.heap.size A2 n2 bl) => put6_in 0 0 0 0 0 0 0 64 58 (dst6 l) (src6 l) ld ls A2 n2 c2 bl W h1 h2 (by omega) (by omega) (by omega) (by omega))
  have HA := Lib.hid (fun (k : Nat) (hk : k ≤ 100000) (W : World) => ahead_any [0, 0, 0, ((0 : Nat) : Int), ((0 : Nat) : Int), 0, 0, ((64 : Nat) : Int), ((58 : Nat) : Int)] (dst6 l) (src6 l) rfl ld ls k hk W)
  have hJl := pre6_len (dst6 l) (src6 l) (8 + min n 1232) ld ls
  obtain ⟨s0, s1, s2, s3, s4, s5, s6, s7, s8, s9, s10, s11, s12, s13, s14, s15, es⟩ := list16 _ ls
  obtain ⟨t0, t1, t2, t3, t4, t5, t6, t7, t8, t9, t10, t11, t12, t13, t14, t15, et⟩ := list16 _ ld
  have HX := Lib.hid (show adv 6 [s0, s1, s2, s3, s4, s5, s6, s7, s8, s9, s10, s11, s12, s13, s14, s15] = adv 6 (src6 l) by rw [es])
  have HY := Lib.hid (show adv 6 [t0, t1, t2, t3, t4, t5, t6, t7, t8, t9, t10, t11, t12, t13, t14, t15] = adv 6 (dst6 l) by rw [et])
  have oB := hdv_one [0, 0, 0, ((0 : Nat) : Int), ((0 : Nat) : Int), 0, 0, ((64 : Nat) : Int), ((58 : Nat) : Int)] 6 6 (dst6 l) (src6 l)
  have zB := hdv_size [0, 0, 0, ((0 : Nat) : Int), ((0 : Nat) : Int), 0, 0, ((64 : Nat) : Int), ((58 : Nat) : Int)] (adv 6 (dst6 l)) (adv 6 (src6 l)) rfl (adv_size _ _ ld) (adv_size _ _ ls)
  have msB : (Try.prog.info? 42).map (·.size) = some (hdv [0, 0, 0, ((0 : Nat) : Int), ((0 : Nat) : Int), 0, 0, ((64 : Nat) : Int), ((58 : Nat) : Int)] (adv 6 (dst6 l)) (adv 6 (src6 l))).size := by rw [zB]; exact Try.infoHead
  have hFl : (l.take (min n 1232)).length = min n 1232 := by simp; omega
  clear es et ls ld hs hE hW e g40 f4
  generalize hBKe : hdv [0, 0, 0, ((0 : Nat) : Int), ((0 : Nat) : Int), 0, 0, ((64 : Nat) : Int), ((58 : Nat) : Int)] (adv 6 (dst6 l)) (adv 6 (src6 l)) = BK at *
  have HBE := Lib.hid hBKe
  clear hBKe
  generalize hdL6 l = M at *
  generalize adv 6 (src6 l) = XS at *
  generalize adv 6 (dst6 l) = XD at *
  generalize l.take (min n 1232) = F at *
  generalize min n 1232 = m at *
  have hmi : (m : Int) ≤ (n : Int) := by omega
  have hmc : (m : Int) ≤ (c : Int) := by omega
  have hm0 : (0 : Int) ≤ (m : Int) := by omega
  obtain ⟨N8, hN8⟩ : ∃ N8 : Nat, 8 + m = N8 := ⟨_, rfl⟩
  have iN8 : (8 : Int) + (m : Int) = (N8 : Int) := by omega
  have wN8 : IntKind.i64.wrap (N8 : Int) = (N8 : Int) := wrap_id N8 (by omega)
  have hN8b : N8 ≤ 1240 := by omega
  rw [hN8] at HM hJl
  have HN8 := Lib.hid hN8
  have HN := Lib.hid (fun (PA : Option Addr) (pc : Nat) (L : List Part) (W : World) (hW' : Below w.heap.size w W) (hp : Parts W W.heap.size PA 4 L) (hj : joinP L = pre6 (dst6 l) (src6 l) N8) => show Calls Try.prog 82 #[bv 1, bv 0, .slice (some ⟨b, off, none⟩) m c, .slice PA 4 pc] W fun e w' => ∃ v, e = .returned v ∧ Own w' W.heap.size v N8 (noteL 1 0 (65535 - osum (pre6 (dst6 l) (src6 l) N8 ++ noteL 1 0 0 F)) F) ∧ Below W.heap.size W w' by
    have h := nbytes_any 1 0 (some ⟨b, off, none⟩) m c F PA 4 pc L W (by omega) (by omega) (by rw [hj, hJl]; omega) (HF.out W hW') hp
    rw [hj, hN8] at h
    exact h)
  clear hN8 hJl
  go_enter Try.func39, Try.ntmps39
  go_wp2_with fail
  refine HP.out.mono ?_
  rintro e w1 ⟨rfl, hb1⟩
  have b2 : Below w.heap.size w (w1.alloc (.cells M 42)) := hb1.alloc hb1.size _
  have k2 : Blk (w1.alloc (.cells M 42)) w1.heap.size 42 M := blk_new _ _ _
  generalize hg1 : w1.heap.size = g1 at *
  go_wp2_with (first
    | (refine wpList_allocStore (cs := M) rfl rfl 42 ?ho (.tmp 4) (.tmp 11) ?ho2 Try.zeroHead ?hz ?hx ?hy ?hn ?h1 ?_
       case ho => with_reducible rfl
       case ho2 => rfl
       case hz => exact zH_size
       case hx => rfl
       case hy => rfl
       case hn => exact hsz
       case h1 => exact o1
       rw [hg1])
    | fail)
  refine (HWh.out _ b2).mono ?_
  rintro e w3 ⟨rfl, hb3⟩
  have b3 := Below.on b2 b2.size hb3
  have k3 := k2.on hb3
  clear b2 k2 hb1 hb3 HP HWh
  have b4 : Below w.heap.size w (w3.alloc (.cells BK 42)) := b3.alloc b3.size _
  have k4 : Blk (w3.alloc (.cells BK 42)) w3.heap.size 42 BK := blk_new _ _ _
  generalize hg3 : w3.heap.size = g3 at *
  go_wp2_with (first
    | (refine wpList_loadPart (g := g1) rfl 32 (.tmp 20) ?ho 26 ?hx XD _ (R2 _ _ k3) Try.underlying32 rfl ?hi ?_
       case ho => with_reducible rfl
       case hx => rfl
       case hi => exact z2)
    | (refine wpList_loadPart (g := g1) rfl 32 (.tmp 22) ?ho 9 ?hx XS _ (R1 _ _ k3) Try.underlying32 rfl ?hi ?_
       case ho => with_reducible rfl
       case hx => rfl
       case hi => exact z1)
    | (refine wpList_build rfl 42 ?fs ?ho (.agg BK) ?hr ?_
       case ho => with_reducible rfl
       case hr =>
         intro W
         have e1 := HX.out
         have e2 := HY.out
         have e3 := HBE.out
         rw [← e3, ← e1, ← e2]
         change _ = _
         kernel_rfl)
    | (refine wpList_allocStore (cs := BK) rfl rfl 42 ?ho (.tmp 6) (.tmp 24) ?ho2 Try.zeroHead ?hz ?hx ?hy ?hn ?h1 ?_
       case ho => with_reducible rfl
       case ho2 => rfl
       case hz => exact zH_size
       case hx => rfl
       case hy => rfl
       case hn => exact zB
       case h1 => exact oB
       rw [hg3])
    | fail)
  generalize w3.alloc (.cells BK 42) = W4 at *
  have qk : Below w.heap.size w W4.drew ∧ Blk W4.drew g3 42 BK := ⟨b4.drew, k4⟩
  clear b4 k4 k3 R1 R2 z1 z2 b3
  refine wp_region_held_drew (S := fun W => Below w.heap.size w W ∧ Blk W g3 42 BK) (by kernel_rfl) qk ?_
  intro hS
  refine wpAnyH_take (i := 0) (oi := ?o1) (v := .agg BK) ?hio1 (by kernel_rfl) (by kernel_rfl) (by kernel_rfl) ?hQo1 ?hyo1 hS ?_
  case hio1 => (simp only [List.getElem?_toArray, List.getElem?_cons_succ, List.getElem?_cons_zero]; rfl)
  case hQo1 => exact fun _ _ _ h => h
  case hyo1 => exact yieldsIf_load_mid (by rfl) 42 (.tmp 6) rfl g3 0 rfl BK.toList _ (fun W hW => Blk.range0 hW.2) Try.underlying42 rfl (by simpa using msB)
  try simp only [Act.put, List.setIfInBounds_toArray, List.set_cons_zero, List.set_cons_succ]
  refine wpAnyH_take (i := 1) (oi := ?o2) (v := ?vo2) ?hio2 (by kernel_rfl) (by kernel_rfl) (by kernel_rfl) ?hQo2 ?hyo2 hS ?_
  case hio2 => (simp only [List.getElem?_toArray, List.getElem?_cons_succ, List.getElem?_cons_zero]; rfl)
  case hQo2 => exact fun _ _ _ h => h
  case hyo2 =>
    refine Or.inl ⟨by rfl, ?_⟩
    intro W hW
    go_simp
    first | done | with_reducible rfl
  try simp only [Act.put, List.setIfInBounds_toArray, List.set_cons_zero, List.set_cons_succ]
  refine wpAnyH_take (i := 2) (oi := ?o3) (v := .agg BK) ?hio3 (by kernel_rfl) (by kernel_rfl) (by kernel_rfl) ?hQo3 ?hyo3 hS ?_
  case hio3 => (simp only [List.getElem?_toArray, List.getElem?_cons_succ, List.getElem?_cons_zero]; rfl)
  case hQo3 => exact fun _ _ _ h => h
  case hyo3 => exact yieldsIf_load_mid (by rfl) 42 (.tmp 6) rfl g3 0 rfl BK.toList _ (fun W hW => Blk.range0 hW.2) Try.underlying42 rfl (by simpa using msB)
  try simp only [Act.put, List.setIfInBounds_toArray, List.set_cons_zero, List.set_cons_succ]
  refine wpAnyH_take (i := 3) (oi := ?o4) (v := ?vo4) ?hio4 (by kernel_rfl) (by kernel_rfl) (by kernel_rfl) ?hQo4 ?hyo4 hS ?_
  case hio4 => (simp only [List.getElem?_toArray, List.getElem?_cons_succ, List.getElem?_cons_zero]; rfl)
  case hQo4 => exact fun _ _ _ h => h
  case hyo4 =>
    refine Or.inl ⟨by rfl, ?_⟩
    intro W hW
    go_simp
    first | done | with_reducible rfl
  try simp only [Act.put, List.setIfInBounds_toArray, List.set_cons_zero, List.set_cons_succ]
  refine wpAnyH_take (i := 4) (oi := ?o5) (v := ?vo5) ?hio5 (by kernel_rfl) (by kernel_rfl) (by kernel_rfl) ?hQo5 ?hyo5 hS ?_
  case hio5 => (simp only [List.getElem?_toArray, List.getElem?_cons_succ, List.getElem?_cons_zero]; rfl)
  case hQo5 => exact fun _ _ _ h => h
  case hyo5 =>
    refine Or.inl ⟨by rfl, ?_⟩
    intro W hW
    go_simp
    first | done | with_reducible rfl
  try simp only [Act.put, List.setIfInBounds_toArray, List.set_cons_zero, List.set_cons_succ]
  refine wpAnyH_take (i := 5) (oi := ?o6) (v := .int .i64 (N8 : Int)) ?hio6 (by kernel_rfl) (by kernel_rfl) (by kernel_rfl) ?hQo6 ?hyo6 hS ?_
  case hio6 => (simp only [List.getElem?_toArray, List.getElem?_cons_succ, List.getElem?_cons_zero]; rfl)
  case hQo6 => exact fun _ _ _ h => h
  case hyo6 => exact Or.inl ⟨by rfl, fun W hW => by go_simp⟩
  try simp only [Act.put, List.setIfInBounds_toArray, List.set_cons_zero, List.set_cons_succ]
  refine wpAnyH_ready (rs := [6]) (by kernel_rfl) (by simp) ?_
  refine AllReadyH.cons (o := ?o13) ?hoo13 (fun K hK => ?ho13) AllReadyH.nil
  case hoo13 => (simp only [List.getElem?_toArray, List.getElem?_cons_succ, List.getElem?_cons_zero]; rfl)
  case ho13 =>
    go_simp
    go_at_call 85
    refine (HA.out N8 (by omega) _).mono ?_
    rintro e w5 ⟨A5, c5, L5, rfl, s5, j5, hb5⟩
    have b5 := Below.on qk.1 qk.1.size hb5
    have k5 := qk.2.on hb5
    refine hK.out _ _ ⟨b5, k5⟩ (fun _ => ?_)
    clear hK K hb5
    try simp only [Act.put, List.setIfInBounds_toArray, List.set_cons_zero, List.set_cons_succ]
    refine wpAnyH_ready (rs := [7]) (by kernel_rfl) (by simp) ?_
    refine AllReadyH.cons (o := ?o12) ?hoo12 (fun K hK => ?ho12) AllReadyH.nil
    case hoo12 => (simp only [List.getElem?_toArray, List.getElem?_cons_succ, List.getElem?_cons_zero]; rfl)
    case ho12 =>
      go_simp
      go_at_call 82
      refine (HN.out A5 c5 L5 _ b5 s5 j5).mono ?_
      rintro e w6 ⟨v6, rfl, ho6, hb6⟩
      obtain ⟨A6, c6, rfl, _, _, s6⟩ := ho6.shows
      have b6 := Below.on b5 b5.size hb6
      have k6 := k5.on hb6
      refine hK.out _ _ ⟨b6, k6⟩ (fun _ => ?_)
      clear hK K hb6 ho6
      try simp only [Act.put, List.setIfInBounds_toArray, List.set_cons_zero, List.set_cons_succ]
      refine wpAnyH_ready (rs := [8]) (by kernel_rfl) (by simp) ?_
      refine AllReadyH.cons (o := ?o11) ?hoo11 (fun K hK => ?ho11) AllReadyH.nil
      case hoo11 => (simp only [List.getElem?_toArray, List.getElem?_cons_succ, List.getElem?_cons_zero]; rfl)
      case ho11 =>
        go_simp
        go_at_call 29
        refine (HPut.out A6 N8 c6 _ _ (by omega) s6).mono ?_
        rintro e w7 ⟨v7, rfl, ho7, hb7⟩
        have b7 := Below.on b6 b6.size hb7
        have o7 := ho7.base (b' := w.heap.size) b6.size
        have q7 : Below w.heap.size w w7 ∧ Blk w7 g3 42 BK := ⟨b7, k6.on hb7⟩
        refine hK.out _ _ q7 (fun _ => ?_)
        clear hK K hb7 ho7
        try simp only [Act.put, List.setIfInBounds_toArray, List.set_cons_zero, List.set_cons_succ]
        refine wpAnyH_take (i := 9) (oi := ?o7) (v := v7) ?hio7 (by kernel_rfl) (by kernel_rfl) (by kernel_rfl) ?hQo7 ?hyo7 q7 ?_
        case hio7 => (simp only [List.getElem?_toArray, List.getElem?_cons_succ, List.getElem?_cons_zero]; rfl)
        case hQo7 => exact fun _ _ _ h => h
        case hyo7 => exact Or.inl ⟨by rfl, fun W hW => by go_simp⟩
        try simp only [Act.put, List.setIfInBounds_toArray, List.set_cons_zero, List.set_cons_succ]
        refine wpAnyH_take (i := 10) (oi := ?o8) (v := .int .i64 0) ?hio8 (by kernel_rfl) (by kernel_rfl) (by kernel_rfl) ?hQo8 ?hyo8 q7 ?_
        case hio8 => (simp only [List.getElem?_toArray, List.getElem?_cons_succ, List.getElem?_cons_zero]; rfl)
        case hQo8 => exact fun _ _ _ h => h
        case hyo8 => exact Or.inl ⟨by rfl, fun W hW => by go_simp⟩
        try simp only [Act.put, List.setIfInBounds_toArray, List.set_cons_zero, List.set_cons_succ]
        refine wpAnyH_take (i := 11) (oi := ?o9) (v := v7) ?hio9 (by kernel_rfl) (by kernel_rfl) (by kernel_rfl) ?hQo9 ?hyo9 q7 ?_
        case hio9 => (simp only [List.getElem?_toArray, List.getElem?_cons_succ, List.getElem?_cons_zero]; rfl)
        case hQo9 => exact fun _ _ _ h => h
        case hyo9 => exact Or.inl ⟨by rfl, fun W hW => by go_simp⟩
        try simp only [Act.put, List.setIfInBounds_toArray, List.set_cons_zero, List.set_cons_succ]
        refine wpAnyH_take (i := 12) (oi := ?o10) (v := .int .i64 0) ?hio10 (by kernel_rfl) (by kernel_rfl) (by kernel_rfl) ?hQo10 ?hyo10 q7 ?_
        case hio10 => (simp only [List.getElem?_toArray, List.getElem?_cons_succ, List.getElem?_cons_zero]; rfl)
        case hQo10 => exact fun _ _ _ h => h
        case hyo10 => exact Or.inl ⟨by rfl, fun W hW => by go_simp⟩
        try simp only [Act.put, List.setIfInBounds_toArray, List.set_cons_zero, List.set_cons_succ]
        refine wpAnyH_done (by kernel_rfl) ?_ _
        go_wp2
        go_ret2
        exact ⟨v7, rfl, by rw [HM.out, HN8.out]; exact o7, b7⟩

set_option maxHeartbeats 4000000 in
theorem refUnreach6_ok (A : Option Addr) (n c : Nat) (l : List UInt8) (w : World) (hn : n ≤ 60000) (hc : n ≤ c) (hcm : c ≤ maxLen) (hs : Shows w w.heap.size A n l) (hE : pE6 l = 0) (hW : kW l = true) :
    Calls Try.prog 40 #[.slice A n c] w fun e w' => ∃ v, e = .returned (.tuple #[v, .bool true]) ∧ Own w' w.heap.size v (40 + (8 + min n 1232)) (msg6 l) ∧ Below w.heap.size w w' := by
  have hz := (zero_of_info Try.zeroHead).1
  have hne : ¬ zH = #[] := by intro h; have := zH_size; rw [h] at this; cases this
  have hl := hs.len
  obtain ⟨g40, f4, _⟩ := pE6_facts hE
  obtain ⟨b, off, rfl, hbb, _⟩ := hs.2 (by omega)
  have HP := Lib.hid (krefParse_any (some ⟨b, off, none⟩) n c l w (by omega) hc hcm hs)
  have HWh := Lib.hid (fun (W : World) (hW' : Below w.heap.size w W) => refWhole_any (some ⟨b, off, none⟩) n c l W (by omega) hc hcm ((hs.below hW').up hW'.size))
  rw [(psix hE).1] at HP
  rw [hW] at HWh
  have e : kH l = hdL6 l := (ksix (psix hE).1 (psix hE).2).2
  rw [e] at HP
  have m0 : (hdL6 l)[0]? = some (.int .i64 6) := by rw [← e, kX_cell l 0 (by omega), (psix hE).2]; rfl
  have hsz := hdL6_size l (by omega)
  have o1 : ((hdL6 l).all fun x => x.oneCell') = true := by unfold hdL6 hd6; exact hdv_one _ _ _ _ _
  have ls := src6_len (l := l) (by omega)
  have ld := dst6_len (l := l) (by omega)
  have R1 := fun (W : World) (g : Nat) (h : Blk W g 42 (hdL6 l)) => show W.rangeAt g 9 (adv 6 (src6 l)).toList from by unfold hdL6 hd6 at h; exact hdv_src (by rfl) h
  have R2 := fun (W : World) (g : Nat) (h : Blk W g 42 (hdL6 l)) => show W.rangeAt g 26 (adv 6 (dst6 l)).toList from by unfold hdL6 hd6 at h; exact hdv_dst (by rfl) (adv_size _ _ ls) h
  have z1 := Adr_size 6 _ ls
  have z2 := Adr_size 6 _ ld
  have hm : min n 1232 ≤ n := Nat.min_le_left _ _
  have hm2 : min n 1232 ≤ 1232 := Nat.min_le_right _ _
  have emin : (if (1232 : Int) < (n : Int) then (1232 : Int) else (n : Int)) = ((min n 1232 : Nat) : Int) := by split <;> omega
  have HM := Lib.hid (show msg6 l = pkt6 0 0 64 58 (dst6 l) (src6 l) (noteL 1 0 (65535 - osum (pre6 (dst6 l) (src6 l) (8 + min n 1232) ++ noteL 1 0 0 (l.take (min n 1232)))) (l.take (min n 1232))) by unfold msg6; rw [hl])
  have HF := Lib.hid (fun (W : World) (hW' : Below w.heap.size w W) => show Shows W W.heap.size (some ⟨b, off, none⟩) (min n 1232) (l.take (min n 1232)) by simpa using ((hs.below hW').up hW'.size).piece 0 (min n 1232) (by omega))
  have HPut := Lib.hid (fun (A2 : Option Addr) (n2 c2 : Nat) (bl : List UInt8) (W : World) (h1 : n2 ≤ 65495) (h2 : Shows W W.heap.size A2 n2 bl) => refPut6_ok 0 0 0 0 0 0 0 64 58 (dst6 l) (src6 l) ld ls A2 n2 c2 bl W h1 h2 (by omega) (by omega) (by omega) (by omega))
  have HSm := Lib.hid (fun (A2 : Option Addr) (n2 c2 : Nat) (l2 : List UInt8) (W : World) (h1 : n2 ≤ 100000) (h2 : Shows W W.heap.size A2 n2 l2) => summed6 [0, 0, 0, ((0 : Nat) : Int), ((0 : Nat) : Int), 0, 0, ((64 : Nat) : Int), ((58 : Nat) : Int)] (dst6 l) (src6 l) rfl ld ls A2 n2 c2 l2 W h1 h2)
  obtain ⟨s0, s1, s2, s3, s4, s5, s6, s7, s8, s9, s10, s11, s12, s13, s14, s15, es⟩ := list16 _ ls
  obtain ⟨t0, t1, t2, t3, t4, t5, t6, t7, t8, t9, t10, t11, t12, t13, t14, t15, et⟩ := list16 _ ld
  have HX := Lib.hid (show adv 6 [s0, s1, s2, s3, s4, s5, s6, s7, s8, s9, s10, s11, s12, s13, s14, s15] = adv 6 (src6 l) by rw [es])
  have HY := Lib.hid (show adv 6 [t0, t1, t2, t3, t4, t5, t6, t7, t8, t9, t10, t11, t12, t13, t14, t15] = adv 6 (dst6 l) by rw [et])
  have oB := hdv_one [0, 0, 0, ((0 : Nat) : Int), ((0 : Nat) : Int), 0, 0, ((64 : Nat) : Int), ((58 : Nat) : Int)] 6 6 (dst6 l) (src6 l)
  have zB := hdv_size [0, 0, 0, ((0 : Nat) : Int), ((0 : Nat) : Int), 0, 0, ((64 : Nat) : Int), ((58 : Nat) : Int)] (adv 6 (dst6 l)) (adv 6 (src6 l)) rfl (adv_size _ _ ld) (adv_size _ _ ls)
  have msB : (Try.prog.info? 42).map (·.size) = some (hdv [0, 0, 0, ((0 : Nat) : Int), ((0 : Nat) : Int), 0, 0, ((64 : Nat) : Int), ((58 : Nat) : Int)] (adv 6 (dst6 l)) (adv 6 (src6 l))).size := by rw [zB]; exact Try.infoHead
  have hFl : (l.take (min n 1232)).length = min n 1232 := by simp; omega
  clear es et ls ld hs hE hW e g40 f4
  generalize hBKe : hdv [0, 0, 0, ((0 : Nat) : Int), ((0 : Nat) : Int), 0, 0, ((64 : Nat) : Int), ((58 : Nat) : Int)] (adv 6 (dst6 l)) (adv 6 (src6 l)) = BK at *
  have HBE := Lib.hid hBKe
  clear hBKe
  generalize hdL6 l = M at *
  generalize adv 6 (src6 l) = XS at *
  generalize adv 6 (dst6 l) = XD at *
  generalize l.take (min n 1232) = F at *
  generalize min n 1232 = m at *
  have hmi : (m : Int) ≤ (n : Int) := by omega
  have hmc : (m : Int) ≤ (c : Int) := by omega
  have hm0 : (0 : Int) ≤ (m : Int) := by omega
  go_enter Try.func40, Try.ntmps40
  go_wp2_with fail
  refine HP.out.mono ?_
  rintro e w1 ⟨rfl, hb1⟩
  have b2 : Below w.heap.size w (w1.alloc (.cells M 42)) := hb1.alloc hb1.size _
  have k2 : Blk (w1.alloc (.cells M 42)) w1.heap.size 42 M := blk_new _ _ _
  have lt2 : w1.heap.size < (w1.alloc (.cells M 42)).heap.size := by simp
  generalize hg1 : w1.heap.size = g1 at *
  go_wp2_with (first
    | (refine wpList_allocStore (cs := M) rfl rfl 42 ?ho (.tmp 4) (.tmp 14) ?ho2 Try.zeroHead ?hz ?hx ?hy ?hn ?h1 ?_
       case ho => with_reducible rfl
       case ho2 => rfl
       case hz => exact zH_size
       case hx => rfl
       case hy => rfl
       case hn => exact hsz
       case h1 => exact o1
       rw [hg1])
    | fail)
  refine (HWh.out _ b2).mono ?_
  rintro e w3 ⟨rfl, hb3⟩
  have b3 := Below.on b2 b2.size hb3
  have k3 := k2.on hb3
  have lt3 : g1 < w3.heap.size := by have := hb3.size; omega
  have c0 := (k3.cellA 0).trans m0
  clear b2 k2 hb1 hb3 HP HWh lt2
  have o4 : Own (w3.alloc (.cells #[.int .u8 1, .int .u8 0, .int .u8 0, .int .u8 0, .int .u8 0, .int .u8 0, .int .u8 0, .int .u8 0] 5)) w3.heap.size (.slice (some ⟨w3.heap.size, 0, none⟩) 8 8) 8 [1, 0, 0, 0, 0, 0, 0, 0] := own_lit w3 w3.heap.size 8 _ _ rfl (Nat.le_refl _) rfl (by omega)
  have b4 : Below w3.heap.size w3 (w3.alloc (.cells #[.int .u8 1, .int .u8 0, .int .u8 0, .int .u8 0, .int .u8 0, .int .u8 0, .int .u8 0, .int .u8 0] 5)) := (Below.refl _ _).alloc (Nat.le_refl _) _
  have sF := HF.out _ (Below.on b3 b3.size b4)
  go_wp2_with (first
    | (at_builtin; refine wpList_appAny _ rfl _ _ rfl w3.heap.size _ 8 _ rfl o4 (some ⟨b, off, none⟩) m c _ F rfl sF (by omega) b4.size ?_
       intro v5 w5 ho5 hg5
       have b5 : Below w3.heap.size w3 w5 := b4.grown hg5 b4.size (fun k hk => (o4.lt k hk).1)
       have k5 := k3.below b5 lt3
       have ho5' : Own w5 w3.heap.size v5 (8 + m) (noteL 1 0 0 F) := ho5
       clear hg5 o4 b4 sF ho5
       obtain ⟨g, cap, rfl, hg⟩ := ho5'.blk (by omega)
       have hgl := (ho5'.lt g rfl).2
       have b6 : Below w3.heap.size w3 (w5.alloc (.cells BK 42)) := b5.alloc b5.size _
       have k6 : Blk (w5.alloc (.cells BK 42)) w5.heap.size 42 BK := blk_new _ _ _
       have o6 : Own (w5.alloc (.cells BK 42)) w3.heap.size (.slice (some ⟨g, 0, none⟩) (8 + m) cap) (8 + m) (noteL 1 0 0 F) := ho5'.alloc _
       clear b5 ho5'
       have hgne : ¬ w5.heap.size = g := by omega
       generalize hg5e : w5.heap.size = g5 at *)
    | (refine wpList_loadPart (g := g1) rfl 32 (.tmp 31) ?ho 26 ?hx XD _ (R2 _ _ k5) Try.underlying32 rfl ?hi ?_
       case ho => with_reducible rfl
       case hx => rfl
       case hi => exact z2)
    | (refine wpList_loadPart (g := g1) rfl 32 (.tmp 33) ?ho 9 ?hx XS _ (R1 _ _ k5) Try.underlying32 rfl ?hi ?_
       case ho => with_reducible rfl
       case hx => rfl
       case hi => exact z1)
    | (refine wpList_build rfl 42 ?fs ?ho (.agg BK) ?hr ?_
       case ho => with_reducible rfl
       case hr =>
         intro W
         have e1 := HX.out
         have e2 := HY.out
         have e3 := HBE.out
         rw [← e3, ← e1, ← e2]
         change _ = _
         kernel_rfl)
    | (refine wpList_allocStore (cs := BK) rfl rfl 42 ?ho (.tmp 7) (.tmp 35) ?ho2 Try.zeroHead ?hz ?hx ?hy ?hn ?h1 ?_
       case ho => with_reducible rfl
       case ho2 => rfl
       case hz => exact zH_size
       case hx => rfl
       case hy => rfl
       case hn => exact zB
       case h1 => exact oB
       rw [hg5e])
    | (refine wpList_loadBlk (g := g5) (t := 42) (cs := BK) rfl 42 (.tmp 7) ?ho ?hx ?hA _ Try.underlying42 rfl ?hi ?_
       case ho => with_reducible rfl
       case hx => rfl
       case hA => exact k6
       case hi => exact msB)
    | fail)
  refine (HSm.out _ (8 + m) _ _ _ (by omega) o6.shown).mono ?_
  rintro e w7 ⟨v7, rfl, ho7, hb7⟩
  obtain ⟨A7, c7, rfl, _, _, s7⟩ := ho7.shows
  have k7 := k6.on hb7
  have b7 := Below.on b6 b6.size hb7
  have o7 := o6.keep hb7
  clear k6 b6 hb7 o6 k5
  have HK := Lib.hid (refCheck_any A7 (40 + (8 + m)) c7 (pre6 (dst6 l) (src6 l) (8 + m) ++ noteL 1 0 0 F) w7 (by omega) s7)
  clear s7 ho7
  have lck : 65535 - osum (pre6 (dst6 l) (src6 l) (8 + m) ++ noteL 1 0 0 F) ≤ 65535 := by omega
  generalize hck : 65535 - osum (pre6 (dst6 l) (src6 l) (8 + m) ++ noteL 1 0 0 F) = ck at *
  have HCK := Lib.hid hck
  clear hck
  have e1 : (UInt8.ofNat (ck / 256)).toNat = ck / 256 := by simp; omega
  have e2 : (UInt8.ofNat (ck % 256)).toNat = ck % 256 := by simp
  have HN := Lib.hid (noteL_set 1 0 ck F)
  generalize UInt8.ofNat (ck / 256) = x1 at *
  generalize UInt8.ofNat (ck % 256) = x2 at *
  have f1 : (ck : Int) / 256 % 256 = (x1.toNat : Int) := by omega
  have f1' : (ck : Int) / 256 = (x1.toNat : Int) := by omega
  have f2 : (ck : Int) % 256 = (x2.toNat : Int) := by omega
  have ick : (ck : Int) ≤ 65535 := by omega
  obtain ⟨old2, hold2, _⟩ := o7.at (j := 2) (by omega)
  have hfr2 := World.ownsRow.frozenAt o7 2
  have o8 := (o7.put 2 x1).1
  have b8 : Below w3.heap.size w3 (w7.setCell ⟨g, 2, none⟩ (bv x1)) := b7.grown (o7.put 2 x1).2 b7.size (fun k hk => by injection hk with hk; omega)
  have k8 := k7.other ⟨g, 2, none⟩ (bv x1) (by simpa using hgne)
  obtain ⟨old3, hold3, _⟩ := o8.at (j := 3) (by omega)
  have hfr3 := World.ownsRow.frozenAt o8 3
  have o9 := (o8.put 3 x2).1
  have b9 : Below w3.heap.size w3 ((w7.setCell ⟨g, 2, none⟩ (bv x1)).setCell ⟨g, 3, none⟩ (bv x2)) := b8.grown (o8.put 3 x2).2 b8.size (fun k hk => by injection hk with hk; omega)
  have k9 := k8.other ⟨g, 3, none⟩ (bv x2) (by simpa using hgne)
  rw [HN.out] at o9
  have i2 : (2 : Int) < 8 + (m : Int) := by omega
  have i3 : (3 : Int) < 8 + (m : Int) := by omega
  have s9 := o9.shown
  clear e1 e2 o8 b8 k8 b7 k7 o9
  go_wp2_with (first
    | (refine wpList_loadBlk (g := g5) (t := 42) (cs := BK) rfl 42 (.tmp 7) ?ho ?hx ?hA _ Try.underlying42 rfl ?hi ?_
       case ho => with_reducible rfl
       case hx => rfl
       case hA => exact k9
       case hi => exact msB)
    | (go_at_call 75
       refine HK.out.mono ?_
       rintro e wq ⟨rfl, rfl⟩)
    | fail)
  refine (HPut.out _ (8 + m) _ _ _ (by omega) s9).mono ?_
  rintro e w10 ⟨v10, rfl, ho10, hb10⟩
  have b10 := Below.on b9 b9.size hb10
  have o10 := ho10.base (b' := w.heap.size) (by have := b3.size; have := b9.size; omega)
  clear ho10 hb10 s9 b9 k9
  go_wp2
  go_ret2
  exact ⟨v10, rfl, by rw [HM.out]; exact o10, Below.on b3 b3.size b10⟩

end Go.Proofs.Ytkokgoodpibboaa

/- IxH -/
namespace Go.Proofs.Ytkokgoodpibboaa
open Go.RowKit
set_option linter.unusedSimpArgs false
set_option linter.unusedVariables false

def exQ6 : List UInt8 := pkt6 0 0 0 0 (zb 16) (zb 16) [9]
theorem exQ6_E : pE6 exQ6 = 0 := by decide +kernel
theorem exQ6_W : kW exQ6 = true := by decide +kernel

set_option maxHeartbeats 2000000 in
set_option maxRecDepth 100000 in
theorem alive23 (w : World) : Calls Try.prog 38 #[] w fun e w' => e = .returned (.bool true) ∧ Below w.heap.size w w' := by
  have hza := (zero_of_info Try.zeroAddr).1
  have zne : ¬ adv 0 (zb 16) = #[] := by simp [adv]
  have HQ := Lib.hid (fun (g : Nat) (W : World) (hW : Shows W W.heap.size (some ⟨g, 0, none⟩) 1 [9]) => put6_in 0 0 0 0 0 0 0 0 0 (zb 16) (zb 16) rfl rfl (some ⟨g, 0, none⟩) 1 1 [9] W (by omega) hW (by omega) (by omega) (by omega) (by omega))
  rw [show pkt6 0 0 0 0 (zb 16) (zb 16) [9] = exQ6 from rfl] at HQ
  have z6 : (adv 6 (zb 16)).size = 17 := rfl
  have o6 : ((adv 6 (zb 16)).all fun x => x.oneCell') = true := adv_one _ _
  have zi6 : (Try.prog.info? 32).map (·.size) = some (adv 6 (zb 16)).size := by kernel_rfl
  have b2 : Below w.heap.size w (w.alloc (.cells (adv 6 (zb 16)) 32)) := (Below.refl _ _).alloc (Nat.le_refl _) _
  have k2 : Blk (w.alloc (.cells (adv 6 (zb 16)) 32)) w.heap.size 32 (adv 6 (zb 16)) := blk_new _ _ _
  go_enter Try.func38, Try.ntmps38
  go_wp2_with (first
    | (refine wpList_allocStore (cs := adv 6 (zb 16)) rfl rfl 32 ?ho (.tmp 1) (.tmp 6) ?ho2 Try.zeroAddr ?hz ?hx ?hy ?hn ?h1 ?_
       case ho => with_reducible rfl
       case ho2 => rfl
       case hz => rfl
       case hx => rfl
       case hy => rfl
       case hn => exact z6
       case h1 => exact o6
       generalize (w.alloc (.cells (adv 6 (zb 16)) 32)) = W2 at *)
    | (refine wpList_loadBlk (g := w.heap.size) (t := 32) (cs := adv 6 (zb 16)) rfl 32 (.tmp 1) ?ho ?hx ?hA _ Try.underlying32 rfl ?hi ?_
       case ho => with_reducible rfl
       case hx => rfl
       case hA => exact k2
       case hi => exact zi6)
    | (refine wpList_build rfl 42 ?fs ?ho (.agg (hdv [0, 0, 0, ((0 : Nat) : Int), ((0 : Nat) : Int), 0, 0, ((0 : Nat) : Int), ((0 : Nat) : Int)] (adv 6 (zb 16)) (adv 6 (zb 16)))) ?hr ?_
       case ho => with_reducible rfl
       case hr =>
         intro W
         change _ = _
         kernel_rfl)
    | fail)
  have hs9 : Shows (W2.alloc (.cells #[.int .u8 9] 5)) (W2.alloc (.cells #[.int .u8 9] 5)).heap.size (some ⟨W2.heap.size, 0, none⟩) 1 [9] := shows_new W2 #[.int .u8 9] [9] rfl
  have b3 : Below w.heap.size w (W2.alloc (.cells #[.int .u8 9] 5)) := b2.alloc b2.size _
  refine (HQ.out _ _ hs9).mono ?_
  rintro e w3 ⟨x, rfl, ho3, hb3⟩
  have b4 := Below.on b3 b3.size hb3
  have o3 : Own w3 w.heap.size x 41 exQ6 := ho3.base (b' := w.heap.size) b3.size
  clear k2 b2 b3 hb3 ho3 HQ hs9
  obtain ⟨A', c', rfl, h1, h2, s3⟩ := o3.shows
  have HU := Lib.hid (unreach6_ok A' 41 c' exQ6 w3 (by omega) h1 h2 s3 exQ6_E exQ6_W)
  rw [show 40 + (8 + min 41 1232) = 89 from rfl] at HU
  clear s3 o3
  go_wp2_with fail
  refine HU.out.mono ?_
  rintro e w5 ⟨v5, rfl, ho5, hb5⟩
  have b5 := Below.on b4 b4.size hb5
  obtain ⟨A5, c5, rfl, _, _, s5⟩ := ho5.shows
  clear ho5 s5 hb5 b4 HU
  go_wp2
  go_ret
  exact ⟨rfl, b5⟩

set_option maxRecDepth 100000 in
set_option maxHeartbeats 2000000 in
theorem walk_IcmpsixReads (A : Option Addr) (n c : Nat) (l : List UInt8) {w : World} (hc : n ≤ c ∧ c ≤ maxLen) (hs : Shows w w.heap.size A n l) :
    Calls Try.prog 10 #[.slice A n c] w fun e w' => e = .returned (.bool true) ∧ Below w.heap.size w w' := by
  obtain ⟨hc1, hc2⟩ := hc
  by_cases hn : 3000 < n
  · have hni : (3000 : Int) < (n : Int) := by omega
    have d : decide ((3000 : Int) < (n : Int)) = true := decide_eq_true hni
    go_enter Try.func10, Try.ntmps10
    go_wp2_with fail
    refine (alive23 w).mono ?_
    rintro e w1 ⟨rfl, hb1⟩
    go_wp2
    go_ret
    exact ⟨rfl, hb1⟩
  · have d : decide ((3000 : Int) < (n : Int)) = false := decide_eq_false (by omega)
    have hl := hs.len
    by_cases q : r6E l = 0
    · have H1 := Lib.hid (read6_ok A n c l w (by omega) hc1 hc2 hs q)
      have H2 := Lib.hid (fun (W : World) (hW : Below w.heap.size w W) => refRead6_ok A n c l W (by omega) hc1 hc2 ((hs.below hW).up hW.size) q)
      have hT : tot6 l - 40 - 8 ≤ n := by
        have q0 : pE6 l = 0 := by
          unfold r6E at q
          split at q
          · assumption
          · exact q
        have := (pE6_facts q0).2.1
        omega
      clear hs
      generalize tot6 l - 40 - 8 = m at *
      generalize (rest6 l).drop 8 = D at *
      go_enter Try.func10, Try.ntmps10
      go_wp2_with fail
      refine H1.out.mono ?_
      rintro e w1 ⟨v1, rfl, ho1, b1⟩
      obtain ⟨A1, c1, rfl, _, _, s1⟩ := ho1.shows
      clear ho1 H1
      go_wp2_with fail
      refine (H2.out _ b1).mono ?_
      rintro e w2 ⟨A2, c2, rfl, s2, hb2⟩
      have b2 := Below.on b1 b1.size hb2
      have s3 := (s1.below hb2).up hb2.size
      clear s1 hb2 b1 H2
      have HS := Lib.hid (same_below A1 A2 m c1 c2 D w2 (by simp only [maxLen]; omega) s3 s2)
      clear s2 s3
      go_wp2_with fail
      refine HS.out.mono ?_
      rintro e w3 ⟨rfl, hb3⟩
      have b3 := Below.on b2 b2.size hb3
      clear b2 hb3 HS
      go_wp2_with fail
      refine (alive23 _).mono ?_
      rintro e w4 ⟨rfl, hb4⟩
      have b4 := Below.on b3 b3.size hb4
      clear b3 hb4
      go_wp2
      go_ret
      exact ⟨rfl, b4⟩
    · have H1 := Lib.hid (read6_bad A n c l w (by omega) hc1 hc2 hs q)
      have H2 := Lib.hid (fun (W : World) (hW : Below w.heap.size w W) => refRead6_bad A n c l W (by omega) hc1 hc2 ((hs.below hW).up hW.size) q)
      clear hs
      generalize r6E l = E0 at *
      go_enter Try.func10, Try.ntmps10
      go_wp2_with fail
      refine H1.out.mono ?_
      rintro e w1 ⟨rfl, b1⟩
      go_wp2_with fail
      refine (H2.out _ b1).mono ?_
      rintro e w2 ⟨rfl, hb2⟩
      have b2 := Below.on b1 b1.size hb2
      clear hb2 b1 H2 H1
      have HS := Lib.hid (same_below none none 0 0 0 [] w2 (by simp only [maxLen]; omega) (shows_none _ _) (shows_none _ _))
      go_wp2_with fail
      refine HS.out.mono ?_
      rintro e w3 ⟨rfl, hb3⟩
      have b3 := Below.on b2 b2.size hb3
      clear b2 hb3 HS
      go_wp2_with fail
      refine (alive23 _).mono ?_
      rintro e w4 ⟨rfl, hb4⟩
      have b4 := Below.on b3 b3.size hb4
      clear b3 hb4
      go_wp2
      go_ret
      exact ⟨rfl, b4⟩

end Go.Proofs.Ytkokgoodpibboaa
