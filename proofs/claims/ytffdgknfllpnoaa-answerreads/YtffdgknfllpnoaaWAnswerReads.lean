
/- The walk of law14.AnswerReads. -/
import Derived.Test.YtffdgknfllpnoaaAnsH
namespace Go.Proofs.Ytffdgknfllpnoaa
open Go.RowKit

set_option maxHeartbeats 2000000 in
theorem answerReads_bad (A : Option Addr) (n c : Nat) (E : Int) (w : World) (hn : n ≤ 400) (hE : (E != 0) = true)
    (hP : ∀ W : World, Below w.heap.size w W → Calls Try.prog 16 #[.slice A n c] W fun e w' => e = .returned (.tuple #[.agg (mcs [0, 0] (zer 80)), .int .i64 E]) ∧ Below W.heap.size W w')
    (hR : ∀ W : World, Below w.heap.size w W → Calls Try.prog 19 #[.slice A n c] W fun e w' => e = .returned (.tuple #[.agg (mcs [0, 0] (zer 80)), .int .i64 E]) ∧ Below W.heap.size W w') :
    Calls Try.prog 6 #[.slice A n c] w fun e w' => e = .returned (.bool true) ∧ Below w.heap.size w w' := by
  have HP := Lib.hid hP
  have HR := Lib.hid hR
  have hE0 : E ≠ 0 := by simpa using hE
  clear hP hR
  go_enter Try.func6, Try.ntmps6
  go_wp2_with fail
  refine (HP.out w (Below.refl _ _)).mono ?_
  rintro e w1 ⟨rfl, hb1⟩
  have m2 := blk_new w1 41 (mcs [0, 0] (zer 80))
  have hb2 := hb1.alloc hb1.size (.cells (mcs [0, 0] (zer 80)) 41)
  generalize hw2 : w1.alloc (.cells (mcs [0, 0] (zer 80)) 41) = w2 at *
  generalize hg1 : w1.heap.size = g1 at *
  have Hw2 := Lib.hid hw2
  have Hg1 := Lib.hid hg1
  clear hw2 hg1 hb1
  go_wp2_with (first
    | (refine wpList_allocStore (cs := mcs [0, 0] (zer 80)) rfl rfl 41 ?ho (.tmp 3) (.tmp 14) ?ho2 Try.zeroAns ?hz ?hx ?hy ?hn ?h1 ?_
       case ho => with_reducible rfl
       case ho2 => rfl
       case hz => rw [mcs_size, zer_len]; rfl
       case hx => rfl
       case hy => rfl
       case hn => rw [mcs_size, zer_len]; rfl
       case h1 => exact mcs_one _ _
       rw [Hw2.out, Hg1.out]))
  refine (HR.out w2 hb2).mono ?_
  rintro e w3 ⟨rfl, hb3⟩
  have m3 := m2.on hb3
  have hb03 := Below.on hb2 hb2.size hb3
  clear m2 hb2 hb3 HP HR Hw2 Hg1
  have m4 := m3.alloc (.cells (mcs [0, 0] (zer 80)) 41)
  have x4 := blk_new w3 41 (mcs [0, 0] (zer 80))
  have hb04 := hb03.alloc hb03.size (.cells (mcs [0, 0] (zer 80)) 41)
  generalize hw4 : w3.alloc (.cells (mcs [0, 0] (zer 80)) 41) = w4 at *
  generalize hg3 : w3.heap.size = g3 at *
  have Hw4 := Lib.hid hw4
  have Hg3 := Lib.hid hg3
  clear m3 hb03 hw4 hg3
  go_wp2_with (first
    | (refine wpList_allocStore (cs := mcs [0, 0] (zer 80)) rfl rfl 41 ?ho (.tmp 5) (.tmp 19) ?ho2 Try.zeroAns ?hz ?hx ?hy ?hn ?h1 ?_
       case ho => with_reducible rfl
       case ho2 => rfl
       case hz => rw [mcs_size, zer_len]; rfl
       case hx => rfl
       case hy => rfl
       case hn => rw [mcs_size, zer_len]; rfl
       case h1 => exact mcs_one _ _
       rw [Hw4.out, Hg3.out])
    | (refine wpList_loadBlk (g := g1) (t := 41) (cs := mcs [0, 0] (zer 80)) rfl 41 (.tmp 3) ?ho ?hx ?hA _ Try.underlying41 rfl ?hi ?_
       case ho => with_reducible rfl
       case hx => rfl
       case hA => exact m4
       case hi => exact Ans_sizeZ)
    | (refine wpList_loadBlk (g := g3) (t := 41) (cs := mcs [0, 0] (zer 80)) rfl 41 (.tmp 5) ?ho ?hx ?hA _ Try.underlying41 rfl ?hi ?_
       case ho => with_reducible rfl
       case hx => rfl
       case hA => exact x4
       case hi => exact Ans_sizeZ)
    | (refine wpList_eqlSelf (cs := mcs [0, 0] (zer 80)) rfl 41 41 (.tmp 21) (.tmp 22) ?ho ?hx ?hy (by kernel_rfl) ?he ?_
       case ho => with_reducible rfl
       case hx => rfl
       case hy => rfl
       case he => exact fun w => Ans_eq 0 0 (zer 80) (zer_len 80) w))
  refine (alive14 w4).mono ?_
  rintro e w5 ⟨rfl, hb5⟩
  have hb05 := Below.on hb04 hb04.size hb5
  clear m4 x4 hb04 hb5 Hw4 Hg3
  go_wp2
  go_ret
  exact ⟨rfl, hb05⟩

theorem answer_back (t : List UInt8) (h : t.length = 88) : mbs 2 [leNat ((t.drop 0).take 4), leNat ((t.drop 4).take 4)] (t.drop 8) = 2 :: 0 :: 0 :: 0 :: t := by
  have e0 : leBytes (leNat ((t.drop 0).take 4)) 4 = (t.drop 0).take 4 := by
    have := leBytes_leNat ((t.drop 0).take 4)
    rwa [List.length_take, List.length_drop, Nat.min_eq_left (by omega)] at this
  have e1 : leBytes (leNat ((t.drop 4).take 4)) 4 = (t.drop 4).take 4 := by
    have := leBytes_leNat ((t.drop 4).take 4)
    rwa [List.length_take, List.length_drop, Nat.min_eq_left (by omega)] at this
  have f0 := cut_list t 0 4 4 rfl
  have f1 := cut_list t 4 4 8 rfl
  have ft : t = (t.drop 0).take 4 ++ ((t.drop 4).take 4 ++ (t.drop 8)) := (List.drop_zero (l := t)).symm.trans (f0.trans (congrArg (fun z => (t.drop 0).take 4 ++ z) (f1.trans (congrArg (fun z => (t.drop 4).take 4 ++ z) (rfl)))))
  simp only [mbs, mnums, e0, e1, List.append_nil, List.append_assoc]
  rw [← ft]
  rfl

set_option maxHeartbeats 2000000 in
theorem answerReads_ok (A : Option Addr) (n c : Nat) (t : List UInt8) (w : World) (hn : n = 92) (hnc : n ≤ c) (hs : Shows w w.heap.size A n (2 :: 0 :: 0 :: 0 :: t)) :
    Calls Try.prog 6 #[.slice A n c] w fun e w' => e = .returned (.bool true) ∧ Below w.heap.size w w' := by
  have htl : t.length = 88 := by have := hs.len; simp at this; omega
  have HB := Lib.hid (answer_back t htl)
  have HR := Lib.hid (fun (W : World) (hW : Below w.heap.size w W) => ref14Parse_ok A n c t W hn hnc ((hs.below hW).up hW.size))
  subst hn
  have HP := Lib.hid (answerParse_ok A c t w hs)
  have hL : (t.drop 8).length = 80 := by simp; omega
  have hr0 : leNat ((t.drop 0).take 4) < 4294967296 := by have := leNat_take_lt (t.drop 0) 4; simpa using this
  generalize leNat ((t.drop 0).take 4) = r0 at *
  have hr1 : leNat ((t.drop 4).take 4) < 4294967296 := by have := leNat_take_lt (t.drop 4) 4; simpa using this
  generalize leNat ((t.drop 4).take 4) = r1 at *
  generalize t.drop 8 = L at *
  have hmx : 92 ≤ maxLen := by unfold maxLen; omega
  go_enter Try.func6, Try.ntmps6
  go_wp2_with fail
  refine HP.out.mono ?_
  rintro e w1 ⟨rfl, hb1⟩
  have m2 := blk_new w1 41 (mcs [r0, r1] L)
  have hb2 := hb1.alloc hb1.size (.cells (mcs [r0, r1] L) 41)
  generalize hw2 : w1.alloc (.cells (mcs [r0, r1] L) 41) = w2 at *
  generalize hg1 : w1.heap.size = g1 at *
  have Hw2 := Lib.hid hw2
  have Hg1 := Lib.hid hg1
  clear hw2 hg1 hb1
  go_wp2_with (first
    | (refine wpList_allocStore (cs := mcs [r0, r1] L) rfl rfl 41 ?ho (.tmp 3) (.tmp 14) ?ho2 Try.zeroAns ?hz ?hx ?hy ?hn ?h1 ?_
       case ho => with_reducible rfl
       case ho2 => rfl
       case hz => rw [mcs_size, zer_len]; rfl
       case hx => rfl
       case hy => rfl
       case hn => rw [mcs_size, hL]; rfl
       case h1 => exact mcs_one _ _
       rw [Hw2.out, Hg1.out]))
  refine (HR.out w2 hb2).mono ?_
  rintro e w3 ⟨rfl, hb3⟩
  have m3 := m2.on hb3
  have hb03 := Below.on hb2 hb2.size hb3
  clear m2 hb2 hb3 HP HR Hw2 Hg1
  have m4 := m3.alloc (.cells (mcs [r0, r1] L) 41)
  have x4 := blk_new w3 41 (mcs [r0, r1] L)
  have hb04 := hb03.alloc hb03.size (.cells (mcs [r0, r1] L) 41)
  generalize hw4 : w3.alloc (.cells (mcs [r0, r1] L) 41) = w4 at *
  generalize hg3 : w3.heap.size = g3 at *
  have Hw4 := Lib.hid hw4
  have Hg3 := Lib.hid hg3
  clear m3 hb03 hw4 hg3
  go_wp2_with (first
    | (refine wpList_allocStore (cs := mcs [r0, r1] L) rfl rfl 41 ?ho (.tmp 5) (.tmp 19) ?ho2 Try.zeroAns ?hz ?hx ?hy ?hn ?h1 ?_
       case ho => with_reducible rfl
       case ho2 => rfl
       case hz => rw [mcs_size, zer_len]; rfl
       case hx => rfl
       case hy => rfl
       case hn => rw [mcs_size, hL]; rfl
       case h1 => exact mcs_one _ _
       rw [Hw4.out, Hg3.out])
    | (refine wpList_loadBlk (g := g1) (t := 41) (cs := mcs [r0, r1] L) rfl 41 (.tmp 3) ?ho ?hx ?hA _ Try.underlying41 rfl ?hi ?_
       case ho => with_reducible rfl
       case hx => rfl
       case hA => exact m4
       case hi => exact Ans_size r0 r1 L hL)
    | (refine wpList_loadBlk (g := g3) (t := 41) (cs := mcs [r0, r1] L) rfl 41 (.tmp 5) ?ho ?hx ?hA _ Try.underlying41 rfl ?hi ?_
       case ho => with_reducible rfl
       case hx => rfl
       case hA => exact x4
       case hi => exact Ans_size r0 r1 L hL)
    | (refine wpList_eqlSelf (cs := mcs [r0, r1] L) rfl 41 41 (.tmp 21) (.tmp 22) ?ho ?hx ?hy (by kernel_rfl) ?he ?_
       case ho => with_reducible rfl
       case hx => rfl
       case hy => rfl
       case he => exact fun w => Ans_eq r0 r1 L hL w))
  refine (answerBytes_any r0 r1 L w4 hr0 hr1 hL).mono ?_
  rintro e w5 ⟨v5, rfl, ho5, hb5⟩
  have hb05 := Below.on hb04 hb04.size hb5
  rw [HB.out] at ho5
  obtain ⟨a5, c5, rfl, _, s5⟩ := ho5.at_some (by omega)
  have s5b := (hs.below hb05).up hb05.size
  clear m4 x4 hb04 hb5 Hw4 Hg3 ho5 HB
  go_wp2_with fail
  refine (same_below _ _ _ _ _ _ w5 hmx s5 s5b).mono ?_
  rintro e w6 ⟨rfl, hb6⟩
  have hb06 := Below.on hb05 hb05.size hb6
  clear hb05 hb6 s5 s5b
  go_wp2_with fail
  refine (alive14 w6).mono ?_
  rintro e w7 ⟨rfl, hb7⟩
  have hb07 := Below.on hb06 hb06.size hb7
  clear hb06 hb7
  go_wp2
  go_ret
  exact ⟨rfl, hb07⟩

theorem walk_AnswerReads (A : Option Addr) (n c : Nat) (l : List UInt8) {w : World} (hc : n ≤ c ∧ c ≤ maxLen) (hs : Shows w w.heap.size A n l) :
    Calls Try.prog 6 #[.slice A n c] w fun e w' => e = .returned (.bool true) ∧ Below w.heap.size w w' := by
  have hm : n ≤ 9223372036854775807 := by have := Nat.le_trans hc.1 hc.2; unfold maxLen at this; omega
  by_cases hbig : 400 < n
  · go_enter Try.func6, Try.ntmps6
    go_wp2_with fail
    refine (alive14 w).mono ?_
    rintro e w1 ⟨rfl, hb1⟩
    go_wp2
    go_ret
    exact ⟨rfl, hb1⟩
  by_cases hsh : n < 92
  · exact answerReads_bad A n c 3 w (by omega) rfl
      (fun W _ => answerParse_err A n c 3 W rfl (fun W _ => same_world (take_short A n c 2 92 92 W (by omega) (by omega))))
      (fun W _ => ref14Parse_short A n c W hsh)
  by_cases hlg : 92 < n
  · exact answerReads_bad A n c 4 w (by omega) rfl
      (fun W _ => answerParse_err A n c 4 W rfl (fun W _ => same_world (take_long A n c 2 92 92 W (by omega) (by omega) (by omega))))
      (fun W _ => ref14Parse_long A n c W hlg hm)
  have hn : n = 92 := by omega
  obtain ⟨x, y, z, u, t, rfl⟩ := list4 l (by have := hs.len; omega)
  have up : ∀ W : World, Below w.heap.size w W → Shows W W.heap.size A n (x :: y :: z :: u :: t) := fun W hW => (hs.below hW).up hW.size
  by_cases hx : x = 2
  · subst hx
    by_cases h0 : y = 0 ∧ z = 0 ∧ u = 0
    · obtain ⟨rfl, rfl, rfl⟩ := h0
      exact answerReads_ok _ n c t w hn hc.1 hs
    · obtain ⟨K, v, hK, hz, hv, hv0⟩ := head_bad y z u t h0
      exact answerReads_bad _ n c 10 w (by omega) rfl
        (fun W hW => answerParse_err _ n c 10 W rfl (fun W' hW' => take_zero _ n c K 2 v _ 92 92 W' (by omega) (by omega) (by omega) (by omega) (((up W hW).below hW').up hW'.size) hK hz hv hv0))
        (fun W hW => ref14Parse_zero _ n c y z u t W hn (up W hW) h0)
  · exact answerReads_bad _ n c 9 w (by omega) rfl
      (fun W hW => answerParse_err _ n c 9 W rfl (fun W' hW' => take_kind _ n c 2 x _ 92 92 W' (by omega) (by omega) (by omega) (by omega) (((up W hW).below hW').up hW'.size) rfl hx))
      (fun W hW => ref14Parse_kind _ n c x _ W hn (up W hW) hx)

end Go.Proofs.Ytffdgknfllpnoaa
