
/- Contract: crawlwayref22.Read of a message. -/
import Derived.Test.YtblfllidejdehaaNtD
namespace Go.Proofs.Ytblfllidejdehaa
open Go.RowKit
set_option linter.unusedSimpArgs false
set_option linter.unusedVariables false

set_option maxRecDepth 100000 in
set_option maxHeartbeats 1500000 in
theorem refRead4_ok (A : Option Addr) (n c : Nat) (l : List UInt8) (w : World) (hn : n ≤ 100000) (hc : n ≤ c) (hcm : c ≤ maxLen) (hs : Shows w w.heap.size A n l) (hE : r4E l = 0) :
    Calls Try.prog 33 #[.slice A n c] w fun e w' => ∃ A' c', e = .returned (.tuple #[.slice A' (totL l - sizeL l - 8) c', .int .i64 0]) ∧ Shows w' w'.heap.size A' (totL l - sizeL l - 8) ((restL l).drop 8) ∧ Below w.heap.size w w' := by
  have hz := (zero_of_info Try.zeroHead).1
  have hne : ¬ zH = #[] := by intro h; have := zH_size; rw [h] at this; cases this
  have HP := Lib.hid (refParse4_all A n c l w (by omega) hc hcm hs)
  have hl := hs.len
  have hsz := pH_size l
  have o1 := pH_one l
  have q0' : pE l = 0 := by
    unfold r4E at hE
    split at hE
    · assumption
    · exact hE
  obtain ⟨m1, m2, m8⟩ := pH_cells q0'
  obtain ⟨f1, f2, f3, f4⟩ := pE_facts q0'
  rw [hl] at f4
  obtain ⟨b, off, rfl, hbb, _⟩ := hs.2 (by omega)
  have HSr := Lib.hid (fun (W : World) (hW : Below w.heap.size w W) => restL_shows ((hs.below hW).up hW.size) q0')
  have hrl := restL_len q0'
  have HSm := Lib.hid (fun (A2 : Option Addr) (n2 c2 : Nat) (W : World) => show Calls Try.prog 59 #[.agg (pH l), .slice A2 n2 c2] W fun e w' => e = .returned (.slice A2 n2 c2) ∧ Below W.heap.size W w' by
    have e : pH l = hdL l := by unfold pH; rw [if_pos q0']
    rw [e]
    unfold hdL hdN
    exact summed4 _ (srcL l) (by simp [srcL]; omega) _ rfl (adv_size _ _ (by simp [dstL, zb]; omega)) A2 n2 c2 W)
  have ms : (Try.prog.info? 28).map (·.size) = some (pH l).size := by rw [hsz]; exact Try.infoHead
  rw [q0'] at HP
  have hF : prL l = 1 ∧ fE 3 1 [] (restL l) = 0 := by
    unfold r4E at hE
    rw [if_pos q0'] at hE
    split at hE
    · exact ⟨by assumption, hE⟩
    · cases hE
  obtain ⟨e8, hF⟩ := hF
  rw [e8] at m8
  have m8' : (pH l)[8]? = some (.int .i64 1) := m8
  clear m8
  have m8 := m8'
  clear m8'
  unfold fE at hF
  rw [hrl] at hF
  by_cases h8 : totL l - sizeL l < 8
  · rw [if_pos h8] at hF; cases hF
  rw [if_neg h8] at hF
  clear hs hE e8 q0'
  generalize restL l = R at *
  generalize pH l = M at *
  generalize sizeL l = S at *
  generalize totL l = T at *
  have iST : (S : Int) ≤ (T : Int) := by omega
  have iTc : (T : Int) ≤ (c : Int) := by omega
  have d2 : decide (((T - S : Nat) : Int) < 8) = false := decide_eq_false (by omega)
  have d2' : decide ((T : Int) - (S : Int) < 8) = false := decide_eq_false (by omega)
  have q3 : ¬ c = S := by omega
  have HY := Lib.hid (fun (i : Nat) (hi : i < T - S) (W : World) (hW : Below w.heap.size w W) => show W.cell? ⟨b, off + S + i, none⟩ = some (.int .u8 (byt R i : Int)) from (HSr.out W hW).byt i hi)
  have H0 := Lib.hid (HY.out 0 (by omega))
  have H1 := Lib.hid (HY.out 1 (by omega))
  have H4 := Lib.hid (HY.out 4 (by omega))
  have H5 := Lib.hid (HY.out 5 (by omega))
  have H6 := Lib.hid (HY.out 6 (by omega))
  have H7 := Lib.hid (HY.out 7 (by omega))
  have HSu := Lib.hid (fun (W : World) (hW : Below w.heap.size w W) => refSum_any (some ⟨b, off + S, none⟩) (T - S) (c - S) R W (by omega) (HSr.out W hW))
  have in0 : (0 : Int) < ((T - S : Nat) : Int) := by omega
  have in0' : 0 < T - S := by omega
  have in0'' : S < T := by omega
  have in1 : (1 : Int) < ((T - S : Nat) : Int) := by omega
  have in1' : (1 : Int) < (T : Int) - (S : Int) := by omega
  have in4 : (4 : Int) < ((T - S : Nat) : Int) := by omega
  have in4' : (4 : Int) < (T : Int) - (S : Int) := by omega
  have in5 : (5 : Int) < ((T - S : Nat) : Int) := by omega
  have in5' : (5 : Int) < (T : Int) - (S : Int) := by omega
  have in6 : (6 : Int) < ((T - S : Nat) : Int) := by omega
  have in6' : (6 : Int) < (T : Int) - (S : Int) := by omega
  have in7 : (7 : Int) < ((T - S : Nat) : Int) := by omega
  have in7' : (7 : Int) < (T : Int) - (S : Int) := by omega
  have HD1 := Lib.hid (fun (W : World) (hW : Below w.heap.size w W) => show Shows W W.heap.size (some ⟨b, off + S + 8, none⟩) (T - S - 8) (R.drop 8) by
    have := (HSr.out W hW).piece 8 (T - S - 8) (by omega)
    rw [List.take_of_length_le (by simp; omega)] at this
    exact this)
  have HD2 := Lib.hid (fun (W : World) (h : T - S = 8) => show Shows W W.heap.size (some ⟨b, off + S, none⟩) (T - S - 8) (R.drop 8) from ⟨by simp; omega, fun h => absurd h (by omega)⟩)
  clear HY HSr
  have g1 : byt R 0 = 3 ∧ byt R 1 = 1 := by
    by_cases h : byt R 0 = 3 ∧ byt R 1 = 1
    · exact h
    · rw [if_neg h] at hF; cases hF
  rw [if_pos g1] at hF
  have g2 : osum R = 65535 := by
    by_cases h : osum R = 65535
    · exact h
    · rw [if_neg (by simpa using h)] at hF; cases hF
  rw [if_pos (by simpa using g2)] at hF
  have g3 : byt R 4 = 0 ∧ byt R 5 = 0 ∧ byt R 6 = 0 ∧ byt R 7 = 0 := by
    by_cases h : byt R 4 = 0 ∧ byt R 5 = 0 ∧ byt R 6 = 0 ∧ byt R 7 = 0
    · exact h
    · rw [if_neg h] at hF; cases hF
  clear hF
  rw [g1.1] at H0
  rw [g1.2] at H1
  rw [g3.1] at H4
  rw [g3.2.1] at H5
  rw [g3.2.2.1] at H6
  rw [g3.2.2.2] at H7
  rw [g2] at HSu
  clear g1 g2 g3
  generalize hDe : R.drop 8 = D at *
  clear hDe
  have ih8 : (8 : Int) ≤ ((T - S : Nat) : Int) := by omega
  have ih8' : (8 : Int) ≤ (T : Int) - (S : Int) := by omega
  by_cases q5 : c - S = 8
  · have N8 := Lib.hid (show T - S = 8 by omega)
    rw [q5] at HSu
    go_enter Try.func33, Try.ntmps33
    go_wp2_with fail
    refine HP.out.mono ?_
    rintro e w1 ⟨rfl, hb1⟩
    have b2 : Below w.heap.size w (w1.alloc (.cells M 28)) := hb1.alloc hb1.size _
    have k2 : Blk (w1.alloc (.cells M 28)) w1.heap.size 28 M := blk_new _ _ _
    generalize hg1 : w1.heap.size = g1 at *
    have c1 := (k2.cellA 1).trans m1
    have c2 := (k2.cellA 2).trans m2
    have c8 := (k2.cellA 8).trans m8
    have y0 : (w1.alloc (.cells M 28)).cell? ⟨b, off + S, none⟩ = some (.int .u8 3) := H0.out _ b2
    have y1 := H1.out _ b2
    go_wp2_with (first
      | (refine wpList_allocStore (cs := M) rfl rfl 28 ?ho (.tmp 4) (.tmp 10) ?ho2 Try.zeroHead ?hz ?hx ?hy ?hn ?h1 ?_
         case ho => with_reducible rfl
         case ho2 => rfl
         case hz => exact zH_size
         case hx => rfl
         case hy => rfl
         case hn => exact hsz
         case h1 => exact o1
         rw [hg1])
      | (refine wpList_loadBlk (g := g1) (t := 28) (cs := M) rfl 28 (.tmp 4) ?ho ?hx ?hA _ Try.underlying28 rfl ?hi ?_
         case ho => with_reducible rfl
         case hx => rfl
         case hA => exact k2
         case hi => exact ms)
      | fail)
    refine (HSm.out _ _ _ _).mono ?_
    rintro e w3 ⟨rfl, hb3⟩
    have b3 := Below.on b2 b2.size hb3
    clear hb3
    go_wp2_with fail
    refine (HSu.out _ b3).mono ?_
    rintro e w' ⟨rfl, rfl⟩
    have y4 := H4.out _ b3
    have y5 := H5.out _ b3
    have y6 := H6.out _ b3
    have y7 := H7.out _ b3
    go_wp2
    go_ret2
    exact ⟨_, _, rfl, HD2.out _ N8.out, b3⟩
  · go_enter Try.func33, Try.ntmps33
    go_wp2_with fail
    refine HP.out.mono ?_
    rintro e w1 ⟨rfl, hb1⟩
    have b2 : Below w.heap.size w (w1.alloc (.cells M 28)) := hb1.alloc hb1.size _
    have k2 : Blk (w1.alloc (.cells M 28)) w1.heap.size 28 M := blk_new _ _ _
    generalize hg1 : w1.heap.size = g1 at *
    have c1 := (k2.cellA 1).trans m1
    have c2 := (k2.cellA 2).trans m2
    have c8 := (k2.cellA 8).trans m8
    have y0 : (w1.alloc (.cells M 28)).cell? ⟨b, off + S, none⟩ = some (.int .u8 3) := H0.out _ b2
    have y1 := H1.out _ b2
    go_wp2_with (first
      | (refine wpList_allocStore (cs := M) rfl rfl 28 ?ho (.tmp 4) (.tmp 10) ?ho2 Try.zeroHead ?hz ?hx ?hy ?hn ?h1 ?_
         case ho => with_reducible rfl
         case ho2 => rfl
         case hz => exact zH_size
         case hx => rfl
         case hy => rfl
         case hn => exact hsz
         case h1 => exact o1
         rw [hg1])
      | (refine wpList_loadBlk (g := g1) (t := 28) (cs := M) rfl 28 (.tmp 4) ?ho ?hx ?hA _ Try.underlying28 rfl ?hi ?_
         case ho => with_reducible rfl
         case hx => rfl
         case hA => exact k2
         case hi => exact ms)
      | fail)
    refine (HSm.out _ _ _ _).mono ?_
    rintro e w3 ⟨rfl, hb3⟩
    have b3 := Below.on b2 b2.size hb3
    clear hb3
    go_wp2_with fail
    refine (HSu.out _ b3).mono ?_
    rintro e w' ⟨rfl, rfl⟩
    have y4 := H4.out _ b3
    have y5 := H5.out _ b3
    have y6 := H6.out _ b3
    have y7 := H7.out _ b3
    go_wp2
    go_ret2
    exact ⟨_, _, rfl, HD1.out _ b3, b3⟩

end Go.Proofs.Ytblfllidejdehaa
