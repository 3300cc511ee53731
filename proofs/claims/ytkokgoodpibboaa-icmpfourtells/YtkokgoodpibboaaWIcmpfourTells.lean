
/- The walk of crawlwaylaw22.IcmpfourTells. -/
import Derived.Test.YtkokgoodpibboaaRpF
import Derived.Test.YtkokgoodpibboaaWIcmpfourReads
import Derived.Test.YtkokgoodpibboaaPkF
import Derived.Test.YtkokgoodpibboaaPuM
import Derived.Test.YtkokgoodpibboaaSame
namespace Go.Proofs.Ytkokgoodpibboaa
open Go.RowKit
set_option maxRecDepth 100000
set_option linter.unusedSimpArgs false
set_option linter.unusedVariables false

theorem kI_four {C I F P L : Nat} {s d body m : List UInt8} (h : PktFacts C I F 0 L P s d body m) (hP : P = 1) (h3 : body[0]? = some 3) : kI m = true := by
  obtain ⟨k0, k1, k2, k6, k8⟩ := h.kX
  have hb : 0 < body.length := by
    cases body with
    | nil => cases h3
    | cons a t => simp
  have hr := h.rest
  unfold restL at hr
  rw [h.size, h.tot] at hr
  have e : m[20]? = some 3 := by
    have e1 : ((m.drop 20).take (20 + body.length - 20))[0]? = some 3 := by rw [hr]; exact h3
    rw [List.getElem?_take, if_pos (by omega), List.getElem?_drop] at e1
    exact e1
  have hB : kB m = 3 := by unfold kB byt; rw [k1, e]; rfl
  unfold kI
  rw [h.kE, k0, k1, k2, k6, k8, hB, hP, decide_eq_true (show 20 < 20 + body.length by omega)]
  rfl
theorem msg4_facts {l : List UInt8} (hE : pE l = 0) : PktFacts 192 0 0 0 64 1 (dstL l) (srcL l) (noteL 3 1 (65535 - osum (noteL 3 1 0 (l.take (min l.length 548)))) (l.take (min l.length 548))) (msg4 l) := by
  obtain ⟨h20, _⟩ := pE_zero hE
  have hm : min l.length 548 ≤ 548 := Nat.min_le_right _ _
  exact pkt_facts 192 0 0 0 64 1 _ _ _ (by simp [dstL]; omega) (by simp [srcL]; omega) (by rw [noteL_len, List.length_take]; omega) (by omega) (by omega) (by omega) (by omega) (by omega) (by omega)
theorem msg4_read {l : List UInt8} (hE : pE l = 0) : r4E (msg4 l) = 0 ∧ (restL (msg4 l)).drop 8 = l.take (min l.length 548) ∧ totL (msg4 l) - sizeL (msg4 l) - 8 = min l.length 548 := by
  have h := msg4_facts hE
  refine ⟨?_, ?_, ?_⟩
  · unfold r4E
    rw [if_pos h.e0, if_pos h.pr, h.rest]
    exact note_good 3 1 [] (l.take (min l.length 548)) rfl
  · rw [h.rest]
    rfl
  · rw [h.tot, h.size, noteL_len, List.length_take]
    omega

set_option maxHeartbeats 4000000 in
theorem walk_IcmpfourTells (A : Option Addr) (n c : Nat) (l : List UInt8) {w : World} (hc : n ≤ c ∧ c ≤ maxLen) (hs : Shows w w.heap.size A n l) :
    Calls Try.prog 8 #[.slice A n c] w fun e w' => e = .returned (.bool true) ∧ Below w.heap.size w w' := by
  obtain ⟨hc1, hc2⟩ := hc
  by_cases hn : 3000 < n
  · have hni : (3000 : Int) < (n : Int) := by omega
    have d : decide ((3000 : Int) < (n : Int)) = true := decide_eq_true hni
    go_enter Try.func8, Try.ntmps8
    go_wp2_with fail
    refine (alive22 w).mono ?_
    rintro e w1 ⟨rfl, hb1⟩
    go_wp2
    go_ret
    exact ⟨rfl, hb1⟩
  have d : decide ((3000 : Int) < (n : Int)) = false := decide_eq_false (by omega)
  have hl := hs.len
  by_cases q : pE l = 0 ∧ kW l = true
  · obtain ⟨qE, qW⟩ := q
    have HF := msg4_facts qE
    obtain ⟨r1, r2, r3⟩ := msg4_read qE
    have kW1 : kW (msg4 l) = true := HF.kW (by rw [noteL_len, List.length_take]; have : min l.length 548 ≤ 548 := Nat.min_le_right _ _; omega)
    have kI1 : kI (msg4 l) = true := kI_four HF rfl rfl
    have H1 := Lib.hid (unreach4_ok A n c l w (by omega) hc1 hc2 hs qE qW)
    have H2 := Lib.hid (fun (W : World) (hW : Below w.heap.size w W) => refUnreach4_ok A n c l W (by omega) hc1 hc2 ((hs.below hW).up hW.size) qE qW)
    have h20 : 20 ≤ n := by rw [← hl]; exact (pE_zero qE).1
    obtain ⟨b, off, rfl, hbb, _⟩ := hs.2 (by omega)
    have emin : (if (548 : Int) < (n : Int) then (548 : Int) else (n : Int)) = ((min n 548 : Nat) : Int) := by split <;> omega
    have hmn : min n 548 ≤ n := Nat.min_le_left _ _
    have hm5 : min n 548 ≤ 548 := Nat.min_le_right _ _
    have HSl := Lib.hid (fun (W : World) (hW' : Below w.heap.size w W) => show Shows W W.heap.size (some ⟨b, off, none⟩) (min n 548) (l.take (min n 548)) by simpa using ((hs.below hW').up hW'.size).piece 0 (min n 548) (by omega))
    rw [hl] at r2 r3
    have H3 := Lib.hid (fun (A2 : Option Addr) (c2 : Nat) (W : World) (h1 : 20 + (8 + min n 548) ≤ c2) (h2 : c2 ≤ maxLen) (h : Shows W W.heap.size A2 (20 + (8 + min n 548)) (msg4 l)) => read4_ok A2 (20 + (8 + min n 548)) c2 (msg4 l) W (by omega) h1 h2 h r1)
    rw [r2, r3] at H3
    have H4 := Lib.hid (fun (A2 : Option Addr) (c2 : Nat) (W : World) (h1 : 20 + (8 + min n 548) ≤ c2) (h2 : c2 ≤ maxLen) (h : Shows W W.heap.size A2 (20 + (8 + min n 548)) (msg4 l)) => refWhole_any A2 (20 + (8 + min n 548)) c2 (msg4 l) W (by omega) h1 h2 h)
    have H5 := Lib.hid (fun (A2 : Option Addr) (c2 : Nat) (W : World) (h1 : 20 + (8 + min n 548) ≤ c2) (h2 : c2 ≤ maxLen) (h : Shows W W.heap.size A2 (20 + (8 + min n 548)) (msg4 l)) => refIsErr_any A2 (20 + (8 + min n 548)) c2 (msg4 l) W (by omega) h1 h2 h)
    rw [kW1] at H4
    rw [kI1] at H5
    clear HF r1 r2 r3 kW1 kI1 qE qW hs
    generalize msg4 l = MS at *
    generalize hFd : l.take (min n 548) = FD at *
    clear hFd
    obtain ⟨m, hm⟩ : ∃ m : Nat, min n 548 = m := ⟨_, rfl⟩
    rw [hm] at H1 H2 H3 H4 H5 HSl emin hmn hm5
    clear hm
    have im1 : (m : Int) ≤ 548 := by omega
    have im2 : (m : Int) ≤ (n : Int) := by omega
    have im3 : (m : Int) ≤ (c : Int) := by omega
    obtain ⟨N, hN⟩ : ∃ N : Nat, 20 + (8 + m) = N := ⟨_, rfl⟩
    rw [hN] at H1 H2 H3 H4 H5
    have iN : (N : Int) ≤ 576 := by omega
    have lN : N ≤ 576 := by omega
    clear hN
    go_enter Try.func8, Try.ntmps8
    go_wp2_with fail
    refine H1.out.mono ?_
    rintro e w1 ⟨v1, rfl, ho1, b1⟩
    obtain ⟨A1, c1, rfl, g1, g2, s1⟩ := ho1.shows
    clear ho1 H1
    go_wp2_with fail
    refine (H2.out _ b1).mono ?_
    rintro e w2 ⟨v2, rfl, ho2, hb2⟩
    obtain ⟨A2, c2, rfl, _, _, s2⟩ := ho2.shows
    have b2 := Below.on b1 b1.size hb2
    have s1' := (s1.below hb2).up hb2.size
    clear s1 hb2 ho2 H2 b1
    have HSm := Lib.hid (same_below A1 A2 N c1 c2 MS w2 (by simp only [maxLen]; omega) s1' s2)
    clear s2
    go_wp2_with fail
    refine HSm.out.mono ?_
    rintro e w3 ⟨rfl, hb3⟩
    have b3 := Below.on b2 b2.size hb3
    have s3 := (s1'.below hb3).up hb3.size
    clear s1' hb3 b2 HSm
    go_wp2_with fail
    refine (H3.out A1 c1 _ g1 g2 s3).mono ?_
    rintro e w4 ⟨v4, rfl, ho4, hb4⟩
    obtain ⟨A4, c4, rfl, _, _, s4⟩ := ho4.shows
    have b4 := Below.on b3 b3.size hb4
    have s5 := (s3.below hb4).up hb4.size
    clear s3 hb4 b3 ho4 H3
    have HSm := Lib.hid (same_below A4 (some ⟨b, off, none⟩) m c4 c FD w4 (by simp only [maxLen]; omega) s4 (HSl.out _ b4))
    clear s4
    go_wp2_with fail
    refine HSm.out.mono ?_
    rintro e w5 ⟨rfl, hb5⟩
    have b5 := Below.on b4 b4.size hb5
    have s6 := (s5.below hb5).up hb5.size
    clear s5 hb5 b4 HSm
    go_wp2_with fail
    refine (H4.out A1 c1 _ g1 g2 s6).mono ?_
    rintro e w6 ⟨rfl, hb6⟩
    have b6 := Below.on b5 b5.size hb6
    have s7 := (s6.below hb6).up hb6.size
    clear s6 hb6 b5 H4
    go_wp2_with fail
    refine (H5.out A1 c1 _ g1 g2 s7).mono ?_
    rintro e w7 ⟨rfl, hb7⟩
    have b7 := Below.on b6 b6.size hb7
    clear s7 hb7 b6 H5
    go_wp2_with fail
    refine (alive22 _).mono ?_
    rintro e w8 ⟨rfl, hb8⟩
    have b8 := Below.on b7 b7.size hb8
    clear b7 hb8
    go_wp2
    go_ret
    exact ⟨rfl, b8⟩
  · have H1 := Lib.hid (unreach4_bad A n c l w (by omega) hc1 hc2 hs q)
    have H2 := Lib.hid (fun (W : World) (hW : Below w.heap.size w W) => refUnreach4_bad A n c l W (by omega) hc1 hc2 ((hs.below hW).up hW.size) q)
    clear hs q
    go_enter Try.func8, Try.ntmps8
    go_wp2_with fail
    refine H1.out.mono ?_
    rintro e w1 ⟨rfl, b1⟩
    go_wp2_with fail
    refine (H2.out _ b1).mono ?_
    rintro e w2 ⟨rfl, hb2⟩
    have b2 := Below.on b1 b1.size hb2
    clear hb2 b1 H2 H1
    have HS := Lib.hid (same_below none none 0 0 0 [] w2 (by simp only [maxLen]; omega) (shows_none _ _) (shows_none _ _))
    go_wp2_with fail
    refine HS.out.mono ?_
    rintro e w3 ⟨rfl, hb3⟩
    have b3 := Below.on b2 b2.size hb3
    clear b2 hb3 HS
    go_wp2_with fail
    refine (alive22 _).mono ?_
    rintro e w4 ⟨rfl, hb4⟩
    have b4 := Below.on b3 b3.size hb4
    clear b3 hb4
    go_wp2
    go_ret
    exact ⟨rfl, b4⟩

end Go.Proofs.Ytkokgoodpibboaa
