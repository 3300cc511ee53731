
/- law22's alive; the walk of law22.IcmpfourReads. -/
import Derived.Test.YtblfllidejdehaaNtE
import Derived.Test.YtblfllidejdehaaNtF
import Derived.Test.YtblfllidejdehaaNtG
namespace Go.Proofs.Ytblfllidejdehaa
open Go.RowKit
set_option linter.unusedSimpArgs false
set_option linter.unusedVariables false

set_option maxHeartbeats 2000000 in
set_option maxRecDepth 100000 in
theorem alive22 (w : World) : Calls Try.prog 29 #[] w fun e w' => e = .returned (.bool true) ∧ Below w.heap.size w w' := by
  have hza := (zero_of_info Try.zeroAddr).1
  have zne : ¬ adv 0 (zb 16) = #[] := by simp [adv]
  have HQ := Lib.hid (fun (g : Nat) (W : World) (hW : Shows W W.heap.size (some ⟨g, 0, none⟩) 1 [9]) => put_in 0 0 0 0 0 0 0 0 0 (zb 16) (zb 16) rfl rfl (some ⟨g, 0, none⟩) 1 1 [9] W (by omega) hW (by omega) (by omega) (by omega) (by omega) (by omega) (by omega) (by decide +kernel) (by decide +kernel))
  rw [show pkt 0 0 0 0 0 0 ((zb 16).take 4) ((zb 16).take 4) [9] = exQ from rfl] at HQ
  have z6 : (adv 4 (zb 16)).size = 17 := rfl
  have o6 : ((adv 4 (zb 16)).all fun x => x.oneCell') = true := adv_one _ _
  have zi6 : (Try.prog.info? 26).map (·.size) = some (adv 4 (zb 16)).size := by kernel_rfl
  have b2 : Below w.heap.size w (w.alloc (.cells (adv 4 (zb 16)) 26)) := (Below.refl _ _).alloc (Nat.le_refl _) _
  have k2 : Blk (w.alloc (.cells (adv 4 (zb 16)) 26)) w.heap.size 26 (adv 4 (zb 16)) := blk_new _ _ _
  go_enter Try.func29, Try.ntmps29
  go_wp2_with (first
    | (refine wpList_allocStore (cs := adv 4 (zb 16)) rfl rfl 26 ?ho (.tmp 1) (.tmp 6) ?ho2 Try.zeroAddr ?hz ?hx ?hy ?hn ?h1 ?_
       case ho => with_reducible rfl
       case ho2 => rfl
       case hz => rfl
       case hx => rfl
       case hy => rfl
       case hn => exact z6
       case h1 => exact o6
       generalize (w.alloc (.cells (adv 4 (zb 16)) 26)) = W2 at *)
    | (refine wpList_loadBlk (g := w.heap.size) (t := 26) (cs := adv 4 (zb 16)) rfl 26 (.tmp 1) ?ho ?hx ?hA _ Try.underlying26 rfl ?hi ?_
       case ho => with_reducible rfl
       case hx => rfl
       case hA => exact k2
       case hi => exact zi6)
    | (refine wpList_build rfl 28 ?fs ?ho (.agg (hdv [0, 0, 0, ((0 : Nat) : Int), ((0 : Nat) : Int), ((0 : Nat) : Int), ((0 : Nat) : Int), ((0 : Nat) : Int), ((0 : Nat) : Int)] (adv 4 (zb 16)) (adv 4 (zb 16)))) ?hr ?_
       case ho => with_reducible rfl
       case hr =>
         intro W
         change _ = _
         kernel_rfl)
    | fail)
  have hs9 : Shows (W2.alloc (.cells #[.int .u8 9] 5)) (W2.alloc (.cells #[.int .u8 9] 5)).heap.size (some ⟨W2.heap.size, 0, none⟩) 1 [9] := shows_new W2 #[.int .u8 9] [9] rfl
  have b3 : Below w.heap.size w (W2.alloc (.cells #[.int .u8 9] 5)) := b2.alloc b2.size _
  refine (HQ.out _ _ hs9).mono ?_
  rintro e w3 ⟨x, rfl, ho3, hb3⟩
  have b4 := Below.on b3 b3.size hb3
  have o3 : Own w3 w.heap.size x 21 exQ := ho3.base (b' := w.heap.size) b3.size
  clear k2 b2 b3 hb3 ho3 HQ hs9
  obtain ⟨A', c', rfl, h1, h2, s3⟩ := o3.shows
  have HU := Lib.hid (unreach4_ok A' 21 c' exQ w3 (by omega) h1 h2 s3 exQ_E exQ_W)
  rw [show 20 + (8 + min 21 548) = 49 from rfl] at HU
  clear s3 o3
  go_wp2_with fail
  refine HU.out.mono ?_
  rintro e w5 ⟨v5, rfl, ho5, hb5⟩
  have b5 := Below.on b4 b4.size hb5
  obtain ⟨A5, c5, rfl, _, _, s5⟩ := ho5.shows
  clear ho5 s5 hb5 b4 HU
  go_wp2
  go_ret
  exact ⟨rfl, b5⟩

set_option maxRecDepth 100000 in
set_option maxHeartbeats 2000000 in
theorem walk_IcmpfourReads (A : Option Addr) (n c : Nat) (l : List UInt8) {w : World} (hc : n ≤ c ∧ c ≤ maxLen) (hs : Shows w w.heap.size A n l) :
    Calls Try.prog 8 #[.slice A n c] w fun e w' => e = .returned (.bool true) ∧ Below w.heap.size w w' := by
  obtain ⟨hc1, hc2⟩ := hc
  by_cases hn : 3000 < n
  · have hni : (3000 : Int) < (n : Int) := by omega
    have d : decide ((3000 : Int) < (n : Int)) = true := decide_eq_true hni
    go_enter Try.func8, Try.ntmps8
    go_wp2_with fail
    refine (alive22 w).mono ?_
    rintro e w1 ⟨rfl, hb1⟩
    go_wp2
    go_ret
    exact ⟨rfl, hb1⟩
  · have d : decide ((3000 : Int) < (n : Int)) = false := decide_eq_false (by omega)
    have hl := hs.len
    by_cases q : r4E l = 0
    · have H1 := Lib.hid (read4_ok A n c l w (by omega) hc1 hc2 hs q)
      have H2 := Lib.hid (fun (W : World) (hW : Below w.heap.size w W) => refRead4_ok A n c l W (by omega) hc1 hc2 ((hs.below hW).up hW.size) q)
      have hT : totL l - sizeL l - 8 ≤ n := by
        have q0 : pE l = 0 := by
          unfold r4E at q
          split at q
          · assumption
          · exact q
        have := (pE_facts q0).2.2.2
        omega
      clear hs
      generalize totL l - sizeL l - 8 = m at *
      generalize (restL l).drop 8 = D at *
      go_enter Try.func8, Try.ntmps8
      go_wp2_with fail
      refine H1.out.mono ?_
      rintro e w1 ⟨v1, rfl, ho1, b1⟩
      obtain ⟨A1, c1, rfl, _, _, s1⟩ := ho1.shows
      clear ho1 H1
      go_wp2_with fail
      refine (H2.out _ b1).mono ?_
      rintro e w2 ⟨A2, c2, rfl, s2, hb2⟩
      have b2 := Below.on b1 b1.size hb2
      have s3 := (s1.below hb2).up hb2.size
      clear s1 hb2 b1 H2
      have HS := Lib.hid (same_below A1 A2 m c1 c2 D w2 (by simp only [maxLen]; omega) s3 s2)
      clear s2 s3
      go_wp2_with fail
      refine HS.out.mono ?_
      rintro e w3 ⟨rfl, hb3⟩
      have b3 := Below.on b2 b2.size hb3
      clear b2 hb3 HS
      go_wp2_with fail
      refine (alive22 _).mono ?_
      rintro e w4 ⟨rfl, hb4⟩
      have b4 := Below.on b3 b3.size hb4
      clear b3 hb4
      go_wp2
      go_ret
      exact ⟨rfl, b4⟩
    · have H1 := Lib.hid (read4_bad A n c l w (by omega) hc1 hc2 hs q)
      have H2 := Lib.hid (fun (W : World) (hW : Below w.heap.size w W) => refRead4_bad A n c l W (by omega) hc1 hc2 ((hs.below hW).up hW.size) q)
      clear hs
      generalize r4E l = E0 at *
      go_enter Try.func8, Try.ntmps8
      go_wp2_with fail
      refine H1.out.mono ?_
      rintro e w1 ⟨rfl, b1⟩
      go_wp2_with fail
      refine (H2.out _ b1).mono ?_
      rintro e w2 ⟨rfl, hb2⟩
      have b2 := Below.on b1 b1.size hb2
      clear hb2 b1 H2 H1
      have HS := Lib.hid (same_below none none 0 0 0 [] w2 (by simp only [maxLen]; omega) (shows_none _ _) (shows_none _ _))
      go_wp2_with fail
      refine HS.out.mono ?_
      rintro e w3 ⟨rfl, hb3⟩
      have b3 := Below.on b2 b2.size hb3
      clear b2 hb3 HS
      go_wp2_with fail
      refine (alive22 _).mono ?_
      rintro e w4 ⟨rfl, hb4⟩
      have b4 := Below.on b3 b3.size hb4
      clear b3 hb4
      go_wp2
      go_ret
      exact ⟨rfl, b4⟩

end Go.Proofs.Ytblfllidejdehaa
