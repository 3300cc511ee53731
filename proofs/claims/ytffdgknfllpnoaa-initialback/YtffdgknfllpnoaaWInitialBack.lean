
/- The walk of law13.InitialBack. -/
import Derived.Test.YtffdgknfllpnoaaIniH
namespace Go.Proofs.Ytffdgknfllpnoaa
open Go.RowKit

set_option maxHeartbeats 2000000 in
theorem walk_InitialBack (r0 : Nat) (l : List UInt8) (w : World) (hr0 : r0 < 4294967296) (hL : l.length = 140) :
    Calls Try.prog 3 #[.agg (mcs [r0] l)] w fun e w' => e = .returned (.bool true) ∧ Below w.heap.size w w' := by
  have en : mnums [r0] ++ l = leBytes r0 4 ++ (l) := by simp [mnums]
  have p0 : (mnums [r0] ++ l).drop 0 = leBytes r0 4 ++ (l) := by
    rw [en]
    rfl
  have pz : (mnums [r0] ++ l).drop 4 = l := List.drop_left' (by rw [mnums_len]; rfl)
  have v0 : leNat (((mnums [r0] ++ l).drop 0).take 4) = r0 := by rw [p0, List.take_left' (leBytes_len r0 4), leNat_leBytes]; exact Nat.mod_eq_of_lt hr0
  have hb0 : Below w.heap.size w (w.alloc (.cells (mcs [r0] l) 28)) := (Below.refl _ _).alloc (Nat.le_refl _) _
  have k0 := blk_new w 28 (mcs [r0] l)
  have hmx : 148 ≤ maxLen := by unfold maxLen; omega
  have HV := Lib.hid (And.intro pz (v0))
  clear en pz p0 v0
  go_enter Try.func3, Try.ntmps3
  go_wp2_with (first
    | (refine wpList_loadBlk (g := w.heap.size) (t := 28) (cs := mcs [r0] l) rfl 28 (.tmp 1) ?ho ?hx ?hA _ Try.underlying28 rfl ?hi ?_
       case ho => with_reducible rfl
       case hx => rfl
       case hA => exact k0
       case hi => exact Ini_size r0 l hL))
  generalize w.alloc (.cells (mcs [r0] l) 28) = w0 at *
  refine (initialBytes_any r0 l w0 hr0 hL).mono ?_
  rintro e w1 ⟨v1, rfl, ho1, hb1⟩
  obtain ⟨a1, c1, rfl, _, s1⟩ := ho1.at_some (by omega)
  have k1 := k0.on hb1
  have hb01 := Below.on hb0 hb0.size hb1
  have s1' : Shows w1 w1.heap.size (some a1) 148 (1 :: 0 :: 0 :: 0 :: (mnums [r0] ++ l)) := s1
  clear k0 hb0 hb1 ho1
  go_wp2_with fail
  refine (initialParse_ok (some a1) c1 _ w1 s1').mono ?_
  rintro e w2 ⟨rfl, hb2⟩
  rw [HV.out.1, HV.out.2]
  have k2 := k1.on hb2
  have s2 := Sh.on (f := bv) s1 hb2
  have hb02 := Below.on hb01 hb01.size hb2
  clear k1 s1 s1' hb01 hb2 HV
  have m3 := blk_new w2 28 (mcs [r0] l)
  have k3 := k2.alloc (.cells (mcs [r0] l) 28)
  have hb03 := hb02.alloc hb02.size (.cells (mcs [r0] l) 28)
  have s3 := (Sh.alloc (f := bv) s2 (Nat.le_refl _) (.cells (mcs [r0] l) 28)).up (B' := (w2.alloc (.cells (mcs [r0] l) 28)).heap.size) (by simp)
  generalize hw3 : w2.alloc (.cells (mcs [r0] l) 28) = w3 at *
  generalize hg2 : w2.heap.size = g2 at *
  have Hw3 := Lib.hid hw3
  have Hg2 := Lib.hid hg2
  clear k2 s2 hb02 hw3 hg2
  go_wp2_with (first
    | (refine wpList_allocStore (cs := mcs [r0] l) rfl rfl 28 ?ho (.tmp 4) (.tmp 11) ?ho2 Try.zeroIni ?hz ?hx ?hy ?hn ?h1 ?_
       case ho => with_reducible rfl
       case ho2 => rfl
       case hz => rw [mcs_size, zer_len]; rfl
       case hx => rfl
       case hy => rfl
       case hn => rw [mcs_size, hL]; rfl
       case h1 => exact mcs_one _ _
       rw [Hw3.out, Hg2.out])
    | (refine wpList_loadBlk (g := w.heap.size) (t := 28) (cs := mcs [r0] l) rfl 28 (.tmp 1) ?ho ?hx ?hA _ Try.underlying28 rfl ?hi ?_
       case ho => with_reducible rfl
       case hx => rfl
       case hA => exact k3
       case hi => exact Ini_size r0 l hL))
  refine (ref13Bytes_any r0 l w3 hr0 hL).mono ?_
  rintro e w4 ⟨v4, rfl, ho4, hb4⟩
  obtain ⟨a4, c4, rfl, _, s4x⟩ := ho4.at_some (by omega)
  have k4 := k3.on hb4
  have m4 := m3.on hb4
  have s4 := Sh.on (f := bv) s3 hb4
  have hb04 := Below.on hb03 hb03.size hb4
  clear k3 m3 s3 hb03 hb4 ho4 Hw3 Hg2
  go_wp2_with fail
  refine (same_below _ _ _ _ _ _ w4 hmx s4 s4x).mono ?_
  rintro e w5 ⟨rfl, hb5⟩
  have k5 := k4.on hb5
  have m5 := m4.on hb5
  have hb05 := Below.on hb04 hb04.size hb5
  clear k4 m4 s4 s4x hb04 hb5
  go_wp2_with (first
    | (refine wpList_loadBlk (g := g2) (t := 28) (cs := mcs [r0] l) rfl 28 (.tmp 4) ?ho ?hx ?hA _ Try.underlying28 rfl ?hi ?_
       case ho => with_reducible rfl
       case hx => rfl
       case hA => exact m5
       case hi => exact Ini_size r0 l hL)
    | (refine wpList_loadBlk (g := w.heap.size) (t := 28) (cs := mcs [r0] l) rfl 28 (.tmp 1) ?ho ?hx ?hA _ Try.underlying28 rfl ?hi ?_
       case ho => with_reducible rfl
       case hx => rfl
       case hA => exact k5
       case hi => exact Ini_size r0 l hL)
    | (refine wpList_eqlSelf (cs := mcs [r0] l) rfl 28 28 (.tmp 18) (.tmp 19) ?ho ?hx ?hy (by kernel_rfl) ?he ?_
       case ho => with_reducible rfl
       case hx => rfl
       case hy => rfl
       case he => exact fun w => Ini_eq r0 l hL w))
  refine (alive13 w5).mono ?_
  rintro e w6 ⟨rfl, hb6⟩
  have hb06 := Below.on hb05 hb05.size hb6
  clear k5 m5 hb05 hb6
  go_wp2
  go_ret
  exact ⟨rfl, hb06⟩

end Go.Proofs.Ytffdgknfllpnoaa
