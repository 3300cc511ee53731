
/- Contract: crawlwayref21.IsError. -/
import Derived.Test.YtkokgoodpibboaaPkB
namespace Go.Proofs.Ytkokgoodpibboaa
open Go.RowKit
set_option maxRecDepth 100000
set_option linter.unusedSimpArgs false
set_option linter.unusedVariables false

set_option maxRecDepth 100000 in
set_option maxHeartbeats 4000000 in
theorem refIsErr_any (A : Option Addr) (n c : Nat) (l : List UInt8) (w : World) (hn : n ≤ 1000000) (hc : n ≤ c) (hcm : c ≤ maxLen) (hs : Shows w w.heap.size A n l) :
    Calls Try.prog 37 #[.slice A n c] w fun e w' => e = .returned (.bool (kI l)) ∧ Below w.heap.size w w' := by
  have hz := (zero_of_info Try.zeroHead).1
  have hne : ¬ zH = #[] := by intro h; have := zH_size; rw [h] at this; cases this
  have HP := Lib.hid (krefParse_any A n c l w hn hc hcm hs)
  have hl := hs.len
  have hsz := kH_size l
  have o1 := kH_one l
  have m0 := kX_cell l 0 (by omega)
  have m1 := kX_cell l 1 (by omega)
  have m2 := kX_cell l 2 (by omega)
  have m6 := kX_cell l 6 (by omega)
  have m8 := kX_cell l 8 (by omega)
  have HF := Lib.hid (fun h => kfacts (l := l) h)
  have HI := Lib.hid (show kI l = (decide (kE l = 0) && (decide (kX l 1 < kX l 2) && (if kX l 0 = 4 then decide (kX l 8 = 1) && (decide (kX l 6 = 0) && isT (kB l)) else decide (kX l 8 = 58) && decide (kB l < 128)))) from rfl)
  have HB := Lib.hid (fun (b off : Nat) (hA : A = some ⟨b, off, none⟩) (hlt : kX l 1 < n) (W : World) (hW : Below w.heap.size w W) => show W.cell? ⟨b, off + kX l 1, none⟩ = some (.int .u8 (kB l : Int)) from by subst hA; exact (hs.below hW).byt _ hlt)
  have lk : kB l < 256 := byt_lt _ _
  have HA := Lib.hid (fun (h : 0 < n) => hs.2 h)
  generalize kX l 0 = V at *
  generalize kX l 1 = S at *
  generalize kX l 2 = T at *
  generalize kX l 6 = G at *
  generalize kX l 8 = P at *
  generalize kH l = M at *
  generalize kE l = E0 at *
  generalize kB l = kk at *
  clear hs
  by_cases q0 : ¬ E0 = 0
  · have E : kI l = false := by rw [HI.out]; simp [q0]
    have d0 : decide ((E0 : Int) = 0) = false := decide_eq_false (by omega)
    have d0' : (((E0 : Int)) == 0) = false := by simp; omega
    have d0'' : (((E0 : Int)) != 0) = true := by simp; omega
    go_enter Try.func37, Try.ntmps37
    go_wp2_with fail
    refine HP.out.mono ?_
    rintro e w1 ⟨rfl, hb1⟩
    have b2 : Below w.heap.size w (w1.alloc (.cells M 42)) := hb1.alloc hb1.size _
    have k2 : Blk (w1.alloc (.cells M 42)) w1.heap.size 42 M := blk_new _ _ _
    generalize hg1 : w1.heap.size = g1 at *
    have c0 := (k2.cellA 0).trans m0
    have c1 := (k2.cellA 1).trans m1
    have c2 := (k2.cellA 2).trans m2
    have c6 := (k2.cellA 6).trans m6
    have c8 := (k2.cellA 8).trans m8
    go_wp2_with (first
      | (refine wpList_allocStore (cs := M) rfl rfl 42 ?ho (.tmp 3) (.tmp 9) ?ho2 Try.zeroHead ?hz ?hx ?hy ?hn ?h1 ?_
         case ho => with_reducible rfl
         case ho2 => rfl
         case hz => exact zH_size
         case hx => rfl
         case hy => rfl
         case hn => exact hsz
         case h1 => exact o1
         rw [hg1]))
    go_ret
    exact ⟨by rw [E]; rfl, b2⟩
  obtain rfl : E0 = 0 := by omega
  obtain ⟨f1, f2, f3, f4, f5⟩ := HF.out rfl
  rw [hl] at f4
  by_cases q1 : ¬ S < T
  · have E : kI l = false := by rw [HI.out]; simp [q1]
    have d1 : decide ((T : Int) ≤ (S : Int)) = true := decide_eq_true (by omega)
    go_enter Try.func37, Try.ntmps37
    go_wp2_with fail
    refine HP.out.mono ?_
    rintro e w1 ⟨rfl, hb1⟩
    have b2 : Below w.heap.size w (w1.alloc (.cells M 42)) := hb1.alloc hb1.size _
    have k2 : Blk (w1.alloc (.cells M 42)) w1.heap.size 42 M := blk_new _ _ _
    generalize hg1 : w1.heap.size = g1 at *
    have c0 := (k2.cellA 0).trans m0
    have c1 := (k2.cellA 1).trans m1
    have c2 := (k2.cellA 2).trans m2
    have c6 := (k2.cellA 6).trans m6
    have c8 := (k2.cellA 8).trans m8
    go_wp2_with (first
      | (refine wpList_allocStore (cs := M) rfl rfl 42 ?ho (.tmp 3) (.tmp 9) ?ho2 Try.zeroHead ?hz ?hx ?hy ?hn ?h1 ?_
         case ho => with_reducible rfl
         case ho2 => rfl
         case hz => exact zH_size
         case hx => rfl
         case hy => rfl
         case hn => exact hsz
         case h1 => exact o1
         rw [hg1]))
    go_ret
    exact ⟨by rw [E]; rfl, b2⟩
  have d1 : decide ((T : Int) ≤ (S : Int)) = false := decide_eq_false (by omega)
  obtain ⟨b, off, rfl, hbb, _⟩ := HA.out (by omega)
  have hSn : (S : Int) < (n : Int) := by omega
  have q1' : S < T := by omega
  have HC := Lib.hid (HB.out b off rfl (by omega))
  clear HB HA HF
  by_cases q2 : V = 4
  · subst q2
    by_cases q3 : ¬ P = 1
    · have E : kI l = false := by rw [HI.out]; simp [q3]
      have d3 : decide ((P : Int) = 1) = false := decide_eq_false (by omega)
      have d3' : (((P : Int)) == 1) = false := by simp; omega
      have d3'' : (((P : Int)) != 1) = true := by simp; omega
      go_enter Try.func37, Try.ntmps37
      go_wp2_with fail
      refine HP.out.mono ?_
      rintro e w1 ⟨rfl, hb1⟩
      have b2 : Below w.heap.size w (w1.alloc (.cells M 42)) := hb1.alloc hb1.size _
      have k2 : Blk (w1.alloc (.cells M 42)) w1.heap.size 42 M := blk_new _ _ _
      generalize hg1 : w1.heap.size = g1 at *
      have c0 := (k2.cellA 0).trans m0
      have c1 := (k2.cellA 1).trans m1
      have c2 := (k2.cellA 2).trans m2
      have c6 := (k2.cellA 6).trans m6
      have c8 := (k2.cellA 8).trans m8
      have ck : (w1.alloc (.cells M 42)).cell? ⟨b, off + S, none⟩ = some (.int .u8 (kk : Int)) := HC.out _ b2
      go_wp2_with (first
        | (refine wpList_allocStore (cs := M) rfl rfl 42 ?ho (.tmp 3) (.tmp 9) ?ho2 Try.zeroHead ?hz ?hx ?hy ?hn ?h1 ?_
           case ho => with_reducible rfl
           case ho2 => rfl
           case hz => exact zH_size
           case hx => rfl
           case hy => rfl
           case hn => exact hsz
           case h1 => exact o1
           rw [hg1]))
      go_ret
      exact ⟨by rw [E]; rfl, b2⟩
    obtain rfl : P = 1 := by omega
    by_cases q4 : ¬ G = 0
    · have E : kI l = false := by rw [HI.out]; simp [q4]
      have d4 : decide ((G : Int) = 0) = false := decide_eq_false (by omega)
      have d4' : (((G : Int)) == 0) = false := by simp; omega
      have d4'' : (((G : Int)) != 0) = true := by simp; omega
      go_enter Try.func37, Try.ntmps37
      go_wp2_with fail
      refine HP.out.mono ?_
      rintro e w1 ⟨rfl, hb1⟩
      have b2 : Below w.heap.size w (w1.alloc (.cells M 42)) := hb1.alloc hb1.size _
      have k2 : Blk (w1.alloc (.cells M 42)) w1.heap.size 42 M := blk_new _ _ _
      generalize hg1 : w1.heap.size = g1 at *
      have c0 := (k2.cellA 0).trans m0
      have c1 := (k2.cellA 1).trans m1
      have c2 := (k2.cellA 2).trans m2
      have c6 := (k2.cellA 6).trans m6
      have c8 := (k2.cellA 8).trans m8
      have ck : (w1.alloc (.cells M 42)).cell? ⟨b, off + S, none⟩ = some (.int .u8 (kk : Int)) := HC.out _ b2
      go_wp2_with (first
        | (refine wpList_allocStore (cs := M) rfl rfl 42 ?ho (.tmp 3) (.tmp 9) ?ho2 Try.zeroHead ?hz ?hx ?hy ?hn ?h1 ?_
           case ho => with_reducible rfl
           case ho2 => rfl
           case hz => exact zH_size
           case hx => rfl
           case hy => rfl
           case hn => exact hsz
           case h1 => exact o1
           rw [hg1]))
      go_ret
      exact ⟨by rw [E]; rfl, b2⟩
    obtain rfl : G = 0 := by omega
    by_cases r3 : kk = 3
    · have dr3 : decide ((kk : Int) = 3) = true := decide_eq_true (by omega)
      have dr3' : (((kk : Int)) == 3) = true := by simp; omega
      have dr3'' : (((kk : Int)) != 3) = false := by simp; omega
      have E : kI l = true := by rw [HI.out]; simp [q1', isT, r3]
      clear r3
      go_enter Try.func37, Try.ntmps37
      go_wp2_with fail
      refine HP.out.mono ?_
      rintro e w1 ⟨rfl, hb1⟩
      have b2 : Below w.heap.size w (w1.alloc (.cells M 42)) := hb1.alloc hb1.size _
      have k2 : Blk (w1.alloc (.cells M 42)) w1.heap.size 42 M := blk_new _ _ _
      generalize hg1 : w1.heap.size = g1 at *
      have c0 := (k2.cellA 0).trans m0
      have c1 := (k2.cellA 1).trans m1
      have c2 := (k2.cellA 2).trans m2
      have c6 := (k2.cellA 6).trans m6
      have c8 := (k2.cellA 8).trans m8
      have ck : (w1.alloc (.cells M 42)).cell? ⟨b, off + S, none⟩ = some (.int .u8 (kk : Int)) := HC.out _ b2
      go_wp2_with (first
        | (refine wpList_allocStore (cs := M) rfl rfl 42 ?ho (.tmp 3) (.tmp 9) ?ho2 Try.zeroHead ?hz ?hx ?hy ?hn ?h1 ?_
           case ho => with_reducible rfl
           case ho2 => rfl
           case hz => exact zH_size
           case hx => rfl
           case hy => rfl
           case hn => exact hsz
           case h1 => exact o1
           rw [hg1]))
      go_ret
      exact ⟨by rw [E]; rfl, b2⟩
    have dr3 : decide ((kk : Int) = 3) = false := decide_eq_false (by omega)
    have dr3' : (((kk : Int)) == 3) = false := by simp; omega
    have dr3'' : (((kk : Int)) != 3) = true := by simp; omega
    by_cases r4 : kk = 4
    · have dr4 : decide ((kk : Int) = 4) = true := decide_eq_true (by omega)
      have dr4' : (((kk : Int)) == 4) = true := by simp; omega
      have dr4'' : (((kk : Int)) != 4) = false := by simp; omega
      have E : kI l = true := by rw [HI.out]; simp [q1', isT, r4]
      clear r4
      go_enter Try.func37, Try.ntmps37
      go_wp2_with fail
      refine HP.out.mono ?_
      rintro e w1 ⟨rfl, hb1⟩
      have b2 : Below w.heap.size w (w1.alloc (.cells M 42)) := hb1.alloc hb1.size _
      have k2 : Blk (w1.alloc (.cells M 42)) w1.heap.size 42 M := blk_new _ _ _
      generalize hg1 : w1.heap.size = g1 at *
      have c0 := (k2.cellA 0).trans m0
      have c1 := (k2.cellA 1).trans m1
      have c2 := (k2.cellA 2).trans m2
      have c6 := (k2.cellA 6).trans m6
      have c8 := (k2.cellA 8).trans m8
      have ck : (w1.alloc (.cells M 42)).cell? ⟨b, off + S, none⟩ = some (.int .u8 (kk : Int)) := HC.out _ b2
      go_wp2_with (first
        | (refine wpList_allocStore (cs := M) rfl rfl 42 ?ho (.tmp 3) (.tmp 9) ?ho2 Try.zeroHead ?hz ?hx ?hy ?hn ?h1 ?_
           case ho => with_reducible rfl
           case ho2 => rfl
           case hz => exact zH_size
           case hx => rfl
           case hy => rfl
           case hn => exact hsz
           case h1 => exact o1
           rw [hg1]))
      go_ret
      exact ⟨by rw [E]; rfl, b2⟩
    have dr4 : decide ((kk : Int) = 4) = false := decide_eq_false (by omega)
    have dr4' : (((kk : Int)) == 4) = false := by simp; omega
    have dr4'' : (((kk : Int)) != 4) = true := by simp; omega
    by_cases r5 : kk = 5
    · have dr5 : decide ((kk : Int) = 5) = true := decide_eq_true (by omega)
      have dr5' : (((kk : Int)) == 5) = true := by simp; omega
      have dr5'' : (((kk : Int)) != 5) = false := by simp; omega
      have E : kI l = true := by rw [HI.out]; simp [q1', isT, r5]
      clear r5
      go_enter Try.func37, Try.ntmps37
      go_wp2_with fail
      refine HP.out.mono ?_
      rintro e w1 ⟨rfl, hb1⟩
      have b2 : Below w.heap.size w (w1.alloc (.cells M 42)) := hb1.alloc hb1.size _
      have k2 : Blk (w1.alloc (.cells M 42)) w1.heap.size 42 M := blk_new _ _ _
      generalize hg1 : w1.heap.size = g1 at *
      have c0 := (k2.cellA 0).trans m0
      have c1 := (k2.cellA 1).trans m1
      have c2 := (k2.cellA 2).trans m2
      have c6 := (k2.cellA 6).trans m6
      have c8 := (k2.cellA 8).trans m8
      have ck : (w1.alloc (.cells M 42)).cell? ⟨b, off + S, none⟩ = some (.int .u8 (kk : Int)) := HC.out _ b2
      go_wp2_with (first
        | (refine wpList_allocStore (cs := M) rfl rfl 42 ?ho (.tmp 3) (.tmp 9) ?ho2 Try.zeroHead ?hz ?hx ?hy ?hn ?h1 ?_
           case ho => with_reducible rfl
           case ho2 => rfl
           case hz => exact zH_size
           case hx => rfl
           case hy => rfl
           case hn => exact hsz
           case h1 => exact o1
           rw [hg1]))
      go_ret
      exact ⟨by rw [E]; rfl, b2⟩
    have dr5 : decide ((kk : Int) = 5) = false := decide_eq_false (by omega)
    have dr5' : (((kk : Int)) == 5) = false := by simp; omega
    have dr5'' : (((kk : Int)) != 5) = true := by simp; omega
    by_cases r11 : kk = 11
    · have dr11 : decide ((kk : Int) = 11) = true := decide_eq_true (by omega)
      have dr11' : (((kk : Int)) == 11) = true := by simp; omega
      have dr11'' : (((kk : Int)) != 11) = false := by simp; omega
      have E : kI l = true := by rw [HI.out]; simp [q1', isT, r11]
      clear r11
      go_enter Try.func37, Try.ntmps37
      go_wp2_with fail
      refine HP.out.mono ?_
      rintro e w1 ⟨rfl, hb1⟩
      have b2 : Below w.heap.size w (w1.alloc (.cells M 42)) := hb1.alloc hb1.size _
      have k2 : Blk (w1.alloc (.cells M 42)) w1.heap.size 42 M := blk_new _ _ _
      generalize hg1 : w1.heap.size = g1 at *
      have c0 := (k2.cellA 0).trans m0
      have c1 := (k2.cellA 1).trans m1
      have c2 := (k2.cellA 2).trans m2
      have c6 := (k2.cellA 6).trans m6
      have c8 := (k2.cellA 8).trans m8
      have ck : (w1.alloc (.cells M 42)).cell? ⟨b, off + S, none⟩ = some (.int .u8 (kk : Int)) := HC.out _ b2
      go_wp2_with (first
        | (refine wpList_allocStore (cs := M) rfl rfl 42 ?ho (.tmp 3) (.tmp 9) ?ho2 Try.zeroHead ?hz ?hx ?hy ?hn ?h1 ?_
           case ho => with_reducible rfl
           case ho2 => rfl
           case hz => exact zH_size
           case hx => rfl
           case hy => rfl
           case hn => exact hsz
           case h1 => exact o1
           rw [hg1]))
      go_ret
      exact ⟨by rw [E]; rfl, b2⟩
    have dr11 : decide ((kk : Int) = 11) = false := decide_eq_false (by omega)
    have dr11' : (((kk : Int)) == 11) = false := by simp; omega
    have dr11'' : (((kk : Int)) != 11) = true := by simp; omega
    by_cases r12 : kk = 12
    · have dr12 : decide ((kk : Int) = 12) = true := decide_eq_true (by omega)
      have dr12' : (((kk : Int)) == 12) = true := by simp; omega
      have dr12'' : (((kk : Int)) != 12) = false := by simp; omega
      have E : kI l = true := by rw [HI.out]; simp [q1', isT, r12]
      clear r12
      go_enter Try.func37, Try.ntmps37
      go_wp2_with fail
      refine HP.out.mono ?_
      rintro e w1 ⟨rfl, hb1⟩
      have b2 : Below w.heap.size w (w1.alloc (.cells M 42)) := hb1.alloc hb1.size _
      have k2 : Blk (w1.alloc (.cells M 42)) w1.heap.size 42 M := blk_new _ _ _
      generalize hg1 : w1.heap.size = g1 at *
      have c0 := (k2.cellA 0).trans m0
      have c1 := (k2.cellA 1).trans m1
      have c2 := (k2.cellA 2).trans m2
      have c6 := (k2.cellA 6).trans m6
      have c8 := (k2.cellA 8).trans m8
      have ck : (w1.alloc (.cells M 42)).cell? ⟨b, off + S, none⟩ = some (.int .u8 (kk : Int)) := HC.out _ b2
      go_wp2_with (first
        | (refine wpList_allocStore (cs := M) rfl rfl 42 ?ho (.tmp 3) (.tmp 9) ?ho2 Try.zeroHead ?hz ?hx ?hy ?hn ?h1 ?_
           case ho => with_reducible rfl
           case ho2 => rfl
           case hz => exact zH_size
           case hx => rfl
           case hy => rfl
           case hn => exact hsz
           case h1 => exact o1
           rw [hg1]))
      go_ret
      exact ⟨by rw [E]; rfl, b2⟩
    have dr12 : decide ((kk : Int) = 12) = false := decide_eq_false (by omega)
    have dr12' : (((kk : Int)) == 12) = false := by simp; omega
    have dr12'' : (((kk : Int)) != 12) = true := by simp; omega
    have E : kI l = false := by rw [HI.out]; simp [q1', isT, r3, r4, r5, r11, r12]
    go_enter Try.func37, Try.ntmps37
    go_wp2_with fail
    refine HP.out.mono ?_
    rintro e w1 ⟨rfl, hb1⟩
    have b2 : Below w.heap.size w (w1.alloc (.cells M 42)) := hb1.alloc hb1.size _
    have k2 : Blk (w1.alloc (.cells M 42)) w1.heap.size 42 M := blk_new _ _ _
    generalize hg1 : w1.heap.size = g1 at *
    have c0 := (k2.cellA 0).trans m0
    have c1 := (k2.cellA 1).trans m1
    have c2 := (k2.cellA 2).trans m2
    have c6 := (k2.cellA 6).trans m6
    have c8 := (k2.cellA 8).trans m8
    have ck : (w1.alloc (.cells M 42)).cell? ⟨b, off + S, none⟩ = some (.int .u8 (kk : Int)) := HC.out _ b2
    go_wp2_with (first
      | (refine wpList_allocStore (cs := M) rfl rfl 42 ?ho (.tmp 3) (.tmp 9) ?ho2 Try.zeroHead ?hz ?hx ?hy ?hn ?h1 ?_
         case ho => with_reducible rfl
         case ho2 => rfl
         case hz => exact zH_size
         case hx => rfl
         case hy => rfl
         case hn => exact hsz
         case h1 => exact o1
         rw [hg1]))
    go_ret
    exact ⟨by rw [E]; rfl, b2⟩
  · have d2 : decide ((V : Int) = 4) = false := decide_eq_false (by omega)
    have d2' : (((V : Int)) == 4) = false := by simp; omega
    have d2'' : (((V : Int)) != 4) = true := by simp; omega
    by_cases q3 : ¬ P = 58
    · have E : kI l = false := by rw [HI.out]; simp [q2, q3]
      have d3 : decide ((P : Int) = 58) = false := decide_eq_false (by omega)
      have d3' : (((P : Int)) == 58) = false := by simp; omega
      have d3'' : (((P : Int)) != 58) = true := by simp; omega
      go_enter Try.func37, Try.ntmps37
      go_wp2_with fail
      refine HP.out.mono ?_
      rintro e w1 ⟨rfl, hb1⟩
      have b2 : Below w.heap.size w (w1.alloc (.cells M 42)) := hb1.alloc hb1.size _
      have k2 : Blk (w1.alloc (.cells M 42)) w1.heap.size 42 M := blk_new _ _ _
      generalize hg1 : w1.heap.size = g1 at *
      have c0 := (k2.cellA 0).trans m0
      have c1 := (k2.cellA 1).trans m1
      have c2 := (k2.cellA 2).trans m2
      have c6 := (k2.cellA 6).trans m6
      have c8 := (k2.cellA 8).trans m8
      have ck : (w1.alloc (.cells M 42)).cell? ⟨b, off + S, none⟩ = some (.int .u8 (kk : Int)) := HC.out _ b2
      go_wp2_with (first
        | (refine wpList_allocStore (cs := M) rfl rfl 42 ?ho (.tmp 3) (.tmp 9) ?ho2 Try.zeroHead ?hz ?hx ?hy ?hn ?h1 ?_
           case ho => with_reducible rfl
           case ho2 => rfl
           case hz => exact zH_size
           case hx => rfl
           case hy => rfl
           case hn => exact hsz
           case h1 => exact o1
           rw [hg1]))
      go_ret
      exact ⟨by rw [E]; rfl, b2⟩
    obtain rfl : P = 58 := by omega
    by_cases q4 : kk < 128
    · have E : kI l = true := by rw [HI.out]; simp [q1', q2, q4]
      have d4 : decide ((kk : Int) < 128) = true := decide_eq_true (by omega)
      go_enter Try.func37, Try.ntmps37
      go_wp2_with fail
      refine HP.out.mono ?_
      rintro e w1 ⟨rfl, hb1⟩
      have b2 : Below w.heap.size w (w1.alloc (.cells M 42)) := hb1.alloc hb1.size _
      have k2 : Blk (w1.alloc (.cells M 42)) w1.heap.size 42 M := blk_new _ _ _
      generalize hg1 : w1.heap.size = g1 at *
      have c0 := (k2.cellA 0).trans m0
      have c1 := (k2.cellA 1).trans m1
      have c2 := (k2.cellA 2).trans m2
      have c6 := (k2.cellA 6).trans m6
      have c8 := (k2.cellA 8).trans m8
      have ck : (w1.alloc (.cells M 42)).cell? ⟨b, off + S, none⟩ = some (.int .u8 (kk : Int)) := HC.out _ b2
      go_wp2_with (first
        | (refine wpList_allocStore (cs := M) rfl rfl 42 ?ho (.tmp 3) (.tmp 9) ?ho2 Try.zeroHead ?hz ?hx ?hy ?hn ?h1 ?_
           case ho => with_reducible rfl
           case ho2 => rfl
           case hz => exact zH_size
           case hx => rfl
           case hy => rfl
           case hn => exact hsz
           case h1 => exact o1
           rw [hg1]))
      go_ret
      exact ⟨by rw [E]; rfl, b2⟩
    · have E : kI l = false := by rw [HI.out]; simp [q2, q4]
      have d4 : decide ((kk : Int) < 128) = false := decide_eq_false (by omega)
      go_enter Try.func37, Try.ntmps37
      go_wp2_with fail
      refine HP.out.mono ?_
      rintro e w1 ⟨rfl, hb1⟩
      have b2 : Below w.heap.size w (w1.alloc (.cells M 42)) := hb1.alloc hb1.size _
      have k2 : Blk (w1.alloc (.cells M 42)) w1.heap.size 42 M := blk_new _ _ _
      generalize hg1 : w1.heap.size = g1 at *
      have c0 := (k2.cellA 0).trans m0
      have c1 := (k2.cellA 1).trans m1
      have c2 := (k2.cellA 2).trans m2
      have c6 := (k2.cellA 6).trans m6
      have c8 := (k2.cellA 8).trans m8
      have ck : (w1.alloc (.cells M 42)).cell? ⟨b, off + S, none⟩ = some (.int .u8 (kk : Int)) := HC.out _ b2
      go_wp2_with (first
        | (refine wpList_allocStore (cs := M) rfl rfl 42 ?ho (.tmp 3) (.tmp 9) ?ho2 Try.zeroHead ?hz ?hx ?hy ?hn ?h1 ?_
           case ho => with_reducible rfl
           case ho2 => rfl
           case hz => exact zH_size
           case hx => rfl
           case hy => rfl
           case hn => exact hsz
           case h1 => exact o1
           rw [hg1]))
      go_ret
      exact ⟨by rw [E]; rfl, b2⟩

end Go.Proofs.Ytkokgoodpibboaa
