
/- Contracts: ipfour.Put, ipsix.Put where nothing is put. -/
import Derived.Test.YtkokgoodpibboaaRpD
import Derived.Test.YtkokgoodpibboaaPuA
namespace Go.Proofs.Ytkokgoodpibboaa
open Go.RowKit
set_option maxRecDepth 100000
set_option linter.unusedSimpArgs false
set_option linter.unusedVariables false

theorem fits_no (V S T C I F G L P v v' : Int) (l l' : List UInt8) (hl : l.length = 16) (hl' : l'.length = 16) (w : World)
    (hC : in64 C) (hI : in64 I) (hF : in64 F) (hG : in64 G) (hL : in64 L) (hP : in64 P) (hbad : ¬ Ok4 C I F G L P v v' l l') :
    Calls Try.prog 67 #[.agg (hdv [V, S, T, C, I, F, G, L, P] (adv v l) (adv v' l'))] w fun e w' => e = .returned (.bool false) ∧ Below w.heap.size w w' := by
  by_cases hX : bits .or .i64 (bits .or .i64 (bits .or .i64 (bits .or .i64 (bits .or .i64 C L) P / 256) (I / 65536)) (F / 8)) (G / 8192) = 0
  · obtain ⟨⟨c0, c1⟩, ⟨l0, l1⟩, ⟨p0, p1⟩, ⟨i0, i1⟩, ⟨f0, f1⟩, ⟨g0, g1⟩⟩ := above4 C I F G L P hC hI hF hG hL hP hX
    obtain ⟨C, rfl⟩ := Int.eq_ofNat_of_zero_le c0
    obtain ⟨L, rfl⟩ := Int.eq_ofNat_of_zero_le l0
    obtain ⟨P, rfl⟩ := Int.eq_ofNat_of_zero_le p0
    obtain ⟨I, rfl⟩ := Int.eq_ofNat_of_zero_le i0
    obtain ⟨F, rfl⟩ := Int.eq_ofNat_of_zero_le f0
    obtain ⟨G, rfl⟩ := Int.eq_ofNat_of_zero_le g0
    have h := fits_in V S T C I F G L P v v' l l' hl hl' w (by omega) (by omega) (by omega) (by omega) (by omega) (by omega)
    have hB : ((v == 4 && okA v l) && (v' == 4 && okA v' l')) = false := by
      cases hb : ((v == 4 && okA v l) && (v' == 4 && okA v' l'))
      · rfl
      · simp only [Bool.and_eq_true, beq_iff_eq] at hb
        exact absurd ⟨⟨by omega, by omega⟩, ⟨by omega, by omega⟩, ⟨by omega, by omega⟩, ⟨by omega, by omega⟩, ⟨by omega, by omega⟩, ⟨by omega, by omega⟩, hb.1.1, hb.2.1, hb.1.2, hb.2.2⟩ hbad
    rw [hB] at h
    exact h
  · exact fits_out V S T C I F G L P _ _ w hX

theorem put4_bad (V S T C I F G L P v v' : Int) (l l' : List UInt8) (hl : l.length = 16) (hl' : l'.length = 16) (A : Option Addr) (n cb : Nat) (w : World)
    (hC : in64 C) (hI : in64 I) (hF : in64 F) (hG : in64 G) (hL : in64 L) (hP : in64 P) (hbad : ¬ Ok4 C I F G L P v v' l l') :
    Calls Try.prog 24 #[.agg (hdv [V, S, T, C, I, F, G, L, P] (adv v l) (adv v' l')), .slice A n cb] w fun e w' => e = .returned (.tuple #[.slice none 0 0, .int .i64 1]) ∧ Below w.heap.size w w' := by
  have k0 : Blk (w.alloc (.cells (hdv [V, S, T, C, I, F, G, L, P] (adv v l) (adv v' l')) 42)) w.heap.size 42 (hdv [V, S, T, C, I, F, G, L, P] (adv v l) (adv v' l')) := blk_new _ _ _
  have hb0 : Below w.heap.size w (w.alloc (.cells (hdv [V, S, T, C, I, F, G, L, P] (adv v l) (adv v' l')) 42)) := (Below.refl _ _).alloc (Nat.le_refl _) _
  have z0 : (Try.prog.info? 42).map (·.size) = some (hdv [V, S, T, C, I, F, G, L, P] (adv v l) (adv v' l')).size := by rw [hdv_size _ _ _ rfl (adv_size v l hl) (adv_size v' l' hl')]; exact Try.infoHead
  have HF := Lib.hid (fun W => fits_no V S T C I F G L P v v' l l' hl hl' W hC hI hF hG hL hP hbad)
  clear hbad hC hI hF hG hL hP
  generalize hdv [V, S, T, C, I, F, G, L, P] (adv v l) (adv v' l') = M at *
  go_enter Try.func24, Try.ntmps24
  go_wp2_with (first
    | (refine wpList_loadBlk (g := w.heap.size) (t := 42) (cs := M) rfl 42 (.tmp 2) ?ho ?hx ?hA _ Try.underlying42 rfl ?hi ?_
       case ho => with_reducible rfl
       case hx => rfl
       case hA => exact k0
       case hi => exact z0)
    | fail)
  refine (HF.out _).mono ?_
  rintro e w1 ⟨rfl, hb1⟩
  have b1 := Below.on hb0 hb0.size hb1
  clear k0 hb0 hb1
  go_wp2
  go_ret2
  exact ⟨rfl, b1⟩

/-! Family 6. -/
theorem six_no (v : Int) (l : List UInt8) (w : World) (h6 : ¬ v = 6) :
    Calls Try.prog 114 #[.agg (adv v l)] w fun e w' => e = .returned (.bool false) ∧ Below w.heap.size w w' := by
  have k0 : Blk (w.alloc (.cells (adv v l) 32)) w.heap.size 32 (adv v l) := blk_new _ _ _
  have hb0 : Below w.heap.size w (w.alloc (.cells (adv v l) 32)) := (Below.refl _ _).alloc (Nat.le_refl _) _
  have c0 := k0.adv0
  have d1 : decide (v = 6) = false := decide_eq_false h6
  have d2 : (v == 6) = false := by simpa using h6
  clear k0
  generalize adv v l = X at *
  go_enter Try.func114, Try.ntmps114
  go_wp2
  go_ret
  exact ⟨rfl, hb0⟩
theorem six_any (v : Int) (l : List UInt8) (hl : l.length = 16) (w : World) :
    Calls Try.prog 114 #[.agg (adv v l)] w fun e w' => e = .returned (.bool (v == 6)) ∧ Below w.heap.size w w' := by
  by_cases h6 : v = 6
  · subst h6
    exact six_yes l hl w
  · rw [show (v == 6) = false by simpa using h6]
    exact six_no v l w h6

set_option maxHeartbeats 1000000 in
theorem fits6_any (V S T F G : Int) (C I L P : Nat) (v v' : Int) (l l' : List UInt8) (hl : l.length = 16) (hl' : l'.length = 16) (w : World)
    (bC : C < 256) (bI : I < 1048576) (bL : L < 256) (bP : P < 256) :
    Calls Try.prog 78 #[.agg (hdv [V, S, T, C, I, F, G, L, P] (adv v l) (adv v' l'))] w fun e w' => e = .returned (.bool (v == 6 && v' == 6)) ∧ Below w.heap.size w w' := by
  have k0 : Blk (w.alloc (.cells (hdv [V, S, T, C, I, F, G, L, P] (adv v l) (adv v' l')) 42)) w.heap.size 42 (hdv [V, S, T, C, I, F, G, L, P] (adv v l) (adv v' l')) := blk_new _ _ _
  have hb0 : Below w.heap.size w (w.alloc (.cells (hdv [V, S, T, C, I, F, G, L, P] (adv v l) (adv v' l')) 42)) := (Below.refl _ _).alloc (Nat.le_refl _) _
  have c3 := (k0.cellA 3).trans (hdv_num [V, S, T, C, I, F, G, L, P] (adv v l) (adv v' l') 3 C rfl)
  have c4 := (k0.cellA 4).trans (hdv_num [V, S, T, C, I, F, G, L, P] (adv v l) (adv v' l') 4 I rfl)
  have c7 := (k0.cellA 7).trans (hdv_num [V, S, T, C, I, F, G, L, P] (adv v l) (adv v' l') 7 L rfl)
  have c8 := (k0.cellA 8).trans (hdv_num [V, S, T, C, I, F, G, L, P] (adv v l) (adv v' l') 8 P rfl)
  have R1 := fun (W : World) (h : Blk W w.heap.size 42 (hdv [V, S, T, C, I, F, G, L, P] (adv v l) (adv v' l'))) => hdv_src (by rfl) h
  have R2 := fun (W : World) (h : Blk W w.heap.size 42 (hdv [V, S, T, C, I, F, G, L, P] (adv v l) (adv v' l'))) => hdv_dst (by rfl) (adv_size v l hl) h
  have z1 := Adr_size v l hl
  have z2 := Adr_size v' l' hl'
  have H1 := Lib.hid (fun W => six_any v l hl W)
  have H2 := Lib.hid (fun W => six_any v' l' hl' W)
  have eC : bits .or .i64 (bits .or .i64 (C : Int) (L : Int)) (P : Int) / 256 = 0 := by
    have h1 : C ||| L < 2 ^ 8 := Nat.or_lt_two_pow (by omega) (by omega)
    have h2 : C ||| L ||| P < 2 ^ 8 := Nat.or_lt_two_pow h1 (by omega)
    rw [i64_orN C L (by omega) (by omega), i64_orN _ P (by omega) (by omega)]
    omega
  have eI : (I : Int) / 1048576 = 0 := by omega
  have e00 : bits .or .i64 0 0 = 0 := i64_orN 0 0 (by omega) (by omega)
  generalize hB1 : (v == 6) = B1 at *
  generalize hB2 : (v' == 6) = B2 at *
  generalize hdv [V, S, T, C, I, F, G, L, P] (adv v l) (adv v' l') = M at *
  generalize adv v l = s at *
  generalize adv v' l' = d at *
  clear hB1 hB2 bC bI bL bP
  cases B1
  · go_enter Try.func78, Try.ntmps78
    go_wp2_with (first
      | (refine wpList_loadPart (g := w.heap.size) rfl 32 (.tmp 20) ?ho 9 ?hx s _ (R1 _ k0) Try.underlying32 rfl ?hi ?_
         case ho => with_reducible rfl
         case hx => rfl
         case hi => exact z1)
      | fail)
    refine (H1.out _).mono ?_
    rintro e w1 ⟨rfl, hb1⟩
    have b1 := Below.on hb0 hb0.size hb1
    clear k0 hb0 hb1 R1 R2
    go_wp2
    go_ret
    exact ⟨by simp, b1⟩
  · go_enter Try.func78, Try.ntmps78
    go_wp2_with (first
      | (refine wpList_loadPart (g := w.heap.size) rfl 32 (.tmp 20) ?ho 9 ?hx s _ (R1 _ k0) Try.underlying32 rfl ?hi ?_
         case ho => with_reducible rfl
         case hx => rfl
         case hi => exact z1)
      | fail)
    refine (H1.out _).mono ?_
    rintro e w1 ⟨rfl, hb1⟩
    have k1 := k0.on hb1
    have b1 := Below.on hb0 hb0.size hb1
    clear k0 hb0 hb1
    go_wp2_with (first
      | (refine wpList_loadPart (g := w.heap.size) rfl 32 (.tmp 25) ?ho 26 ?hx d _ (R2 _ k1) Try.underlying32 rfl ?hi ?_
         case ho => with_reducible rfl
         case hx => rfl
         case hi => exact z2)
      | fail)
    refine (H2.out _).mono ?_
    rintro e w2 ⟨rfl, hb2⟩
    have b2 := Below.on b1 b1.size hb2
    clear k1 b1 hb2 R1 R2
    cases B2
    all_goals
      go_wp2
      go_ret
      exact ⟨by simp, b2⟩

theorem fits6_no (V S T C I F G L P v v' : Int) (l l' : List UInt8) (hl : l.length = 16) (hl' : l'.length = 16) (w : World)
    (hC : in64 C) (hI : in64 I) (hL : in64 L) (hP : in64 P) (hbad : ¬ Ok6 C I L P v v') :
    Calls Try.prog 78 #[.agg (hdv [V, S, T, C, I, F, G, L, P] (adv v l) (adv v' l'))] w fun e w' => e = .returned (.bool false) ∧ Below w.heap.size w w' := by
  by_cases hX : bits .or .i64 (bits .or .i64 (bits .or .i64 C L) P / 256) (I / 1048576) = 0
  · obtain ⟨⟨c0, c1⟩, ⟨l0, l1⟩, ⟨p0, p1⟩, ⟨i0, i1⟩⟩ := above6 C I L P hC hI hL hP hX
    obtain ⟨C, rfl⟩ := Int.eq_ofNat_of_zero_le c0
    obtain ⟨L, rfl⟩ := Int.eq_ofNat_of_zero_le l0
    obtain ⟨P, rfl⟩ := Int.eq_ofNat_of_zero_le p0
    obtain ⟨I, rfl⟩ := Int.eq_ofNat_of_zero_le i0
    have h := fits6_any V S T F G C I L P v v' l l' hl hl' w (by omega) (by omega) (by omega) (by omega)
    have hB : (v == 6 && v' == 6) = false := by
      cases hb : (v == 6 && v' == 6)
      · rfl
      · simp only [Bool.and_eq_true, beq_iff_eq] at hb
        exact absurd ⟨⟨by omega, by omega⟩, ⟨by omega, by omega⟩, ⟨by omega, by omega⟩, ⟨by omega, by omega⟩, hb.1, hb.2⟩ hbad
    rw [hB] at h
    exact h
  · exact fits6_out V S T C I F G L P _ _ w hX

theorem put6_bad (V S T C I F G L P v v' : Int) (l l' : List UInt8) (hl : l.length = 16) (hl' : l'.length = 16) (A : Option Addr) (n cb : Nat) (w : World)
    (hC : in64 C) (hI : in64 I) (hL : in64 L) (hP : in64 P) (hbad : ¬ Ok6 C I L P v v') :
    Calls Try.prog 29 #[.agg (hdv [V, S, T, C, I, F, G, L, P] (adv v l) (adv v' l')), .slice A n cb] w fun e w' => e = .returned (.tuple #[.slice none 0 0, .int .i64 1]) ∧ Below w.heap.size w w' := by
  have k0 : Blk (w.alloc (.cells (hdv [V, S, T, C, I, F, G, L, P] (adv v l) (adv v' l')) 42)) w.heap.size 42 (hdv [V, S, T, C, I, F, G, L, P] (adv v l) (adv v' l')) := blk_new _ _ _
  have hb0 : Below w.heap.size w (w.alloc (.cells (hdv [V, S, T, C, I, F, G, L, P] (adv v l) (adv v' l')) 42)) := (Below.refl _ _).alloc (Nat.le_refl _) _
  have z0 : (Try.prog.info? 42).map (·.size) = some (hdv [V, S, T, C, I, F, G, L, P] (adv v l) (adv v' l')).size := by rw [hdv_size _ _ _ rfl (adv_size v l hl) (adv_size v' l' hl')]; exact Try.infoHead
  have HF := Lib.hid (fun W => fits6_no V S T C I F G L P v v' l l' hl hl' W hC hI hL hP hbad)
  clear hbad hC hI hL hP
  generalize hdv [V, S, T, C, I, F, G, L, P] (adv v l) (adv v' l') = M at *
  go_enter Try.func29, Try.ntmps29
  go_wp2_with (first
    | (refine wpList_loadBlk (g := w.heap.size) (t := 42) (cs := M) rfl 42 (.tmp 2) ?ho ?hx ?hA _ Try.underlying42 rfl ?hi ?_
       case ho => with_reducible rfl
       case hx => rfl
       case hA => exact k0
       case hi => exact z0)
    | fail)
  refine (HF.out _).mono ?_
  rintro e w1 ⟨rfl, hb1⟩
  have b1 := Below.on hb0 hb0.size hb1
  clear k0 hb0 hb1
  go_wp2
  go_ret2
  exact ⟨rfl, b1⟩

end Go.Proofs.Ytkokgoodpibboaa
