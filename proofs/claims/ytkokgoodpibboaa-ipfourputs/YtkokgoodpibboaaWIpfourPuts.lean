
/- Out of the texts RpD, RpE, PuW (tools/merge.py). -/
import Derived.Test.YtkokgoodpibboaaRpC
import Derived.Test.YtkokgoodpibboaaPuA
import Derived.Test.YtkokgoodpibboaaAdrF
import Derived.Test.YtkokgoodpibboaaHdE
import Derived.Test.YtkokgoodpibboaaWIpfourReads
import Derived.Test.YtkokgoodpibboaaSame
import Derived.Test.YtkokgoodpibboaaEqS
/- RpD -/
namespace Go.Proofs.Ytkokgoodpibboaa
open Go.RowKit
set_option maxRecDepth 100000
set_option linter.unusedSimpArgs false
set_option linter.unusedVariables false

theorem pkt6_bytes (C I L P : Nat) (s d bl : List UInt8) (hn : bl.length ≤ 65495) (bC : C < 256) (bI : I < 1048576) (bL : L < 256) (bP : P < 256) :
    pkt6 C I L P s d bl = [UInt8.ofNat (96 + C / 16), UInt8.ofNat (16 * (C % 16) + I / 65536), UInt8.ofNat (I / 256 % 256), UInt8.ofNat (I % 256), UInt8.ofNat (bl.length / 256), UInt8.ofNat (bl.length % 256), UInt8.ofNat P, UInt8.ofNat L] ++ s ++ d ++ bl := by
  have e : (leBytes (first6 C I bl.length P L) 8).reverse = [byteAt (first6 C I bl.length P L) 7, byteAt (first6 C I bl.length P L) 6, byteAt (first6 C I bl.length P L) 5, byteAt (first6 C I bl.length P L) 4, byteAt (first6 C I bl.length P L) 3, byteAt (first6 C I bl.length P L) 2, byteAt (first6 C I bl.length P L) 1, byteAt (first6 C I bl.length P L) 0] := rfl
  unfold pkt6
  rw [e]
  generalize bl.length = n at *
  unfold byteAt first6
  rw [ofNat_mod ((6917529027641081856 + C * 4503599627370496 + I * 4294967296 + n * 65536 + P * 256 + L) / 256 ^ 7) (96 + C / 16) (by omega),
    ofNat_mod ((6917529027641081856 + C * 4503599627370496 + I * 4294967296 + n * 65536 + P * 256 + L) / 256 ^ 6) (16 * (C % 16) + I / 65536) (by omega),
    ofNat_mod ((6917529027641081856 + C * 4503599627370496 + I * 4294967296 + n * 65536 + P * 256 + L) / 256 ^ 5) (I / 256 % 256) (by omega),
    ofNat_mod ((6917529027641081856 + C * 4503599627370496 + I * 4294967296 + n * 65536 + P * 256 + L) / 256 ^ 4) (I % 256) (by omega),
    ofNat_mod ((6917529027641081856 + C * 4503599627370496 + I * 4294967296 + n * 65536 + P * 256 + L) / 256 ^ 3) (n / 256) (by omega),
    ofNat_mod ((6917529027641081856 + C * 4503599627370496 + I * 4294967296 + n * 65536 + P * 256 + L) / 256 ^ 2) (n % 256) (by omega),
    ofNat_mod ((6917529027641081856 + C * 4503599627370496 + I * 4294967296 + n * 65536 + P * 256 + L) / 256 ^ 1) P (by omega),
    ofNat_mod ((6917529027641081856 + C * 4503599627370496 + I * 4294967296 + n * 65536 + P * 256 + L) / 256 ^ 0) L (by omega)]
  simp

set_option maxHeartbeats 4000000 in
theorem refPut6_ok (V S T F G : Int) (C I L P : Nat) (l l' : List UInt8) (hl : l.length = 16) (hl' : l'.length = 16) (A : Option Addr) (n cb : Nat) (bl : List UInt8) (w : World) (hn : n ≤ 65495) (hs : Shows w w.heap.size A n bl)
    (bC : C < 256) (bI : I < 1048576) (bL : L < 256) (bP : P < 256) :
    Calls Try.prog 30 #[.agg (hdv [V, S, T, C, I, F, G, L, P] (adv 6 l) (adv 6 l')), .slice A n cb] w fun e w' =>
      ∃ x, e = .returned (.tuple #[x, .int .i64 0]) ∧ Own w' w.heap.size x (40 + n) (pkt6 C I L P l l' bl) ∧ Below w.heap.size w w' := by
  have k0 : Blk (w.alloc (.cells (hdv [V, S, T, C, I, F, G, L, P] (adv 6 l) (adv 6 l')) 42)) w.heap.size 42 (hdv [V, S, T, C, I, F, G, L, P] (adv 6 l) (adv 6 l')) := blk_new _ _ _
  have hb0 : Below w.heap.size w (w.alloc (.cells (hdv [V, S, T, C, I, F, G, L, P] (adv 6 l) (adv 6 l')) 42)) := (Below.refl _ _).alloc (Nat.le_refl _) _
  have m3 := hdv_num [V, S, T, C, I, F, G, L, P] (adv 6 l) (adv 6 l') 3 C rfl
  have m4 := hdv_num [V, S, T, C, I, F, G, L, P] (adv 6 l) (adv 6 l') 4 I rfl
  have m7 := hdv_num [V, S, T, C, I, F, G, L, P] (adv 6 l) (adv 6 l') 7 L rfl
  have m8 := hdv_num [V, S, T, C, I, F, G, L, P] (adv 6 l) (adv 6 l') 8 P rfl
  have c3 := (k0.cellA 3).trans m3
  have c4 := (k0.cellA 4).trans m4
  have c7 := (k0.cellA 7).trans m7
  have c8 := (k0.cellA 8).trans m8
  have R1 := fun (W : World) (h : Blk W w.heap.size 42 (hdv [V, S, T, C, I, F, G, L, P] (adv 6 l) (adv 6 l'))) => hdv_src (xs := [V, S, T, (C : Int), (I : Int), F, G, (L : Int), (P : Int)]) rfl h
  have R2 := fun (W : World) (h : Blk W w.heap.size 42 (hdv [V, S, T, C, I, F, G, L, P] (adv 6 l) (adv 6 l'))) => hdv_dst (xs := [V, S, T, (C : Int), (I : Int), F, G, (L : Int), (P : Int)]) rfl (adv_size 6 l hl) h
  have c9 : (w.alloc (.cells (hdv [V, S, T, C, I, F, G, L, P] (adv 6 l) (adv 6 l')) 42)).cell? ⟨w.heap.size, 9, none⟩ = some (.int .i64 6) := (k0.cellA 9).trans rfl
  have c26 : (w.alloc (.cells (hdv [V, S, T, C, I, F, G, L, P] (adv 6 l) (adv 6 l')) 42)).cell? ⟨w.heap.size, 26, none⟩ = some (.int .i64 6) := (k0.cellA 26).trans (by obtain ⟨b0, b1, b2, b3, b4, b5, b6, b7, b8, b9, b10, b11, b12, b13, b14, b15, rfl⟩ := lst16 l hl; rfl)
  have z1 := Adr_size 6 l hl
  have z2 := Adr_size 6 l' hl'
  have HBs := Lib.hid (fun W => refBytes_any 6 l hl W)
  have HBd := Lib.hid (fun W => refBytes_any 6 l' hl' W)
  rw [sizeA_6 l, List.take_of_length_le (by omega)] at HBs
  rw [sizeA_6 l', List.take_of_length_le (by omega)] at HBd
  have hbl := hs.len
  have HPK := Lib.hid (pkt6_bytes C I L P l l' bl (by omega) bC bI bL bP)
  rw [hbl] at HPK
  generalize pkt6 C I L P l l' bl = PK at *
  generalize hdv [V, S, T, C, I, F, G, L, P] (adv 6 l) (adv 6 l') = M at *
  generalize adv 6 l = XS at *
  generalize adv 6 l' = XD at *
  have F3 := Lib.hid (fun W => from6_any C 255 W)
  have F7 := Lib.hid (fun W => from6_any L 255 W)
  have F8 := Lib.hid (fun W => from6_any P 255 W)
  have F4 := Lib.hid (fun W => from6_any I 1048575 W)
  rw [decide_eq_true (by omega)] at F3 F7 F8 F4
  have eL : (UInt8.ofNat L).toNat = L := by simp; omega
  have eP : (UInt8.ofNat P).toNat = P := by simp; omega
  have e0 : (UInt8.ofNat (96 + C / 16)).toNat = 96 + C / 16 := by simp; omega
  have e1 : (UInt8.ofNat (16 * (C % 16) + I / 65536)).toNat = 16 * (C % 16) + I / 65536 := by simp; omega
  have e2 : (UInt8.ofNat (I / 256 % 256)).toNat = I / 256 % 256 := by simp
  have e3 : (UInt8.ofNat (I % 256)).toNat = I % 256 := by simp
  have e4 : (UInt8.ofNat (n / 256)).toNat = n / 256 := by simp; omega
  have e5 : (UInt8.ofNat (n % 256)).toNat = n % 256 := by simp
  generalize UInt8.ofNat L = xL at *
  generalize UInt8.ofNat P = xP at *
  generalize UInt8.ofNat (96 + C / 16) = x0 at *
  generalize UInt8.ofNat (16 * (C % 16) + I / 65536) = x1 at *
  generalize UInt8.ofNat (I / 256 % 256) = x2 at *
  generalize UInt8.ofNat (I % 256) = x3 at *
  generalize UInt8.ofNat (n / 256) = x4 at *
  generalize UInt8.ofNat (n % 256) = x5 at *
  obtain ⟨q1, hq1⟩ : ∃ q : Nat, C / 16 = q := ⟨_, rfl⟩
  obtain ⟨q2, hq2⟩ : ∃ q : Nat, C % 16 = q := ⟨_, rfl⟩
  obtain ⟨q3, hq3⟩ : ∃ q : Nat, I / 65536 = q := ⟨_, rfl⟩
  obtain ⟨q4, hq4⟩ : ∃ q : Nat, I / 256 = q := ⟨_, rfl⟩
  have i1 : (C : Int) / 16 = (q1 : Int) := by omega
  have i2 : (C : Int) % 16 = (q2 : Int) := by omega
  have i3 : (I : Int) / 65536 = (q3 : Int) := by omega
  have i4 : (I : Int) / 256 = (q4 : Int) := by omega
  have g0 : (96 : Int) + (q1 : Int) = (x0.toNat : Int) := by omega
  have g1 : (16 : Int) * (q2 : Int) + (q3 : Int) = (x1.toNat : Int) := by omega
  have g2 : (q4 : Int) % 256 = (x2.toNat : Int) := by omega
  have g3 : (I : Int) % 256 = (x3.toNat : Int) := by omega
  have g4 : (n : Int) / 256 = (x4.toNat : Int) := by omega
  have g5 : (n : Int) % 256 = (x5.toNat : Int) := by omega
  have u0 : (x0.toNat : Int) ≤ 255 := by omega
  have u1 : (x1.toNat : Int) ≤ 255 := by omega
  have u2 : (x2.toNat : Int) ≤ 255 := by omega
  have u3 : (x3.toNat : Int) ≤ 255 := by omega
  have u4 : (x4.toNat : Int) ≤ 255 := by omega
  have u5 : (x5.toNat : Int) ≤ 255 := by omega
  have j1 : (q1 : Int) ≤ 15 := by omega
  have j2 : (q2 : Int) ≤ 15 := by omega
  have j3 : (q3 : Int) ≤ 15 := by omega
  have j4 : (q4 : Int) ≤ 4095 := by omega
  have iI : (I : Int) ≤ 1048575 := by omega
  have iC : (C : Int) ≤ 255 := by omega
  have iL : (L : Int) ≤ 255 := by omega
  have iP : (P : Int) ≤ 255 := by omega
  have hni : (n : Int) ≤ 65495 := by omega
  have dn : decide ((65495 : Int) < (n : Int)) = false := decide_eq_false (by omega)
  have HeL := Lib.hid eL
  have HeP := Lib.hid eP
  clear eL eP e0 e1 e2 e3 e4 e5 hq1 hq2 hq3 hq4 bC bI bL bP
  go_enter Try.func30, Try.ntmps30
  go_wp2_with fail
  refine (F3.out _).mono ?_
  rintro e wq ⟨rfl, rfl⟩
  go_wp2_with fail
  refine (F7.out _).mono ?_
  rintro e wq ⟨rfl, rfl⟩
  go_wp2_with fail
  refine (F8.out _).mono ?_
  rintro e wq ⟨rfl, rfl⟩
  go_wp2_with fail
  refine (F4.out _).mono ?_
  rintro e wq ⟨rfl, rfl⟩
  have sz0 : w.heap.size < (w.alloc (.cells M 42)).heap.size := by simp
  generalize hw2 : w.alloc (.cells M 42) = w2 at *
  clear hw2
  have sB := (hs.below hb0).up hb0.size
  have o3 : Own (w2.alloc (.cells #[bv x0, bv x1, bv x2, bv x3, bv x4, bv x5, .int .u8 (P : Int), .int .u8 (L : Int)] 5)) w2.heap.size (.slice (some ⟨w2.heap.size, 0, none⟩) 8 8) 8 [x0, x1, x2, x3, x4, x5, xP, xL] := own_lit w2 w2.heap.size 8 _ _ (by rw [← HeL.out, ← HeP.out]; rfl) (Nat.le_refl _) rfl (by omega)
  have b3 : Below w2.heap.size w2 (w2.alloc (.cells #[bv x0, bv x1, bv x2, bv x3, bv x4, bv x5, .int .u8 (P : Int), .int .u8 (L : Int)] 5)) := (Below.refl _ _).alloc (Nat.le_refl _) _
  have k3 := k0.below b3 sz0
  have HL := Lib.hid (show [x0, x1, x2, x3, x4, x5, xP, xL].length = 8 from rfl)
  generalize hl12 : [x0, x1, x2, x3, x4, x5, xP, xL] = l12 at *
  clear hs
  go_wp2_with (first
    | (refine wpList_loadPart (g := w.heap.size) rfl 32 (.tmp 84) ?ho 9 ?hx XS _ (R1 _ k3) Try.underlying32 rfl ?hi ?_
       case ho => with_reducible rfl
       case hx => rfl
       case hi => exact z1)
    | fail)
  refine (HBs.out _).mono ?_
  rintro e w4 ⟨y4, rfl, ho4, hb4⟩
  obtain ⟨A4, ca4, rfl, _, _, s4⟩ := ho4.shows
  have b4 := Below.on b3 b3.size hb4
  have o4 := o3.keep hb4
  clear ho4 hb4 b3 o3 k3
  go_wp2_with (first
    | (at_builtin; refine wpList_appAny _ rfl _ _ rfl w2.heap.size _ 8 _ rfl o4 A4 16 ca4 _ l rfl s4 (by omega) (by simpa using b4.size) ?_
       intro v5 w5 ho5 hg5
       have b5 : Below w2.heap.size w2 w5 := b4.grown hg5 b4.size (fun k hk => (o4.lt k hk).1)
       have k5 := k0.below b5 sz0
       clear hg5 o4 b4 s4)
    | (refine wpList_loadPart (g := w.heap.size) rfl 32 (.tmp 89) ?ho 26 ?hx XD _ (R2 _ k5) Try.underlying32 rfl ?hi ?_
       case ho => with_reducible rfl
       case hx => rfl
       case hi => exact z2)
    | fail)
  refine (HBd.out _).mono ?_
  rintro e w6 ⟨y6, rfl, ho6, hb6⟩
  obtain ⟨A6, ca6, rfl, _, _, s6⟩ := ho6.shows
  have b6 := Below.on b5 b5.size hb6
  have o6 := ho5.keep hb6
  clear ho6 hb6 b5 ho5 k5
  go_wp2_with (first
    | (at_builtin; refine wpList_appAny _ rfl _ _ rfl w2.heap.size _ (8 + 16) _ rfl o6 A6 16 ca6 _ l' rfl s6 (by omega) (by simpa using b6.size) ?_
       intro v7 w7 ho7 hg7
       have b7 : Below w2.heap.size w2 w7 := b6.grown hg7 b6.size (fun k hk => (o6.lt k hk).1)
       clear hg7 o6 b6 s6
       have s7 := (sB.below b7).up b7.size
       clear sB)
    | (at_builtin; refine wpList_appAny _ rfl _ _ rfl w2.heap.size _ (8 + 16 + 16) _ rfl ho7 A n cb _ bl rfl s7 (by omega) (by simpa using b7.size) ?_
       intro v10 w10 ho10 hg10
       have b10 : Below w2.heap.size w2 w10 := b7.grown hg10 b7.size (fun k hk => (ho7.lt k hk).1)
       clear hg10 ho7 b7 s7)
    | fail)
  go_ret2
  exact ⟨v10, rfl, by rw [HPK.out]; exact (ho10.base (b' := w.heap.size) hb0.size), Below.on hb0 hb0.size b10⟩

end Go.Proofs.Ytkokgoodpibboaa

/- RpE -/
namespace Go.Proofs.Ytkokgoodpibboaa
open Go.RowKit
set_option maxRecDepth 100000
set_option linter.unusedSimpArgs false
set_option linter.unusedVariables false

theorem fits_no (V S T C I F G L P v v' : Int) (l l' : List UInt8) (hl : l.length = 16) (hl' : l'.length = 16) (w : World)
    (hC : in64 C) (hI : in64 I) (hF : in64 F) (hG : in64 G) (hL : in64 L) (hP : in64 P) (hbad : ¬ Ok4 C I F G L P v v' l l') :
    Calls Try.prog 67 #[.agg (hdv [V, S, T, C, I, F, G, L, P] (adv v l) (adv v' l'))] w fun e w' => e = .returned (.bool false) ∧ Below w.heap.size w w' := by
  by_cases hX : bits .or .i64 (bits .or .i64 (bits .or .i64 (bits .or .i64 (bits .or .i64 C L) P / 256) (I / 65536)) (F / 8)) (G / 8192) = 0
  · obtain ⟨⟨c0, c1⟩, ⟨l0, l1⟩, ⟨p0, p1⟩, ⟨i0, i1⟩, ⟨f0, f1⟩, ⟨g0, g1⟩⟩ := above4 C I F G L P hC hI hF hG hL hP hX
    obtain ⟨C, rfl⟩ := Int.eq_ofNat_of_zero_le c0
    obtain ⟨L, rfl⟩ := Int.eq_ofNat_of_zero_le l0
    obtain ⟨P, rfl⟩ := Int.eq_ofNat_of_zero_le p0
    obtain ⟨I, rfl⟩ := Int.eq_ofNat_of_zero_le i0
    obtain ⟨F, rfl⟩ := Int.eq_ofNat_of_zero_le f0
    obtain ⟨G, rfl⟩ := Int.eq_ofNat_of_zero_le g0
    have h := fits_in V S T C I F G L P v v' l l' hl hl' w (by omega) (by omega) (by omega) (by omega) (by omega) (by omega)
    have hB : ((v == 4 && okA v l) && (v' == 4 && okA v' l')) = false := by
      cases hb : ((v == 4 && okA v l) && (v' == 4 && okA v' l'))
      · rfl
      · simp only [Bool.and_eq_true, beq_iff_eq] at hb
        exact absurd ⟨⟨by omega, by omega⟩, ⟨by omega, by omega⟩, ⟨by omega, by omega⟩, ⟨by omega, by omega⟩, ⟨by omega, by omega⟩, ⟨by omega, by omega⟩, hb.1.1, hb.2.1, hb.1.2, hb.2.2⟩ hbad
    rw [hB] at h
    exact h
  · exact fits_out V S T C I F G L P _ _ w hX

theorem put4_bad (V S T C I F G L P v v' : Int) (l l' : List UInt8) (hl : l.length = 16) (hl' : l'.length = 16) (A : Option Addr) (n cb : Nat) (w : World)
    (hC : in64 C) (hI : in64 I) (hF : in64 F) (hG : in64 G) (hL : in64 L) (hP : in64 P) (hbad : ¬ Ok4 C I F G L P v v' l l') :
    Calls Try.prog 24 #[.agg (hdv [V, S, T, C, I, F, G, L, P] (adv v l) (adv v' l')), .slice A n cb] w fun e w' => e = .returned (.tuple #[.slice none 0 0, .int .i64 1]) ∧ Below w.heap.size w w' := by
  have k0 : Blk (w.alloc (.cells (hdv [V, S, T, C, I, F, G, L, P] (adv v l) (adv v' l')) 42)) w.heap.size 42 (hdv [V, S, T, C, I, F, G, L, P] (adv v l) (adv v' l')) := blk_new _ _ _
  have hb0 : Below w.heap.size w (w.alloc (.cells (hdv [V, S, T, C, I, F, G, L, P] (adv v l) (adv v' l')) 42)) := (Below.refl _ _).alloc (Nat.le_refl _) _
  have z0 : (Try.prog.info? 42).map (·.size) = some (hdv [V, S, T, C, I, F, G, L, P] (adv v l) (adv v' l')).size := by rw [hdv_size _ _ _ rfl (adv_size v l hl) (adv_size v' l' hl')]; exact Try.infoHead
  have HF := Lib.hid (fun W => fits_no V S T C I F G L P v v' l l' hl hl' W hC hI hF hG hL hP hbad)
  clear hbad hC hI hF hG hL hP
  generalize hdv [V, S, T, C, I, F, G, L, P] (adv v l) (adv v' l') = M at *
  go_enter Try.func24, Try.ntmps24
  go_wp2_with (first
    | (refine wpList_loadBlk (g := w.heap.size) (t := 42) (cs := M) rfl 42 (.tmp 2) ?ho ?hx ?hA _ Try.underlying42 rfl ?hi ?_
       case ho => with_reducible rfl
       case hx => rfl
       case hA => exact k0
       case hi => exact z0)
    | fail)
  refine (HF.out _).mono ?_
  rintro e w1 ⟨rfl, hb1⟩
  have b1 := Below.on hb0 hb0.size hb1
  clear k0 hb0 hb1
  go_wp2
  go_ret2
  exact ⟨rfl, b1⟩

/-! Family 6. -/
theorem six_no (v : Int) (l : List UInt8) (w : World) (h6 : ¬ v = 6) :
    Calls Try.prog 114 #[.agg (adv v l)] w fun e w' => e = .returned (.bool false) ∧ Below w.heap.size w w' := by
  have k0 : Blk (w.alloc (.cells (adv v l) 32)) w.heap.size 32 (adv v l) := blk_new _ _ _
  have hb0 : Below w.heap.size w (w.alloc (.cells (adv v l) 32)) := (Below.refl _ _).alloc (Nat.le_refl _) _
  have c0 := k0.adv0
  have d1 : decide (v = 6) = false := decide_eq_false h6
  have d2 : (v == 6) = false := by simpa using h6
  clear k0
  generalize adv v l = X at *
  go_enter Try.func114, Try.ntmps114
  go_wp2
  go_ret
  exact ⟨rfl, hb0⟩
theorem six_any (v : Int) (l : List UInt8) (hl : l.length = 16) (w : World) :
    Calls Try.prog 114 #[.agg (adv v l)] w fun e w' => e = .returned (.bool (v == 6)) ∧ Below w.heap.size w w' := by
  by_cases h6 : v = 6
  · subst h6
    exact six_yes l hl w
  · rw [show (v == 6) = false by simpa using h6]
    exact six_no v l w h6

set_option maxHeartbeats 1000000 in
theorem fits6_any (V S T F G : Int) (C I L P : Nat) (v v' : Int) (l l' : List UInt8) (hl : l.length = 16) (hl' : l'.length = 16) (w : World)
    (bC : C < 256) (bI : I < 1048576) (bL : L < 256) (bP : P < 256) :
    Calls Try.prog 78 #[.agg (hdv [V, S, T, C, I, F, G, L, P] (adv v l) (adv v' l'))] w fun e w' => e = .returned (.bool (v == 6 && v' == 6)) ∧ Below w.heap.size w w' := by
  have k0 : Blk (w.alloc (.cells (hdv [V, S, T, C, I, F, G, L, P] (adv v l) (adv v' l')) 42)) w.heap.size 42 (hdv [V, S, T, C, I, F, G, L, P] (adv v l) (adv v' l')) := blk_new _ _ _
  have hb0 : Below w.heap.size w (w.alloc (.cells (hdv [V, S, T, C, I, F, G, L, P] (adv v l) (adv v' l')) 42)) := (Below.refl _ _).alloc (Nat.le_refl _) _
  have c3 := (k0.cellA 3).trans (hdv_num [V, S, T, C, I, F, G, L, P] (adv v l) (adv v' l') 3 C rfl)
  have c4 := (k0.cellA 4).trans (hdv_num [V, S, T, C, I, F, G, L, P] (adv v l) (adv v' l') 4 I rfl)
  have c7 := (k0.cellA 7).trans (hdv_num [V, S, T, C, I, F, G, L, P] (adv v l) (adv v' l') 7 L rfl)
  have c8 := (k0.cellA 8).trans (hdv_num [V, S, T, C, I, F, G, L, P] (adv v l) (adv v' l') 8 P rfl)
  have R1 := fun (W : World) (h : Blk W w.heap.size 42 (hdv [V, S, T, C, I, F, G, L, P] (adv v l) (adv v' l'))) => hdv_src (by rfl) h
  have R2 := fun (W : World) (h : Blk W w.heap.size 42 (hdv [V, S, T, C, I, F, G, L, P] (adv v l) (adv v' l'))) => hdv_dst (by rfl) (adv_size v l hl) h
  have z1 := Adr_size v l hl
  have z2 := Adr_size v' l' hl'
  have H1 := Lib.hid (fun W => six_any v l hl W)
  have H2 := Lib.hid (fun W => six_any v' l' hl' W)
  have eC : bits .or .i64 (bits .or .i64 (C : Int) (L : Int)) (P : Int) / 256 = 0 := by
    have h1 : C ||| L < 2 ^ 8 := Nat.or_lt_two_pow (by omega) (by omega)
    have h2 : C ||| L ||| P < 2 ^ 8 := Nat.or_lt_two_pow h1 (by omega)
    rw [i64_orN C L (by omega) (by omega), i64_orN _ P (by omega) (by omega)]
    omega
  have eI : (I : Int) / 1048576 = 0 := by omega
  have e00 : bits .or .i64 0 0 = 0 := i64_orN 0 0 (by omega) (by omega)
  generalize hB1 : (v == 6) = B1 at *
  generalize hB2 : (v' == 6) = B2 at *
  generalize hdv [V, S, T, C, I, F, G, L, P] (adv v l) (adv v' l') = M at *
  generalize adv v l = s at *
  generalize adv v' l' = d at *
  clear hB1 hB2 bC bI bL bP
  cases B1
  · go_enter Try.func78, Try.ntmps78
    go_wp2_with (first
      | (refine wpList_loadPart (g := w.heap.size) rfl 32 (.tmp 20) ?ho 9 ?hx s _ (R1 _ k0) Try.underlying32 rfl ?hi ?_
         case ho => with_reducible rfl
         case hx => rfl
         case hi => exact z1)
      | fail)
    refine (H1.out _).mono ?_
    rintro e w1 ⟨rfl, hb1⟩
    have b1 := Below.on hb0 hb0.size hb1
    clear k0 hb0 hb1 R1 R2
    go_wp2
    go_ret
    exact ⟨by simp, b1⟩
  · go_enter Try.func78, Try.ntmps78
    go_wp2_with (first
      | (refine wpList_loadPart (g := w.heap.size) rfl 32 (.tmp 20) ?ho 9 ?hx s _ (R1 _ k0) Try.underlying32 rfl ?hi ?_
         case ho => with_reducible rfl
         case hx => rfl
         case hi => exact z1)
      | fail)
    refine (H1.out _).mono ?_
    rintro e w1 ⟨rfl, hb1⟩
    have k1 := k0.on hb1
    have b1 := Below.on hb0 hb0.size hb1
    clear k0 hb0 hb1
    go_wp2_with (first
      | (refine wpList_loadPart (g := w.heap.size) rfl 32 (.tmp 25) ?ho 26 ?hx d _ (R2 _ k1) Try.underlying32 rfl ?hi ?_
         case ho => with_reducible rfl
         case hx => rfl
         case hi => exact z2)
      | fail)
    refine (H2.out _).mono ?_
    rintro e w2 ⟨rfl, hb2⟩
    have b2 := Below.on b1 b1.size hb2
    clear k1 b1 hb2 R1 R2
    cases B2
    all_goals
      go_wp2
      go_ret
      exact ⟨by simp, b2⟩

theorem fits6_no (V S T C I F G L P v v' : Int) (l l' : List UInt8) (hl : l.length = 16) (hl' : l'.length = 16) (w : World)
    (hC : in64 C) (hI : in64 I) (hL : in64 L) (hP : in64 P) (hbad : ¬ Ok6 C I L P v v') :
    Calls Try.prog 78 #[.agg (hdv [V, S, T, C, I, F, G, L, P] (adv v l) (adv v' l'))] w fun e w' => e = .returned (.bool false) ∧ Below w.heap.size w w' := by
  by_cases hX : bits .or .i64 (bits .or .i64 (bits .or .i64 C L) P / 256) (I / 1048576) = 0
  · obtain ⟨⟨c0, c1⟩, ⟨l0, l1⟩, ⟨p0, p1⟩, ⟨i0, i1⟩⟩ := above6 C I L P hC hI hL hP hX
    obtain ⟨C, rfl⟩ := Int.eq_ofNat_of_zero_le c0
    obtain ⟨L, rfl⟩ := Int.eq_ofNat_of_zero_le l0
    obtain ⟨P, rfl⟩ := Int.eq_ofNat_of_zero_le p0
    obtain ⟨I, rfl⟩ := Int.eq_ofNat_of_zero_le i0
    have h := fits6_any V S T F G C I L P v v' l l' hl hl' w (by omega) (by omega) (by omega) (by omega)
    have hB : (v == 6 && v' == 6) = false := by
      cases hb : (v == 6 && v' == 6)
      · rfl
      · simp only [Bool.and_eq_true, beq_iff_eq] at hb
        exact absurd ⟨⟨by omega, by omega⟩, ⟨by omega, by omega⟩, ⟨by omega, by omega⟩, ⟨by omega, by omega⟩, hb.1, hb.2⟩ hbad
    rw [hB] at h
    exact h
  · exact fits6_out V S T C I F G L P _ _ w hX

theorem put6_bad (V S T C I F G L P v v' : Int) (l l' : List UInt8) (hl : l.length = 16) (hl' : l'.length = 16) (A : Option Addr) (n cb : Nat) (w : World)
    (hC : in64 C) (hI : in64 I) (hL : in64 L) (hP : in64 P) (hbad : ¬ Ok6 C I L P v v') :
    Calls Try.prog 29 #[.agg (hdv [V, S, T, C, I, F, G, L, P] (adv v l) (adv v' l')), .slice A n cb] w fun e w' => e = .returned (.tuple #[.slice none 0 0, .int .i64 1]) ∧ Below w.heap.size w w' := by
  have k0 : Blk (w.alloc (.cells (hdv [V, S, T, C, I, F, G, L, P] (adv v l) (adv v' l')) 42)) w.heap.size 42 (hdv [V, S, T, C, I, F, G, L, P] (adv v l) (adv v' l')) := blk_new _ _ _
  have hb0 : Below w.heap.size w (w.alloc (.cells (hdv [V, S, T, C, I, F, G, L, P] (adv v l) (adv v' l')) 42)) := (Below.refl _ _).alloc (Nat.le_refl _) _
  have z0 : (Try.prog.info? 42).map (·.size) = some (hdv [V, S, T, C, I, F, G, L, P] (adv v l) (adv v' l')).size := by rw [hdv_size _ _ _ rfl (adv_size v l hl) (adv_size v' l' hl')]; exact Try.infoHead
  have HF := Lib.hid (fun W => fits6_no V S T C I F G L P v v' l l' hl hl' W hC hI hL hP hbad)
  clear hbad hC hI hL hP
  generalize hdv [V, S, T, C, I, F, G, L, P] (adv v l) (adv v' l') = M at *
  go_enter Try.func29, Try.ntmps29
  go_wp2_with (first
    | (refine wpList_loadBlk (g := w.heap.size) (t := 42) (cs := M) rfl 42 (.tmp 2) ?ho ?hx ?hA _ Try.underlying42 rfl ?hi ?_
       case ho => with_reducible rfl
       case hx => rfl
       case hA => exact k0
       case hi => exact z0)
    | fail)
  refine (HF.out _).mono ?_
  rintro e w1 ⟨rfl, hb1⟩
  have b1 := Below.on hb0 hb0.size hb1
  clear k0 hb0 hb1
  go_wp2
  go_ret2
  exact ⟨rfl, b1⟩

end Go.Proofs.Ytkokgoodpibboaa

/- PuW -/
namespace Go.Proofs.Ytkokgoodpibboaa
open Go.RowKit
set_option maxRecDepth 100000
set_option linter.unusedSimpArgs false
set_option linter.unusedVariables false

theorem okA_split (l : List UInt8) (h : okA 4 l = true) : l.take 4 ++ zb 12 = l := by
  have e : l.drop 4 = zb 12 := by
    unfold okA at h
    simpa using h
  rw [← e]
  exact List.take_append_drop 4 l

set_option maxHeartbeats 4000000 in
theorem walk_IpfourPuts (x0 x1 x2 x3 x4 x5 x6 x7 x8 vs : Int) (ls : List UInt8) (vd : Int) (ld : List UInt8) (A : Option Addr) (n c : Nat) (l : List UInt8) (w : World)
    (hb : in64 x3 ∧ in64 x4 ∧ in64 x5 ∧ in64 x6 ∧ in64 x7 ∧ in64 x8) (hls : ls.length = 16) (hld : ld.length = 16) (hc : n ≤ c ∧ c ≤ maxLen) (hs : Shows w w.heap.size A n l) :
    Calls Try.prog 6 #[.agg (hdv [x0, x1, x2, x3, x4, x5, x6, x7, x8] (adv vs ls) (adv vd ld)), .slice A n c] w fun e w' => e = .returned (.bool true) ∧ Below w.heap.size w w' := by
  obtain ⟨hc1, hc2⟩ := hc
  obtain ⟨hb3, hb4, hb5, hb6, hb7, hb8⟩ := hb
  have k0 : Blk (w.alloc (.cells (hdv [x0, x1, x2, x3, x4, x5, x6, x7, x8] (adv vs ls) (adv vd ld)) 42)) w.heap.size 42 (hdv [x0, x1, x2, x3, x4, x5, x6, x7, x8] (adv vs ls) (adv vd ld)) := blk_new _ _ _
  have hb0 : Below w.heap.size w (w.alloc (.cells (hdv [x0, x1, x2, x3, x4, x5, x6, x7, x8] (adv vs ls) (adv vd ld)) 42)) := (Below.refl _ _).alloc (Nat.le_refl _) _
  have z0 : (Try.prog.info? 42).map (·.size) = some (hdv [x0, x1, x2, x3, x4, x5, x6, x7, x8] (adv vs ls) (adv vd ld)).size := by rw [hdv_size _ _ _ rfl (adv_size vs ls hls) (adv_size vd ld hld)]; exact Try.infoHead
  have hl := hs.len
  by_cases hn : 300 < n
  · have d : decide ((300 : Int) < (n : Int)) = true := decide_eq_true (by omega)
    generalize hdv [x0, x1, x2, x3, x4, x5, x6, x7, x8] (adv vs ls) (adv vd ld) = M at *
    go_enter Try.func6, Try.ntmps6
    go_wp2_with fail
    refine (alive19 _).mono ?_
    rintro e w1 ⟨rfl, hb1⟩
    have b1 := Below.on hb0 hb0.size hb1
    clear k0 hb0 hb1
    go_wp2
    go_ret
    exact ⟨rfl, b1⟩
  have d : decide ((300 : Int) < (n : Int)) = false := decide_eq_false (by omega)
  by_cases hok : Ok4 x3 x4 x5 x6 x7 x8 vs vd ls ld
  · obtain ⟨⟨c0, c1⟩, ⟨t0, t1⟩, ⟨p0, p1⟩, ⟨i0, i1⟩, ⟨f0, f1⟩, ⟨g0, g1⟩, rfl, rfl, os, od⟩ := hok
    obtain ⟨C, rfl⟩ := Int.eq_ofNat_of_zero_le c0
    obtain ⟨L, rfl⟩ := Int.eq_ofNat_of_zero_le t0
    obtain ⟨P, rfl⟩ := Int.eq_ofNat_of_zero_le p0
    obtain ⟨I, rfl⟩ := Int.eq_ofNat_of_zero_le i0
    obtain ⟨F, rfl⟩ := Int.eq_ofNat_of_zero_le f0
    obtain ⟨G, rfl⟩ := Int.eq_ofNat_of_zero_le g0
    have HF := pkt_facts C I F G L P (ls.take 4) (ld.take 4) l (by simp; omega) (by simp; omega) (by omega) (by omega) (by omega) (by omega) (by omega) (by omega) (by omega)
    have es : ls.take 4 ++ zb 12 = ls := okA_split ls os
    have ed : ld.take 4 ++ zb 12 = ld := okA_split ld od
    have hE := HF.e0
    have hH := HF.head
    rw [es, ed, hl] at hH
    have H1 := Lib.hid (fun (W : World) (h : Shows W W.heap.size A n l) => put_in x0 x1 x2 C I F G L P ls ld hls hld A n c l W (by omega) h (by omega) (by omega) (by omega) (by omega) (by omega) (by omega) os od)
    have H2 := Lib.hid (fun (W : World) (h : Shows W W.heap.size A n l) => refPut4_ok x0 x1 x2 C I F G L P ls ld hls hld A n c l W (by omega) h (by omega) (by omega) (by omega) (by omega) (by omega) (by omega) os od)
    have hPl := HF.len
    generalize pkt C I F G L P (ls.take 4) (ld.take 4) l = PK at *
    have HP := Lib.hid (fun (A2 : Option Addr) (c2 : Nat) (W : World) (h1 : 20 + n ≤ c2) (h2 : c2 ≤ maxLen) (h : Shows W W.heap.size A2 (20 + n) PK) => parse4_any A2 (20 + n) c2 PK W (by omega) h1 h2 h)
    rw [hE] at HP
    have hsf := Lib.hid (pH_self PK)
    have hsz := pH_size PK
    have h1c := pH_one PK
    obtain ⟨N, hN⟩ : ∃ N : Nat, 20 + n = N := ⟨_, rfl⟩
    have iN : (20 : Int) + (n : Int) = (N : Int) := by omega
    rw [hN] at hH HP
    have HN := Lib.hid hN
    have hM : (((hdv [x0, x1, x2, (C : Int), (I : Int), (F : Int), (G : Int), (L : Int), (P : Int)] (adv 4 ls) (adv 4 ld)).setIfInBounds 0 (.int .i64 4)).setIfInBounds 1 (.int .i64 20)).setIfInBounds 2 (.int .i64 (N : Int)) = pH PK := by rw [hH]; simp [hdv]
    have hz := (zero_of_info Try.zeroHead).1
    have hne : ¬ zH = #[] := by intro h; have := zH_size; rw [h] at this; cases this
    have ms : (Try.prog.info? 42).map (·.size) = some (pH PK).size := by rw [hsz]; exact Try.infoHead
    have m0 : (hdv [x0, x1, x2, (C : Int), (I : Int), (F : Int), (G : Int), (L : Int), (P : Int)] (adv 4 ls) (adv 4 ld))[0]? = some (.int .i64 x0) := rfl
    have m1 : (hdv [x0, x1, x2, (C : Int), (I : Int), (F : Int), (G : Int), (L : Int), (P : Int)] (adv 4 ls) (adv 4 ld))[1]? = some (.int .i64 x1) := rfl
    have m2 : (hdv [x0, x1, x2, (C : Int), (I : Int), (F : Int), (G : Int), (L : Int), (P : Int)] (adv 4 ls) (adv 4 ld))[2]? = some (.int .i64 x2) := rfl
    have m5 : (hdv [x0, x1, x2, (C : Int), (I : Int), (F : Int), (G : Int), (L : Int), (P : Int)] (adv 4 ls) (adv 4 ld))[5]? = some (.int .i64 (F : Int)) := rfl
    have m6 : (hdv [x0, x1, x2, (C : Int), (I : Int), (F : Int), (G : Int), (L : Int), (P : Int)] (adv 4 ls) (adv 4 ld))[6]? = some (.int .i64 (G : Int)) := rfl
    generalize pH PK = PH at *
    clear hN HF hH hE os od es ed
    generalize hdv [x0, x1, x2, (C : Int), (I : Int), (F : Int), (G : Int), (L : Int), (P : Int)] (adv 4 ls) (adv 4 ld) = M at *
    have s0 := m0
    have s1 : ((M).setIfInBounds 0 (.int .i64 4))[1]? = some (.int .i64 x1) := by simp [Array.getElem?_setIfInBounds, m1]
    have s2 : (((M).setIfInBounds 0 (.int .i64 4)).setIfInBounds 1 (.int .i64 20))[2]? = some (.int .i64 x2) := by simp [Array.getElem?_setIfInBounds, m2]
    have hMr := Lib.hid hM
    clear hM m0 m1 m2 m5 m6
    go_enter Try.func6, Try.ntmps6
    go_wp2_with (first
      | (refine wpList_loadBlk (g := w.heap.size) (t := 42) (cs := M) rfl 42 (.tmp 2) ?ho ?hx ?hA _ Try.underlying42 rfl ?hi ?_
         case ho => with_reducible rfl
         case hx => rfl
         case hA => exact k0
         case hi => exact z0)
      | fail)
    refine (H1.out _ ((hs.below hb0).up hb0.size)).mono ?_
    rintro e w1 ⟨y1, rfl, ho1, hb1⟩
    have k1 := k0.on hb1
    have b1 := Below.on hb0 hb0.size hb1
    have o1 := ho1
    obtain ⟨A1, ca1, rfl, g1, g2, s1⟩ := ho1.shows
    clear k0 hb0 hb1 ho1 H1
    go_wp2_with (first
      | (refine wpList_loadBlk (g := w.heap.size) (t := 42) (cs := M) rfl 42 (.tmp 2) ?ho ?hx ?hA _ Try.underlying42 rfl ?hi ?_
         case ho => with_reducible rfl
         case hx => rfl
         case hA => exact k1
         case hi => exact z0)
      | fail)
    refine (H2.out _ ((hs.below b1).up b1.size)).mono ?_
    rintro e w2 ⟨y2, rfl, ho2, hb2⟩
    have k2 := k1.on hb2
    have b2 := Below.on b1 b1.size hb2
    have s1' := (s1.below hb2).up hb2.size
    obtain ⟨A2, ca2, rfl, _, _, s2⟩ := ho2.shows
    clear k1 b1 hb2 ho2 H2 s1 o1
    rw [HN.out] at s1' s2 g1
    rw [HN.out]
    have HSm := Lib.hid (same_below A1 A2 N ca1 ca2 PK w2 (by simp only [maxLen]; have := HN.out; omega) s1' s2)
    clear s2
    go_wp2_with fail
    refine HSm.out.mono ?_
    rintro e w3 ⟨rfl, hb3⟩
    have k3 := k2.on hb3
    have b3 := Below.on b2 b2.size hb3
    have s3 := (s1'.below hb3).up hb3.size
    clear k2 b2 hb3 s1' HSm
    go_wp2_with fail
    refine (HP.out A1 ca1 _ g1 g2 s3).mono ?_
    rintro e w4 ⟨rfl, hb4⟩
    have k4 := k3.on hb4
    have b4 := Below.on b3 b3.size hb4
    clear k3 b3 hb4 s3 HP
    have b5 : Below w.heap.size w (w4.alloc (.cells PH 42)) := b4.alloc b4.size _
    have p5 : Blk (w4.alloc (.cells PH 42)) w4.heap.size 42 PH := blk_new _ _ _
    have k5 : Blk (w4.alloc (.cells PH 42)) w.heap.size 42 M := k4.alloc _
    have hne4 : ¬ w4.heap.size = w.heap.size := by
      intro e
      have h1 := p5
      unfold Blk at h1 k4
      have : w4.heap[w4.heap.size]? = none := by simp
      rw [← e, this] at k4
      cases k4
    clear k4 b4
    generalize hg4 : w4.heap.size = g4 at *
    generalize hg0 : w.heap.size = g0 at *
    generalize hW5 : w4.alloc (.cells PH 42) = W5 at *
    have hc0 := (k5.cellA 0).trans s0
    have hf0 := k5.frz 0
    have k10 := k5.setCell 0 (.int .i64 4)
    have p10 := p5.other ⟨g0, 0, none⟩ (.int .i64 4) (by simpa using hne4)
    have b10 := b5.grown (setCell_grown W5 g0 0 (.int .i64 4)) (by have := b5.size; omega) (fun j hj => by injection hj with hj; omega)
    have hc1 := (k10.cellA 1).trans s1
    have hf1 := k10.frz 1
    have k11 := k10.setCell 1 (.int .i64 20)
    have p11 := p10.other ⟨g0, 1, none⟩ (.int .i64 20) (by simpa using hne4)
    have b11 := b10.grown (setCell_grown (W5.setCell ⟨g0, 0, none⟩ (.int .i64 4)) g0 1 (.int .i64 20)) (by have := b10.size; omega) (fun j hj => by injection hj with hj; omega)
    have hc2 := (k11.cellA 2).trans s2
    have hf2 := k11.frz 2
    have k12 := k11.setCell 2 (.int .i64 (N : Int))
    have p12 := p11.other ⟨g0, 2, none⟩ (.int .i64 (N : Int)) (by simpa using hne4)
    have b12 := b11.grown (setCell_grown ((W5.setCell ⟨g0, 0, none⟩ (.int .i64 4)).setCell ⟨g0, 1, none⟩ (.int .i64 20)) g0 2 (.int .i64 (N : Int))) (by have := b11.size; omega) (fun j hj => by injection hj with hj; omega)
    rw [hMr.out] at k12
    clear hMr
    go_wp2_with (first
      | (refine wpList_allocStore (cs := PH) rfl rfl 42 ?ho (.tmp 9) (.tmp 42) ?ho2 Try.zeroHead ?hz ?hx ?hy ?hn ?h1 ?_
         case ho => with_reducible rfl
         case ho2 => rfl
         case hz => exact zH_size
         case hx => rfl
         case hy => rfl
         case hn => exact hsz
         case h1 => exact h1c
         rw [hg4, hW5])
      | (refine wpList_loadBlk (g := g4) (t := 42) (cs := PH) rfl 42 (.tmp 9) ?ho ?hx ?hA _ Try.underlying42 rfl ?hi ?_
         case ho => with_reducible rfl
         case hx => rfl
         case hA => exact p12
         case hi => exact ms)
      | (refine wpList_loadBlk (g := g0) (t := 42) (cs := PH) rfl 42 (.tmp 2) ?ho ?hx ?hA _ Try.underlying42 rfl ?hi ?_
         case ho => with_reducible rfl
         case hx => rfl
         case hA => exact k12
         case hi => exact ms)
      | (refine wpList_eqS (cs := PH) rfl 42 42 (.tmp 50) (.tmp 51) ?ho ?hx ?hy Try.plainHead ?he ?_
         case ho => with_reducible rfl
         case hx => rfl
         case hy => rfl
         case he => exact hsf.out)
      | fail)
    refine (alive19 _).mono ?_
    rintro e w6 ⟨rfl, hb6⟩
    have b6 := Below.on b12 (by have := b12.size; omega) hb6
    clear hb6
    go_wp2
    go_ret
    exact ⟨rfl, by rw [hg0]; exact b6⟩
  · have H1 := Lib.hid (fun W => put4_bad x0 x1 x2 x3 x4 x5 x6 x7 x8 vs vd ls ld hls hld A n c W hb3 hb4 hb5 hb6 hb7 hb8 hok)
    have H2 := Lib.hid (fun W => refPut4_bad x0 x1 x2 x3 x4 x5 x6 x7 x8 vs vd ls ld hls hld A n c W hok)
    clear hok hb3 hb4 hb5 hb6 hb7 hb8 hs
    generalize hdv [x0, x1, x2, x3, x4, x5, x6, x7, x8] (adv vs ls) (adv vd ld) = M at *
    go_enter Try.func6, Try.ntmps6
    go_wp2_with (first
      | (refine wpList_loadBlk (g := w.heap.size) (t := 42) (cs := M) rfl 42 (.tmp 2) ?ho ?hx ?hA _ Try.underlying42 rfl ?hi ?_
         case ho => with_reducible rfl
         case hx => rfl
         case hA => exact k0
         case hi => exact z0)
      | fail)
    refine (H1.out _).mono ?_
    rintro e w1 ⟨rfl, hb1⟩
    have k1 := k0.on hb1
    have b1 := Below.on hb0 hb0.size hb1
    clear k0 hb0 hb1 H1
    go_wp2_with (first
      | (refine wpList_loadBlk (g := w.heap.size) (t := 42) (cs := M) rfl 42 (.tmp 2) ?ho ?hx ?hA _ Try.underlying42 rfl ?hi ?_
         case ho => with_reducible rfl
         case hx => rfl
         case hA => exact k1
         case hi => exact z0)
      | fail)
    refine (H2.out _).mono ?_
    rintro e w2 ⟨rfl, hb2⟩
    have b2 := Below.on b1 b1.size hb2
    clear k1 b1 hb2 H2
    have HSm := Lib.hid (same_below none none 0 0 0 [] w2 (by simp only [maxLen]; omega) (shows_none _ _) (shows_none _ _))
    go_wp2_with fail
    refine HSm.out.mono ?_
    rintro e w3 ⟨rfl, hb3⟩
    have b3 := Below.on b2 b2.size hb3
    clear b2 hb3 HSm
    go_wp2_with fail
    refine (alive19 _).mono ?_
    rintro e w4 ⟨rfl, hb4⟩
    have b4 := Below.on b3 b3.size hb4
    clear b3 hb4
    go_wp2
    go_ret
    exact ⟨rfl, b4⟩

end Go.Proofs.Ytkokgoodpibboaa
