
/- Contract: crawlwayref20.Put where it puts. -/
import Derived.Test.YtkokgoodpibboaaRpC
namespace Go.Proofs.Ytkokgoodpibboaa
open Go.RowKit
set_option maxRecDepth 100000
set_option linter.unusedSimpArgs false
set_option linter.unusedVariables false

theorem pkt6_bytes (C I L P : Nat) (s d bl : List UInt8) (hn : bl.length ≤ 65495) (bC : C < 256) (bI : I < 1048576) (bL : L < 256) (bP : P < 256) :
    pkt6 C I L P s d bl = [UInt8.ofNat (96 + C / 16), UInt8.ofNat (16 * (C % 16) + I / 65536), UInt8.ofNat (I / 256 % 256), UInt8.ofNat (I % 256), UInt8.ofNat (bl.length / 256), UInt8.ofNat (bl.length % 256), UInt8.ofNat P, UInt8.ofNat L] ++ s ++ d ++ bl := by
  have e : (leBytes (first6 C I bl.length P L) 8).reverse = [byteAt (first6 C I bl.length P L) 7, byteAt (first6 C I bl.length P L) 6, byteAt (first6 C I bl.length P L) 5, byteAt (first6 C I bl.length P L) 4, byteAt (first6 C I bl.length P L) 3, byteAt (first6 C I bl.length P L) 2, byteAt (first6 C I bl.length P L) 1, byteAt (first6 C I bl.length P L) 0] := rfl
  unfold pkt6
  rw [e]
  generalize bl.length = n at *
  unfold byteAt first6
  rw [ofNat_mod ((6917529027641081856 + C * 4503599627370496 + I * 4294967296 + n * 65536 + P * 256 + L) / 256 ^ 7) (96 + C / 16) (by omega),
    ofNat_mod ((6917529027641081856 + C * 4503599627370496 + I * 4294967296 + n * 65536 + P * 256 + L) / 256 ^ 6) (16 * (C % 16) + I / 65536) (by omega),
    ofNat_mod ((6917529027641081856 + C * 4503599627370496 + I * 4294967296 + n * 65536 + P * 256 + L) / 256 ^ 5) (I / 256 % 256) (by omega),
    ofNat_mod ((6917529027641081856 + C * 4503599627370496 + I * 4294967296 + n * 65536 + P * 256 + L) / 256 ^ 4) (I % 256) (by omega),
    ofNat_mod ((6917529027641081856 + C * 4503599627370496 + I * 4294967296 + n * 65536 + P * 256 + L) / 256 ^ 3) (n / 256) (by omega),
    ofNat_mod ((6917529027641081856 + C * 4503599627370496 + I * 4294967296 + n * 65536 + P * 256 + L) / 256 ^ 2) (n % 256) (by omega),
    ofNat_mod ((6917529027641081856 + C * 4503599627370496 + I * 4294967296 + n * 65536 + P * 256 + L) / 256 ^ 1) P (by omega),
    ofNat_mod ((6917529027641081856 + C * 4503599627370496 + I * 4294967296 + n * 65536 + P * 256 + L) / 256 ^ 0) L (by omega)]
  simp

set_option maxHeartbeats 4000000 in
theorem refPut6_ok (V S T F G : Int) (C I L P : Nat) (l l' : List UInt8) (hl : l.length = 16) (hl' : l'.length = 16) (A : Option Addr) (n cb : Nat) (bl : List UInt8) (w : World) (hn : n ≤ 65495) (hs : Shows w w.heap.size A n bl)
    (bC : C < 256) (bI : I < 1048576) (bL : L < 256) (bP : P < 256) :
    Calls Try.prog 30 #[.agg (hdv [V, S, T, C, I, F, G, L, P] (adv 6 l) (adv 6 l')), .slice A n cb] w fun e w' =>
      ∃ x, e = .returned (.tuple #[x, .int .i64 0]) ∧ Own w' w.heap.size x (40 + n) (pkt6 C I L P l l' bl) ∧ Below w.heap.size w w' := by
  have k0 : Blk (w.alloc (.cells (hdv [V, S, T, C, I, F, G, L, P] (adv 6 l) (adv 6 l')) 42)) w.heap.size 42 (hdv [V, S, T, C, I, F, G, L, P] (adv 6 l) (adv 6 l')) := blk_new _ _ _
  have hb0 : Below w.heap.size w (w.alloc (.cells (hdv [V, S, T, C, I, F, G, L, P] (adv 6 l) (adv 6 l')) 42)) := (Below.refl _ _).alloc (Nat.le_refl _) _
  have m3 := hdv_num [V, S, T, C, I, F, G, L, P] (adv 6 l) (adv 6 l') 3 C rfl
  have m4 := hdv_num [V, S, T, C, I, F, G, L, P] (adv 6 l) (adv 6 l') 4 I rfl
  have m7 := hdv_num [V, S, T, C, I, F, G, L, P] (adv 6 l) (adv 6 l') 7 L rfl
  have m8 := hdv_num [V, S, T, C, I, F, G, L, P] (adv 6 l) (adv 6 l') 8 P rfl
  have c3 := (k0.cellA 3).trans m3
  have c4 := (k0.cellA 4).trans m4
  have c7 := (k0.cellA 7).trans m7
  have c8 := (k0.cellA 8).trans m8
  have R1 := fun (W : World) (h : Blk W w.heap.size 42 (hdv [V, S, T, C, I, F, G, L, P] (adv 6 l) (adv 6 l'))) => hdv_src (xs := [V, S, T, (C : Int), (I : Int), F, G, (L : Int), (P : Int)]) rfl h
  have R2 := fun (W : World) (h : Blk W w.heap.size 42 (hdv [V, S, T, C, I, F, G, L, P] (adv 6 l) (adv 6 l'))) => hdv_dst (xs := [V, S, T, (C : Int), (I : Int), F, G, (L : Int), (P : Int)]) rfl (adv_size 6 l hl) h
  have c9 : (w.alloc (.cells (hdv [V, S, T, C, I, F, G, L, P] (adv 6 l) (adv 6 l')) 42)).cell? ⟨w.heap.size, 9, none⟩ = some (.int .i64 6) := (k0.cellA 9).trans rfl
  have c26 : (w.alloc (.cells (hdv [V, S, T, C, I, F, G, L, P] (adv 6 l) (adv 6 l')) 42)).cell? ⟨w.heap.size, 26, none⟩ = some (.int .i64 6) := (k0.cellA 26).trans (by obtain ⟨b0, b1, b2, b3, b4, b5, b6, b7, b8, b9, b10, b11, b12, b13, b14, b15, rfl⟩ := lst16 l hl; rfl)
  have z1 := Adr_size 6 l hl
  have z2 := Adr_size 6 l' hl'
  have HBs := Lib.hid (fun W => refBytes_any 6 l hl W)
  have HBd := Lib.hid (fun W => refBytes_any 6 l' hl' W)
  rw [sizeA_6 l, List.take_of_length_le (by omega)] at HBs
  rw [sizeA_6 l', List.take_of_length_le (by omega)] at HBd
  have hbl := hs.len
  have HPK := Lib.hid (pkt6_bytes C I L P l l' bl (by omega) bC bI bL bP)
  rw [hbl] at HPK
  generalize pkt6 C I L P l l' bl = PK at *
  generalize hdv [V, S, T, C, I, F, G, L, P] (adv 6 l) (adv 6 l') = M at *
  generalize adv 6 l = XS at *
  generalize adv 6 l' = XD at *
  have F3 := Lib.hid (fun W => from6_any C 255 W)
  have F7 := Lib.hid (fun W => from6_any L 255 W)
  have F8 := Lib.hid (fun W => from6_any P 255 W)
  have F4 := Lib.hid (fun W => from6_any I 1048575 W)
  rw [decide_eq_true (by omega)] at F3 F7 F8 F4
  have eL : (UInt8.ofNat L).toNat = L := by simp; omega
  have eP : (UInt8.ofNat P).toNat = P := by simp; omega
  have e0 : (UInt8.ofNat (96 + C / 16)).toNat = 96 + C / 16 := by simp; omega
  have e1 : (UInt8.ofNat (16 * (C % 16) + I / 65536)).toNat = 16 * (C % 16) + I / 65536 := by simp; omega
  have e2 : (UInt8.ofNat (I / 256 % 256)).toNat = I / 256 % 256 := by simp
  have e3 : (UInt8.ofNat (I % 256)).toNat = I % 256 := by simp
  have e4 : (UInt8.ofNat (n / 256)).toNat = n / 256 := by simp; omega
  have e5 : (UInt8.ofNat (n % 256)).toNat = n % 256 := by simp
  generalize UInt8.ofNat L = xL at *
  generalize UInt8.ofNat P = xP at *
  generalize UInt8.ofNat (96 + C / 16) = x0 at *
  generalize UInt8.ofNat (16 * (C % 16) + I / 65536) = x1 at *
  generalize UInt8.ofNat (I / 256 % 256) = x2 at *
  generalize UInt8.ofNat (I % 256) = x3 at *
  generalize UInt8.ofNat (n / 256) = x4 at *
  generalize UInt8.ofNat (n % 256) = x5 at *
  obtain ⟨q1, hq1⟩ : ∃ q : Nat, C / 16 = q := ⟨_, rfl⟩
  obtain ⟨q2, hq2⟩ : ∃ q : Nat, C % 16 = q := ⟨_, rfl⟩
  obtain ⟨q3, hq3⟩ : ∃ q : Nat, I / 65536 = q := ⟨_, rfl⟩
  obtain ⟨q4, hq4⟩ : ∃ q : Nat, I / 256 = q := ⟨_, rfl⟩
  have i1 : (C : Int) / 16 = (q1 : Int) := by omega
  have i2 : (C : Int) % 16 = (q2 : Int) := by omega
  have i3 : (I : Int) / 65536 = (q3 : Int) := by omega
  have i4 : (I : Int) / 256 = (q4 : Int) := by omega
  have g0 : (96 : Int) + (q1 : Int) = (x0.toNat : Int) := by omega
  have g1 : (16 : Int) * (q2 : Int) + (q3 : Int) = (x1.toNat : Int) := by omega
  have g2 : (q4 : Int) % 256 = (x2.toNat : Int) := by omega
  have g3 : (I : Int) % 256 = (x3.toNat : Int) := by omega
  have g4 : (n : Int) / 256 = (x4.toNat : Int) := by omega
  have g5 : (n : Int) % 256 = (x5.toNat : Int) := by omega
  have u0 : (x0.toNat : Int) ≤ 255 := by omega
  have u1 : (x1.toNat : Int) ≤ 255 := by omega
  have u2 : (x2.toNat : Int) ≤ 255 := by omega
  have u3 : (x3.toNat : Int) ≤ 255 := by omega
  have u4 : (x4.toNat : Int) ≤ 255 := by omega
  have u5 : (x5.toNat : Int) ≤ 255 := by omega
  have j1 : (q1 : Int) ≤ 15 := by omega
  have j2 : (q2 : Int) ≤ 15 := by omega
  have j3 : (q3 : Int) ≤ 15 := by omega
  have j4 : (q4 : Int) ≤ 4095 := by omega
  have iI : (I : Int) ≤ 1048575 := by omega
  have iC : (C : Int) ≤ 255 := by omega
  have iL : (L : Int) ≤ 255 := by omega
  have iP : (P : Int) ≤ 255 := by omega
  have hni : (n : Int) ≤ 65495 := by omega
  have dn : decide ((65495 : Int) < (n : Int)) = false := decide_eq_false (by omega)
  have HeL := Lib.hid eL
  have HeP := Lib.hid eP
  clear eL eP e0 e1 e2 e3 e4 e5 hq1 hq2 hq3 hq4 bC bI bL bP
  go_enter Try.func30, Try.ntmps30
  go_wp2_with fail
  refine (F3.out _).mono ?_
  rintro e wq ⟨rfl, rfl⟩
  go_wp2_with fail
  refine (F7.out _).mono ?_
  rintro e wq ⟨rfl, rfl⟩
  go_wp2_with fail
  refine (F8.out _).mono ?_
  rintro e wq ⟨rfl, rfl⟩
  go_wp2_with fail
  refine (F4.out _).mono ?_
  rintro e wq ⟨rfl, rfl⟩
  have sz0 : w.heap.size < (w.alloc (.cells M 42)).heap.size := by simp
  generalize hw2 : w.alloc (.cells M 42) = w2 at *
  clear hw2
  have sB := (hs.below hb0).up hb0.size
  have o3 : Own (w2.alloc (.cells #[bv x0, bv x1, bv x2, bv x3, bv x4, bv x5, .int .u8 (P : Int), .int .u8 (L : Int)] 5)) w2.heap.size (.slice (some ⟨w2.heap.size, 0, none⟩) 8 8) 8 [x0, x1, x2, x3, x4, x5, xP, xL] := own_lit w2 w2.heap.size 8 _ _ (by rw [← HeL.out, ← HeP.out]; rfl) (Nat.le_refl _) rfl (by omega)
  have b3 : Below w2.heap.size w2 (w2.alloc (.cells #[bv x0, bv x1, bv x2, bv x3, bv x4, bv x5, .int .u8 (P : Int), .int .u8 (L : Int)] 5)) := (Below.refl _ _).alloc (Nat.le_refl _) _
  have k3 := k0.below b3 sz0
  have HL := Lib.hid (show [x0, x1, x2, x3, x4, x5, xP, xL].length = 8 from rfl)
  generalize hl12 : [x0, x1, x2, x3, x4, x5, xP, xL] = l12 at *
  clear hs
  go_wp2_with (first
    | (refine wpList_loadPart (g := w.heap.size) rfl 32 (.tmp 84) ?ho 9 ?hx XS _ (R1 _ k3) Try.underlying32 rfl ?hi ?_
       case ho => with_reducible rfl
       case hx => rfl
       case hi => exact z1)
    | fail)
  refine (HBs.out _).mono ?_
  rintro e w4 ⟨y4, rfl, ho4, hb4⟩
  obtain ⟨A4, ca4, rfl, _, _, s4⟩ := ho4.shows
  have b4 := Below.on b3 b3.size hb4
  have o4 := o3.keep hb4
  clear ho4 hb4 b3 o3 k3
  go_wp2_with (first
    | (at_builtin; refine wpList_appAny _ rfl _ _ rfl w2.heap.size _ 8 _ rfl o4 A4 16 ca4 _ l rfl s4 (by omega) (by simpa using b4.size) ?_
       intro v5 w5 ho5 hg5
       have b5 : Below w2.heap.size w2 w5 := b4.grown hg5 b4.size (fun k hk => (o4.lt k hk).1)
       have k5 := k0.below b5 sz0
       clear hg5 o4 b4 s4)
    | (refine wpList_loadPart (g := w.heap.size) rfl 32 (.tmp 89) ?ho 26 ?hx XD _ (R2 _ k5) Try.underlying32 rfl ?hi ?_
       case ho => with_reducible rfl
       case hx => rfl
       case hi => exact z2)
    | fail)
  refine (HBd.out _).mono ?_
  rintro e w6 ⟨y6, rfl, ho6, hb6⟩
  obtain ⟨A6, ca6, rfl, _, _, s6⟩ := ho6.shows
  have b6 := Below.on b5 b5.size hb6
  have o6 := ho5.keep hb6
  clear ho6 hb6 b5 ho5 k5
  go_wp2_with (first
    | (at_builtin; refine wpList_appAny _ rfl _ _ rfl w2.heap.size _ (8 + 16) _ rfl o6 A6 16 ca6 _ l' rfl s6 (by omega) (by simpa using b6.size) ?_
       intro v7 w7 ho7 hg7
       have b7 : Below w2.heap.size w2 w7 := b6.grown hg7 b6.size (fun k hk => (o6.lt k hk).1)
       clear hg7 o6 b6 s6
       have s7 := (sB.below b7).up b7.size
       clear sB)
    | (at_builtin; refine wpList_appAny _ rfl _ _ rfl w2.heap.size _ (8 + 16 + 16) _ rfl ho7 A n cb _ bl rfl s7 (by omega) (by simpa using b7.size) ?_
       intro v10 w10 ho10 hg10
       have b10 : Below w2.heap.size w2 w10 := b7.grown hg10 b7.size (fun k hk => (ho7.lt k hk).1)
       clear hg10 ho7 b7 s7)
    | fail)
  go_ret2
  exact ⟨v10, rfl, by rw [HPK.out]; exact (ho10.base (b' := w.heap.size) hb0.size), Below.on hb0 hb0.size b10⟩

end Go.Proofs.Ytkokgoodpibboaa
