
/- Contract: crawlwayref19.Put where it puts. -/
import Derived.Test.YtkokgoodpibboaaRpB
import Derived.Test.YtkokgoodpibboaaPuM
namespace Go.Proofs.Ytkokgoodpibboaa
open Go.RowKit
set_option maxRecDepth 100000
set_option linter.unusedSimpArgs false
set_option linter.unusedVariables false

theorem ofNat_mod (x y : Nat) (h : x % 256 = y % 256) : UInt8.ofNat x = UInt8.ofNat y := by
  apply UInt8.toNat_inj.1
  simpa using h
theorem first_bytes (C n I F G : Nat) (hn : n ≤ 65515) (bC : C < 256) (bI : I < 65536) (bF : F < 8) (bG : G < 8192) :
    (leBytes (firstN C n I F G) 8).reverse = [69, UInt8.ofNat C, UInt8.ofNat ((20 + n) / 256), UInt8.ofNat ((20 + n) % 256), UInt8.ofNat (I / 256), UInt8.ofNat (I % 256), UInt8.ofNat ((8192 * F + G) / 256), UInt8.ofNat ((8192 * F + G) % 256)] := by
  have e : (leBytes (firstN C n I F G) 8).reverse = [byteAt (firstN C n I F G) 7, byteAt (firstN C n I F G) 6, byteAt (firstN C n I F G) 5, byteAt (firstN C n I F G) 4, byteAt (firstN C n I F G) 3, byteAt (firstN C n I F G) 2, byteAt (firstN C n I F G) 1, byteAt (firstN C n I F G) 0] := rfl
  rw [e]
  unfold byteAt firstN
  rw [ofNat_mod ((4971973988617027584 + C * 281474976710656 + (20 + n) * 4294967296 + I * 65536 + F * 8192 + G) / 256 ^ 7) 69 (by omega),
    ofNat_mod ((4971973988617027584 + C * 281474976710656 + (20 + n) * 4294967296 + I * 65536 + F * 8192 + G) / 256 ^ 6) C (by omega),
    ofNat_mod ((4971973988617027584 + C * 281474976710656 + (20 + n) * 4294967296 + I * 65536 + F * 8192 + G) / 256 ^ 5) ((20 + n) / 256) (by omega),
    ofNat_mod ((4971973988617027584 + C * 281474976710656 + (20 + n) * 4294967296 + I * 65536 + F * 8192 + G) / 256 ^ 4) ((20 + n) % 256) (by omega),
    ofNat_mod ((4971973988617027584 + C * 281474976710656 + (20 + n) * 4294967296 + I * 65536 + F * 8192 + G) / 256 ^ 3) (I / 256) (by omega),
    ofNat_mod ((4971973988617027584 + C * 281474976710656 + (20 + n) * 4294967296 + I * 65536 + F * 8192 + G) / 256 ^ 2) (I % 256) (by omega),
    ofNat_mod ((4971973988617027584 + C * 281474976710656 + (20 + n) * 4294967296 + I * 65536 + F * 8192 + G) / 256 ^ 1) ((8192 * F + G) / 256) (by omega),
    ofNat_mod ((4971973988617027584 + C * 281474976710656 + (20 + n) * 4294967296 + I * 65536 + F * 8192 + G) / 256 ^ 0) ((8192 * F + G) % 256) (by omega)]
  rfl
theorem pkt_bytes (C I F G L P : Nat) (s d bl : List UInt8) (hn : bl.length ≤ 65515) (bC : C < 256) (bI : I < 65536) (bF : F < 8) (bG : G < 8192) (bL : L < 256) (bP : P < 256) (l12 : List UInt8)
    (h12 : l12 = [69, UInt8.ofNat C, UInt8.ofNat ((20 + bl.length) / 256), UInt8.ofNat ((20 + bl.length) % 256), UInt8.ofNat (I / 256), UInt8.ofNat (I % 256), UInt8.ofNat ((8192 * F + G) / 256), UInt8.ofNat ((8192 * F + G) % 256), UInt8.ofNat L, UInt8.ofNat P, 0, 0]) :
    pkt C I F G L P s d bl = ((l12 ++ s ++ d).set 10 (UInt8.ofNat ((65535 - osum (l12 ++ s ++ d)) / 256))).set 11 (UInt8.ofNat ((65535 - osum (l12 ++ s ++ d)) % 256)) ++ bl := by
  have e0 : (leBytes (secondN L P) 4).reverse = [UInt8.ofNat L, UInt8.ofNat P, 0, 0] := by
    have h := second_bytes L P 0 bL bP (by omega)
    rw [Nat.add_zero] at h
    exact h
  unfold pkt
  rw [first_bytes C bl.length I F G hn bC bI bF bG, e0, second_bytes L P _ bL bP (by unfold ckN; omega)]
  have ec : ckN [69, UInt8.ofNat C, UInt8.ofNat ((20 + bl.length) / 256), UInt8.ofNat ((20 + bl.length) % 256), UInt8.ofNat (I / 256), UInt8.ofNat (I % 256), UInt8.ofNat ((8192 * F + G) / 256), UInt8.ofNat ((8192 * F + G) % 256)] [UInt8.ofNat L, UInt8.ofNat P, 0, 0] s d = 65535 - osum (l12 ++ s ++ d) := by
    rw [h12]
    unfold ckN
    simp only [List.cons_append, List.nil_append, List.append_assoc]
  rw [ec]
  generalize 65535 - osum (l12 ++ s ++ d) = ck
  subst h12
  simp

set_option maxHeartbeats 4000000 in
theorem refPut4_ok (V S T : Int) (C I F G L P : Nat) (l l' : List UInt8) (hl : l.length = 16) (hl' : l'.length = 16) (A : Option Addr) (n cb : Nat) (bl : List UInt8) (w : World) (hn : n ≤ 65515) (hs : Shows w w.heap.size A n bl)
    (bC : C < 256) (bI : I < 65536) (bF : F < 8) (bG : G < 8192) (bL : L < 256) (bP : P < 256) (hok : okA 4 l = true) (hok' : okA 4 l' = true) :
    Calls Try.prog 25 #[.agg (hdv [V, S, T, C, I, F, G, L, P] (adv 4 l) (adv 4 l')), .slice A n cb] w fun e w' =>
      ∃ x, e = .returned (.tuple #[x, .int .i64 0]) ∧ Own w' w.heap.size x (20 + n) (pkt C I F G L P (l.take 4) (l'.take 4) bl) ∧ Below w.heap.size w w' := by
  have k0 : Blk (w.alloc (.cells (hdv [V, S, T, C, I, F, G, L, P] (adv 4 l) (adv 4 l')) 42)) w.heap.size 42 (hdv [V, S, T, C, I, F, G, L, P] (adv 4 l) (adv 4 l')) := blk_new _ _ _
  have hb0 : Below w.heap.size w (w.alloc (.cells (hdv [V, S, T, C, I, F, G, L, P] (adv 4 l) (adv 4 l')) 42)) := (Below.refl _ _).alloc (Nat.le_refl _) _
  have m3 := hdv_num [V, S, T, C, I, F, G, L, P] (adv 4 l) (adv 4 l') 3 C rfl
  have m4 := hdv_num [V, S, T, C, I, F, G, L, P] (adv 4 l) (adv 4 l') 4 I rfl
  have m5 := hdv_num [V, S, T, C, I, F, G, L, P] (adv 4 l) (adv 4 l') 5 F rfl
  have m6 := hdv_num [V, S, T, C, I, F, G, L, P] (adv 4 l) (adv 4 l') 6 G rfl
  have m7 := hdv_num [V, S, T, C, I, F, G, L, P] (adv 4 l) (adv 4 l') 7 L rfl
  have m8 := hdv_num [V, S, T, C, I, F, G, L, P] (adv 4 l) (adv 4 l') 8 P rfl
  have c3 := (k0.cellA 3).trans m3
  have c4 := (k0.cellA 4).trans m4
  have c5 := (k0.cellA 5).trans m5
  have c6 := (k0.cellA 6).trans m6
  have c7 := (k0.cellA 7).trans m7
  have c8 := (k0.cellA 8).trans m8
  have R1 := fun (W : World) (h : Blk W w.heap.size 42 (hdv [V, S, T, C, I, F, G, L, P] (adv 4 l) (adv 4 l'))) => hdv_src (by rfl) h
  have R2 := fun (W : World) (h : Blk W w.heap.size 42 (hdv [V, S, T, C, I, F, G, L, P] (adv 4 l) (adv 4 l'))) => hdv_dst (by rfl) (adv_size 4 l hl) h
  have c9 : (w.alloc (.cells (hdv [V, S, T, C, I, F, G, L, P] (adv 4 l) (adv 4 l')) 42)).cell? ⟨w.heap.size, 9, none⟩ = some (.int .i64 4) := (k0.cellA 9).trans rfl
  have c26 : (w.alloc (.cells (hdv [V, S, T, C, I, F, G, L, P] (adv 4 l) (adv 4 l')) 42)).cell? ⟨w.heap.size, 26, none⟩ = some (.int .i64 4) := (k0.cellA 26).trans (by obtain ⟨b0, b1, b2, b3, b4, b5, b6, b7, b8, b9, b10, b11, b12, b13, b14, b15, rfl⟩ := lst16 l hl; rfl)
  have z1 := Adr_size 4 l hl
  have z2 := Adr_size 4 l' hl'
  have HS := Lib.hid (fun W => refRight_any 4 l hl W)
  have HD := Lib.hid (fun W => refRight_any 4 l' hl' W)
  rw [hok] at HS
  rw [hok'] at HD
  have HBs := Lib.hid (fun W => refBytes_any 4 l hl W)
  have HBd := Lib.hid (fun W => refBytes_any 4 l' hl' W)
  rw [sizeA_4 l hok] at HBs
  rw [sizeA_4 l' hok'] at HBd
  have hbl := hs.len
  have HPK := Lib.hid (pkt_bytes C I F G L P (l.take 4) (l'.take 4) bl (by omega) bC bI bF bG bL bP _ rfl)
  rw [hbl] at HPK
  have hl4 : (l.take 4).length = 4 := by simp; omega
  have hl4' : (l'.take 4).length = 4 := by simp; omega
  generalize pkt C I F G L P (l.take 4) (l'.take 4) bl = PK at *
  generalize l.take 4 = l4 at *
  generalize l'.take 4 = d4 at *
  generalize hdv [V, S, T, C, I, F, G, L, P] (adv 4 l) (adv 4 l') = M at *
  generalize adv 4 l = XS at *
  generalize adv 4 l' = XD at *
  have F3 := Lib.hid (fun W => from4_any C 255 W)
  have F7 := Lib.hid (fun W => from4_any L 255 W)
  have F8 := Lib.hid (fun W => from4_any P 255 W)
  have F4 := Lib.hid (fun W => from4_any I 65535 W)
  have F5 := Lib.hid (fun W => from4_any F 7 W)
  have F6 := Lib.hid (fun W => from4_any G 8191 W)
  rw [decide_eq_true (by omega)] at F3 F7 F8 F4 F5 F6
  have eC : (UInt8.ofNat C).toNat = C := by simp; omega
  have eL : (UInt8.ofNat L).toNat = L := by simp; omega
  have eP : (UInt8.ofNat P).toNat = P := by simp; omega
  have e2 : (UInt8.ofNat ((20 + n) / 256)).toNat = (20 + n) / 256 := by simp; omega
  have e3 : (UInt8.ofNat ((20 + n) % 256)).toNat = (20 + n) % 256 := by simp
  have e4 : (UInt8.ofNat (I / 256)).toNat = I / 256 := by simp; omega
  have e5 : (UInt8.ofNat (I % 256)).toNat = I % 256 := by simp
  have e6 : (UInt8.ofNat ((8192 * F + G) / 256)).toNat = (8192 * F + G) / 256 := by simp; omega
  have e7 : (UInt8.ofNat ((8192 * F + G) % 256)).toNat = (8192 * F + G) % 256 := by simp
  obtain ⟨N, hN⟩ : ∃ N : Nat, 20 + n = N := ⟨_, rfl⟩
  obtain ⟨Q, hQ⟩ : ∃ Q : Nat, 8192 * F + G = Q := ⟨_, rfl⟩
  rw [hN] at e2 e3 HPK
  rw [hQ] at e6 e7 HPK
  generalize UInt8.ofNat C = xC at *
  generalize UInt8.ofNat L = xL at *
  generalize UInt8.ofNat P = xP at *
  generalize UInt8.ofNat (N / 256) = x2 at *
  generalize UInt8.ofNat (N % 256) = x3 at *
  generalize UInt8.ofNat (I / 256) = x4 at *
  generalize UInt8.ofNat (I % 256) = x5 at *
  generalize UInt8.ofNat (Q / 256) = x6 at *
  generalize UInt8.ofNat (Q % 256) = x7 at *
  have iN : (20 : Int) + (n : Int) = (N : Int) := by omega
  have iQ : (8192 : Int) * (F : Int) + (G : Int) = (Q : Int) := by omega
  have nN : (N : Int) ≤ 65535 := by omega
  have nQ : (Q : Int) ≤ 65535 := by omega
  have g2 : (N : Int) / 256 = (x2.toNat : Int) := by omega
  have g2' : (N : Int) / 256 % 256 = (x2.toNat : Int) := by omega
  have g3 : (N : Int) % 256 = (x3.toNat : Int) := by omega
  have g4 : (I : Int) / 256 = (x4.toNat : Int) := by omega
  have g4' : (I : Int) / 256 % 256 = (x4.toNat : Int) := by omega
  have g5 : (I : Int) % 256 = (x5.toNat : Int) := by omega
  have g6 : (Q : Int) / 256 = (x6.toNat : Int) := by omega
  have g6' : (Q : Int) / 256 % 256 = (x6.toNat : Int) := by omega
  have g7 : (Q : Int) % 256 = (x7.toNat : Int) := by omega
  have iF : (F : Int) ≤ 7 := by omega
  have iG : (G : Int) ≤ 8191 := by omega
  have iI : (I : Int) ≤ 65535 := by omega
  have iC : (C : Int) ≤ 255 := by omega
  have iL : (L : Int) ≤ 255 := by omega
  have iP : (P : Int) ≤ 255 := by omega
  have hni : (n : Int) ≤ 65515 := by omega
  have dn : decide ((65515 : Int) < (n : Int)) = false := decide_eq_false (by omega)
  have HN := Lib.hid hN
  have HeC := Lib.hid eC
  have HeL := Lib.hid eL
  have HeP := Lib.hid eP
  clear eC eL eP e2 e3 e4 e5 e6 e7 hN hQ bC bI bF bG bL bP hok hok' hl hl'
  go_enter Try.func25, Try.ntmps25
  go_wp2_with fail
  refine (F3.out _).mono ?_
  rintro e wq ⟨rfl, rfl⟩
  go_wp2_with fail
  refine (F7.out _).mono ?_
  rintro e wq ⟨rfl, rfl⟩
  go_wp2_with fail
  refine (F8.out _).mono ?_
  rintro e wq ⟨rfl, rfl⟩
  go_wp2_with fail
  refine (F4.out _).mono ?_
  rintro e wq ⟨rfl, rfl⟩
  go_wp2_with fail
  refine (F5.out _).mono ?_
  rintro e wq ⟨rfl, rfl⟩
  go_wp2_with fail
  refine (F6.out _).mono ?_
  rintro e wq ⟨rfl, rfl⟩
  go_wp2_with (first
    | (refine wpList_loadPart (g := w.heap.size) rfl 32 (.tmp 57) ?ho 9 ?hx XS _ (R1 _ k0) Try.underlying32 rfl ?hi ?_
       case ho => with_reducible rfl
       case hx => rfl
       case hi => exact z1)
    | fail)
  refine (HS.out _).mono ?_
  rintro e w1 ⟨rfl, hb1'⟩
  have b1 := Below.on hb0 hb0.size hb1'
  have k1 := k0.on hb1'
  have sz1 : w.heap.size + 1 ≤ w1.heap.size := by simpa using hb1'.size
  clear hb1' hb0 k0
  go_wp2_with (first
    | (refine wpList_loadPart (g := w.heap.size) rfl 32 (.tmp 63) ?ho 26 ?hx XD _ (R2 _ k1) Try.underlying32 rfl ?hi ?_
       case ho => with_reducible rfl
       case hx => rfl
       case hi => exact z2)
    | fail)
  refine (HD.out _).mono ?_
  rintro e w2 ⟨rfl, hb2'⟩
  have b2 := Below.on b1 b1.size hb2'
  have k2 := k1.on hb2'
  have sz2 : w.heap.size < w2.heap.size := by have := hb2'.size; omega
  clear hb2' b1 k1 sz1 c3 c4 c5 c6 c7 c8 c9 c26 HS HD F3 F4 F5 F6 F7 F8
  have c3 := (k2.cellA 3).trans m3
  have c4 := (k2.cellA 4).trans m4
  have c5 := (k2.cellA 5).trans m5
  have c6 := (k2.cellA 6).trans m6
  have c7 := (k2.cellA 7).trans m7
  have c8 := (k2.cellA 8).trans m8
  have sB := (hs.below b2).up b2.size
  have o3 : Own (w2.alloc (.cells #[.int .u8 69, .int .u8 (C : Int), bv x2, bv x3, bv x4, bv x5, bv x6, bv x7, .int .u8 (L : Int), .int .u8 (P : Int), .int .u8 0, .int .u8 0] 5)) w2.heap.size (.slice (some ⟨w2.heap.size, 0, none⟩) 12 12) 12 [69, xC, x2, x3, x4, x5, x6, x7, xL, xP, 0, 0] := own_lit w2 w2.heap.size 12 _ _ (by rw [← HeC.out, ← HeL.out, ← HeP.out]; rfl) (Nat.le_refl _) rfl (by omega)
  have b3 : Below w2.heap.size w2 (w2.alloc (.cells #[.int .u8 69, .int .u8 (C : Int), bv x2, bv x3, bv x4, bv x5, bv x6, bv x7, .int .u8 (L : Int), .int .u8 (P : Int), .int .u8 0, .int .u8 0] 5)) := (Below.refl _ _).alloc (Nat.le_refl _) _
  have k3 := k2.below b3 sz2
  have HL := Lib.hid (show [69, xC, x2, x3, x4, x5, x6, x7, xL, xP, 0, 0].length = 12 from rfl)
  generalize hl12 : [69, xC, x2, x3, x4, x5, x6, x7, xL, xP, 0, 0] = l12 at *
  clear hs
  go_wp2_with (first
    | (refine wpList_loadPart (g := w.heap.size) rfl 32 (.tmp 111) ?ho 9 ?hx XS _ (R1 _ k3) Try.underlying32 rfl ?hi ?_
       case ho => with_reducible rfl
       case hx => rfl
       case hi => exact z1)
    | fail)
  refine (HBs.out _).mono ?_
  rintro e w4 ⟨y4, rfl, ho4, hb4⟩
  obtain ⟨A4, ca4, rfl, _, _, s4⟩ := ho4.shows
  have b4 := Below.on b3 b3.size hb4
  have o4 := o3.keep hb4
  clear ho4 hb4 b3 o3 k3 c3 c4 c5 c6 c7 c8
  go_wp2_with (first
    | (at_builtin; refine wpList_appAny _ rfl _ _ rfl w2.heap.size _ 12 _ rfl o4 A4 4 ca4 _ l4 rfl s4 (by omega) (by simpa using b4.size) ?_
       intro v5 w5 ho5 hg5
       have b5 : Below w2.heap.size w2 w5 := b4.grown hg5 b4.size (fun k hk => (o4.lt k hk).1)
       have k5 := k2.below b5 sz2
       clear hg5 o4 b4 s4)
    | (refine wpList_loadPart (g := w.heap.size) rfl 32 (.tmp 116) ?ho 26 ?hx XD _ (R2 _ k5) Try.underlying32 rfl ?hi ?_
       case ho => with_reducible rfl
       case hx => rfl
       case hi => exact z2)
    | fail)
  refine (HBd.out _).mono ?_
  rintro e w6 ⟨y6, rfl, ho6, hb6⟩
  obtain ⟨A6, ca6, rfl, _, _, s6⟩ := ho6.shows
  have b6 := Below.on b5 b5.size hb6
  have o6 := ho5.keep hb6
  clear ho6 hb6 b5 ho5 k5
  go_wp2_with (first
    | (at_builtin; refine wpList_appAny _ rfl _ _ rfl w2.heap.size _ (12 + 4) _ rfl o6 A6 4 ca6 _ d4 rfl s6 (by omega) (by simpa using b6.size) ?_
       intro v7 w7 ho7 hg7
       have b7 : Below w2.heap.size w2 w7 := b6.grown hg7 b6.size (fun k hk => (o6.lt k hk).1)
       clear hg7 o6 b6 s6
       obtain ⟨g, cap, rfl, hg⟩ := ho7.blk (by omega)
       have s7 := ho7.shown
       have HK := Lib.hid (refCheck_any (some ⟨g, 0, none⟩) (12 + 4 + 4) cap (l12 ++ l4 ++ d4) w7 (by omega) s7)
       clear s7)
    | fail)
  refine HK.out.mono ?_
  rintro e wq ⟨rfl, rfl⟩
  have lck : 65535 - osum (l12 ++ l4 ++ d4) ≤ 65535 := by omega
  generalize hck : 65535 - osum (l12 ++ l4 ++ d4) = ck at *
  clear HK hck
  have e1 : (UInt8.ofNat (ck / 256)).toNat = ck / 256 := by simp; omega
  have e2 : (UInt8.ofNat (ck % 256)).toNat = ck % 256 := by simp
  generalize UInt8.ofNat (ck / 256) = y1 at *
  generalize UInt8.ofNat (ck % 256) = y2 at *
  have f1 : (ck : Int) / 256 % 256 = (y1.toNat : Int) := by omega
  have f1' : (ck : Int) / 256 = (y1.toNat : Int) := by omega
  have f2 : (ck : Int) % 256 = (y2.toNat : Int) := by omega
  have ick : (ck : Int) ≤ 65535 := by omega
  obtain ⟨old2, hold2, _⟩ := ho7.at (j := 10) (by omega)
  have hfr2 := World.ownsRow.frozenAt ho7 10
  have o8 := (ho7.put 10 y1).1
  have b8 : Below w2.heap.size w2 (w7.setCell ⟨g, 10, none⟩ (bv y1)) := b7.grown (ho7.put 10 y1).2 b7.size (fun k hk => by injection hk with hk; omega)
  obtain ⟨old3, hold3, _⟩ := o8.at (j := 11) (by omega)
  have hfr3 := World.ownsRow.frozenAt o8 11
  have o9 := (o8.put 11 y2).1
  have b9 : Below w2.heap.size w2 ((w7.setCell ⟨g, 10, none⟩ (bv y1)).setCell ⟨g, 11, none⟩ (bv y2)) := b8.grown (o8.put 11 y2).2 b8.size (fun k hk => by injection hk with hk; omega)
  have s9 := (sB.below b9).up b9.size
  clear e1 e2 o8 b8 ho7 b7 sB
  go_wp2_with (first
    | (at_builtin; refine wpList_appAny _ rfl _ _ rfl w2.heap.size _ (12 + 4 + 4) _ rfl o9 A n cb _ bl rfl s9 (by omega) (by simpa using b9.size) ?_
       intro v10 w10 ho10 hg10
       have b10 : Below w2.heap.size w2 w10 := b9.grown hg10 b9.size (fun k hk => (o9.lt k hk).1)
       clear hg10 o9 b9 s9)
    | fail)
  go_ret2
  exact ⟨v10, rfl, by rw [HPK.out]; exact (ho10.base (b' := w.heap.size) b2.size), Below.on b2 b2.size b10⟩

end Go.Proofs.Ytkokgoodpibboaa
