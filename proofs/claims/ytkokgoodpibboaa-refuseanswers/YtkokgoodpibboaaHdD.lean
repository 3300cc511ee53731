
/- Contract: crawlwayref19.Parse. -/
import Derived.Test.YtkokgoodpibboaaHdC
namespace Go.Proofs.Ytkokgoodpibboaa
open Go.RowKit
set_option maxRecDepth 100000
set_option linter.unusedSimpArgs false
set_option linter.unusedVariables false

/-- What the numbers of a head are, byte by byte. -/
theorem head_fields (l : List UInt8) (h : 20 ≤ l.length) : ∃ b0 b1 b2 b3 b4 b5 b6 b7 b8 b9 : UInt8, (l[0]? = some b0 ∧ l[1]? = some b1 ∧ l[2]? = some b2 ∧ l[3]? = some b3 ∧ l[4]? = some b4 ∧ l[5]? = some b5 ∧ l[6]? = some b6 ∧ l[7]? = some b7 ∧ l[8]? = some b8 ∧ l[9]? = some b9) ∧
    n1 l / 1152921504606846976 = b0.toNat / 16 ∧ n1 l / 72057594037927936 % 16 * 4 = 4 * (b0.toNat % 16) ∧ n1 l / 4294967296 % 65536 = 256 * b2.toNat + b3.toNat ∧ n1 l / 281474976710656 % 256 = b1.toNat ∧ n1 l / 65536 % 65536 = 256 * b4.toNat + b5.toNat ∧ n1 l / 8192 % 8 = b6.toNat / 32 ∧ n1 l % 8192 = (256 * b6.toNat + b7.toNat) % 8192 ∧ n2 l / 16777216 = b8.toNat ∧ n2 l / 65536 % 256 = b9.toNat := by
  match l, h with
  | b0 :: b1 :: b2 :: b3 :: b4 :: b5 :: b6 :: b7 :: b8 :: b9 :: b10 :: b11 :: t, _ =>
    refine ⟨b0, b1, b2, b3, b4, b5, b6, b7, b8, b9, ⟨rfl, rfl, rfl, rfl, rfl, rfl, rfl, rfl, rfl, rfl⟩, ?_⟩
    have e1 : n1 (b0 :: b1 :: b2 :: b3 :: b4 :: b5 :: b6 :: b7 :: b8 :: b9 :: b10 :: b11 :: t) = b7.toNat + 256 * (b6.toNat + 256 * (b5.toNat + 256 * (b4.toNat + 256 * (b3.toNat + 256 * (b2.toNat + 256 * (b1.toNat + 256 * (b0.toNat + 256 * 0))))))) := rfl
    have e2 : n2 (b0 :: b1 :: b2 :: b3 :: b4 :: b5 :: b6 :: b7 :: b8 :: b9 :: b10 :: b11 :: t) = b11.toNat + 256 * (b10.toNat + 256 * (b9.toNat + 256 * (b8.toNat + 256 * 0))) := rfl
    rw [e1, e2]
    have h0 := b0.toNat_lt; have h1 := b1.toNat_lt; have h2 := b2.toNat_lt; have h3 := b3.toNat_lt; have h4 := b4.toNat_lt; have h5 := b5.toNat_lt
    have h6 := b6.toNat_lt; have h7 := b7.toNat_lt; have h8 := b8.toNat_lt; have h9 := b9.toNat_lt; have h10 := b10.toNat_lt; have h11 := b11.toNat_lt
    clear e1 e2
    generalize b0.toNat = x0 at *; generalize b1.toNat = x1 at *; generalize b2.toNat = x2 at *; generalize b3.toNat = x3 at *; generalize b4.toNat = x4 at *; generalize b5.toNat = x5 at *
    generalize b6.toNat = x6 at *; generalize b7.toNat = x7 at *; generalize b8.toNat = x8 at *; generalize b9.toNat = x9 at *; generalize b10.toNat = x10 at *; generalize b11.toNat = x11 at *
    refine ⟨?_, ?_, ?_, ?_, ?_, ?_, ?_, ?_, ?_⟩ <;> omega

theorem refParse4_short (A : Option Addr) (n c : Nat) (l : List UInt8) (w : World) (hl : l.length = n) (h20 : n < 20) :
    Calls Try.prog 96 #[.slice A n c] w fun e w' => e = .returned (.tuple #[.agg (pH l), .int .i64 (pE l : Int)]) ∧ Below w.heap.size w w' := by
  have hz := (zero_of_info Try.zeroHead).1
  have hne : ¬ zH = #[] := by intro h; have := zH_size; rw [h] at this; cases this
  have zs : (Try.prog.info? 42).map (·.size) = some zH.size := by rw [zH_size]; exact Try.infoHead
  have k0 : Blk (w.alloc (.cells zH 42)) w.heap.size 42 zH := blk_new _ _ _
  have hb0 : Below w.heap.size w (w.alloc (.cells zH 42)) := (Below.refl _ _).alloc (Nat.le_refl _) _
  have E : pE l = 3 := by unfold pE; rw [hl, if_pos h20]
  have EH : pH l = zH := by unfold pH; rw [E]; rfl
  have d : decide ((n : Int) < 20) = true := decide_eq_true (by omega)
  go_enter Try.func96, Try.ntmps96
  go_wp2_with (first
    | (refine wpList_storeBlk (g := w.heap.size) (t := 42) (cs := zH) rfl 42 (.tmp 2) (.tmp 12) ?ho ?hx2 ?hy2 zH k0 ?hi ?hs ?h1 ?_
       case ho => with_reducible rfl
       case hx2 => rfl
       case hy2 => rfl
       case hi => exact zs
       case hs => rfl
       case h1 => exact zH_one
       intro w5 kb hg5
       have b5 : Below w.heap.size w w5 := hb0.grown hg5 hb0.size (fun k hk => by injection hk with hk; omega)))
  refine bodyPost_blk2 rfl _ rfl kb Try.underlying42 rfl zs rfl ?_
  exact ⟨by rw [EH, E]; rfl, b5⟩

set_option maxRecDepth 100000 in
set_option maxHeartbeats 16000000 in
theorem refParse4_any (b off n c : Nat) (l : List UInt8) (w : World) (hn : n ≤ 1000000) (h20 : 20 ≤ n) (hc : n ≤ c) (hcm : c ≤ maxLen) (hs : Shows w w.heap.size (some ⟨b, off, none⟩) n l) (hbb : b < w.heap.size) :
    Calls Try.prog 96 #[.slice (some ⟨b, off, none⟩) n c] w fun e w' => e = .returned (.tuple #[.agg (pH l), .int .i64 (pE l : Int)]) ∧ Below w.heap.size w w' := by
  have hz := (zero_of_info Try.zeroHead).1
  have hza := (zero_of_info Try.zeroAddr).1
  have hne : ¬ zH = #[] := by intro h; have := zH_size; rw [h] at this; cases this
  have zs : (Try.prog.info? 42).map (·.size) = some zH.size := by rw [zH_size]; exact Try.infoHead
  have k0 : Blk (w.alloc (.cells zH 42)) w.heap.size 42 zH := blk_new _ _ _
  have hb0 : Below w.heap.size w (w.alloc (.cells zH 42)) := (Below.refl _ _).alloc (Nat.le_refl _) _
  have hl := hs.len
  have d : decide ((n : Int) < 20) = false := decide_eq_false (by omega)
  obtain ⟨b0, b1, b2, b3, b4, b5, b6, b7, b8, b9, ⟨g0, g1, g2, g3, g4, g5, g6, g7, g8, g9⟩, fV, fS, fT, fC, fI, fF, fG, fL, fP⟩ := head_fields l (by omega)
  have HT2 := Lib.hid (fun W (hW : Below w.heap.size w W) => two_any b off n c 2 l W (by omega) hn ((hs.below hW).up hW.size) b2 b3 g2 g3)
  have HT4 := Lib.hid (fun W (hW : Below w.heap.size w W) => two_any b off n c 4 l W (by omega) hn ((hs.below hW).up hW.size) b4 b5 g4 g5)
  have HT6 := Lib.hid (fun W (hW : Below w.heap.size w W) => two_any b off n c 6 l W (by omega) hn ((hs.below hW).up hW.size) b6 b7 g6 g7)
  have HC := Lib.hid (fun (i : Nat) (x : UInt8) (hi : l[i]? = some x) (W : World) (hW : Below w.heap.size w W) => show W.cell? ⟨b, off + i, none⟩ = some (.int .u8 (x.toNat : Int)) by
    obtain ⟨b', off', e, _, hcc⟩ := (hs.below hW).2 (by omega)
    injection e with e
    injection e with eb eo
    subst eb
    subst eo
    obtain ⟨hj, rfl⟩ := List.getElem?_eq_some_iff.1 hi
    exact hcc i hj)
  have c0 : (w.alloc (.cells zH 42)).cell? ⟨b, off, none⟩ = some (.int .u8 (b0.toNat : Int)) := HC.out 0 b0 g0 _ hb0
  have hc1 := Lib.hid (HC.out 1 b1 g1)
  have hc6 := Lib.hid (HC.out 6 b6 g6)
  have hc8 := Lib.hid (HC.out 8 b8 g8)
  have hc9 := Lib.hid (HC.out 9 b9 g9)
  have HS := Lib.hid (fun (S : Nat) (hS : S ≤ n) (W : World) (hW : Below w.heap.size w W) => refSum_any (some ⟨b, off, none⟩) S c (l.take S) W (by omega) (by simpa using ((hs.below hW).up hW.size).piece 0 S (by omega)))
  have HO1 := Lib.hid (fun (W : World) (hW : Below w.heap.size w W) => refOf4 b (off + 12) (c - 12) (srcL l) W (((hs.below hW).up hW.size).piece 12 4 (by omega)))
  have HO2 := Lib.hid (fun (W : World) (hW : Below w.heap.size w W) => refOf4 b (off + 16) (c - 16) (dstL l) W (((hs.below hW).up hW.size).piece 16 4 (by omega)))
  have ls : (srcL l).length = 4 := by simp [srcL]; omega
  have ld : (dstL l).length = 4 := by simp [dstL]; omega
  have E : pE l = wE (n1 l / 1152921504606846976) (n1 l / 72057594037927936 % 16 * 4) (n1 l / 4294967296 % 65536) n l := by unfold pE; rw [hl, if_neg (by omega)]
  have EH : pH l = if pE l = 0 then hdL l else zH := rfl
  have EL : hdL l = hdv [((n1 l / 1152921504606846976 : Nat) : Int), ((n1 l / 72057594037927936 % 16 * 4 : Nat) : Int), ((n1 l / 4294967296 % 65536 : Nat) : Int), ((n1 l / 281474976710656 % 256 : Nat) : Int), ((n1 l / 65536 % 65536 : Nat) : Int), ((n1 l / 8192 % 8 : Nat) : Int), ((n1 l % 8192 : Nat) : Int), ((n2 l / 16777216 : Nat) : Int), ((n2 l / 65536 % 256 : Nat) : Int)] (adv 4 (srcL l ++ zb 12)) (adv 4 (dstL l ++ zb 12)) := rfl
  have lb0 := b0.toNat_lt; have lb1 := b1.toNat_lt; have lb2 := b2.toNat_lt; have lb3 := b3.toNat_lt; have lb4 := b4.toNat_lt; have lb5 := b5.toNat_lt; have lb6 := b6.toNat_lt; have lb7 := b7.toNat_lt; have lb8 := b8.toNat_lt; have lb9 := b9.toNat_lt
  rw [fL, fC, fP] at EL
  clear fC fL fP
  generalize n1 l / 1152921504606846976 = V at *
  generalize n1 l / 72057594037927936 % 16 * 4 = S at *
  generalize n1 l / 4294967296 % 65536 = T at *
  generalize n1 l / 65536 % 65536 = I at *
  generalize n1 l / 8192 % 8 = F at *
  generalize n1 l % 8192 = G at *
  rw [← fT] at HT2
  rw [← fI] at HT4
  have eV : (b0.toNat : Int) / 16 = (V : Int) := by omega
  have eS : 4 * ((b0.toNat : Int) % 16) = (S : Int) := by omega
  have lS : S ≤ 60 := by omega
  have lT : T ≤ 65535 := by omega
  have lI : I ≤ 65535 := by omega
  have eF : (b6.toNat : Int) / 32 = (F : Int) := by omega
  have wb1 := wrap_id b1.toNat (by omega)
  have wb6 := wrap_id b6.toNat (by omega)
  have wb8 := wrap_id b8.toNat (by omega)
  have wb9 := wrap_id b9.toNat (by omega)
  have wF := wrap_id F (by omega)
  have eG : ((256 * b6.toNat + b7.toNat : Nat) : Int) % 8192 = (G : Int) := by omega
  have l67 : 256 * b6.toNat + b7.toNat ≤ 65535 := by omega
  generalize 256 * b6.toNat + b7.toNat = G67 at *
  have wG := wrap_id G67 (by omega)
  have eGt : (G67 : Int).tmod 8192 = (G : Int) := by rw [Int.tmod_eq_emod_of_nonneg (by omega)]; exact eG
  have eFt : (b6.toNat : Int).tdiv 32 = (F : Int) := by rw [Int.tdiv_eq_ediv_of_nonneg (by omega)]; exact eF
  clear fV fS fT fI fF fG g0 g1 g2 g3 g4 g5 g6 g7 g8 g9 HC hs hl lb2 lb3 lb4 lb5 lb7
  generalize b0.toNat = x0 at *
  generalize b1.toNat = x1 at *
  generalize b6.toNat = x6 at *
  generalize b8.toNat = x8 at *
  generalize b9.toNat = x9 at *
  have HE := Lib.hid E
  have HEH := Lib.hid EH
  have HEL := Lib.hid EL
  clear E EH EL
  have xi0 : (x0 : Int) < 256 := by omega
  have iS : (S : Int) ≤ 60 := by omega
  have iT : (T : Int) ≤ 65535 := by omega
  by_cases q0 : ¬ V = 4
  · have E : pE l = 9 := by rw [HE.out]; simp [wE, q0]
    have EH : pH l = zH := by rw [HEH.out, E]; rfl
    have d0 : decide ((V : Int) = 4) = false := decide_eq_false (by omega)
    have d0' : ((V : Int) != 4) = true := by simp; omega
    go_enter Try.func96, Try.ntmps96
    go_wp2_with (first
      | (refine wpList_storeBlk (g := w.heap.size) (t := 42) (cs := zH) rfl 42 (.tmp 2) (.tmp 18) ?ho ?hx2 ?hy2 zH k0 ?hi ?hs ?h1 ?_
         case ho => with_reducible rfl
         case hx2 => rfl
         case hy2 => rfl
         case hi => exact zs
         case hs => rfl
         case h1 => exact zH_one
         intro w5 kb hg5
         have b5 : Below w.heap.size w w5 := hb0.grown hg5 hb0.size (fun k hk => by injection hk with hk; omega)))
    refine bodyPost_blk2 rfl _ rfl kb Try.underlying42 rfl zs rfl ?_
    exact ⟨by rw [EH, E]; rfl, b5⟩
  have d0 : decide ((V : Int) = 4) = true := decide_eq_true (by omega)
  have d0' : ((V : Int) != 4) = false := by simp; omega
  by_cases q1 : S < 20
  · have E : pE l = 5 := by rw [HE.out]; simp [wE, q0, q1]
    have EH : pH l = zH := by rw [HEH.out, E]; rfl
    have d1 : decide ((S : Int) < 20) = true := decide_eq_true (by omega)
    go_enter Try.func96, Try.ntmps96
    go_wp2_with (first
      | (refine wpList_storeBlk (g := w.heap.size) (t := 42) (cs := zH) rfl 42 (.tmp 2) (.tmp 27) ?ho ?hx2 ?hy2 zH k0 ?hi ?hs ?h1 ?_
         case ho => with_reducible rfl
         case hx2 => rfl
         case hy2 => rfl
         case hi => exact zs
         case hs => rfl
         case h1 => exact zH_one
         intro w5 kb hg5
         have b5 : Below w.heap.size w w5 := hb0.grown hg5 hb0.size (fun k hk => by injection hk with hk; omega)))
    refine bodyPost_blk2 rfl _ rfl kb Try.underlying42 rfl zs rfl ?_
    exact ⟨by rw [EH, E]; rfl, b5⟩
  have d1 : decide ((S : Int) < 20) = false := decide_eq_false (by omega)
  by_cases q2 : n < S
  · have E : pE l = 3 := by rw [HE.out]; simp [wE, q0, q1, q2]
    have EH : pH l = zH := by rw [HEH.out, E]; rfl
    have d2 : decide ((n : Int) < (S : Int)) = true := decide_eq_true (by omega)
    go_enter Try.func96, Try.ntmps96
    go_wp2_with (first
      | (refine wpList_storeBlk (g := w.heap.size) (t := 42) (cs := zH) rfl 42 (.tmp 2) (.tmp 32) ?ho ?hx2 ?hy2 zH k0 ?hi ?hs ?h1 ?_
         case ho => with_reducible rfl
         case hx2 => rfl
         case hy2 => rfl
         case hi => exact zs
         case hs => rfl
         case h1 => exact zH_one
         intro w5 kb hg5
         have b5 : Below w.heap.size w w5 := hb0.grown hg5 hb0.size (fun k hk => by injection hk with hk; omega)))
    refine bodyPost_blk2 rfl _ rfl kb Try.underlying42 rfl zs rfl ?_
    exact ⟨by rw [EH, E]; rfl, b5⟩
  have d2 : decide ((n : Int) < (S : Int)) = false := decide_eq_false (by omega)
  by_cases q3 : T < S
  · have E : pE l = 5 := by rw [HE.out]; simp [wE, q0, q1, q2, q3]
    have EH : pH l = zH := by rw [HEH.out, E]; rfl
    have d3 : decide ((T : Int) < (S : Int)) = true := decide_eq_true (by omega)
    go_enter Try.func96, Try.ntmps96
    go_wp2_with fail
    refine (HT2.out _ hb0).mono ?_
    rintro e w1 ⟨rfl, hbw1⟩
    have k1 := k0.on hbw1
    have bb1 := Below.on hb0 hb0.size hbw1
    clear hbw1 k0 hb0 c0
    go_wp2_with (first
      | (refine wpList_storeBlk (g := w.heap.size) (t := 42) (cs := zH) rfl 42 (.tmp 2) (.tmp 37) ?ho ?hx2 ?hy2 zH k1 ?hi ?hs ?h1 ?_
         case ho => with_reducible rfl
         case hx2 => rfl
         case hy2 => rfl
         case hi => exact zs
         case hs => rfl
         case h1 => exact zH_one
         intro w5 kb hg5
         have b5 : Below w.heap.size w w5 := bb1.grown hg5 bb1.size (fun k hk => by injection hk with hk; omega)))
    refine bodyPost_blk2 rfl _ rfl kb Try.underlying42 rfl zs rfl ?_
    exact ⟨by rw [EH, E]; rfl, b5⟩
  have d3 : decide ((T : Int) < (S : Int)) = false := decide_eq_false (by omega)
  by_cases q4 : n < T
  · have E : pE l = 3 := by rw [HE.out]; simp [wE, q0, q1, q2, q3, q4]
    have EH : pH l = zH := by rw [HEH.out, E]; rfl
    have d4 : decide ((n : Int) < (T : Int)) = true := decide_eq_true (by omega)
    go_enter Try.func96, Try.ntmps96
    go_wp2_with fail
    refine (HT2.out _ hb0).mono ?_
    rintro e w1 ⟨rfl, hbw1⟩
    have k1 := k0.on hbw1
    have bb1 := Below.on hb0 hb0.size hbw1
    clear hbw1 k0 hb0 c0
    go_wp2_with fail
    refine (HT2.out _ bb1).mono ?_
    rintro e w2 ⟨rfl, hbw2⟩
    have k2 := k1.on hbw2
    have bb2 := Below.on bb1 bb1.size hbw2
    clear hbw2 k1 bb1
    go_wp2_with (first
      | (refine wpList_storeBlk (g := w.heap.size) (t := 42) (cs := zH) rfl 42 (.tmp 2) (.tmp 43) ?ho ?hx2 ?hy2 zH k2 ?hi ?hs ?h1 ?_
         case ho => with_reducible rfl
         case hx2 => rfl
         case hy2 => rfl
         case hi => exact zs
         case hs => rfl
         case h1 => exact zH_one
         intro w5 kb hg5
         have b5 : Below w.heap.size w w5 := bb2.grown hg5 bb2.size (fun k hk => by injection hk with hk; omega)))
    refine bodyPost_blk2 rfl _ rfl kb Try.underlying42 rfl zs rfl ?_
    exact ⟨by rw [EH, E]; rfl, b5⟩
  have d4 : decide ((n : Int) < (T : Int)) = false := decide_eq_false (by omega)
  have iSc : (S : Int) ≤ (c : Int) := by omega
  by_cases q5 : ¬ osum (l.take S) = 65535
  · have E : pE l = 11 := by rw [HE.out]; simp [wE, q0, q1, q2, q3, q4, q5]
    have EH : pH l = zH := by rw [HEH.out, E]; rfl
    have q5' : ¬ (osum (l.take S) : Int) = 65535 := by omega
    have d5 : decide ((osum (l.take S) : Int) = 65535) = false := decide_eq_false q5'
    have d5' : ((osum (l.take S) : Int) != 65535) = true := by simp; omega
    go_enter Try.func96, Try.ntmps96
    go_wp2_with fail
    refine (HT2.out _ hb0).mono ?_
    rintro e w1 ⟨rfl, hbw1⟩
    have k1 := k0.on hbw1
    have bb1 := Below.on hb0 hb0.size hbw1
    clear hbw1 k0 hb0 c0
    go_wp2_with fail
    refine (HT2.out _ bb1).mono ?_
    rintro e w2 ⟨rfl, hbw2⟩
    have k2 := k1.on hbw2
    have bb2 := Below.on bb1 bb1.size hbw2
    clear hbw2 k1 bb1
    go_wp2_with fail
    refine (HS.out S (by omega) _ bb2).mono ?_
    rintro e w' ⟨rfl, rfl⟩
    generalize osum (l.take S) = OS at *
    go_wp2_with (first
      | (refine wpList_storeBlk (g := w.heap.size) (t := 42) (cs := zH) rfl 42 (.tmp 2) (.tmp 49) ?ho ?hx2 ?hy2 zH k2 ?hi ?hs ?h1 ?_
         case ho => with_reducible rfl
         case hx2 => rfl
         case hy2 => rfl
         case hi => exact zs
         case hs => rfl
         case h1 => exact zH_one
         intro w5 kb hg5
         have b5 : Below w.heap.size w w5 := bb2.grown hg5 bb2.size (fun k hk => by injection hk with hk; omega)))
    refine bodyPost_blk2 rfl _ rfl kb Try.underlying42 rfl zs rfl ?_
    exact ⟨by rw [EH, E]; rfl, b5⟩
  have q4' : V = 4 := by omega
  have q5' : osum (l.take S) = 65535 := by omega
  have E : pE l = 0 := by rw [HE.out]; simp [wE, q4', q1, q2, q3, q4, q5']
  have EH : pH l = hdL l := by rw [HEH.out, E]; rfl
  have HP := Lib.hid (EH.trans HEL.out)
  rw [q4'] at HP
  have HS' := Lib.hid (HS.out S (by omega))
  rw [q5'] at HS'
  have i16 : (16 : Int) ≤ (c : Int) := by omega
  have i20 : (20 : Int) ≤ (c : Int) := by omega
  have in1 : (1 : Int) < (n : Int) := by omega
  have in6 : (6 : Int) < (n : Int) := by omega
  have in8 : (8 : Int) < (n : Int) := by omega
  have in9 : (9 : Int) < (n : Int) := by omega
  have nc12 : ¬ c = 12 := by omega
  have nc16 : ¬ c = 16 := by omega
  have o1 : ((hdv [((4 : Nat) : Int), (S : Int), (T : Int), (x1 : Int), (I : Int), (F : Int), (G : Int), (x8 : Int), (x9 : Int)] (adv 4 (srcL l ++ zb 12)) (adv 4 (dstL l ++ zb 12))).all fun x => x.oneCell') = true := hdv_one _ _ _ _ _
  have o2 : ((adv 4 (srcL l ++ zb 12)).all fun x => x.oneCell') = true := adv_one _ _
  have o3 : ((adv 4 (dstL l ++ zb 12)).all fun x => x.oneCell') = true := adv_one _ _
  have z2 : (adv 4 (srcL l ++ zb 12)).size = 17 := adv_size _ _ (by simp [ls, zb])
  have z3 : (adv 4 (dstL l ++ zb 12)).size = 17 := adv_size _ _ (by simp [ld, zb])
  obtain ⟨s0, s1, s2, s3, es⟩ := list_four _ ls
  obtain ⟨t0, t1, t2, t3, et⟩ := list_four _ ld
  have HX := Lib.hid (show adv 4 ([s0, s1, s2, s3] ++ zb 12) = adv 4 (srcL l ++ zb 12) by rw [es])
  have HY := Lib.hid (show adv 4 ([t0, t1, t2, t3] ++ zb 12) = adv 4 (dstL l ++ zb 12) by rw [et])
  clear es et ls ld q5 q5' HE HEH HEL HS
  have HE := Lib.hid E
  clear E EH
  generalize adv 4 (srcL l ++ zb 12) = XS at *
  generalize adv 4 (dstL l ++ zb 12) = XD at *
  have zi2 : (Try.prog.info? 32).map (·.size) = some XS.size := by rw [z2]; exact Try.infoAddr
  have zi3 : (Try.prog.info? 32).map (·.size) = some XD.size := by rw [z3]; exact Try.infoAddr
  have zne : ¬ adv 0 (zb 16) = #[] := by simp [adv]
  go_enter Try.func96, Try.ntmps96
  go_wp2_with fail
  refine (HT2.out _ hb0).mono ?_
  rintro e w1 ⟨rfl, hbw1⟩
  have k1 := k0.on hbw1
  have bb1 := Below.on hb0 hb0.size hbw1
  clear hbw1 k0 hb0 c0
  go_wp2_with fail
  refine (HT2.out _ bb1).mono ?_
  rintro e w2 ⟨rfl, hbw2⟩
  have k2 := k1.on hbw2
  have bb2 := Below.on bb1 bb1.size hbw2
  clear hbw2 k1 bb1
  go_wp2_with fail
  refine (HS'.out _ bb2).mono ?_
  rintro e w' ⟨rfl, rfl⟩
  go_wp2_with fail
  refine (HO1.out _ bb2).mono ?_
  rintro e w3 ⟨rfl, hbw3⟩
  have k3 := k2.on hbw3
  have bb3 := Below.on bb2 bb2.size hbw3
  have n3 := k3.lt
  clear k2 bb2 hbw3
  have k4 : Blk (w3.alloc (.cells XS 32)) w.heap.size 42 zH := k3.alloc _
  have bb4 : Below w.heap.size w (w3.alloc (.cells XS 32)) := bb3.alloc bb3.size _
  have j4 : Blk (w3.alloc (.cells XS 32)) w3.heap.size 32 XS := blk_new _ _ _
  generalize hg5 : w3.heap.size = g5 at *
  go_wp2_with (first
    | (refine wpList_allocStore (cs := XS) rfl rfl 32 ?ho (.tmp 5) (.tmp 54) ?ho2 Try.zeroAddr ?hz ?hx ?hy ?hn ?h1 ?_
       case ho => with_reducible rfl
       case ho2 => rfl
       case hz => rfl
       case hx => rfl
       case hy => rfl
       case hn => exact z2
       case h1 => exact o2
       rw [hg5])
    | fail)
  refine (HO2.out _ bb4).mono ?_
  rintro e w4 ⟨rfl, hbw4⟩
  have k5 := k4.on hbw4
  have j5 := j4.on hbw4
  have bb5 := Below.on bb4 bb4.size hbw4
  have n5 := j5.lt
  clear k3 bb3 k4 bb4 j4 hbw4
  have k6 : Blk (w4.alloc (.cells XD 32)) w.heap.size 42 zH := k5.alloc _
  have j6 : Blk (w4.alloc (.cells XD 32)) g5 32 XS := j5.alloc _
  have bb6 : Below w.heap.size w (w4.alloc (.cells XD 32)) := bb5.alloc bb5.size _
  have m6 : Blk (w4.alloc (.cells XD 32)) w4.heap.size 32 XD := blk_new _ _ _
  have n7 := k5.lt
  generalize hg7 : w4.heap.size = g7 at *
  go_wp2_with (first
    | (refine wpList_allocStore (cs := XD) rfl rfl 32 ?ho (.tmp 7) (.tmp 60) ?ho2 Try.zeroAddr ?hz ?hx ?hy ?hn ?h1 ?_
       case ho => with_reducible rfl
       case ho2 => rfl
       case hz => rfl
       case hx => rfl
       case hy => rfl
       case hn => exact z3
       case h1 => exact o3
       rw [hg7])
    | fail)
  clear k5 j5 bb5 hg5 hg7
  generalize w4.alloc (.cells XD 32) = W1 at *
  have hS0 : Below w.heap.size w W1.drew ∧ Blk W1.drew w.heap.size 42 zH ∧ Blk W1.drew g5 32 XS ∧ Blk W1.drew g7 32 XD := ⟨bb6.drew, k6, j6, m6⟩
  clear bb6 k6 j6 m6
  refine wp_region_held_drew (S := fun W => Below w.heap.size w W ∧ (∃ hh, Blk W w.heap.size 42 hh) ∧ Blk W g5 32 XS ∧ Blk W g7 32 XD) (by kernel_rfl) ⟨hS0.1, ⟨_, hS0.2.1⟩, hS0.2.2⟩ ?_
  intro hS
  refine wpAnyH_take (i := 0) (oi := ?o1) (v := ?vo1) ?hio1 (by kernel_rfl) (by kernel_rfl) (by kernel_rfl) ?hQo1 ?hyo1 hS ?_
  case hio1 => (simp only [List.getElem?_toArray, List.getElem?_cons_succ, List.getElem?_cons_zero]; rfl)
  case hQo1 => exact fun _ _ _ h => h
  case hyo1 =>
    refine Or.inl ⟨by rfl, ?_⟩
    intro W hW
    go_simp
    first | done | with_reducible rfl
  try simp only [Act.put, List.setIfInBounds_toArray, List.set_cons_zero, List.set_cons_succ]
  refine wpAnyH_take (i := 1) (oi := ?o2) (v := ?vo2) ?hio2 (by kernel_rfl) (by kernel_rfl) (by kernel_rfl) ?hQo2 ?hyo2 hS ?_
  case hio2 => (simp only [List.getElem?_toArray, List.getElem?_cons_succ, List.getElem?_cons_zero]; rfl)
  case hQo2 => exact fun _ _ _ h => h
  case hyo2 =>
    refine Or.inl ⟨by rfl, ?_⟩
    intro W hW
    go_simp
    first | done | with_reducible rfl
  try simp only [Act.put, List.setIfInBounds_toArray, List.set_cons_zero, List.set_cons_succ]
  refine wpAnyH_take (i := 3) (oi := ?o3) (v := ?vo3) ?hio3 (by kernel_rfl) (by kernel_rfl) (by kernel_rfl) ?hQo3 ?hyo3 hS ?_
  case hio3 => (simp only [List.getElem?_toArray, List.getElem?_cons_succ, List.getElem?_cons_zero]; rfl)
  case hQo3 => exact fun _ _ _ h => h
  case hyo3 =>
    refine Or.inl ⟨by rfl, ?_⟩
    intro W hW
    go_simp
    first | done | with_reducible rfl
  try simp only [Act.put, List.setIfInBounds_toArray, List.set_cons_zero, List.set_cons_succ]
  refine wpAnyH_take (i := 4) (oi := ?o4) (v := ?vo4) ?hio4 (by kernel_rfl) (by kernel_rfl) (by kernel_rfl) ?hQo4 ?hyo4 hS ?_
  case hio4 => (simp only [List.getElem?_toArray, List.getElem?_cons_succ, List.getElem?_cons_zero]; rfl)
  case hQo4 => exact fun _ _ _ h => h
  case hyo4 =>
    refine Or.inl ⟨by rfl, ?_⟩
    intro W hW
    go_simp
    first | done | with_reducible rfl
  try simp only [Act.put, List.setIfInBounds_toArray, List.set_cons_zero, List.set_cons_succ]
  refine wpAnyH_take (i := 5) (oi := ?o5) (v := ?vo5) ?hio5 (by kernel_rfl) (by kernel_rfl) (by kernel_rfl) ?hQo5 ?hyo5 hS ?_
  case hio5 => (simp only [List.getElem?_toArray, List.getElem?_cons_succ, List.getElem?_cons_zero]; rfl)
  case hQo5 => exact fun _ _ _ h => h
  case hyo5 =>
    refine Or.inl ⟨by rfl, ?_⟩
    intro W hW
    have hcell := hc1.out W hW.1
    go_simp
    first | done | with_reducible rfl
  try simp only [Act.put, List.setIfInBounds_toArray, List.set_cons_zero, List.set_cons_succ]
  refine wpAnyH_take (i := 6) (oi := ?o6) (v := ?vo6) ?hio6 (by kernel_rfl) (by kernel_rfl) (by kernel_rfl) ?hQo6 ?hyo6 hS ?_
  case hio6 => (simp only [List.getElem?_toArray, List.getElem?_cons_succ, List.getElem?_cons_zero]; rfl)
  case hQo6 => exact fun _ _ _ h => h
  case hyo6 =>
    refine Or.inl ⟨by rfl, ?_⟩
    intro W hW
    go_simp
    first | done | with_reducible rfl
  try simp only [Act.put, List.setIfInBounds_toArray, List.set_cons_zero, List.set_cons_succ]
  refine wpAnyH_take (i := 7) (oi := ?o7) (v := ?vo7) ?hio7 (by kernel_rfl) (by kernel_rfl) (by kernel_rfl) ?hQo7 ?hyo7 hS ?_
  case hio7 => (simp only [List.getElem?_toArray, List.getElem?_cons_succ, List.getElem?_cons_zero]; rfl)
  case hQo7 => exact fun _ _ _ h => h
  case hyo7 =>
    refine Or.inl ⟨by rfl, ?_⟩
    intro W hW
    go_simp
    first | done | with_reducible rfl
  try simp only [Act.put, List.setIfInBounds_toArray, List.set_cons_zero, List.set_cons_succ]
  refine wpAnyH_take (i := 9) (oi := ?o8) (v := ?vo8) ?hio8 (by kernel_rfl) (by kernel_rfl) (by kernel_rfl) ?hQo8 ?hyo8 hS ?_
  case hio8 => (simp only [List.getElem?_toArray, List.getElem?_cons_succ, List.getElem?_cons_zero]; rfl)
  case hQo8 => exact fun _ _ _ h => h
  case hyo8 =>
    refine Or.inl ⟨by rfl, ?_⟩
    intro W hW
    go_simp
    first | done | with_reducible rfl
  try simp only [Act.put, List.setIfInBounds_toArray, List.set_cons_zero, List.set_cons_succ]
  refine wpAnyH_take (i := 10) (oi := ?o9) (v := ?vo9) ?hio9 (by kernel_rfl) (by kernel_rfl) (by kernel_rfl) ?hQo9 ?hyo9 hS ?_
  case hio9 => (simp only [List.getElem?_toArray, List.getElem?_cons_succ, List.getElem?_cons_zero]; rfl)
  case hQo9 => exact fun _ _ _ h => h
  case hyo9 =>
    refine Or.inl ⟨by rfl, ?_⟩
    intro W hW
    go_simp
    first | done | with_reducible rfl
  try simp only [Act.put, List.setIfInBounds_toArray, List.set_cons_zero, List.set_cons_succ]
  refine wpAnyH_take (i := 11) (oi := ?o10) (v := ?vo10) ?hio10 (by kernel_rfl) (by kernel_rfl) (by kernel_rfl) ?hQo10 ?hyo10 hS ?_
  case hio10 => (simp only [List.getElem?_toArray, List.getElem?_cons_succ, List.getElem?_cons_zero]; rfl)
  case hQo10 => exact fun _ _ _ h => h
  case hyo10 =>
    refine Or.inl ⟨by rfl, ?_⟩
    intro W hW
    have hcell := hc6.out W hW.1
    go_simp
    first | done | with_reducible rfl
  try simp only [Act.put, List.setIfInBounds_toArray, List.set_cons_zero, List.set_cons_succ]
  refine wpAnyH_take (i := 12) (oi := ?o11) (v := ?vo11) ?hio11 (by kernel_rfl) (by kernel_rfl) (by kernel_rfl) ?hQo11 ?hyo11 hS ?_
  case hio11 => (simp only [List.getElem?_toArray, List.getElem?_cons_succ, List.getElem?_cons_zero]; rfl)
  case hQo11 => exact fun _ _ _ h => h
  case hyo11 =>
    refine Or.inl ⟨by rfl, ?_⟩
    intro W hW
    go_simp
    first | done | with_reducible rfl
  try simp only [Act.put, List.setIfInBounds_toArray, List.set_cons_zero, List.set_cons_succ]
  refine wpAnyH_take (i := 13) (oi := ?o12) (v := ?vo12) ?hio12 (by kernel_rfl) (by kernel_rfl) (by kernel_rfl) ?hQo12 ?hyo12 hS ?_
  case hio12 => (simp only [List.getElem?_toArray, List.getElem?_cons_succ, List.getElem?_cons_zero]; rfl)
  case hQo12 => exact fun _ _ _ h => h
  case hyo12 =>
    refine Or.inl ⟨by rfl, ?_⟩
    intro W hW
    go_simp
    first | done | with_reducible rfl
  try simp only [Act.put, List.setIfInBounds_toArray, List.set_cons_zero, List.set_cons_succ]
  refine wpAnyH_take (i := 14) (oi := ?o13) (v := ?vo13) ?hio13 (by kernel_rfl) (by kernel_rfl) (by kernel_rfl) ?hQo13 ?hyo13 hS ?_
  case hio13 => (simp only [List.getElem?_toArray, List.getElem?_cons_succ, List.getElem?_cons_zero]; rfl)
  case hQo13 => exact fun _ _ _ h => h
  case hyo13 =>
    refine Or.inl ⟨by rfl, ?_⟩
    intro W hW
    go_simp
    first | done | with_reducible rfl
  try simp only [Act.put, List.setIfInBounds_toArray, List.set_cons_zero, List.set_cons_succ]
  refine wpAnyH_take (i := 17) (oi := ?o14) (v := ?vo14) ?hio14 (by kernel_rfl) (by kernel_rfl) (by kernel_rfl) ?hQo14 ?hyo14 hS ?_
  case hio14 => (simp only [List.getElem?_toArray, List.getElem?_cons_succ, List.getElem?_cons_zero]; rfl)
  case hQo14 => exact fun _ _ _ h => h
  case hyo14 =>
    refine Or.inl ⟨by rfl, ?_⟩
    intro W hW
    go_simp
    first | done | with_reducible rfl
  try simp only [Act.put, List.setIfInBounds_toArray, List.set_cons_zero, List.set_cons_succ]
  refine wpAnyH_take (i := 18) (oi := ?o15) (v := ?vo15) ?hio15 (by kernel_rfl) (by kernel_rfl) (by kernel_rfl) ?hQo15 ?hyo15 hS ?_
  case hio15 => (simp only [List.getElem?_toArray, List.getElem?_cons_succ, List.getElem?_cons_zero]; rfl)
  case hQo15 => exact fun _ _ _ h => h
  case hyo15 =>
    refine Or.inl ⟨by rfl, ?_⟩
    intro W hW
    go_simp
    first | done | with_reducible rfl
  try simp only [Act.put, List.setIfInBounds_toArray, List.set_cons_zero, List.set_cons_succ]
  refine wpAnyH_take (i := 19) (oi := ?o16) (v := ?vo16) ?hio16 (by kernel_rfl) (by kernel_rfl) (by kernel_rfl) ?hQo16 ?hyo16 hS ?_
  case hio16 => (simp only [List.getElem?_toArray, List.getElem?_cons_succ, List.getElem?_cons_zero]; rfl)
  case hQo16 => exact fun _ _ _ h => h
  case hyo16 =>
    refine Or.inl ⟨by rfl, ?_⟩
    intro W hW
    have hcell := hc8.out W hW.1
    go_simp
    first | done | with_reducible rfl
  try simp only [Act.put, List.setIfInBounds_toArray, List.set_cons_zero, List.set_cons_succ]
  refine wpAnyH_take (i := 20) (oi := ?o17) (v := ?vo17) ?hio17 (by kernel_rfl) (by kernel_rfl) (by kernel_rfl) ?hQo17 ?hyo17 hS ?_
  case hio17 => (simp only [List.getElem?_toArray, List.getElem?_cons_succ, List.getElem?_cons_zero]; rfl)
  case hQo17 => exact fun _ _ _ h => h
  case hyo17 =>
    refine Or.inl ⟨by rfl, ?_⟩
    intro W hW
    go_simp
    first | done | with_reducible rfl
  try simp only [Act.put, List.setIfInBounds_toArray, List.set_cons_zero, List.set_cons_succ]
  refine wpAnyH_take (i := 21) (oi := ?o18) (v := ?vo18) ?hio18 (by kernel_rfl) (by kernel_rfl) (by kernel_rfl) ?hQo18 ?hyo18 hS ?_
  case hio18 => (simp only [List.getElem?_toArray, List.getElem?_cons_succ, List.getElem?_cons_zero]; rfl)
  case hQo18 => exact fun _ _ _ h => h
  case hyo18 =>
    refine Or.inl ⟨by rfl, ?_⟩
    intro W hW
    go_simp
    first | done | with_reducible rfl
  try simp only [Act.put, List.setIfInBounds_toArray, List.set_cons_zero, List.set_cons_succ]
  refine wpAnyH_take (i := 22) (oi := ?o19) (v := ?vo19) ?hio19 (by kernel_rfl) (by kernel_rfl) (by kernel_rfl) ?hQo19 ?hyo19 hS ?_
  case hio19 => (simp only [List.getElem?_toArray, List.getElem?_cons_succ, List.getElem?_cons_zero]; rfl)
  case hQo19 => exact fun _ _ _ h => h
  case hyo19 =>
    refine Or.inl ⟨by rfl, ?_⟩
    intro W hW
    go_simp
    first | done | with_reducible rfl
  try simp only [Act.put, List.setIfInBounds_toArray, List.set_cons_zero, List.set_cons_succ]
  refine wpAnyH_take (i := 23) (oi := ?o20) (v := ?vo20) ?hio20 (by kernel_rfl) (by kernel_rfl) (by kernel_rfl) ?hQo20 ?hyo20 hS ?_
  case hio20 => (simp only [List.getElem?_toArray, List.getElem?_cons_succ, List.getElem?_cons_zero]; rfl)
  case hQo20 => exact fun _ _ _ h => h
  case hyo20 =>
    refine Or.inl ⟨by rfl, ?_⟩
    intro W hW
    have hcell := hc9.out W hW.1
    go_simp
    first | done | with_reducible rfl
  try simp only [Act.put, List.setIfInBounds_toArray, List.set_cons_zero, List.set_cons_succ]
  refine wpAnyH_take (i := 24) (oi := ?o21) (v := ?vo21) ?hio21 (by kernel_rfl) (by kernel_rfl) (by kernel_rfl) ?hQo21 ?hyo21 hS ?_
  case hio21 => (simp only [List.getElem?_toArray, List.getElem?_cons_succ, List.getElem?_cons_zero]; rfl)
  case hQo21 => exact fun _ _ _ h => h
  case hyo21 =>
    refine Or.inl ⟨by rfl, ?_⟩
    intro W hW
    go_simp
    first | done | with_reducible rfl
  try simp only [Act.put, List.setIfInBounds_toArray, List.set_cons_zero, List.set_cons_succ]
  refine wpAnyH_take (i := 25) (oi := ?o22) (v := .agg XS) ?hio22 (by kernel_rfl) (by kernel_rfl) (by kernel_rfl) ?hQo22 ?hyo22 hS ?_
  case hio22 => (simp only [List.getElem?_toArray, List.getElem?_cons_succ, List.getElem?_cons_zero]; rfl)
  case hQo22 => exact fun _ _ _ h => h
  case hyo22 => exact yieldsIf_load_mid (by rfl) 32 (.tmp 5) rfl g5 0 rfl XS.toList _ (fun W hW => Blk.range0 hW.2.2.1) Try.underlying32 rfl (by simpa using zi2)
  try simp only [Act.put, List.setIfInBounds_toArray, List.set_cons_zero, List.set_cons_succ]
  refine wpAnyH_take (i := 26) (oi := ?o23) (v := .agg XD) ?hio23 (by kernel_rfl) (by kernel_rfl) (by kernel_rfl) ?hQo23 ?hyo23 hS ?_
  case hio23 => (simp only [List.getElem?_toArray, List.getElem?_cons_succ, List.getElem?_cons_zero]; rfl)
  case hQo23 => exact fun _ _ _ h => h
  case hyo23 => exact yieldsIf_load_mid (by rfl) 32 (.tmp 7) rfl g7 0 rfl XD.toList _ (fun W hW => Blk.range0 hW.2.2.2) Try.underlying32 rfl (by simpa using zi3)
  try simp only [Act.put, List.setIfInBounds_toArray, List.set_cons_zero, List.set_cons_succ]
  refine wpAnyH_ready (rs := [2]) (by kernel_rfl) (by simp) ?_
  refine AllReadyH.cons (o := ?o30) ?hoo30 (fun K hK => ?ho30) AllReadyH.nil
  case hoo30 => (simp only [List.getElem?_toArray, List.getElem?_cons_succ, List.getElem?_cons_zero]; rfl)
  case ho30 =>
    go_simp
    go_at_call 121
    refine (HT2.out _ hS0.1).mono ?_
    rintro e w6 ⟨rfl, hbw6⟩
    have hSw6 : Below w.heap.size w w6 ∧ Blk w6 w.heap.size 42 zH ∧ Blk w6 g5 32 XS ∧ Blk w6 g7 32 XD := ⟨Below.on hS0.1 hS0.1.size hbw6, hS0.2.1.on hbw6, hS0.2.2.1.on hbw6, hS0.2.2.2.on hbw6⟩
    refine hK.out _ _ ⟨hSw6.1, ⟨_, hSw6.2.1⟩, hSw6.2.2⟩ (fun hS => ?_)
    clear hK K hbw6
    try simp only [Act.put, List.setIfInBounds_toArray, List.set_cons_zero, List.set_cons_succ]
    refine wpAnyH_ready (rs := [8]) (by kernel_rfl) (by simp) ?_
    refine AllReadyH.cons (o := ?o29) ?hoo29 (fun K hK => ?ho29) AllReadyH.nil
    case hoo29 => (simp only [List.getElem?_toArray, List.getElem?_cons_succ, List.getElem?_cons_zero]; rfl)
    case ho29 =>
      go_simp
      go_at_call 121
      refine (HT4.out _ hSw6.1).mono ?_
      rintro e w7 ⟨rfl, hbw7⟩
      have hSw7 : Below w.heap.size w w7 ∧ Blk w7 w.heap.size 42 zH ∧ Blk w7 g5 32 XS ∧ Blk w7 g7 32 XD := ⟨Below.on hSw6.1 hSw6.1.size hbw7, hSw6.2.1.on hbw7, hSw6.2.2.1.on hbw7, hSw6.2.2.2.on hbw7⟩
      refine hK.out _ _ ⟨hSw7.1, ⟨_, hSw7.2.1⟩, hSw7.2.2⟩ (fun hS => ?_)
      clear hK K hbw7
      try simp only [Act.put, List.setIfInBounds_toArray, List.set_cons_zero, List.set_cons_succ]
      refine wpAnyH_ready (rs := [15]) (by kernel_rfl) (by simp) ?_
      refine AllReadyH.cons (o := ?o28) ?hoo28 (fun K hK => ?ho28) AllReadyH.nil
      case hoo28 => (simp only [List.getElem?_toArray, List.getElem?_cons_succ, List.getElem?_cons_zero]; rfl)
      case ho28 =>
        go_simp
        go_at_call 121
        refine (HT6.out _ hSw7.1).mono ?_
        rintro e w8 ⟨rfl, hbw8⟩
        have hSw8 : Below w.heap.size w w8 ∧ Blk w8 w.heap.size 42 zH ∧ Blk w8 g5 32 XS ∧ Blk w8 g7 32 XD := ⟨Below.on hSw7.1 hSw7.1.size hbw8, hSw7.2.1.on hbw8, hSw7.2.2.1.on hbw8, hSw7.2.2.2.on hbw8⟩
        refine hK.out _ _ ⟨hSw8.1, ⟨_, hSw8.2.1⟩, hSw8.2.2⟩ (fun hS => ?_)
        clear hK K hbw8
        try simp only [Act.put, List.setIfInBounds_toArray, List.set_cons_zero, List.set_cons_succ]
        refine wpAnyH_take (i := 16) (oi := ?o25) (v := ?vo25) ?hio25 (by kernel_rfl) (by kernel_rfl) (by kernel_rfl) ?hQo25 ?hyo25 hS ?_
        case hio25 => (simp only [List.getElem?_toArray, List.getElem?_cons_succ, List.getElem?_cons_zero]; rfl)
        case hQo25 => exact fun _ _ _ h => h
        case hyo25 =>
          refine Or.inl ⟨by rfl, ?_⟩
          intro W hW
          go_simp
          first | done | with_reducible rfl
        try simp only [Act.put, List.setIfInBounds_toArray, List.set_cons_zero, List.set_cons_succ]
        refine wpAnyH_take (i := 27) (oi := ?o26) (v := .agg (hdv [((4 : Nat) : Int), (S : Int), (T : Int), (x1 : Int), (I : Int), (F : Int), (G : Int), (x8 : Int), (x9 : Int)] XS XD)) ?hio26 (by kernel_rfl) (by kernel_rfl) (by kernel_rfl) ?hQo26 ?hyo26 hS ?_
        case hio26 => (simp only [List.getElem?_toArray, List.getElem?_cons_succ, List.getElem?_cons_zero]; rfl)
        case hQo26 => exact fun _ _ _ h => h
        case hyo26 =>
          refine Or.inl ⟨by rfl, ?_⟩
          intro W hW
          have e1 := HX.out
          have e2 := HY.out
          clear hW
          rw [← e1, ← e2]
          change _ = _
          kernel_rfl
        try simp only [Act.put, List.setIfInBounds_toArray, List.set_cons_zero, List.set_cons_succ]
        refine wpAnyH_ready (rs := [28]) (by kernel_rfl) (by simp) ?_
        refine AllReadyH.cons (o := ?o27) ?hoo27 (fun K hK => ?ho27) AllReadyH.nil
        case hoo27 => (simp only [List.getElem?_toArray, List.getElem?_cons_succ, List.getElem?_cons_zero]; rfl)
        case ho27 =>
          refine step_storeBlk (g := w.heap.size) (t := 42) (cs := hdv [((4 : Nat) : Int), (S : Int), (T : Int), (x1 : Int), (I : Int), (F : Int), (G : Int), (x8 : Int), (x9 : Int)] XS XD) rfl 42 (.tmp 2) (.tmp 89) rfl rfl rfl zH hSw8.2.1 ?hi ?hs ?h1 ?_
          case hi => rw [hdv_size _ _ _ rfl z2 z3]; exact Try.infoHead
          case hs => rw [hdv_size _ _ _ rfl z2 z3]; exact zH_size
          case h1 => exact o1
          intro w9 kb hg9
          have b9' : Below w.heap.size w w9 := hSw8.1.grown hg9 hSw8.1.size (fun k hk => by injection hk with hk; omega)
          have hS9 : Below w.heap.size w w9 ∧ (∃ hh, Blk w9 w.heap.size 42 hh) ∧ Blk w9 g5 32 XS ∧ Blk w9 g7 32 XD := ⟨b9', ⟨_, kb⟩, hSw8.2.2.1.grown hg9 (by omega), hSw8.2.2.2.grown hg9 (by omega)⟩
          refine hK.out _ _ hS9 (fun hS => ?_)
          clear hK K
          try simp only [Act.put, List.setIfInBounds_toArray, List.set_cons_zero, List.set_cons_succ]
          refine wpAnyH_take (i := 29) (oi := ?o24) (v := .int .i64 0) ?hio24 (by kernel_rfl) (by kernel_rfl) (by kernel_rfl) ?hQo24 ?hyo24 hS9 ?_
          case hio24 => (simp only [List.getElem?_toArray, List.getElem?_cons_succ, List.getElem?_cons_zero]; rfl)
          case hQo24 => exact fun _ _ _ h => h
          case hyo24 => exact Or.inl ⟨by rfl, fun W hW => by go_simp⟩
          try simp only [Act.put, List.setIfInBounds_toArray, List.set_cons_zero, List.set_cons_succ]
          refine wpAnyH_done (by kernel_rfl) ?_ _
          go_wp2_with fail
          refine bodyPost_blk2 rfl _ rfl kb Try.underlying42 rfl (by rw [hdv_size _ _ _ rfl z2 z3]; exact Try.infoHead) rfl ?_
          exact ⟨by rw [HP.out, HE.out]; rfl, b9'⟩

end Go.Proofs.Ytkokgoodpibboaa
