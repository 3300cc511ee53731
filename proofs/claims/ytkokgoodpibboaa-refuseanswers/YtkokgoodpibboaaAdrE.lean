
/- Contracts: ipfour.Put where it puts. -/
import Derived.Test.YtkokgoodpibboaaAdrD
import Derived.Test.YtkokgoodpibboaaCatP
import Derived.Test.YtkokgoodpibboaaEndE
import Derived.Test.YtkokgoodpibboaaMsgA
import Derived.Deep.RegionHeld
namespace Go.Proofs.Ytkokgoodpibboaa
open Go.RowKit
set_option maxRecDepth 100000
set_option linter.unusedSimpArgs false
set_option linter.unusedVariables false

/-- Parts, in a list of their own. -/
theorem partsN (w : World) (L : List Part) (h : ∀ p ∈ L, Shows w w.heap.size p.A p.n p.l) :
    Parts (w.alloc (.cells (L.map pv).toArray 43)) (w.alloc (.cells (L.map pv).toArray 43)).heap.size (some ⟨w.heap.size, 0, none⟩) L.length L :=
  ⟨sh_new pv 43 w (L.map pv).toArray L rfl, fun p hp => ((h p hp).alloc (Nat.le_refl _) _).up (by simp)⟩

/-- The first eight bytes of a head, as one number. -/
def firstN (C n I F G : Nat) : Nat := 4971973988617027584 + C * 281474976710656 + (20 + n) * 4294967296 + I * 65536 + F * 8192 + G
/-- The next four, the check still 0. -/
def secondN (L P : Nat) : Nat := L * 16777216 + P * 65536

theorem or_56 (x y : Nat) (hx : x % 72057594037927936 = 0) (hy : y < 72057594037927936) (h : x + y < 18446744073709551616) : bits .or .u64 (x : Int) (y : Int) = ((x + y : Nat) : Int) := by rw [u64_or_nat _ _ (by omega) (by omega), nat_join56 x y hx hy]
theorem or_48 (x y : Nat) (hx : x % 281474976710656 = 0) (hy : y < 281474976710656) (h : x + y < 18446744073709551616) : bits .or .u64 (x : Int) (y : Int) = ((x + y : Nat) : Int) := by rw [u64_or_nat _ _ (by omega) (by omega), nat_join48 x y hx hy]
theorem or_32 (x y : Nat) (hx : x % 4294967296 = 0) (hy : y < 4294967296) (h : x + y < 18446744073709551616) : bits .or .u64 (x : Int) (y : Int) = ((x + y : Nat) : Int) := by rw [u64_or_nat _ _ (by omega) (by omega), nat_join32 x y hx hy]
theorem or_24 (x y : Nat) (hx : x % 16777216 = 0) (hy : y < 16777216) (h : x + y < 18446744073709551616) : bits .or .u64 (x : Int) (y : Int) = ((x + y : Nat) : Int) := by rw [u64_or_nat _ _ (by omega) (by omega), nat_join24 x y hx hy]
theorem or_16 (x y : Nat) (hx : x % 65536 = 0) (hy : y < 65536) (h : x + y < 18446744073709551616) : bits .or .u64 (x : Int) (y : Int) = ((x + y : Nat) : Int) := by rw [u64_or_nat _ _ (by omega) (by omega), nat_join16 x y hx hy]
theorem or_13 (x y : Nat) (hx : x % 8192 = 0) (hy : y < 8192) (h : x + y < 18446744073709551616) : bits .or .u64 (x : Int) (y : Int) = ((x + y : Nat) : Int) := by rw [u64_or_nat _ _ (by omega) (by omega), nat_join13 x y hx hy]

theorem first_or (C n I F G : Nat) (hn : n ≤ 65515) (bC : C < 256) (bI : I < 65536) (bF : F < 8) (bG : G < 8192) :
    bits .or .u64 (bits .or .u64 (bits .or .u64 (bits .or .u64 (bits .or .u64 4971973988617027584 ((C : Int) * 281474976710656)) ((20 + (n : Int)) * 4294967296)) ((I : Int) * 65536)) ((F : Int) * 8192)) (G : Int) = ((firstN C n I F G : Nat) : Int) := by
  have e1 : bits .or .u64 4971973988617027584 ((C : Int) * 281474976710656) = ((4971973988617027584 + C * 281474976710656 : Nat) : Int) := by
    have := or_56 4971973988617027584 (C * 281474976710656) (by omega) (by omega) (by omega)
    simpa using this
  rw [e1, show (20 + (n : Int)) * 4294967296 = (((20 + n) * 4294967296 : Nat) : Int) by omega, or_48 _ _ (by omega) (by omega) (by omega),
    show (I : Int) * 65536 = ((I * 65536 : Nat) : Int) by omega, or_32 _ _ (by omega) (by omega) (by omega),
    show (F : Int) * 8192 = ((F * 8192 : Nat) : Int) by omega, or_16 _ _ (by omega) (by omega) (by omega), or_13 _ _ (by omega) (by omega) (by omega)]
  rfl
theorem first_lt (C n I F G : Nat) (hn : n ≤ 65515) (bC : C < 256) (bI : I < 65536) (bF : F < 8) (bG : G < 8192) : firstN C n I F G ≤ 18446744073709551615 := by unfold firstN; omega
theorem second_or (L P : Nat) (bL : L < 256) (bP : P < 256) : bits .or .u64 ((L : Int) * 16777216) ((P : Int) * 65536) = ((secondN L P : Nat) : Int) := by
  rw [show (L : Int) * 16777216 = ((L * 16777216 : Nat) : Int) by omega, show (P : Int) * 65536 = ((P * 65536 : Nat) : Int) by omega, or_24 _ _ (by omega) (by omega) (by omega)]
  rfl

theorem sizeA_4 (l : List UInt8) (h : okA 4 l = true) : sizeA 4 l = 4 := by simp [sizeA, h]

/-- The packet that is put: the check, then all. -/
def ckN (LF LM s d : List UInt8) : Nat := 65535 - osum (LF ++ (LM ++ (s ++ d)))
def pkt (C I F G L P : Nat) (s d body : List UInt8) : List UInt8 :=
  (leBytes (firstN C body.length I F G) 8).reverse ++ ((leBytes (secondN L P + ckN (leBytes (firstN C body.length I F G) 8).reverse (leBytes (secondN L P) 4).reverse s d) 4).reverse ++ (s ++ (d ++ body)))

set_option maxHeartbeats 4000000 in
theorem put_in (V S T : Int) (C I F G L P : Nat) (l l' : List UInt8) (hl : l.length = 16) (hl' : l'.length = 16) (A : Option Addr) (n cb : Nat) (bl : List UInt8) (w : World) (hn : n ≤ 65515) (hs : Shows w w.heap.size A n bl)
    (bC : C < 256) (bI : I < 65536) (bF : F < 8) (bG : G < 8192) (bL : L < 256) (bP : P < 256) (hok : okA 4 l = true) (hok' : okA 4 l' = true) :
    Calls Try.prog 24 #[.agg (hdv [V, S, T, C, I, F, G, L, P] (adv 4 l) (adv 4 l')), .slice A n cb] w fun e w' =>
      ∃ x, e = .returned (.tuple #[x, .int .i64 0]) ∧ Own w' w.heap.size x (20 + n) (pkt C I F G L P (l.take 4) (l'.take 4) bl) ∧ Below w.heap.size w w' := by
  have k0 : Blk (w.alloc (.cells (hdv [V, S, T, C, I, F, G, L, P] (adv 4 l) (adv 4 l')) 42)) w.heap.size 42 (hdv [V, S, T, C, I, F, G, L, P] (adv 4 l) (adv 4 l')) := blk_new _ _ _
  have hb0 : Below w.heap.size w (w.alloc (.cells (hdv [V, S, T, C, I, F, G, L, P] (adv 4 l) (adv 4 l')) 42)) := (Below.refl _ _).alloc (Nat.le_refl _) _
  have c3 := hdv_num [V, S, T, C, I, F, G, L, P] (adv 4 l) (adv 4 l') 3 C rfl
  have c4 := hdv_num [V, S, T, C, I, F, G, L, P] (adv 4 l) (adv 4 l') 4 I rfl
  have c5 := hdv_num [V, S, T, C, I, F, G, L, P] (adv 4 l) (adv 4 l') 5 F rfl
  have c6 := hdv_num [V, S, T, C, I, F, G, L, P] (adv 4 l) (adv 4 l') 6 G rfl
  have c7 := hdv_num [V, S, T, C, I, F, G, L, P] (adv 4 l) (adv 4 l') 7 L rfl
  have c8 := hdv_num [V, S, T, C, I, F, G, L, P] (adv 4 l) (adv 4 l') 8 P rfl
  have z0 : (Try.prog.info? 42).map (·.size) = some (hdv [V, S, T, C, I, F, G, L, P] (adv 4 l) (adv 4 l')).size := by rw [hdv_size _ _ _ rfl (adv_size 4 l hl) (adv_size 4 l' hl')]; exact Try.infoHead
  have R1 := fun (W : World) (h : Blk W w.heap.size 42 (hdv [V, S, T, C, I, F, G, L, P] (adv 4 l) (adv 4 l'))) => hdv_src (by rfl) h
  have R2 := fun (W : World) (h : Blk W w.heap.size 42 (hdv [V, S, T, C, I, F, G, L, P] (adv 4 l) (adv 4 l'))) => hdv_dst (by rfl) (adv_size 4 l hl) h
  have z1 := Adr_size 4 l hl
  have z2 := Adr_size 4 l' hl'
  have HF := Lib.hid (fun W => fits_in V S T C I F G L P 4 4 l l' hl hl' W bC bI bF bG bL bP)
  rw [hok, hok'] at HF
  have HS := Lib.hid (fun W => abytes_any 4 l hl W)
  have HD := Lib.hid (fun W => abytes_any 4 l' hl' W)
  rw [sizeA_4 l hok] at HS
  rw [sizeA_4 l' hok'] at HD
  have hni : (n : Int) ≤ 65515 := by omega
  have iC : (C : Int) ≤ 255 := by omega
  have iI : (I : Int) ≤ 65535 := by omega
  have iF : (F : Int) ≤ 7 := by omega
  have iG : (G : Int) ≤ 8191 := by omega
  have iL : (L : Int) ≤ 255 := by omega
  have iP : (P : Int) ≤ 255 := by omega
  have hbl := hs.len
  have efirst := first_or C n I F G hn bC bI bF bG
  have lfirst := first_lt C n I F G hn bC bI bF bG
  have esec := second_or L P bL bP
  have lsec : secondN L P ≤ 4294901760 := by unfold secondN; omega
  have msec : secondN L P % 65536 = 0 := by unfold secondN; omega
  have hpk : pkt C I F G L P (l.take 4) (l'.take 4) bl = (leBytes (firstN C n I F G) 8).reverse ++ ((leBytes (secondN L P + ckN (leBytes (firstN C n I F G) 8).reverse (leBytes (secondN L P) 4).reverse (l.take 4) (l'.take 4)) 4).reverse ++ (l.take 4 ++ (l'.take 4 ++ bl))) := by rw [pkt, hbl]
  rw [hpk]
  generalize hdv [V, S, T, C, I, F, G, L, P] (adv 4 l) (adv 4 l') = M at *
  generalize adv 4 l = s at *
  generalize adv 4 l' = d at *
  have hl4 : (l.take 4).length = 4 := by simp; omega
  have hl4' : (l'.take 4).length = 4 := by simp; omega
  generalize l.take 4 = l4 at *
  generalize l'.take 4 = d4 at *
  generalize firstN C n I F G = N1 at *
  generalize secondN L P = N2 at *
  clear hok hok' hl hl' bC bI bF bG bL bP hpk
  go_enter Try.func24, Try.ntmps24
  go_wp2_with (first
    | (refine wpList_loadBlk (g := w.heap.size) (t := 42) (cs := M) rfl 42 (.tmp 2) ?ho ?hx ?hA _ Try.underlying42 rfl ?hi ?_
       case ho => with_reducible rfl
       case hx => rfl
       case hA => exact k0
       case hi => exact z0)
    | fail)
  refine (HF.out _).mono ?_
  rintro e w1 ⟨rfl, hb1⟩
  have k1 := k0.on hb1
  have b1 := Below.on hb0 hb0.size hb1
  have d3 := (k1.cellA 3).trans c3
  have d4' := (k1.cellA 4).trans c4
  have d5 := (k1.cellA 5).trans c5
  have d6 := (k1.cellA 6).trans c6
  have d7 := (k1.cellA 7).trans c7
  have d8 := (k1.cellA 8).trans c8
  clear k0 hb0 hb1 c3 c4 c5 c6 c7 c8
  go_wp2_with fail
  clear efirst esec d3 d4' d5 d6 d7 d8
  refine (big_ok N1 8 w1 (by omega) (by omega) (by rw [show ones (8 * ((8 : Nat) : Int)) = 18446744073709551615 by rw [ones_256 8 (by omega)]]; omega)).mono ?_
  rintro e w2 ⟨rfl, ho2, hb2⟩
  have k2 := k1.on hb2
  have b2 := Below.on b1 b1.size hb2
  have f2 := ho2.shown
  clear k1 b1 hb2 ho2
  generalize w1.heap.size = g1 at *
  go_wp2_with fail
  refine (big_ok N2 4 w2 (by omega) (by omega) (by rw [show ones (8 * ((4 : Nat) : Int)) = 4294967295 by rw [ones_256 4 (by omega)]]; omega)).mono ?_
  rintro e w3 ⟨rfl, ho3, hb3⟩
  have q3' := k2.on hb3
  have q3 : Blk w3.drew w.heap.size 42 M := q3'
  clear q3'
  have qb : Below w.heap.size w w3.drew := (Below.on b2 b2.size hb3).drew
  have qf' := (f2.below hb3).up hb3.size
  have qf : Shows w3.drew w3.drew.heap.size (some ⟨g1, 0, none⟩) 8 (leBytes N1 8).reverse := qf'
  clear qf'
  have qm : Shows w3.drew w3.drew.heap.size (some ⟨w2.heap.size, 0, none⟩) 4 (leBytes N2 4).reverse := ho3.shown
  have qB : Shows w3.drew w3.drew.heap.size A n bl := (hs.below qb).up qb.size
  clear k2 b2 f2 hb3 ho3 hs
  generalize w2.heap.size = g2 at *
  go_wp2_with fail
  refine wp_region_held_drew (S := fun W => Blk W w.heap.size 42 M) (by kernel_rfl) q3 ?_
  intro hS
  refine wpAnyH_take (i := 0) (oi := ?o1) (v := .pointer (some ⟨w.heap.size, 9, none⟩)) ?hio1 (by kernel_rfl) (by kernel_rfl) (by kernel_rfl) ?hQo1 ?hyo1 hS ?_
  case hio1 => (simp only [List.getElem?_toArray, List.getElem?_cons_succ, List.getElem?_cons_zero]; rfl)
  case hQo1 => exact fun _ _ _ h => h
  case hyo1 => exact Or.inl ⟨by rfl, fun W hW => by go_simp⟩
  try simp only [Act.put, List.setIfInBounds_toArray, List.set_cons_zero, List.set_cons_succ]
  refine wpAnyH_take (i := 3) (oi := ?o2) (v := .pointer (some ⟨w.heap.size, 26, none⟩)) ?hio2 (by kernel_rfl) (by kernel_rfl) (by kernel_rfl) ?hQo2 ?hyo2 hS ?_
  case hio2 => (simp only [List.getElem?_toArray, List.getElem?_cons_succ, List.getElem?_cons_zero]; rfl)
  case hQo2 => exact fun _ _ _ h => h
  case hyo2 => exact Or.inl ⟨by rfl, fun W hW => by go_simp⟩
  try simp only [Act.put, List.setIfInBounds_toArray, List.set_cons_zero, List.set_cons_succ]
  refine wpAnyH_take (i := 1) (oi := ?o3) (v := .agg s) ?hio3 (by kernel_rfl) (by kernel_rfl) (by kernel_rfl) ?hQo3 ?hyo3 hS ?_
  case hio3 => (simp only [List.getElem?_toArray, List.getElem?_cons_succ, List.getElem?_cons_zero]; rfl)
  case hQo3 => exact fun _ _ _ h => h
  case hyo3 => exact yieldsIf_load_mid (by rfl) 32 (.tmp 65) rfl w.heap.size 9 rfl s.toList _ (fun W hW => R1 W hW) Try.underlying32 rfl (by simpa using z1)
  try simp only [Act.put, List.setIfInBounds_toArray, List.set_cons_zero, List.set_cons_succ]
  refine wpAnyH_take (i := 4) (oi := ?o4) (v := .agg d) ?hio4 (by kernel_rfl) (by kernel_rfl) (by kernel_rfl) ?hQo4 ?hyo4 hS ?_
  case hio4 => (simp only [List.getElem?_toArray, List.getElem?_cons_succ, List.getElem?_cons_zero]; rfl)
  case hQo4 => exact fun _ _ _ h => h
  case hyo4 => exact yieldsIf_load_mid (by rfl) 32 (.tmp 68) rfl w.heap.size 26 rfl d.toList _ (fun W hW => R2 W hW) Try.underlying32 rfl (by simpa using z2)
  try simp only [Act.put, List.setIfInBounds_toArray, List.set_cons_zero, List.set_cons_succ]
  clear R1 R2 z0 z1 z2
  refine wpAnyH_ready (rs := [2]) (by kernel_rfl) (by simp) ?_
  refine AllReadyH.cons (o := ?o8) ?hoo8 (fun K hK => ?ho8) AllReadyH.nil
  case hoo8 => (simp only [List.getElem?_toArray, List.getElem?_cons_succ, List.getElem?_cons_zero]; rfl)
  case ho8 =>
    go_simp
    go_at_call 69
    with_reducible refine (HS.out _).mono ?_
    rintro e w5 ⟨xS, rfl, hoxS, hbw5⟩
    obtain ⟨aS, cS, rfl, hcxS, sS1⟩ := hoxS.at_some (by omega)
    have f5 := (qf.below hbw5).up hbw5.size
    have m5 := (qm.below hbw5).up hbw5.size
    have B5 := (qB.below hbw5).up hbw5.size
    have b5 := Below.on qb qb.size hbw5
    have q5 := q3.on hbw5
    clear hoxS hbw5
    refine hK.out _ _ q5 (fun hS5 => ?_)
    clear hK K hS5
    try simp only [Act.put, List.setIfInBounds_toArray, List.set_cons_zero, List.set_cons_succ]
    refine wpAnyH_ready (rs := [5]) (by kernel_rfl) (by simp) ?_
    refine AllReadyH.cons (o := ?o7) ?hoo7 (fun K hK => ?ho7) AllReadyH.nil
    case hoo7 => (simp only [List.getElem?_toArray, List.getElem?_cons_succ, List.getElem?_cons_zero]; rfl)
    case ho7 =>
      go_simp
      go_at_call 69
      with_reducible refine (HD.out _).mono ?_
      rintro e w6 ⟨xD, rfl, hoxD, hbw6⟩
      obtain ⟨aD, cD, rfl, hcxD, sD⟩ := hoxD.at_some (by omega)
      have sF := (f5.below hbw6).up hbw6.size
      have sM := (m5.below hbw6).up hbw6.size
      have sB := (B5.below hbw6).up hbw6.size
      have sS := (sS1.below hbw6).up hbw6.size
      have b6 := Below.on b5 b5.size hbw6
      have q6 := q5.on hbw6
      clear hoxD hbw6 f5 m5 B5 sS1
      refine hK.out _ _ q6 (fun hS2 => ?_)
      clear hK K hS2
      try simp only [Act.put, List.setIfInBounds_toArray, List.set_cons_zero, List.set_cons_succ]
      refine wpAnyH_take (i := 6) (oi := ?o5) (v := .slice (some aS) 4 cS) ?hio5 (by kernel_rfl) (by kernel_rfl) (by kernel_rfl) ?hQo5 ?hyo5 q6 ?_
      case hio5 => (simp only [List.getElem?_toArray, List.getElem?_cons_succ, List.getElem?_cons_zero]; rfl)
      case hQo5 => exact fun _ _ _ h => h
      case hyo5 => exact Or.inl ⟨by rfl, fun W hW => by go_simp⟩
      try simp only [Act.put, List.setIfInBounds_toArray, List.set_cons_zero, List.set_cons_succ]
      refine wpAnyH_take (i := 7) (oi := ?o6) (v := .slice (some aD) 4 cD) ?hio6 (by kernel_rfl) (by kernel_rfl) (by kernel_rfl) ?hQo6 ?hyo6 q6 ?_
      case hio6 => (simp only [List.getElem?_toArray, List.getElem?_cons_succ, List.getElem?_cons_zero]; rfl)
      case hQo6 => exact fun _ _ _ h => h
      case hyo6 => exact Or.inl ⟨by rfl, fun W hW => by go_simp⟩
      try simp only [Act.put, List.setIfInBounds_toArray, List.set_cons_zero, List.set_cons_succ]
      refine wpAnyH_done (by kernel_rfl) ?_ _
      clear q5 q6 hS HS HD HF qb qf qm qB b5 q3
      have hlF : (leBytes N1 8).reverse.length = 8 := sF.len
      have hlM : (leBytes N2 4).reverse.length = 4 := sM.len
      generalize hhLF : (leBytes N1 8).reverse = LF at *
      have HHLF := Lib.hid hhLF
      clear hhLF
      generalize hhLM : (leBytes N2 4).reverse = LM at *
      have HHLM := Lib.hid hhLM
      clear hhLM
      have P4 : Parts (w6.alloc (.cells #[.slice (some ⟨g1, 0, none⟩) 8 8, .slice (some ⟨g2, 0, none⟩) 4 4, .slice (some aS) 4 cS, .slice (some aD) 4 cD] 43)) (w6.alloc (.cells #[.slice (some ⟨g1, 0, none⟩) 8 8, .slice (some ⟨g2, 0, none⟩) 4 4, .slice (some aS) 4 cS, .slice (some aD) 4 cD] 43)).heap.size (some ⟨w6.heap.size, 0, none⟩) 4 [⟨some ⟨g1, 0, none⟩, 8, 8, LF⟩, ⟨some ⟨g2, 0, none⟩, 4, 4, LM⟩, ⟨some aS, 4, cS, l4⟩, ⟨some aD, 4, cD, d4⟩] := partsN w6 [⟨some ⟨g1, 0, none⟩, 8, 8, LF⟩, ⟨some ⟨g2, 0, none⟩, 4, 4, LM⟩, ⟨some aS, 4, cS, l4⟩, ⟨some aD, 4, cD, d4⟩] (by
        intro p hp
        simp only [List.mem_cons, List.not_mem_nil, or_false] at hp
        rcases hp with rfl | rfl | rfl | rfl
        · exact sF
        · exact sM
        · exact sS
        · exact sD)
      have j4 : joinP [⟨some ⟨g1, 0, none⟩, 8, 8, LF⟩, ⟨some ⟨g2, 0, none⟩, 4, 4, LM⟩, ⟨some aS, 4, cS, l4⟩, ⟨some aD, 4, cD, d4⟩] = LF ++ (LM ++ (l4 ++ d4)) := by simp [joinP]
      have HC := Lib.hid (sumCheck_any (some ⟨w6.heap.size, 0, none⟩) 4 4 [⟨some ⟨g1, 0, none⟩, 8, 8, LF⟩, ⟨some ⟨g2, 0, none⟩, 4, 4, LM⟩, ⟨some aS, 4, cS, l4⟩, ⟨some aD, 4, cD, d4⟩] _ (by omega) (by rw [j4]; simp [hlF, hlM, hl4, hl4']) P4)
      rw [j4] at HC
      have hck : 65535 - osum (LF ++ (LM ++ (l4 ++ d4))) = ckN LF LM l4 d4 := rfl
      have lck : ckN LF LM l4 d4 ≤ 65535 := by unfold ckN; omega
      rw [hck] at HC
      generalize hhck : ckN LF LM l4 d4 = ck at *
      have HHck := Lib.hid hhck
      clear hhck
      have ick : (ck : Int) ≤ 65535 := by omega
      have ek := or_16 N2 ck msec (by omega) (by omega)
      have lN3 : N2 + ck ≤ 4294967295 := by omega
      generalize hhN3 : N2 + ck = N3 at *
      have HHN3 := Lib.hid hhN3
      clear hhN3
      have tF := (sF.alloc (Nat.le_refl _) (.cells #[.slice (some ⟨g1, 0, none⟩) 8 8, .slice (some ⟨g2, 0, none⟩) 4 4, .slice (some aS) 4 cS, .slice (some aD) 4 cD] 43)).up (by simp : w6.heap.size ≤ (w6.alloc (.cells #[.slice (some ⟨g1, 0, none⟩) 8 8, .slice (some ⟨g2, 0, none⟩) 4 4, .slice (some aS) 4 cS, .slice (some aD) 4 cD] 43)).heap.size)
      have tS := (sS.alloc (Nat.le_refl _) (.cells #[.slice (some ⟨g1, 0, none⟩) 8 8, .slice (some ⟨g2, 0, none⟩) 4 4, .slice (some aS) 4 cS, .slice (some aD) 4 cD] 43)).up (by simp : w6.heap.size ≤ (w6.alloc (.cells #[.slice (some ⟨g1, 0, none⟩) 8 8, .slice (some ⟨g2, 0, none⟩) 4 4, .slice (some aS) 4 cS, .slice (some aD) 4 cD] 43)).heap.size)
      have tD := (sD.alloc (Nat.le_refl _) (.cells #[.slice (some ⟨g1, 0, none⟩) 8 8, .slice (some ⟨g2, 0, none⟩) 4 4, .slice (some aS) 4 cS, .slice (some aD) 4 cD] 43)).up (by simp : w6.heap.size ≤ (w6.alloc (.cells #[.slice (some ⟨g1, 0, none⟩) 8 8, .slice (some ⟨g2, 0, none⟩) 4 4, .slice (some aS) 4 cS, .slice (some aD) 4 cD] 43)).heap.size)
      have tB := (sB.alloc (Nat.le_refl _) (.cells #[.slice (some ⟨g1, 0, none⟩) 8 8, .slice (some ⟨g2, 0, none⟩) 4 4, .slice (some aS) 4 cS, .slice (some aD) 4 cD] 43)).up (by simp : w6.heap.size ≤ (w6.alloc (.cells #[.slice (some ⟨g1, 0, none⟩) 8 8, .slice (some ⟨g2, 0, none⟩) 4 4, .slice (some aS) 4 cS, .slice (some aD) 4 cD] 43)).heap.size)
      have b7 := b6.alloc b6.size (.cells #[.slice (some ⟨g1, 0, none⟩) 8 8, .slice (some ⟨g2, 0, none⟩) 4 4, .slice (some aS) 4 cS, .slice (some aD) 4 cD] 43)
      clear sF sS sD sB sM b6 P4 j4 hck
      go_wp2_with fail
      refine HC.out.mono ?_
      rintro e w7 ⟨rfl, hw7⟩
      rw [hw7] at tF tS tD tB b7
      clear hw7 HC
      go_wp2_with fail
      refine (big_ok N3 4 w7 (by omega) (by omega) (by rw [show ones (8 * ((4 : Nat) : Int)) = 4294967295 by rw [ones_256 4 (by omega)]]; omega)).mono ?_
      rintro e w8 ⟨rfl, ho8, hb8⟩
      have uF := (tF.below hb8).up hb8.size
      have uS := (tS.below hb8).up hb8.size
      have uD := (tD.below hb8).up hb8.size
      have uB := (tB.below hb8).up hb8.size
      have uN := ho8.shown
      have b8 := Below.on b7 b7.size hb8
      have hlN : (leBytes N3 4).reverse.length = 4 := uN.len
      generalize hhLN : (leBytes N3 4).reverse = LN at *
      have HHLN := Lib.hid hhLN
      clear hhLN
      generalize w7.heap.size = g3 at *
      clear tF tS tD tB b7 hb8 ho8 ek
      have P5 : Parts (w8.alloc (.cells #[.slice (some ⟨g1, 0, none⟩) 8 8, .slice (some ⟨g3, 0, none⟩) 4 4, .slice (some aS) 4 cS, .slice (some aD) 4 cD, .slice A n cb] 43)) (w8.alloc (.cells #[.slice (some ⟨g1, 0, none⟩) 8 8, .slice (some ⟨g3, 0, none⟩) 4 4, .slice (some aS) 4 cS, .slice (some aD) 4 cD, .slice A n cb] 43)).heap.size (some ⟨w8.heap.size, 0, none⟩) 5 [⟨some ⟨g1, 0, none⟩, 8, 8, LF⟩, ⟨some ⟨g3, 0, none⟩, 4, 4, LN⟩, ⟨some aS, 4, cS, l4⟩, ⟨some aD, 4, cD, d4⟩, ⟨A, n, cb, bl⟩] := partsN w8 [⟨some ⟨g1, 0, none⟩, 8, 8, LF⟩, ⟨some ⟨g3, 0, none⟩, 4, 4, LN⟩, ⟨some aS, 4, cS, l4⟩, ⟨some aD, 4, cD, d4⟩, ⟨A, n, cb, bl⟩] (by
        intro p hp
        simp only [List.mem_cons, List.not_mem_nil, or_false] at hp
        rcases hp with rfl | rfl | rfl | rfl | rfl
        · exact uF
        · exact uN
        · exact uS
        · exact uD
        · exact uB)
      have j5 : joinP [⟨some ⟨g1, 0, none⟩, 8, 8, LF⟩, ⟨some ⟨g3, 0, none⟩, 4, 4, LN⟩, ⟨some aS, 4, cS, l4⟩, ⟨some aD, 4, cD, d4⟩, ⟨A, n, cb, bl⟩] = LF ++ (LN ++ (l4 ++ (d4 ++ bl))) := by simp [joinP]
      have n5 : (LF ++ (LN ++ (l4 ++ (d4 ++ bl)))).length = 20 + n := by simp [hlF, hlN, hl4, hl4', hbl]; omega
      have HC := Lib.hid (concatP_any (some ⟨w8.heap.size, 0, none⟩) 5 5 [⟨some ⟨g1, 0, none⟩, 8, 8, LF⟩, ⟨some ⟨g3, 0, none⟩, 4, 4, LN⟩, ⟨some aS, 4, cS, l4⟩, ⟨some aD, 4, cD, d4⟩, ⟨A, n, cb, bl⟩] _ (by omega) P5 (by rw [j5, n5]; omega) (by rw [j5, n5]; omega))
      rw [j5, n5] at HC
      have b9 := b8.alloc b8.size (.cells #[.slice (some ⟨g1, 0, none⟩) 8 8, .slice (some ⟨g3, 0, none⟩) 4 4, .slice (some aS) 4 cS, .slice (some aD) 4 cD, .slice A n cb] 43)
      clear uF uN uS uD uB P5 j5 n5
      generalize hhLL : LF ++ (LN ++ (l4 ++ (d4 ++ bl))) = LL at *
      have HHLL := Lib.hid hhLL
      clear hhLL
      go_wp2_with fail
      refine HC.out.mono ?_
      rintro e w9 ⟨v, rfl, hown, hb9⟩
      have ho9 := hown.base (b' := w.heap.size) b9.size
      have b10 := Below.on b9 b9.size hb9
      clear hown hb9 b9 HC b8
      go_wp2
      go_ret2
      exact ⟨v, rfl, by rw [HHLF.out, HHLM.out, HHck.out, HHN3.out, HHLN.out, HHLL.out]; exact ho9, b10⟩

end Go.Proofs.Ytkokgoodpibboaa
