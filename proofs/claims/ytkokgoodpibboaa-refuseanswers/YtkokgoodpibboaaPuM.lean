
/- Mathematics: packets that were put are parsed as they were; a notice is good. No walk. -/
import Derived.Test.YtkokgoodpibboaaNtC
namespace Go.Proofs.Ytkokgoodpibboaa
open Go.RowKit
set_option maxRecDepth 100000
set_option linter.unusedSimpArgs false
set_option linter.unusedVariables false

theorem list8 (l : List UInt8) (h : l.length = 8) : ∃ b0 b1 b2 b3 b4 b5 b6 b7, l = [b0, b1, b2, b3, b4, b5, b6, b7] := by
  match l, h with
  | [b0, b1, b2, b3, b4, b5, b6, b7], _ => exact ⟨b0, b1, b2, b3, b4, b5, b6, b7, rfl⟩
theorem be_len (n k : Nat) : (leBytes n k).reverse.length = k := by simp [leBytes_len]
theorem be_back (n k : Nat) (h : n < 256 ^ k) : leNat ((leBytes n k).reverse).reverse = n := by rw [List.reverse_reverse, leNat_leBytes, Nat.mod_eq_of_lt h]
theorem cut4 (a b s d body : List UInt8) (ha : a.length = 8) (hb : b.length = 4) (hs : s.length = 4) (hd : d.length = 4) :
    (a ++ (b ++ (s ++ (d ++ body)))).take 8 = a ∧ ((a ++ (b ++ (s ++ (d ++ body)))).drop 8).take 4 = b ∧ ((a ++ (b ++ (s ++ (d ++ body)))).drop 12).take 4 = s ∧ ((a ++ (b ++ (s ++ (d ++ body)))).drop 16).take 4 = d ∧
    (a ++ (b ++ (s ++ (d ++ body)))).drop 20 = body ∧ (a ++ (b ++ (s ++ (d ++ body)))).take 20 = a ++ (b ++ (s ++ d)) ∧ (a ++ (b ++ (s ++ (d ++ body)))).length = 20 + body.length := by
  obtain ⟨a0, a1, a2, a3, a4, a5, a6, a7, rfl⟩ := list8 a ha
  obtain ⟨b0, b1, b2, b3, rfl⟩ := list_four b hb
  obtain ⟨s0, s1, s2, s3, rfl⟩ := list_four s hs
  obtain ⟨d0, d1, d2, d3, rfl⟩ := list_four d hd
  refine ⟨rfl, rfl, rfl, rfl, rfl, rfl, ?_⟩
  simp
  omega

theorem second_bytes (L P ck : Nat) (hL : L < 256) (hP : P < 256) (hc : ck ≤ 65535) : (leBytes (secondN L P + ck) 4).reverse = [UInt8.ofNat L, UInt8.ofNat P, UInt8.ofNat (ck / 256), UInt8.ofNat (ck % 256)] := by
  have e : (leBytes (secondN L P + ck) 4).reverse = [byteAt (secondN L P + ck) 3, byteAt (secondN L P + ck) 2, byteAt (secondN L P + ck) 1, byteAt (secondN L P + ck) 0] := rfl
  rw [e]
  unfold byteAt secondN
  have k : ∀ x y : Nat, x % 256 = y % 256 → UInt8.ofNat x = UInt8.ofNat y := by
    intro x y h
    apply UInt8.toNat_inj.1
    simpa using h
  rw [k ((L * 16777216 + P * 65536 + ck) / 256 ^ 3) L (by omega), k ((L * 16777216 + P * 65536 + ck) / 256 ^ 2) P (by omega), k ((L * 16777216 + P * 65536 + ck) / 256 ^ 1) (ck / 256) (by omega), k ((L * 16777216 + P * 65536 + ck) / 256 ^ 0) (ck % 256) (by omega)]

set_option maxRecDepth 1000000 in
theorem pkt_good (a s d : List UInt8) (L P : Nat) (ha : a.length = 8) (hL : L < 256) (hP : P < 256) :
    osum (a ++ ((leBytes (secondN L P + ckN a (leBytes (secondN L P) 4).reverse s d) 4).reverse ++ (s ++ d))) = 65535 := by
  have e0 : (leBytes (secondN L P) 4).reverse = [UInt8.ofNat L, UInt8.ofNat P, 0, 0] := by
    have h := second_bytes L P 0 hL hP (by omega)
    rw [Nat.add_zero] at h
    exact h
  rw [e0]
  rw [second_bytes L P _ hL hP (by unfold ckN; omega)]
  obtain ⟨a0, a1, a2, a3, a4, a5, a6, a7, rfl⟩ := list8 a ha
  have := checked_good ([a0, a1, a2, a3, a4, a5, a6, a7] ++ ([UInt8.ofNat L, UInt8.ofNat P, 0, 0] ++ (s ++ d))) 5 rfl rfl
  exact this

structure PktFacts (C I F G L P : Nat) (s d body l : List UInt8) : Prop where
  len : l.length = 20 + body.length
  e0 : pE l = 0
  head : pH l = hdv [4, 20, ((20 + body.length : Nat) : Int), (C : Int), (I : Int), (F : Int), (G : Int), (L : Int), (P : Int)] (adv 4 (s ++ zb 12)) (adv 4 (d ++ zb 12))
  fam4 : fam l = 4
  size : sizeL l = 20
  tot : totL l = 20 + body.length
  pr : prL l = P
  rest : restL l = body
  src : srcL l = s
  dst : dstL l = d

theorem first_parts (C n I F G : Nat) (hn : n ≤ 65515) (bC : C < 256) (bI : I < 65536) (bF : F < 8) (bG : G < 8192) :
    firstN C n I F G / 1152921504606846976 = 4 ∧ firstN C n I F G / 72057594037927936 % 16 * 4 = 20 ∧ firstN C n I F G / 4294967296 % 65536 = 20 + n ∧ firstN C n I F G / 281474976710656 % 256 = C ∧ firstN C n I F G / 65536 % 65536 = I ∧ firstN C n I F G / 8192 % 8 = F ∧ firstN C n I F G % 8192 = G := by
  unfold firstN
  refine ⟨?_, ?_, ?_, ?_, ?_, ?_, ?_⟩ <;> omega

theorem fam_n1 (l : List UInt8) (h : 8 ≤ l.length) : fam l = n1 l / 1152921504606846976 := by
  unfold fam n1
  match l, h with
  | b0 :: b1 :: b2 :: b3 :: b4 :: b5 :: b6 :: b7 :: t, _ =>
    have t1 := b1.toNat_lt
    have t2 := b2.toNat_lt
    have t3 := b3.toNat_lt
    have t4 := b4.toNat_lt
    have t5 := b5.toNat_lt
    have t6 := b6.toNat_lt
    have t7 := b7.toNat_lt
    simp [leNat]
    omega

theorem pkt_facts (C I F G L P : Nat) (s d body : List UInt8) (hs : s.length = 4) (hd : d.length = 4) (hn : body.length ≤ 65515) (bC : C < 256) (bI : I < 65536) (bF : F < 8) (bG : G < 8192) (bL : L < 256) (bP : P < 256) :
    PktFacts C I F G L P s d body (pkt C I F G L P s d body) := by
  have hck : ckN (leBytes (firstN C body.length I F G) 8).reverse (leBytes (secondN L P) 4).reverse s d ≤ 65535 := by unfold ckN; omega
  have hg := pkt_good (leBytes (firstN C body.length I F G) 8).reverse s d L P (be_len _ _) bL bP
  obtain ⟨k1, k2, k3, k4, k5, k6, k7⟩ := cut4 (leBytes (firstN C body.length I F G) 8).reverse (leBytes (secondN L P + ckN (leBytes (firstN C body.length I F G) 8).reverse (leBytes (secondN L P) 4).reverse s d) 4).reverse s d body (be_len _ _) (be_len _ _) hs hd
  have f1 := first_lt C body.length I F G hn bC bI bF bG
  obtain ⟨p1, p2, p3, p4, p5, p6, p7⟩ := first_parts C body.length I F G hn bC bI bF bG
  have hpk : (leBytes (firstN C body.length I F G) 8).reverse ++ ((leBytes (secondN L P + ckN (leBytes (firstN C body.length I F G) 8).reverse (leBytes (secondN L P) 4).reverse s d) 4).reverse ++ (s ++ (d ++ body))) = pkt C I F G L P s d body := rfl
  rw [hpk] at k1 k2 k3 k4 k5 k6 k7
  generalize pkt C I F G L P s d body = l at *
  have hn1 : n1 l = firstN C body.length I F G := by unfold n1; rw [k1, be_back _ _ (by omega)]
  have hn2 : n2 l = secondN L P + ckN (leBytes (firstN C body.length I F G) 8).reverse (leBytes (secondN L P) 4).reverse s d := by unfold n2; rw [k2, be_back _ _ (by have : secondN L P = L * 16777216 + P * 65536 := rfl; omega)]
  have hsrc : srcL l = s := k3
  have hdst : dstL l = d := k4
  have hE : pE l = 0 := by
    unfold pE
    rw [if_neg (by omega), hn1, p1, p2, p3]
    unfold wE
    rw [if_pos rfl, if_neg (by omega), if_neg (by omega), if_neg (by omega), if_neg (by omega), k6, if_pos hg]
  have hS : sizeL l = 20 := by unfold sizeL; rw [hn1]; exact p2
  have hT : totL l = 20 + body.length := by unfold totL; rw [hn1]; exact p3
  generalize ckN (leBytes (firstN C body.length I F G) 8).reverse (leBytes (secondN L P) 4).reverse s d = ck at *
  have s1 : (secondN L P + ck) / 16777216 = L := by unfold secondN; omega
  have s2 : (secondN L P + ck) / 65536 % 256 = P := by unfold secondN; omega
  refine ⟨k7, hE, ?_, ?_, hS, hT, by unfold prL; rw [hn2]; exact s2, ?_, hsrc, hdst⟩
  · unfold pH
    rw [if_pos hE]
    unfold hdL hdN
    rw [hn1, hn2, hsrc, hdst, p1, p2, p3, p4, p5, p6, p7, s1, s2]
    rfl
  · rw [fam_n1 l (by omega), hn1, p1]
  · unfold restL
    rw [hS, hT, k5, List.take_of_length_le (by omega)]

theorem PktFacts.kE {C I F G L P : Nat} {s d body l : List UInt8} (h : PktFacts C I F G L P s d body l) : kE l = 0 := by unfold Go.Proofs.Ytkokgoodpibboaa.kE; rw [if_neg (by have := h.len; omega), if_pos h.fam4]; exact h.e0
theorem PktFacts.kH {C I F G L P : Nat} {s d body l : List UInt8} (h : PktFacts C I F G L P s d body l) : kH l = hdv [4, 20, ((20 + body.length : Nat) : Int), (C : Int), (I : Int), (F : Int), (G : Int), (L : Int), (P : Int)] (adv 4 (s ++ zb 12)) (adv 4 (d ++ zb 12)) := by unfold Go.Proofs.Ytkokgoodpibboaa.kH; rw [if_neg (by have := h.len; omega), if_pos h.fam4]; exact h.head
theorem PktFacts.kX {C I F G L P : Nat} {s d body l : List UInt8} (h : PktFacts C I F G L P s d body l) : kX l 0 = 4 ∧ kX l 1 = 20 ∧ kX l 2 = 20 + body.length ∧ kX l 6 = G ∧ kX l 8 = P := by
  unfold Go.Proofs.Ytkokgoodpibboaa.kX
  rw [h.kH, hdv_num _ _ _ 0 _ rfl, hdv_num _ _ _ 1 _ rfl, hdv_num _ _ _ 2 _ rfl, hdv_num _ _ _ 6 _ rfl, hdv_num _ _ _ 8 _ rfl]
  refine ⟨rfl, rfl, ?_, ?_, ?_⟩ <;> exact Int.toNat_natCast _
theorem PktFacts.kW {C I F G L P : Nat} {s d body l : List UInt8} (h : PktFacts C I F G L P s d body l) (hn : body.length ≤ 65515) : kW l = true := by
  unfold Go.Proofs.Ytkokgoodpibboaa.kW
  exact decide_eq_true ⟨h.kE, by rw [h.kX.2.2.1, h.len], by rw [h.len]; omega⟩

/-! Family 6. -/
theorem cut6 (a s d body : List UInt8) (ha : a.length = 8) (hs : s.length = 16) (hd : d.length = 16) :
    (a ++ (s ++ (d ++ body))).take 8 = a ∧ ((a ++ (s ++ (d ++ body))).drop 8).take 16 = s ∧ ((a ++ (s ++ (d ++ body))).drop 24).take 16 = d ∧
    (a ++ (s ++ (d ++ body))).drop 40 = body ∧ (a ++ (s ++ (d ++ body))).length = 40 + body.length := by
  obtain ⟨a0, a1, a2, a3, a4, a5, a6, a7, rfl⟩ := list8 a ha
  obtain ⟨s0, s1, s2, s3, s4, s5, s6, s7, s8, s9, s10, s11, s12, s13, s14, s15, rfl⟩ := list16 s hs
  obtain ⟨d0, d1, d2, d3, d4, d5, d6, d7, d8, d9, d10, d11, d12, d13, d14, d15, rfl⟩ := list16 d hd
  refine ⟨rfl, rfl, rfl, rfl, ?_⟩
  simp
  omega
theorem first6_parts (C I n P L : Nat) (hn : n ≤ 65495) (bC : C < 256) (bI : I < 1048576) (bL : L < 256) (bP : P < 256) :
    first6 C I n P L / 1152921504606846976 = 6 ∧ first6 C I n P L / 65536 % 65536 = n ∧ first6 C I n P L / 4503599627370496 % 256 = C ∧ first6 C I n P L / 4294967296 % 1048576 = I ∧ first6 C I n P L % 256 = L ∧ first6 C I n P L / 256 % 256 = P := by
  unfold first6
  refine ⟨?_, ?_, ?_, ?_, ?_, ?_⟩ <;> omega
structure Pkt6Facts (C I L P : Nat) (s d body l : List UInt8) : Prop where
  len : l.length = 40 + body.length
  e0 : pE6 l = 0
  head : pH6 l = hdv [6, 40, ((40 + body.length : Nat) : Int), (C : Int), (I : Int), 0, 0, (L : Int), (P : Int)] (adv 6 s) (adv 6 d)
  fam6 : fam l = 6
  rest : l.drop 40 = body
  src : src6 l = s
  dst : dst6 l = d
theorem pkt6_facts (C I L P : Nat) (s d body : List UInt8) (hs : s.length = 16) (hd : d.length = 16) (hn : body.length ≤ 65495) (bC : C < 256) (bI : I < 1048576) (bL : L < 256) (bP : P < 256) :
    Pkt6Facts C I L P s d body (pkt6 C I L P s d body) := by
  obtain ⟨k1, k3, k4, k5, k7⟩ := cut6 (leBytes (first6 C I body.length P L) 8).reverse s d body (be_len _ _) hs hd
  have f1 := first6_lt C I body.length P L hn bC bI bL bP
  obtain ⟨p1, p2, p3, p4, p5, p6⟩ := first6_parts C I body.length P L hn bC bI bL bP
  have hpk : (leBytes (first6 C I body.length P L) 8).reverse ++ (s ++ (d ++ body)) = pkt6 C I L P s d body := rfl
  rw [hpk] at k1 k3 k4 k5 k7
  generalize pkt6 C I L P s d body = l at *
  have hn1 : n1 l = first6 C I body.length P L := by unfold n1; rw [k1, be_back _ _ (by omega)]
  have hE : pE6 l = 0 := by
    unfold pE6
    rw [if_neg (by omega), hn1, p1, p2]
    unfold wE6
    rw [if_pos rfl, if_neg (by omega)]
  refine ⟨k7, hE, ?_, ?_, k5, k3, k4⟩
  · unfold pH6
    rw [if_pos hE]
    unfold hdL6 hd6
    rw [hn1, p1, p2, p3, p4, p5, p6, show src6 l = s from k3, show dst6 l = d from k4, Nat.add_comm body.length 40]
    rfl
  · rw [fam_n1 l (by omega), hn1, p1]
theorem Pkt6Facts.kE {C I L P : Nat} {s d body l : List UInt8} (h : Pkt6Facts C I L P s d body l) : kE l = 0 := by unfold Go.Proofs.Ytkokgoodpibboaa.kE; rw [if_neg (by have := h.len; omega), h.fam6, if_neg (by omega), if_pos rfl]; exact h.e0
theorem Pkt6Facts.kH {C I L P : Nat} {s d body l : List UInt8} (h : Pkt6Facts C I L P s d body l) : kH l = hdv [6, 40, ((40 + body.length : Nat) : Int), (C : Int), (I : Int), 0, 0, (L : Int), (P : Int)] (adv 6 s) (adv 6 d) := by unfold Go.Proofs.Ytkokgoodpibboaa.kH; rw [if_neg (by have := h.len; omega), h.fam6, if_neg (by omega), if_pos rfl]; exact h.head
theorem Pkt6Facts.kX {C I L P : Nat} {s d body l : List UInt8} (h : Pkt6Facts C I L P s d body l) : kX l 0 = 6 ∧ kX l 1 = 40 ∧ kX l 2 = 40 + body.length ∧ kX l 8 = P := by
  unfold Go.Proofs.Ytkokgoodpibboaa.kX
  rw [h.kH, hdv_num _ _ _ 0 _ rfl, hdv_num _ _ _ 1 _ rfl, hdv_num _ _ _ 2 _ rfl, hdv_num _ _ _ 8 _ rfl]
  refine ⟨rfl, rfl, ?_, ?_⟩ <;> exact Int.toNat_natCast _
theorem Pkt6Facts.kW {C I L P : Nat} {s d body l : List UInt8} (h : Pkt6Facts C I L P s d body l) (hn : body.length ≤ 65495) : kW l = true := by
  unfold Go.Proofs.Ytkokgoodpibboaa.kW
  exact decide_eq_true ⟨h.kE, by rw [h.kX.2.2.1, h.len], by rw [h.len]; omega⟩

/-! Notices. -/
theorem note_sum (k cd : UInt8) (J l : List UInt8) (hJ : J.length % 2 = 0) : osum (J ++ noteL k cd (65535 - osum (J ++ noteL k cd 0 l)) l) = 65535 := by
  obtain ⟨j, hj⟩ : ∃ j, J.length = 2 * j := ⟨J.length / 2, by omega⟩
  have h0 : (J ++ noteL k cd 0 l)[2 * (j + 1)]? = some 0 := by
    rw [List.getElem?_append_right (by omega), hj, show 2 * (j + 1) - 2 * j = 2 by omega]; rfl
  have h1 : (J ++ noteL k cd 0 l)[2 * (j + 1) + 1]? = some 0 := by
    rw [List.getElem?_append_right (by omega), hj, show 2 * (j + 1) + 1 - 2 * j = 3 by omega]; rfl
  have := checked_good (J ++ noteL k cd 0 l) (j + 1) h0 h1
  rw [List.set_append_right _ _ (by omega), List.set_append_right _ _ (by omega), hj, show 2 * (j + 1) - 2 * j = 2 by omega, show 2 * (j + 1) + 1 - 2 * j = 3 by omega, noteL_set] at this
  exact this
theorem note_good (k cd : UInt8) (J l : List UInt8) (hJ : J.length % 2 = 0) : fE k.toNat cd.toNat J (noteL k cd (65535 - osum (J ++ noteL k cd 0 l)) l) = 0 := by
  have hs := note_sum k cd J l hJ
  generalize 65535 - osum (J ++ noteL k cd 0 l) = ck at *
  unfold fE
  rw [if_neg (by rw [noteL_len]; omega), if_pos ⟨rfl, rfl⟩, if_pos hs, if_pos ⟨rfl, rfl, rfl, rfl⟩]
theorem note_drop (k cd : UInt8) (ck : Nat) (l : List UInt8) : (noteL k cd ck l).drop 8 = l := rfl

end Go.Proofs.Ytkokgoodpibboaa
