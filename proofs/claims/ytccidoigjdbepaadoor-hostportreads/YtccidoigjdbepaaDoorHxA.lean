
/- Layer 12. Contracts: Right, None, Text of hostport and crawlwayref12. -/
import Derived.Test.YtccidoigjdbepaaDoorCxD
namespace Go.Proofs.YtccidoigjdbepaaDoor
open Go.RowKit Dec Lin
set_option maxRecDepth 100000
set_option linter.unusedVariables false
set_option linter.unusedSimpArgs false

theorem Tryd.zeroEnd : (Tryd.prog.info? 60).map (fun i => (i.zero, i.size)) = some (some (.agg (pf zP)), 18) := by kernel_rfl
theorem ef_eq (p q : Pfx) (hp : p.l.length = 16) (hq : q.l.length = 16) : ∀ w, (Op.equalIn 10000 60 (.agg (pf p)) (.agg (pf q))).run Tryd.prog w = .ok (pfxEq p q) w := end_eq p q hp hq
/-- May an endpoint be? Its text. -/
def rightH (p : Pfx) : Bool := okA p.v p.l && (decide (1 ≤ p.bits) && decide (p.bits ≤ 65535))
noncomputable def txH (p : Pfx) : List UInt8 := if rightH p = true then (if p.v = 6 then [91] ++ txA p.v p.l ++ [93] else txA p.v p.l) ++ ([58] ++ Lib.decDigits p.bits.toNat) else []
theorem rightH_facts (p : Pfx) (h : rightH p = true) : okA p.v p.l = true ∧ 1 ≤ p.bits ∧ p.bits ≤ 65535 := by
  unfold rightH at h
  simp at h
  exact ⟨h.1, h.2.1, h.2.2⟩
theorem rightH_case (p : Pfx) : (okA p.v p.l = false ∧ rightH p = false) ∨ (okA p.v p.l = true ∧ p.bits < 1 ∧ rightH p = false) ∨ (okA p.v p.l = true ∧ 1 ≤ p.bits ∧ 65535 < p.bits ∧ rightH p = false) ∨ (okA p.v p.l = true ∧ 1 ≤ p.bits ∧ p.bits ≤ 65535 ∧ rightH p = true) := by
  unfold rightH
  cases h : okA p.v p.l with
  | false => exact .inl ⟨rfl, rfl⟩
  | true =>
    right
    by_cases h1 : 1 ≤ p.bits
    · by_cases h2 : p.bits ≤ 65535
      · exact .inr (.inr ⟨rfl, h1, h2, by rw [decide_eq_true h1, decide_eq_true h2]; rfl⟩)
      · exact .inr (.inl ⟨rfl, h1, by omega, by rw [decide_eq_false h2]; simp⟩)
    · exact .inl ⟨rfl, by omega, by rw [decide_eq_false h1]; rfl⟩

set_option maxHeartbeats 1000000 in
theorem hright_any (p : Pfx) (hp : pfxOk p) (w : World) :
    Calls Tryd.prog 46 #[.agg (pf p)] w fun e w' => e = .returned (.bool (rightH p)) ∧ Below w.heap.size w w' := by
  obtain ⟨hv, hl, hn⟩ := hp
  have h1 := fun W => right_any p.v p.l hl W
  have k0 : Blk (w.alloc (.cells (pf p) 60)) w.heap.size 60 (pf p) := blk_new _ _ _
  have b0 : Below w.heap.size w (w.alloc (.cells (pf p) 60)) := (Below.refl _ _).alloc (Nat.le_refl _) _
  have zp : (Tryd.prog.info? 60).map (·.size) = some (pf p).size := by rw [pf_size p hl]; exact Tryd.infoEnd
  have za := Adr_size p.v p.l hl
  have r0 := pf_adr k0
  have c0 := pf_bits hl k0
  rcases rightH_case p with ⟨hok, hR⟩ | ⟨hok, q1, hR⟩ | ⟨hok, q1, q2, hR⟩ | ⟨hok, q1, q2, hR⟩
  · rw [hR]
    rw [hok] at h1
    have H1 := Lib.hid h1

    clear h1 hR hok k0
    generalize adv p.v p.l = X at *
    generalize pf p = P at *
    generalize p.bits = n at *
    go_enter Tryd.func46, Tryd.ntmps46
    go_wp2_with (first
      | (refine wpList_loadPart (g := w.heap.size) ?hw 24 (.tmp 3) ?ho (0) ?hx X _ r0 Tryd.underlying24 rfl ?hi ?_
         case hw => rfl
         case ho => with_reducible rfl
         case hx => rfl
         case hi => exact za)
      | fail)
    refine (H1.out _).mono ?_; rintro e w1 ⟨rfl, hb1⟩
    have c1 := (hb1.cell (p := ⟨w.heap.size, 17, none⟩) (by simp)).trans c0
    have b1 := Below.on b0 b0.size (by exact hb1)
    go_wp2
    go_ret
    exact ⟨rfl, b1⟩
  · rw [hR]
    rw [hok] at h1
    have H1 := Lib.hid h1
    have d1 : decide (1 ≤ p.bits) = false := decide_eq_false (by omega)
    clear h1 hR hok k0
    generalize adv p.v p.l = X at *
    generalize pf p = P at *
    generalize p.bits = n at *
    go_enter Tryd.func46, Tryd.ntmps46
    go_wp2_with (first
      | (refine wpList_loadPart (g := w.heap.size) ?hw 24 (.tmp 3) ?ho (0) ?hx X _ r0 Tryd.underlying24 rfl ?hi ?_
         case hw => rfl
         case ho => with_reducible rfl
         case hx => rfl
         case hi => exact za)
      | fail)
    refine (H1.out _).mono ?_; rintro e w1 ⟨rfl, hb1⟩
    have c1 := (hb1.cell (p := ⟨w.heap.size, 17, none⟩) (by simp)).trans c0
    have b1 := Below.on b0 b0.size (by exact hb1)
    go_wp2
    go_ret
    exact ⟨rfl, b1⟩
  · rw [hR]
    rw [hok] at h1
    have H1 := Lib.hid h1
    have d1 : decide (1 ≤ p.bits) = true := decide_eq_true q1
    have d2 : decide (p.bits ≤ 65535) = false := decide_eq_false (by omega)
    clear h1 hR hok k0
    generalize adv p.v p.l = X at *
    generalize pf p = P at *
    generalize p.bits = n at *
    go_enter Tryd.func46, Tryd.ntmps46
    go_wp2_with (first
      | (refine wpList_loadPart (g := w.heap.size) ?hw 24 (.tmp 3) ?ho (0) ?hx X _ r0 Tryd.underlying24 rfl ?hi ?_
         case hw => rfl
         case ho => with_reducible rfl
         case hx => rfl
         case hi => exact za)
      | fail)
    refine (H1.out _).mono ?_; rintro e w1 ⟨rfl, hb1⟩
    have c1 := (hb1.cell (p := ⟨w.heap.size, 17, none⟩) (by simp)).trans c0
    have b1 := Below.on b0 b0.size (by exact hb1)
    go_wp2
    go_ret
    exact ⟨rfl, b1⟩
  · rw [hR]
    rw [hok] at h1
    have H1 := Lib.hid h1
    have d1 : decide (1 ≤ p.bits) = true := decide_eq_true q1
    have d2 : decide (p.bits ≤ 65535) = true := decide_eq_true q2
    clear h1 hR hok k0
    generalize adv p.v p.l = X at *
    generalize pf p = P at *
    generalize p.bits = n at *
    go_enter Tryd.func46, Tryd.ntmps46
    go_wp2_with (first
      | (refine wpList_loadPart (g := w.heap.size) ?hw 24 (.tmp 3) ?ho (0) ?hx X _ r0 Tryd.underlying24 rfl ?hi ?_
         case hw => rfl
         case ho => with_reducible rfl
         case hx => rfl
         case hi => exact za)
      | fail)
    refine (H1.out _).mono ?_; rintro e w1 ⟨rfl, hb1⟩
    have c1 := (hb1.cell (p := ⟨w.heap.size, 17, none⟩) (by simp)).trans c0
    have b1 := Below.on b0 b0.size (by exact hb1)
    go_wp2
    go_ret
    exact ⟨rfl, b1⟩

set_option maxHeartbeats 1000000 in
theorem refhright_any (p : Pfx) (hp : pfxOk p) (w : World) :
    Calls Tryd.prog 45 #[.agg (pf p)] w fun e w' => e = .returned (.bool (rightH p)) ∧ Below w.heap.size w w' := by
  obtain ⟨hv, hl, hn⟩ := hp
  have h1 := fun W => refRight_any p.v p.l hl W
  have k0 : Blk (w.alloc (.cells (pf p) 60)) w.heap.size 60 (pf p) := blk_new _ _ _
  have b0 : Below w.heap.size w (w.alloc (.cells (pf p) 60)) := (Below.refl _ _).alloc (Nat.le_refl _) _
  have zp : (Tryd.prog.info? 60).map (·.size) = some (pf p).size := by rw [pf_size p hl]; exact Tryd.infoEnd
  have za := Adr_size p.v p.l hl
  have r0 := pf_adr k0
  have c0 := pf_bits hl k0
  rcases rightH_case p with ⟨hok, hR⟩ | ⟨hok, q1, hR⟩ | ⟨hok, q1, q2, hR⟩ | ⟨hok, q1, q2, hR⟩
  · rw [hR]
    rw [hok] at h1
    have H1 := Lib.hid h1

    clear h1 hR hok k0
    generalize adv p.v p.l = X at *
    generalize pf p = P at *
    generalize p.bits = n at *
    go_enter Tryd.func45, Tryd.ntmps45
    go_wp2_with (first
      | (refine wpList_loadPart (g := w.heap.size) ?hw 24 (.tmp 3) ?ho (0) ?hx X _ r0 Tryd.underlying24 rfl ?hi ?_
         case hw => rfl
         case ho => with_reducible rfl
         case hx => rfl
         case hi => exact za)
      | fail)
    refine (H1.out _).mono ?_; rintro e w1 ⟨rfl, hb1⟩
    have c1 := (hb1.cell (p := ⟨w.heap.size, 17, none⟩) (by simp)).trans c0
    have b1 := Below.on b0 b0.size (by exact hb1)
    go_wp2
    go_ret
    exact ⟨rfl, b1⟩
  · rw [hR]
    rw [hok] at h1
    have H1 := Lib.hid h1
    have d1 : decide (1 ≤ p.bits) = false := decide_eq_false (by omega)
    clear h1 hR hok k0
    generalize adv p.v p.l = X at *
    generalize pf p = P at *
    generalize p.bits = n at *
    go_enter Tryd.func45, Tryd.ntmps45
    go_wp2_with (first
      | (refine wpList_loadPart (g := w.heap.size) ?hw 24 (.tmp 3) ?ho (0) ?hx X _ r0 Tryd.underlying24 rfl ?hi ?_
         case hw => rfl
         case ho => with_reducible rfl
         case hx => rfl
         case hi => exact za)
      | fail)
    refine (H1.out _).mono ?_; rintro e w1 ⟨rfl, hb1⟩
    have c1 := (hb1.cell (p := ⟨w.heap.size, 17, none⟩) (by simp)).trans c0
    have b1 := Below.on b0 b0.size (by exact hb1)
    go_wp2
    go_ret
    exact ⟨rfl, b1⟩
  · rw [hR]
    rw [hok] at h1
    have H1 := Lib.hid h1
    have d1 : decide (1 ≤ p.bits) = true := decide_eq_true q1
    have d2 : decide (p.bits ≤ 65535) = false := decide_eq_false (by omega)
    clear h1 hR hok k0
    generalize adv p.v p.l = X at *
    generalize pf p = P at *
    generalize p.bits = n at *
    go_enter Tryd.func45, Tryd.ntmps45
    go_wp2_with (first
      | (refine wpList_loadPart (g := w.heap.size) ?hw 24 (.tmp 3) ?ho (0) ?hx X _ r0 Tryd.underlying24 rfl ?hi ?_
         case hw => rfl
         case ho => with_reducible rfl
         case hx => rfl
         case hi => exact za)
      | fail)
    refine (H1.out _).mono ?_; rintro e w1 ⟨rfl, hb1⟩
    have c1 := (hb1.cell (p := ⟨w.heap.size, 17, none⟩) (by simp)).trans c0
    have b1 := Below.on b0 b0.size (by exact hb1)
    go_wp2
    go_ret
    exact ⟨rfl, b1⟩
  · rw [hR]
    rw [hok] at h1
    have H1 := Lib.hid h1
    have d1 : decide (1 ≤ p.bits) = true := decide_eq_true q1
    have d2 : decide (p.bits ≤ 65535) = true := decide_eq_true q2
    clear h1 hR hok k0
    generalize adv p.v p.l = X at *
    generalize pf p = P at *
    generalize p.bits = n at *
    go_enter Tryd.func45, Tryd.ntmps45
    go_wp2_with (first
      | (refine wpList_loadPart (g := w.heap.size) ?hw 24 (.tmp 3) ?ho (0) ?hx X _ r0 Tryd.underlying24 rfl ?hi ?_
         case hw => rfl
         case ho => with_reducible rfl
         case hx => rfl
         case hi => exact za)
      | fail)
    refine (H1.out _).mono ?_; rintro e w1 ⟨rfl, hb1⟩
    have c1 := (hb1.cell (p := ⟨w.heap.size, 17, none⟩) (by simp)).trans c0
    have b1 := Below.on b0 b0.size (by exact hb1)
    go_wp2
    go_ret
    exact ⟨rfl, b1⟩

set_option maxHeartbeats 1000000 in
theorem hnone_any (p : Pfx) (hl : p.l.length = 16) (w : World) :
    Calls Tryd.prog 48 #[.agg (pf p)] w fun e w' => e = .returned (.bool (pfxEq p zP)) ∧ Below w.heap.size w w' := by
  have k0 : Blk (w.alloc (.cells (pf p) 60)) w.heap.size 60 (pf p) := blk_new _ _ _
  have b0 : Below w.heap.size w (w.alloc (.cells (pf p) 60)) := (Below.refl _ _).alloc (Nat.le_refl _) _
  have zp : (Tryd.prog.info? 60).map (·.size) = some (pf p).size := by rw [pf_size p hl]; exact Tryd.infoEnd
  have za := Adr_size p.v p.l hl
  have he := ef_eq p zP hl rfl
  have hz := (zero_of_info Tryd.zeroEnd).1
  have hne : ¬ pf zP = #[] := by simp [pf, pfxC]
  generalize pf zP = Z at *
  generalize pf p = P at *
  generalize pfxEq p zP = B at *
  go_enter Tryd.func48, Tryd.ntmps48
  go_wp2_with (first
    | (refine wpList_loadBlk (g := w.heap.size) (t := 60) (cs := P) ?hw 60 (.tmp 1) ?ho ?hx ?hA _ Tryd.underlying60 rfl ?hi ?_
       case hw => rfl
       case ho => with_reducible rfl
       case hx => rfl
       case hA => exact k0
       case hi => exact zp)
    | (refine eqlAny (cs := P) (ds := Z) (b := B) rfl 60 60 (.tmp 3) (.tmp 4) ?ho ?hx ?hy Tryd.plainEnd ?he ?_
       case ho => with_reducible rfl
       case hx => rfl
       case hy => rfl
       case he => exact he)
    | fail)
  go_ret
  exact ⟨rfl, b0⟩

set_option maxHeartbeats 2000000 in
theorem htext_any (p : Pfx) (hp : pfxOk p) (w : World) (htab : Tab w) :
    Calls Tryd.prog 44 #[.agg (pf p)] w fun e w' => e = .returned (sv (txH p)) ∧ Below w.heap.size w w' := by
  have h1 := fun W => hright_any p hp W
  obtain ⟨hv, hl, hn⟩ := hp
  have Htab := Lib.hid htab
  have k0 : Blk (w.alloc (.cells (pf p) 60)) w.heap.size 60 (pf p) := blk_new _ _ _
  have b0 : Below w.heap.size w (w.alloc (.cells (pf p) 60)) := (Below.refl _ _).alloc (Nat.le_refl _) _
  have zp : (Tryd.prog.info? 60).map (·.size) = some (pf p).size := by rw [pf_size p hl]; exact Tryd.infoEnd
  have za := Adr_size p.v p.l hl
  have HR := Lib.hid (fun (W : World) (h : Blk W w.heap.size 60 (pf p)) => show W.rangeAt w.heap.size 0 (adv p.v p.l).toList ∧ W.cell? ⟨w.heap.size, 0, none⟩ = some (.int .i64 p.v) ∧ W.cell? ⟨w.heap.size, 17, none⟩ = some (.int .i64 p.bits) from ⟨pf_adr h, by have := pf_adr h 0 (.int .i64 p.v) (by simp [adv]); simpa using this, pf_bits hl h⟩)
  cases hr : rightH p with
  | false =>
    rw [hr] at h1
    have H1 := Lib.hid h1
    rw [show txH p = [] by unfold txH; rw [hr]; rfl]
    clear h1 hr
    generalize pf p = P at *
    go_enter Tryd.func44, Tryd.ntmps44
    go_wp2_with (first
      | (refine wpList_loadBlk (g := w.heap.size) (t := 60) (cs := P) ?hw 60 (.tmp 1) ?ho ?hx ?hA _ Tryd.underlying60 rfl ?hi ?_
         case hw => rfl
         case ho => with_reducible rfl
         case hx => rfl
         case hA => exact k0
         case hi => exact zp)
      | fail)
    refine (H1.out _).mono ?_; rintro e w1 ⟨rfl, hb1⟩
    have k1 := k0.on (by exact hb1)
    have b1 := Below.on b0 b0.size (by exact hb1)
    clear hb1 k0 b0
    go_wp2
    go_ret
    exact ⟨rfl, b1⟩
  | true =>
    rw [hr] at h1
    have H1 := Lib.hid h1
    obtain ⟨f1, f2, f3⟩ := rightH_facts p hr
    rw [show txH p = (if p.v = 6 then [91] ++ txA p.v p.l ++ [93] else txA p.v p.l) ++ ([58] ++ Lib.decDigits p.bits.toNat) by unfold txH; rw [hr]; rfl]
    obtain ⟨n, hnn⟩ := Int.eq_ofNat_of_zero_le (show 0 ≤ p.bits by omega)
    have hwr : IntKind.u64.wrap (n : Int) = (n : Int) := IntWalk.u64_in _ (by omega)
    have hn6 : n ≤ 65535 := by omega
    have H2 := Lib.hid (fun W h => @Go.Proofs.YtccidoigjdbepaaDoor.text_any p.v p.l hl W h)
    have H3 := Lib.hid (fun W h => Dec.text_any n W (by omega) h)
    rw [hnn] at HR ⊢
    rw [Int.toNat_natCast]
    have hTl := txA_len p.v p.l hl
    have hDl := nn_len n (by omega)
    clear h1 hr f1 f2 f3 hnn hn hv
    generalize adv p.v p.l = X at *
    generalize Lib.decDigits n = D at *
    generalize txA p.v p.l = T at *
    by_cases h6 : p.v = 6
    · have e6 : p.v = 6 := h6
      rw [if_pos h6]
      have hA0 := Cl.str_add [91] T
      have hA1 := Cl.str_add ([91] ++ T) [93]
      have hA2 := Cl.str_add ([91] ++ T ++ [93]) [58]
      have hA3 := Cl.str_add ([91] ++ T ++ [93] ++ [58]) D
      have z1 : (ByteArray.mk ⟨T⟩).size = T.length := rfl
      have z2 : (ByteArray.mk ⟨D⟩).size = D.length := rfl
      have z3 : (ByteArray.mk ⟨[91] ++ T⟩).size = T.length + 1 := by show ([91] ++ T).length = _; simp
      have z4 : (ByteArray.mk ⟨[91] ++ T ++ [93]⟩).size = T.length + 2 := by show ([91] ++ T ++ [93]).length = _; simp
      have z5 : (ByteArray.mk ⟨[91] ++ T ++ [93] ++ [58]⟩).size = T.length + 3 := by show ([91] ++ T ++ [93] ++ [58]).length = _; simp
      rw [h6] at HR
      clear e6 
      generalize hVV : p.v = V at *

      generalize pf p = P at *
      go_enter Tryd.func44, Tryd.ntmps44
      go_wp2_with (first
        | (refine wpList_loadBlk (g := w.heap.size) (t := 60) (cs := P) ?hw 60 (.tmp 1) ?ho ?hx ?hA _ Tryd.underlying60 rfl ?hi ?_
           case hw => rfl
           case ho => with_reducible rfl
           case hx => rfl
           case hA => exact k0
           case hi => exact zp)
        | fail)
      refine (H1.out _).mono ?_; rintro e w1 ⟨rfl, hb1⟩
      have k1 := k0.on (by exact hb1)
      have b1 := Below.on b0 b0.size (by exact hb1)
      clear hb1 k0 b0
      have r1 := (HR.out _ k1).1
      go_wp2_with (first
        | (refine wpList_loadPart (g := w.heap.size) ?hw 24 (.tmp 7) ?ho (0) ?hx X _ r1 Tryd.underlying24 rfl ?hi ?_
           case hw => rfl
           case ho => with_reducible rfl
           case hx => rfl
           case hi => exact za)
        | fail)
      refine (H2.out _ (Htab.out.on b1)).mono ?_; rintro e w2 ⟨rfl, hb2⟩
      have k2 := k1.on (by exact hb2)
      have b2 := Below.on b1 b1.size (by exact hb2)
      have cv := (HR.out _ k2).2.1
      have cn := (HR.out _ k2).2.2
      clear hb2 k1 b1 r1
      go_wp2_with fail
      refine (H3.out _ (Htab.out.on b2)).mono ?_; rintro e w3 ⟨rfl, hb3⟩
      have b3 := Below.on b2 b2.size (by exact hb3)
      go_wp2
      go_ret
      exact ⟨Cl.ret_sv (by simp), b3⟩
    · have e6 : (p.v == 6) = false := by rw [beq_eq_false_iff_ne]; exact h6
      rw [if_neg h6]
      have hA2 := Cl.str_add T [58]
      have hA3 := Cl.str_add (T ++ [58]) D
      have z1 : (ByteArray.mk ⟨T⟩).size = T.length := rfl
      have z2 : (ByteArray.mk ⟨D⟩).size = D.length := rfl
      have z5 : (ByteArray.mk ⟨T ++ [58]⟩).size = T.length + 1 := by show (T ++ [58]).length = _; simp

      clear e6 
      generalize hVV : p.v = V at *
      have e6 : (V == 6) = false := by rw [beq_eq_false_iff_ne]; exact h6
      generalize pf p = P at *
      go_enter Tryd.func44, Tryd.ntmps44
      go_wp2_with (first
        | (refine wpList_loadBlk (g := w.heap.size) (t := 60) (cs := P) ?hw 60 (.tmp 1) ?ho ?hx ?hA _ Tryd.underlying60 rfl ?hi ?_
           case hw => rfl
           case ho => with_reducible rfl
           case hx => rfl
           case hA => exact k0
           case hi => exact zp)
        | fail)
      refine (H1.out _).mono ?_; rintro e w1 ⟨rfl, hb1⟩
      have k1 := k0.on (by exact hb1)
      have b1 := Below.on b0 b0.size (by exact hb1)
      clear hb1 k0 b0
      have r1 := (HR.out _ k1).1
      go_wp2_with (first
        | (refine wpList_loadPart (g := w.heap.size) ?hw 24 (.tmp 7) ?ho (0) ?hx X _ r1 Tryd.underlying24 rfl ?hi ?_
           case hw => rfl
           case ho => with_reducible rfl
           case hx => rfl
           case hi => exact za)
        | fail)
      refine (H2.out _ (Htab.out.on b1)).mono ?_; rintro e w2 ⟨rfl, hb2⟩
      have k2 := k1.on (by exact hb2)
      have b2 := Below.on b1 b1.size (by exact hb2)
      have cv := (HR.out _ k2).2.1
      have cn := (HR.out _ k2).2.2
      clear hb2 k1 b1 r1
      go_wp2_with fail
      refine (H3.out _ (Htab.out.on b2)).mono ?_; rintro e w3 ⟨rfl, hb3⟩
      have b3 := Below.on b2 b2.size (by exact hb3)
      go_wp2
      go_ret
      exact ⟨Cl.ret_sv (by simp), b3⟩

set_option maxHeartbeats 2000000 in
theorem refhtext_any (p : Pfx) (hp : pfxOk p) (w : World) :
    Calls Tryd.prog 47 #[.agg (pf p)] w fun e w' => e = .returned (sv (txH p)) ∧ Below w.heap.size w w' := by
  have h1 := fun W => refhright_any p hp W
  obtain ⟨hv, hl, hn⟩ := hp

  have k0 : Blk (w.alloc (.cells (pf p) 60)) w.heap.size 60 (pf p) := blk_new _ _ _
  have b0 : Below w.heap.size w (w.alloc (.cells (pf p) 60)) := (Below.refl _ _).alloc (Nat.le_refl _) _
  have zp : (Tryd.prog.info? 60).map (·.size) = some (pf p).size := by rw [pf_size p hl]; exact Tryd.infoEnd
  have za := Adr_size p.v p.l hl
  have HR := Lib.hid (fun (W : World) (h : Blk W w.heap.size 60 (pf p)) => show W.rangeAt w.heap.size 0 (adv p.v p.l).toList ∧ W.cell? ⟨w.heap.size, 0, none⟩ = some (.int .i64 p.v) ∧ W.cell? ⟨w.heap.size, 17, none⟩ = some (.int .i64 p.bits) from ⟨pf_adr h, by have := pf_adr h 0 (.int .i64 p.v) (by simp [adv]); simpa using this, pf_bits hl h⟩)
  cases hr : rightH p with
  | false =>
    rw [hr] at h1
    have H1 := Lib.hid h1
    rw [show txH p = [] by unfold txH; rw [hr]; rfl]
    clear h1 hr
    generalize pf p = P at *
    go_enter Tryd.func47, Tryd.ntmps47
    go_wp2_with (first
      | (refine wpList_loadBlk (g := w.heap.size) (t := 60) (cs := P) ?hw 60 (.tmp 1) ?ho ?hx ?hA _ Tryd.underlying60 rfl ?hi ?_
         case hw => rfl
         case ho => with_reducible rfl
         case hx => rfl
         case hA => exact k0
         case hi => exact zp)
      | fail)
    refine (H1.out _).mono ?_; rintro e w1 ⟨rfl, hb1⟩
    have k1 := k0.on (by exact hb1)
    have b1 := Below.on b0 b0.size (by exact hb1)
    clear hb1 k0 b0
    go_wp2
    go_ret
    exact ⟨rfl, b1⟩
  | true =>
    rw [hr] at h1
    have H1 := Lib.hid h1
    obtain ⟨f1, f2, f3⟩ := rightH_facts p hr
    rw [show txH p = (if p.v = 6 then [91] ++ txA p.v p.l ++ [93] else txA p.v p.l) ++ ([58] ++ Lib.decDigits p.bits.toNat) by unfold txH; rw [hr]; rfl]
    obtain ⟨n, hnn⟩ := Int.eq_ofNat_of_zero_le (show 0 ≤ p.bits by omega)
    have hwr : IntKind.u64.wrap (n : Int) = (n : Int) := IntWalk.u64_in _ (by omega)
    have hn6 : n ≤ 65535 := by omega
    have H2 := Lib.hid (fun W => @Go.Proofs.YtccidoigjdbepaaDoor.refText_any p.v p.l hl W)
    have H3 := Lib.hid (fun W => Dec.refText_any 20 n W (by omega) (by omega))
    rw [hnn] at HR ⊢
    rw [Int.toNat_natCast]
    have hTl := txA_len p.v p.l hl
    have hDl := nn_len n (by omega)
    clear h1 hr f1 f2 f3 hnn hn hv
    generalize adv p.v p.l = X at *
    generalize Lib.decDigits n = D at *
    generalize txA p.v p.l = T at *
    by_cases h6 : p.v = 6
    · have e6 : p.v = 6 := h6
      rw [if_pos h6]
      have hA0 := Cl.str_add [58] D
      have hA1 := Cl.str_add [91] T
      have hA2 := Cl.str_add ([91] ++ T) [93]
      have hA3 := Cl.str_add ([91] ++ T ++ [93]) ([58] ++ D)
      have z1 : (ByteArray.mk ⟨T⟩).size = T.length := rfl
      have z2 : (ByteArray.mk ⟨D⟩).size = D.length := rfl
      have z3 : (ByteArray.mk ⟨[58] ++ D⟩).size = D.length + 1 := by show ([58] ++ D).length = _; simp
      have z4 : (ByteArray.mk ⟨[91] ++ T⟩).size = T.length + 1 := by show ([91] ++ T).length = _; simp
      have z5 : (ByteArray.mk ⟨[91] ++ T ++ [93]⟩).size = T.length + 2 := by show ([91] ++ T ++ [93]).length = _; simp
      rw [h6] at HR
      clear e6 
      generalize hVV : p.v = V at *

      generalize pf p = P at *
      go_enter Tryd.func47, Tryd.ntmps47
      go_wp2_with (first
        | (refine wpList_loadBlk (g := w.heap.size) (t := 60) (cs := P) ?hw 60 (.tmp 1) ?ho ?hx ?hA _ Tryd.underlying60 rfl ?hi ?_
           case hw => rfl
           case ho => with_reducible rfl
           case hx => rfl
           case hA => exact k0
           case hi => exact zp)
        | fail)
      refine (H1.out _).mono ?_; rintro e w1 ⟨rfl, hb1⟩
      have k1 := k0.on (by exact hb1)
      have b1 := Below.on b0 b0.size (by exact hb1)
      clear hb1 k0 b0
      have cn := (HR.out _ k1).2.2
      go_wp2_with fail
      refine (H3.out _).mono ?_; rintro e w2 ⟨rfl, hb2⟩
      have k2 := k1.on (by exact hb2)
      have b2 := Below.on b1 b1.size (by exact hb2)
      have r2 := (HR.out _ k2).1
      have cv := (HR.out _ k2).2.1
      clear hb2 k1 b1 cn
      go_wp2_with (first
        | (refine wpList_loadPart (g := w.heap.size) ?hw 24 (.tmp 16) ?ho (0) ?hx X _ r2 Tryd.underlying24 rfl ?hi ?_
           case hw => rfl
           case ho => with_reducible rfl
           case hx => rfl
           case hi => exact za)
        | fail)
      refine (H2.out _).mono ?_; rintro e w3 ⟨rfl, hb3⟩
      have b3 := Below.on b2 b2.size (by exact hb3)
      go_wp2
      go_ret
      exact ⟨Cl.ret_sv (by simp), b3⟩
    · have e6 : (p.v == 6) = false := by rw [beq_eq_false_iff_ne]; exact h6
      rw [if_neg h6]
      have hA0 := Cl.str_add [58] D
      have hA3 := Cl.str_add T ([58] ++ D)
      have z1 : (ByteArray.mk ⟨T⟩).size = T.length := rfl
      have z2 : (ByteArray.mk ⟨D⟩).size = D.length := rfl
      have z3 : (ByteArray.mk ⟨[58] ++ D⟩).size = D.length + 1 := by show ([58] ++ D).length = _; simp

      clear e6 
      generalize hVV : p.v = V at *
      have e6 : (V == 6) = false := by rw [beq_eq_false_iff_ne]; exact h6
      generalize pf p = P at *
      go_enter Tryd.func47, Tryd.ntmps47
      go_wp2_with (first
        | (refine wpList_loadBlk (g := w.heap.size) (t := 60) (cs := P) ?hw 60 (.tmp 1) ?ho ?hx ?hA _ Tryd.underlying60 rfl ?hi ?_
           case hw => rfl
           case ho => with_reducible rfl
           case hx => rfl
           case hA => exact k0
           case hi => exact zp)
        | fail)
      refine (H1.out _).mono ?_; rintro e w1 ⟨rfl, hb1⟩
      have k1 := k0.on (by exact hb1)
      have b1 := Below.on b0 b0.size (by exact hb1)
      clear hb1 k0 b0
      have cn := (HR.out _ k1).2.2
      go_wp2_with fail
      refine (H3.out _).mono ?_; rintro e w2 ⟨rfl, hb2⟩
      have k2 := k1.on (by exact hb2)
      have b2 := Below.on b1 b1.size (by exact hb2)
      have r2 := (HR.out _ k2).1
      have cv := (HR.out _ k2).2.1
      clear hb2 k1 b1 cn
      go_wp2_with (first
        | (refine wpList_loadPart (g := w.heap.size) ?hw 24 (.tmp 23) ?ho (0) ?hx X _ r2 Tryd.underlying24 rfl ?hi ?_
           case hw => rfl
           case ho => with_reducible rfl
           case hx => rfl
           case hi => exact za)
        | fail)
      refine (H2.out _).mono ?_; rintro e w3 ⟨rfl, hb3⟩
      have b3 := Below.on b2 b2.size (by exact hb3)
      go_wp2
      go_ret
      exact ⟨Cl.ret_sv (by simp), b3⟩
end Go.Proofs.YtccidoigjdbepaaDoor
