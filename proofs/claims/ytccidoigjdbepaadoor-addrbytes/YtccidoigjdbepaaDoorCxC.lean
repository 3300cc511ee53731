
/- Layer 11. Contracts: Covers, Has, Less of cidr and crawlwayref11. -/
import Derived.Test.YtccidoigjdbepaaDoorCxB
namespace Go.Proofs.YtccidoigjdbepaaDoor
open Go.RowKit
set_option maxRecDepth 100000
set_option linter.unusedVariables false
set_option linter.unusedSimpArgs false

theorem mB_keep : ∀ s : Fin 8, ∀ k : Fin 9, ∀ b : Fin 256, s.val < k.val → b.val / 2 ^ (8 - k.val) * 2 ^ (8 - k.val) / 2 ^ (7 - s.val) % 2 = b.val / 2 ^ (7 - s.val) % 2 := by decide +kernel
theorem bitB_mB (s k : Nat) (hs : s < k) (hk : k ≤ 8) (b : UInt8) : bitB s (mB k b) = bitB s b := by
  unfold bitB
  rw [mB_nat k hk]
  exact mB_keep ⟨s, by omega⟩ ⟨k, by omega⟩ ⟨b.toNat, b.toNat_lt⟩ hs
theorem bitL_mL (n : Nat) (l : List UInt8) (j : Nat) (hj : j < n) : bitL (mL n l) j = bitL l j := by
  unfold bitL
  rw [List.getD_eq_getElem?_getD, List.getD_eq_getElem?_getD]
  cases h : l[j / 8]? with
  | none =>
    rw [List.getElem?_eq_none_iff] at h
    rw [List.getElem?_eq_none (by rw [mL_len]; exact h)]
  | some b =>
    rw [mL_at n _ l b h]
    refine bitB_mB _ _ ?_ (kpt_le _ _) b
    unfold kpt
    omega
theorem mL_full (l : List UInt8) (hl : l.length = 16) : mL 128 l = l := by
  apply List.ext_getElem?
  intro j
  cases h : l[j]? with
  | none =>
    rw [List.getElem?_eq_none_iff] at h
    rw [List.getElem?_eq_none (by rw [mL_len]; exact h)]
  | some b =>
    have hj := (List.getElem?_eq_some_iff.1 h).1
    rw [mL_at 128 j l b h, show kpt 128 j = 8 by unfold kpt; omega, mB_8]
theorem mL_whole (v : Int) (l : List UInt8) (hl : l.length = 16) (hok : okA v l = true) : mL (8 * sizeA v l) l = l := by
  have h := mL_most v l hl hok 128
  have hs := sizeA_le v l
  rw [show min 128 (8 * sizeA v l) = 8 * sizeA v l by omega, mL_full l hl] at h
  exact h
theorem sizeA_ok (v : Int) (l l' : List UInt8) (h : okA v l = true) (h' : okA v l' = true) : sizeA v l = sizeA v l' := by
  unfold sizeA
  rw [if_pos h, if_pos h']

/-- What is right of a prefix that may be. -/
theorem right_facts (p : Pfx) (h : rightP p = true) : okA p.v p.l = true ∧ 0 ≤ p.bits ∧ p.bits ≤ (8 * sizeA p.v p.l : Int) ∧ mL p.bits.toNat p.l = p.l := by
  unfold rightP at h
  rw [Bool.and_eq_true] at h
  obtain ⟨h1, h2⟩ := h
  have h1 := of_decide_eq_true h1
  have h2 := (by simpa using h2 : p.l = mL p.bits.toNat p.l)
  rcases of_case p.v p.l p.bits with ⟨_, e, _⟩ | ⟨_, _, e, _⟩ | ⟨_, _, _, e, _⟩ | ⟨h3, h4, h5, _, _⟩
  · omega
  · omega
  · omega
  · exact ⟨h3, h4, by omega, h2.symm⟩
/-- Is an address one of a prefix's? Are all of one prefix another one's? -/
noncomputable def hasB (p : Pfx) (v : Int) (l : List UInt8) : Bool := rightP p && (okA v l && (v == p.v && mL p.bits.toNat l == p.l))
noncomputable def covB (p q : Pfx) : Bool := rightP p && rightP q && decide (p.bits ≤ q.bits) && (q.v == p.v && mL p.bits.toNat q.l == p.l)
theorem cov_has (p q : Pfx) : covB p q = (rightP q && hasB p q.v q.l && decide (p.bits ≤ q.bits)) := by
  unfold covB hasB
  cases hq : rightP q with
  | false => simp
  | true =>
    rw [(right_facts q hq).1]
    cases rightP p <;> cases decide (p.bits ≤ q.bits) <;> simp
theorem zP_no : rightP zP = false := by
  unfold rightP ofE
  rw [if_neg (by decide)]
  rfl
theorem cov_wh (p : Pfx) (hp : p.l.length = 16) (v : Int) (l : List UInt8) (hl : l.length = 16) : covB p (whP v l) = hasB p v l := by
  unfold whP
  rcases of_case v l (8 * sizeA v l : Int) with ⟨h1, _, e⟩ | ⟨_, h0, _⟩ | ⟨_, _, h0, _⟩ | ⟨h1, h2, h3, h4, e⟩
  · rw [e]
    unfold covB hasB
    rw [zP_no, h1]
    cases rightP p <;> rfl
  · omega
  · omega
  · have hm : mL (8 * sizeA v l : Int).toNat l = l := by rw [show (8 * sizeA v l : Int).toNat = 8 * sizeA v l by omega]; exact mL_whole v l hl h1
    rw [hm] at e
    rw [e]
    have hr : rightP ⟨v, l, (8 * sizeA v l : Int)⟩ = true := by
      unfold rightP
      show (decide (ofE v l (8 * sizeA v l : Int) = 0) && (l == mL (8 * sizeA v l : Int).toNat l)) = true
      rw [h4, hm]
      simp
    unfold covB hasB
    rw [hr, h1]
    cases hp : rightP p with
    | false => rfl
    | true =>
      show (true && true && decide (p.bits ≤ (8 * sizeA v l : Int)) && (v == p.v && mL p.bits.toNat l == p.l)) = (true && (true && (v == p.v && mL p.bits.toNat l == p.l)))
      by_cases hv : v = p.v
      · subst hv
        obtain ⟨f1, f2, f3, _⟩ := right_facts p hp
        rw [decide_eq_true (show p.bits ≤ (8 * sizeA p.v l : Int) by rw [sizeA_ok p.v l p.l h1 f1]; exact f3)]
        simp
      · have : (v == p.v) = false := by simpa using hv
        simp [this]
theorem common_spec (p : Pfx) (hp : p.l.length = 16) (hr : rightP p = true) (v : Int) (l : List UInt8) (hl : l.length = 16) : ∃ c : Int,
    (∀ w, Calls Tryd.prog 67 #[.agg (adv p.v p.l), .agg (adv v l)] w fun e w' => e = .returned (.int .i64 c) ∧ Below w.heap.size w w') ∧
    decide (p.bits ≤ c) = (okA v l && (v == p.v && mL p.bits.toNat l == p.l)) := by
  obtain ⟨f1, f2, f3, f4⟩ := right_facts p hr
  by_cases hno : okA v l = false ∨ p.v ≠ v
  · refine ⟨-1, fun w => refCommon_no p.v v p.l l hp hl (by rcases hno with h | h; exact .inr (.inl h); exact .inr (.inr h)) w, ?_⟩
    rw [decide_eq_false (by omega)]
    rcases hno with h | h
    · rw [h]; rfl
    · have : (v == p.v) = false := by simpa using fun e => h e.symm
      rw [this]
      simp
  · have hok : okA v l = true := by cases h : okA v l with | true => rfl | false => exact absurd (.inl h) hno
    have hv : v = p.v := by
      false_or_by_contra
      next h => exact hno (.inr (fun e => h e.symm))
    subst hv
    obtain ⟨r, hC⟩ := comm_some (sizeA p.v p.l) p.l l
    refine ⟨(r : Int), fun w => refCommon_yes p.v p.l l hp hl f1 hok r hC w, ?_⟩
    obtain ⟨g1, g2, g3⟩ := comm_facts _ p.l l hp hl (sizeA_le _ _) r hC
    rw [hok]
    simp only [beq_self_eq_true, Bool.true_and]
    by_cases hn : p.bits ≤ (r : Int)
    · rw [decide_eq_true hn]
      have : mL p.bits.toNat l = p.l := by
        rw [← mL_eq p.l l (hp.trans hl.symm) p.bits.toNat (fun j hj => g2 j (by omega))]
        exact f4
      simp [this]
    · rw [decide_eq_false hn]
      have : ¬ mL p.bits.toNat l = p.l := by
        intro e
        have h1 := bitL_mL p.bits.toNat l r (by omega)
        rw [e] at h1
        exact g3 (by omega) h1
      simp [this]
theorem wlen (v : Int) (l : List UInt8) (hl : l.length = 16) : (whP v l).l.length = 16 := ofP_len v l _ hl
theorem whP_ok (v : Int) (l : List UInt8) (hv : in64 v) (hl : l.length = 16) : pfxOk (whP v l) := by
  have hs := sizeA_le v l
  unfold whP
  rcases of_case v l (8 * sizeA v l : Int) with ⟨_, _, e⟩ | ⟨_, _, _, e⟩ | ⟨_, _, _, _, e⟩ | ⟨_, _, _, _, e⟩
  · rw [e]; exact ⟨(by unfold in64; omega : in64 0), rfl, (by unfold in64; omega : in64 0)⟩
  · rw [e]; exact ⟨(by unfold in64; omega : in64 0), rfl, (by unfold in64; omega : in64 0)⟩
  · rw [e]; exact ⟨(by unfold in64; omega : in64 0), rfl, (by unfold in64; omega : in64 0)⟩
  · rw [e]; exact ⟨hv, by show (mL _ l).length = 16; rw [mL_len, hl], (by unfold in64; omega : in64 (8 * sizeA v l : Int))⟩

set_option maxHeartbeats 2000000 in
theorem ccovers_any (p q : Pfx) (hp : pfxOk p) (hq : pfxOk q) (w : World) :
    Calls Tryd.prog 36 #[.agg (pf p), .agg (pf q)] w fun e w' => e = .returned (.bool (covB p q)) ∧ Below w.heap.size w w' := by
  have h1 := fun W => cright_any p hp W
  have h2 := fun W => cright_any q hq W
  obtain ⟨hv, hl, hn⟩ := hp
  obtain ⟨hv', hl', hn'⟩ := hq
  unfold in64 at hn
  have k0 : Blk ((w.alloc (.cells (pf p) 45)).alloc (.cells (pf q) 45)) w.heap.size 45 (pf p) := (blk_new _ _ _).alloc _
  have j0 : Blk ((w.alloc (.cells (pf p) 45)).alloc (.cells (pf q) 45)) (w.heap.size + 1) 45 (pf q) := blk_new' _ _ _ _ (by simp)
  have b0 : Below w.heap.size w ((w.alloc (.cells (pf p) 45)).alloc (.cells (pf q) 45)) := ((Below.refl _ _).alloc (Nat.le_refl _) _).alloc (by simp) _
  have zp : (Tryd.prog.info? 45).map (·.size) = some (pf p).size := by rw [pf_size p hl]; exact Tryd.infoPfx
  have zq : (Tryd.prog.info? 45).map (·.size) = some (pf q).size := by rw [pf_size q hl']; exact Tryd.infoPfx
  have za := Adr_size p.v p.l hl
  have za' := Adr_size q.v q.l hl'
  have HR := Lib.hid (fun (W : World) (h : Blk W w.heap.size 45 (pf p)) => And.intro (pf_adr h) (pf_bits hl h))
  have HR' := Lib.hid (fun (W : World) (h : Blk W (w.heap.size + 1) 45 (pf q)) => And.intro (pf_adr h) (pf_bits hl' h))

  cases hr : rightP p with
  | false =>
    rw [hr] at h1
    rw [show covB p q = false by unfold covB; rw [hr]; rfl]
    have H1 := Lib.hid h1
    clear hr h1 h2
    generalize adv p.v p.l = X at *
    generalize adv q.v q.l = X' at *
    generalize pf p = P at *
    generalize pf q = Q at *
    generalize p.bits = n at *
    generalize q.bits = n' at *
    go_enter Tryd.func36, Tryd.ntmps36
    go_wp2_with (first
      | (refine wpList_loadBlk (g := w.heap.size) (t := 45) (cs := P) ?hw 45 (.tmp 2) ?ho ?hx ?hA _ Tryd.underlying45 rfl ?hi ?_
         case hw => rfl
         case ho => with_reducible rfl
         case hx => rfl
         case hA => exact k0
         case hi => exact zp)
      | fail)
    refine (H1.out _).mono ?_; rintro e w1 ⟨rfl, hb1⟩
    have k1 := k0.on (by exact hb1)
    have j1 := j0.on (by exact hb1)
    have b1 := Below.on b0 b0.size (by exact hb1)
    clear hb1 k0 j0 b0
    go_wp2
    go_ret
    exact ⟨rfl, b1⟩
  | true =>
    rw [hr] at h1
    have H1 := Lib.hid h1
    cases hr' : rightP q with
    | false =>
      rw [hr'] at h2
      rw [show covB p q = false by unfold covB; rw [hr', hr]; rfl]
      have H2 := Lib.hid h2
      clear hr hr' h1 h2
      generalize adv p.v p.l = X at *
      generalize adv q.v q.l = X' at *
      generalize pf p = P at *
      generalize pf q = Q at *
      generalize p.bits = n at *
      generalize q.bits = n' at *
      go_enter Tryd.func36, Tryd.ntmps36
      go_wp2_with (first
        | (refine wpList_loadBlk (g := w.heap.size) (t := 45) (cs := P) ?hw 45 (.tmp 2) ?ho ?hx ?hA _ Tryd.underlying45 rfl ?hi ?_
           case hw => rfl
           case ho => with_reducible rfl
           case hx => rfl
           case hA => exact k0
           case hi => exact zp)
        | fail)
      refine (H1.out _).mono ?_; rintro e w1 ⟨rfl, hb1⟩
      have k1 := k0.on (by exact hb1)
      have j1 := j0.on (by exact hb1)
      have b1 := Below.on b0 b0.size (by exact hb1)
      clear hb1 k0 j0 b0
      go_wp2_with (first
        | (refine wpList_loadBlk (g := w.heap.size + 1) (t := 45) (cs := Q) ?hw 45 (.tmp 3) ?ho ?hx ?hA _ Tryd.underlying45 rfl ?hi ?_
           case hw => rfl
           case ho => with_reducible rfl
           case hx => rfl
           case hA => exact j1
           case hi => exact zq)
        | fail)
      refine (H2.out _).mono ?_; rintro e w2 ⟨rfl, hb2⟩
      have k2 := k1.on (by exact hb2)
      have j2 := j1.on (by exact hb2)
      have b2 := Below.on b1 b1.size (by exact hb2)
      have c1 := (HR.out _ k2).2
      have c2 := (HR'.out _ j2).2
      clear hb2 k1 j1 b1
      go_wp2
      go_ret
      exact ⟨rfl, b2⟩
    | true =>
      rw [hr'] at h2
      have H2 := Lib.hid h2
      by_cases hlt : q.bits < p.bits
      · have d0 : decide (q.bits < p.bits) = true := decide_eq_true hlt
        rw [show covB p q = false by unfold covB; rw [decide_eq_false (show ¬ p.bits ≤ q.bits by omega)]; simp]
        clear hr hr' h1 h2
        generalize adv p.v p.l = X at *
        generalize adv q.v q.l = X' at *
        generalize pf p = P at *
        generalize pf q = Q at *
        generalize p.bits = n at *
        generalize q.bits = n' at *
        go_enter Tryd.func36, Tryd.ntmps36
        go_wp2_with (first
          | (refine wpList_loadBlk (g := w.heap.size) (t := 45) (cs := P) ?hw 45 (.tmp 2) ?ho ?hx ?hA _ Tryd.underlying45 rfl ?hi ?_
             case hw => rfl
             case ho => with_reducible rfl
             case hx => rfl
             case hA => exact k0
             case hi => exact zp)
          | fail)
        refine (H1.out _).mono ?_; rintro e w1 ⟨rfl, hb1⟩
        have k1 := k0.on (by exact hb1)
        have j1 := j0.on (by exact hb1)
        have b1 := Below.on b0 b0.size (by exact hb1)
        clear hb1 k0 j0 b0
        go_wp2_with (first
          | (refine wpList_loadBlk (g := w.heap.size + 1) (t := 45) (cs := Q) ?hw 45 (.tmp 3) ?ho ?hx ?hA _ Tryd.underlying45 rfl ?hi ?_
             case hw => rfl
             case ho => with_reducible rfl
             case hx => rfl
             case hA => exact j1
             case hi => exact zq)
          | fail)
        refine (H2.out _).mono ?_; rintro e w2 ⟨rfl, hb2⟩
        have k2 := k1.on (by exact hb2)
        have j2 := j1.on (by exact hb2)
        have b2 := Below.on b1 b1.size (by exact hb2)
        have c1 := (HR.out _ k2).2
        have c2 := (HR'.out _ j2).2
        clear hb2 k1 j1 b1
        go_wp2
        go_ret
        exact ⟨rfl, b2⟩
      · have d0 : decide (q.bits < p.bits) = false := decide_eq_false hlt
        obtain ⟨f1, _, _, _⟩ := right_facts q hr'
        have H3 := Lib.hid (fun W => mask_ok q.v p.bits q.l hl' f1 hn.1 hn.2 W)
        have HE := Lib.hid (adr_eq q.v p.v (mL p.bits.toNat q.l) p.l (by rw [mL_len, hl']) hl)
        rw [show covB p q = (q.v == p.v && mL p.bits.toNat q.l == p.l) by unfold covB; rw [hr, hr', decide_eq_true (show p.bits ≤ q.bits by omega)]; simp]
        clear hr hr' h1 h2 f1
        generalize (q.v == p.v && mL p.bits.toNat q.l == p.l) = R at *
        generalize adv q.v (mL p.bits.toNat q.l) = M at *
        generalize adv p.v p.l = X at *
        generalize adv q.v q.l = X' at *
        generalize pf p = P at *
        generalize pf q = Q at *
        generalize p.bits = n at *
        generalize q.bits = n' at *
        go_enter Tryd.func36, Tryd.ntmps36
        go_wp2_with (first
          | (refine wpList_loadBlk (g := w.heap.size) (t := 45) (cs := P) ?hw 45 (.tmp 2) ?ho ?hx ?hA _ Tryd.underlying45 rfl ?hi ?_
             case hw => rfl
             case ho => with_reducible rfl
             case hx => rfl
             case hA => exact k0
             case hi => exact zp)
          | fail)
        refine (H1.out _).mono ?_; rintro e w1 ⟨rfl, hb1⟩
        have k1 := k0.on (by exact hb1)
        have j1 := j0.on (by exact hb1)
        have b1 := Below.on b0 b0.size (by exact hb1)
        clear hb1 k0 j0 b0
        go_wp2_with (first
          | (refine wpList_loadBlk (g := w.heap.size + 1) (t := 45) (cs := Q) ?hw 45 (.tmp 3) ?ho ?hx ?hA _ Tryd.underlying45 rfl ?hi ?_
             case hw => rfl
             case ho => with_reducible rfl
             case hx => rfl
             case hA => exact j1
             case hi => exact zq)
          | fail)
        refine (H2.out _).mono ?_; rintro e w2 ⟨rfl, hb2⟩
        have k2 := k1.on (by exact hb2)
        have j2 := j1.on (by exact hb2)
        have b2 := Below.on b1 b1.size (by exact hb2)
        have c1 := (HR.out _ k2).2
        have c2 := (HR'.out _ j2).2
        clear hb2 k1 j1 b1
        go_wp2_with fail
        have hup : ∀ W, Below w2.heap.size w2 W → Below w.heap.size w W := fun W hW => Below.on b2 b2.size hW
        have r1 : ∀ W, Below w2.heap.size w2 W → W.rangeAt w.heap.size 0 X.toList := fun W hW => (HR.out W (k2.on hW)).1
        have r2 : ∀ W, Below w2.heap.size w2 W → W.rangeAt (w.heap.size + 1) 0 X'.toList := fun W hW => (HR'.out W (j2.on hW)).1
        have c3 : ∀ W, Below w2.heap.size w2 W → W.cell? ⟨w.heap.size, 17, none⟩ = some (.int .i64 n) := fun W hW => (HR.out W (k2.on hW)).2
        clear k2 j2 b2 c1 c2 HR HR'
        generalize hg1 : w.heap.size = g1 at *
        refine wp_region_below w2.heap.size (by kernel_rfl) (by kernel_rfl) ?_
        repeat (first
          | go_big_quiet_skip
          | (go_big_quiet_want
             first
               | (refine qm_load (g := (g1 + 1)) (off := 0) (cs := X'.toList) 24 (.tmp 20) ?ho ?hx ?hA _ Tryd.underlying24 rfl ?hz ?_
                  case ho => with_reducible rfl
                  case hx => rfl
                  case hA => exact fun w' hw' => r2 _ hw'
                  case hz => simpa using za'
                  go_big_quiet_on
                  simp only [Act.put, List.setIfInBounds_toArray, List.set_cons_succ, List.set_cons_zero])
               | (refine qc_load (ad := ⟨g1, 17, none⟩) (v := .int .i64 n) 3 .i64 (.tmp 22) ?ho ?hx ?hA Tryd.underlying3 ?_
                  case ho => with_reducible rfl
                  case hx => rfl
                  case hA => exact fun w' hw' => c3 _ hw'
                  go_big_quiet_on
                  simp only [Act.put, List.setIfInBounds_toArray, List.set_cons_succ, List.set_cons_zero])
               | (refine qm_load (g := g1) (off := 0) (cs := X.toList) 24 (.tmp 25) ?ho ?hx ?hA _ Tryd.underlying24 rfl ?hz ?_
                  case ho => with_reducible rfl
                  case hx => rfl
                  case hA => exact fun w' hw' => r1 _ hw'
                  case hz => simpa using za
                  go_big_quiet_on
                  simp only [Act.put, List.setIfInBounds_toArray, List.set_cons_succ, List.set_cons_zero])
               | (refine qe_eql (cs := M) (ds := X) (b := R) 24 24 (.tmp 24) (.tmp 26) ?ho ?hx ?hy Tryd.plainAddr ?he ?_
                  case ho => with_reducible rfl
                  case hx => rfl
                  case hy => rfl
                  case he => exact HE.out
                  go_big_quiet_on
                  simp only [Act.put, List.setIfInBounds_toArray, List.set_cons_succ, List.set_cons_zero])
               | (go_big_quiet_op
                  first
                    | go_big_quiet_on
                    | (with_reducible refine ⟨_, fun _ _ => rfl, ?_⟩; go_big_quiet_on)
                    | (apply Exists.intro
                       refine ⟨fun w' hw' => ?_, ?_⟩
                       · (go_at_call 58; with_reducible refine (H3.out _).mono ?_; exact fun _ _ h => ⟨h.1, Below.on hw' hw'.size h.2⟩)
                       go_big_quiet_on))))
        refine wpQuiet_nil ?_
        intro w4 hw4
        go_wp2
        go_ret
        exact ⟨rfl, by first | exact hup _ hw4 | (rw [hg1]; exact hup _ hw4)⟩

set_option maxHeartbeats 2000000 in
theorem refchas_any (p : Pfx) (hp : pfxOk p) (v : Int) (l : List UInt8) (hl : l.length = 16) (w : World) :
    Calls Tryd.prog 35 #[.agg (pf p), .agg (adv v l)] w fun e w' => e = .returned (.bool (hasB p v l)) ∧ Below w.heap.size w w' := by
  have h1 := fun W => refcright_any p hp W
  have k0 : Blk ((w.alloc (.cells (pf p) 45)).alloc (.cells (adv v l) 24)) w.heap.size 45 (pf p) := (blk_new _ _ _).alloc _
  have j0 : Blk ((w.alloc (.cells (pf p) 45)).alloc (.cells (adv v l) 24)) (w.heap.size + 1) 24 (adv v l) := blk_new' _ _ _ _ (by simp)
  have b0 : Below w.heap.size w ((w.alloc (.cells (pf p) 45)).alloc (.cells (adv v l) 24)) := ((Below.refl _ _).alloc (Nat.le_refl _) _).alloc (by simp) _
  have zp : (Tryd.prog.info? 45).map (·.size) = some (pf p).size := by rw [pf_size p hp.2.1]; exact Tryd.infoPfx
  have za := Adr_size v l hl
  have za' := Adr_size p.v p.l hp.2.1
  have HR := Lib.hid (fun (W : World) (h : Blk W w.heap.size 45 (pf p)) => And.intro (pf_adr h) (pf_bits hp.2.1 h))

  cases hr : rightP p with
  | false =>
    rw [hr] at h1
    rw [show hasB p v l = false by unfold hasB; rw [hr]; rfl]
    have H1 := Lib.hid h1
    have H2 := Lib.hid (fun W => refWidthA_any v l hl W)
    clear hr h1 hp
    generalize adv v l = A' at *
    generalize adv p.v p.l = X at *
    generalize pf p = P at *
    generalize p.bits = n at *
    go_enter Tryd.func35, Tryd.ntmps35
    go_wp2_with fail
    generalize hW0 : (w.alloc (.cells P 45)).alloc (.cells A' 24) = w0 at *
    have hup : ∀ W, Below w0.heap.size w0 W → Below w.heap.size w W := fun W hW => Below.on b0 b0.size hW
    have kp : ∀ W, Below w0.heap.size w0 W → Blk W w.heap.size 45 P := fun W hW => k0.on hW
    have ka : ∀ W, Below w0.heap.size w0 W → Blk W (w.heap.size + 1) 24 A' := fun W hW => j0.on hW
    have r1 : ∀ W, Below w0.heap.size w0 W → W.rangeAt w.heap.size 0 X.toList := fun W hW => (HR.out W (k0.on hW)).1
    have c3 : ∀ W, Below w0.heap.size w0 W → W.cell? ⟨w.heap.size, 17, none⟩ = some (.int .i64 n) := fun W hW => (HR.out W (k0.on hW)).2
    clear k0 j0 b0 HR hW0
    generalize hg1 : w.heap.size = g1 at *
    refine wp_region_below w0.heap.size (by kernel_rfl) (by kernel_rfl) ?_
    repeat (first
      | go_big_quiet_skip
      | (go_big_quiet_want
         first
           | (refine qb_load (g := g1) (t := 45) (cs := P) 45 (.tmp 2) ?ho ?hx ?hA _ Tryd.underlying45 rfl zp ?_
              case ho => with_reducible rfl
              case hx => rfl
              case hA => exact fun w' hw' => kp _ hw'
              go_big_quiet_on
              simp only [Act.put, List.setIfInBounds_toArray, List.set_cons_succ, List.set_cons_zero])
           | (go_big_quiet_op
              first
                | go_big_quiet_on
                | (with_reducible refine ⟨_, fun _ _ => rfl, ?_⟩; go_big_quiet_on)
                | (apply Exists.intro
                   refine ⟨fun w' hw' => ?_, ?_⟩
                   · (go_at_call 33; with_reducible refine (H1.out _).mono ?_; exact fun _ _ h => ⟨h.1, Below.on hw' hw'.size h.2⟩)
                   go_big_quiet_on))))
    refine wpQuiet_nil ?_
    intro w4 hw4
    go_wp2
    go_ret
    exact ⟨rfl, by first | exact hup _ hw4 | (rw [hg1]; exact hup _ hw4)⟩
  | true =>
    rw [hr] at h1
    obtain ⟨c, h2, hc⟩ := common_spec p hp.2.1 hr v l hl
    rw [show hasB p v l = decide (p.bits ≤ c) by unfold hasB; rw [hr, hc]; rfl]
    have H1 := Lib.hid h1
    have H2 := Lib.hid h2
    clear hr h1 hc h2 hp
    generalize adv v l = A' at *
    generalize adv p.v p.l = X at *
    generalize pf p = P at *
    generalize p.bits = n at *
    go_enter Tryd.func35, Tryd.ntmps35
    go_wp2_with fail
    generalize hW0 : (w.alloc (.cells P 45)).alloc (.cells A' 24) = w0 at *
    have hup : ∀ W, Below w0.heap.size w0 W → Below w.heap.size w W := fun W hW => Below.on b0 b0.size hW
    have kp : ∀ W, Below w0.heap.size w0 W → Blk W w.heap.size 45 P := fun W hW => k0.on hW
    have ka : ∀ W, Below w0.heap.size w0 W → Blk W (w.heap.size + 1) 24 A' := fun W hW => j0.on hW
    have r1 : ∀ W, Below w0.heap.size w0 W → W.rangeAt w.heap.size 0 X.toList := fun W hW => (HR.out W (k0.on hW)).1
    have c3 : ∀ W, Below w0.heap.size w0 W → W.cell? ⟨w.heap.size, 17, none⟩ = some (.int .i64 n) := fun W hW => (HR.out W (k0.on hW)).2
    clear k0 j0 b0 HR hW0
    generalize hg1 : w.heap.size = g1 at *
    refine wp_region_below w0.heap.size (by kernel_rfl) (by kernel_rfl) ?_
    repeat (first
      | go_big_quiet_skip
      | (go_big_quiet_want
         first
           | (refine qb_load (g := g1) (t := 45) (cs := P) 45 (.tmp 2) ?ho ?hx ?hA _ Tryd.underlying45 rfl zp ?_
              case ho => with_reducible rfl
              case hx => rfl
              case hA => exact fun w' hw' => kp _ hw'
              go_big_quiet_on
              simp only [Act.put, List.setIfInBounds_toArray, List.set_cons_succ, List.set_cons_zero])
           | (refine qm_load (g := g1) (off := 0) (cs := X.toList) 24 (.tmp 8) ?ho ?hx ?hA _ Tryd.underlying24 rfl ?hz ?_
              case ho => with_reducible rfl
              case hx => rfl
              case hA => exact fun w' hw' => r1 _ hw'
              case hz => simpa using za'
              go_big_quiet_on
              simp only [Act.put, List.setIfInBounds_toArray, List.set_cons_succ, List.set_cons_zero])
           | (refine qb_load (g := (g1 + 1)) (t := 24) (cs := A') 24 (.tmp 3) ?ho ?hx ?hA _ Tryd.underlying24 rfl za ?_
              case ho => with_reducible rfl
              case hx => rfl
              case hA => exact fun w' hw' => ka _ hw'
              go_big_quiet_on
              simp only [Act.put, List.setIfInBounds_toArray, List.set_cons_succ, List.set_cons_zero])
           | (refine qc_load (ad := ⟨g1, 17, none⟩) (v := .int .i64 n) 3 .i64 (.tmp 12) ?ho ?hx ?hA Tryd.underlying3 ?_
              case ho => with_reducible rfl
              case hx => rfl
              case hA => exact fun w' hw' => c3 _ hw'
              go_big_quiet_on
              simp only [Act.put, List.setIfInBounds_toArray, List.set_cons_succ, List.set_cons_zero])
           | (go_big_quiet_op
              first
                | go_big_quiet_on
                | (with_reducible refine ⟨_, fun _ _ => rfl, ?_⟩; go_big_quiet_on)
                | (apply Exists.intro
                   refine ⟨fun w' hw' => ?_, ?_⟩
                   · (go_at_call 33; with_reducible refine (H1.out _).mono ?_; exact fun _ _ h => ⟨h.1, Below.on hw' hw'.size h.2⟩)
                   go_big_quiet_on)
                | (apply Exists.intro
                   refine ⟨fun w' hw' => ?_, ?_⟩
                   · (go_at_call 67; with_reducible refine (H2.out _).mono ?_; exact fun _ _ h => ⟨h.1, Below.on hw' hw'.size h.2⟩)
                   go_big_quiet_on))))
    refine wpQuiet_nil ?_
    intro w4 hw4
    go_wp2
    go_ret
    exact ⟨rfl, by first | exact hup _ hw4 | (rw [hg1]; exact hup _ hw4)⟩

set_option maxHeartbeats 2000000 in
theorem chas_any (p : Pfx) (hp : pfxOk p) (v : Int) (l : List UInt8) (hv : in64 v) (hl : l.length = 16) (w : World) :
    Calls Tryd.prog 34 #[.agg (pf p), .agg (adv v l)] w fun e w' => e = .returned (.bool (hasB p v l)) ∧ Below w.heap.size w w' := by
  have H1 := Lib.hid (fun W => cwhole_any v l hl W)
  have H2 := Lib.hid (fun W => ccovers_any p (whP v l) hp (whP_ok v l hv hl) W)
  rw [cov_wh p hp.2.1 v l hl] at H2
  have k0 : Blk ((w.alloc (.cells (pf p) 45)).alloc (.cells (adv v l) 24)) w.heap.size 45 (pf p) := (blk_new _ _ _).alloc _
  have j0 : Blk ((w.alloc (.cells (pf p) 45)).alloc (.cells (adv v l) 24)) (w.heap.size + 1) 24 (adv v l) := blk_new' _ _ _ _ (by simp)
  have b0 : Below w.heap.size w ((w.alloc (.cells (pf p) 45)).alloc (.cells (adv v l) 24)) := ((Below.refl _ _).alloc (Nat.le_refl _) _).alloc (by simp) _
  have zp : (Tryd.prog.info? 45).map (·.size) = some (pf p).size := by rw [pf_size p hp.2.1]; exact Tryd.infoPfx
  have za := Adr_size v l hl
  have za' := Adr_size p.v p.l hp.2.1
  have HR := Lib.hid (fun (W : World) (h : Blk W w.heap.size 45 (pf p)) => And.intro (pf_adr h) (pf_bits hp.2.1 h))

  generalize hasB p v l = R at *
  generalize pf (whP v l) = Y at *
  clear hp
  generalize adv v l = A' at *
  generalize adv p.v p.l = X at *
  generalize pf p = P at *
  generalize p.bits = n at *
  go_enter Tryd.func34, Tryd.ntmps34
  go_wp2_with fail
  generalize hW0 : (w.alloc (.cells P 45)).alloc (.cells A' 24) = w0 at *
  have hup : ∀ W, Below w0.heap.size w0 W → Below w.heap.size w W := fun W hW => Below.on b0 b0.size hW
  have kp : ∀ W, Below w0.heap.size w0 W → Blk W w.heap.size 45 P := fun W hW => k0.on hW
  have ka : ∀ W, Below w0.heap.size w0 W → Blk W (w.heap.size + 1) 24 A' := fun W hW => j0.on hW
  have r1 : ∀ W, Below w0.heap.size w0 W → W.rangeAt w.heap.size 0 X.toList := fun W hW => (HR.out W (k0.on hW)).1
  have c3 : ∀ W, Below w0.heap.size w0 W → W.cell? ⟨w.heap.size, 17, none⟩ = some (.int .i64 n) := fun W hW => (HR.out W (k0.on hW)).2
  clear k0 j0 b0 HR hW0
  generalize hg1 : w.heap.size = g1 at *
  refine wp_region_below w0.heap.size (by kernel_rfl) (by kernel_rfl) ?_
  repeat (first
    | go_big_quiet_skip
    | (go_big_quiet_want
       first
         | (refine qb_load (g := g1) (t := 45) (cs := P) 45 (.tmp 2) ?ho ?hx ?hA _ Tryd.underlying45 rfl zp ?_
            case ho => with_reducible rfl
            case hx => rfl
            case hA => exact fun w' hw' => kp _ hw'
            go_big_quiet_on
            simp only [Act.put, List.setIfInBounds_toArray, List.set_cons_succ, List.set_cons_zero])
         | (refine qb_load (g := (g1 + 1)) (t := 24) (cs := A') 24 (.tmp 3) ?ho ?hx ?hA _ Tryd.underlying24 rfl za ?_
            case ho => with_reducible rfl
            case hx => rfl
            case hA => exact fun w' hw' => ka _ hw'
            go_big_quiet_on
            simp only [Act.put, List.setIfInBounds_toArray, List.set_cons_succ, List.set_cons_zero])
         | (go_big_quiet_op
            first
              | go_big_quiet_on
              | (with_reducible refine ⟨_, fun _ _ => rfl, ?_⟩; go_big_quiet_on)
              | (apply Exists.intro
                 refine ⟨fun w' hw' => ?_, ?_⟩
                 · (go_at_call 31; with_reducible refine (H1.out _).mono ?_; exact fun _ _ h => ⟨h.1, Below.on hw' hw'.size h.2⟩)
                 go_big_quiet_on)
              | (apply Exists.intro
                 refine ⟨fun w' hw' => ?_, ?_⟩
                 · (go_at_call 36; with_reducible refine (H2.out _).mono ?_; exact fun _ _ h => ⟨h.1, Below.on hw' hw'.size h.2⟩)
                 go_big_quiet_on))))
  refine wpQuiet_nil ?_
  intro w4 hw4
  go_wp2
  go_ret
  exact ⟨rfl, by first | exact hup _ hw4 | (rw [hg1]; exact hup _ hw4)⟩

set_option maxHeartbeats 2000000 in
theorem refccovers_any (p q : Pfx) (hp : pfxOk p) (hq : pfxOk q) (w : World) :
    Calls Tryd.prog 37 #[.agg (pf p), .agg (pf q)] w fun e w' => e = .returned (.bool (covB p q)) ∧ Below w.heap.size w w' := by
  have h2 := fun W => refcright_any q hq W
  have h1 := fun W => refchas_any p hp q.v q.l hq.2.1 W
  obtain ⟨hv, hl, hn⟩ := hp
  obtain ⟨hv', hl', hn'⟩ := hq
  rw [cov_has]
  have k0 : Blk ((w.alloc (.cells (pf p) 45)).alloc (.cells (pf q) 45)) w.heap.size 45 (pf p) := (blk_new _ _ _).alloc _
  have j0 : Blk ((w.alloc (.cells (pf p) 45)).alloc (.cells (pf q) 45)) (w.heap.size + 1) 45 (pf q) := blk_new' _ _ _ _ (by simp)
  have b0 : Below w.heap.size w ((w.alloc (.cells (pf p) 45)).alloc (.cells (pf q) 45)) := ((Below.refl _ _).alloc (Nat.le_refl _) _).alloc (by simp) _
  have zp : (Tryd.prog.info? 45).map (·.size) = some (pf p).size := by rw [pf_size p hl]; exact Tryd.infoPfx
  have zq : (Tryd.prog.info? 45).map (·.size) = some (pf q).size := by rw [pf_size q hl']; exact Tryd.infoPfx
  have za := Adr_size p.v p.l hl
  have za' := Adr_size q.v q.l hl'
  have HR := Lib.hid (fun (W : World) (h : Blk W w.heap.size 45 (pf p)) => And.intro (pf_adr h) (pf_bits hl h))
  have HR' := Lib.hid (fun (W : World) (h : Blk W (w.heap.size + 1) 45 (pf q)) => And.intro (pf_adr h) (pf_bits hl' h))

  cases hr : rightP q with
  | false =>
    rw [hr] at h2
    have H2 := Lib.hid h2
    clear hr h1 h2
    rw [Bool.false_and, Bool.false_and]
    generalize adv p.v p.l = X at *
    generalize adv q.v q.l = X' at *
    generalize pf p = P at *
    generalize pf q = Q at *
    generalize p.bits = n at *
    generalize q.bits = n' at *
    go_enter Tryd.func37, Tryd.ntmps37
    go_wp2_with (first
      | (refine wpList_loadBlk (g := w.heap.size + 1) (t := 45) (cs := Q) ?hw 45 (.tmp 3) ?ho ?hx ?hA _ Tryd.underlying45 rfl ?hi ?_
         case hw => rfl
         case ho => with_reducible rfl
         case hx => rfl
         case hA => exact j0
         case hi => exact zq)
      | fail)
    refine (H2.out _).mono ?_; rintro e w1 ⟨rfl, hb1⟩
    have k1 := k0.on (by exact hb1)
    have j1 := j0.on (by exact hb1)
    have b1 := Below.on b0 b0.size (by exact hb1)
    have r1 := (HR'.out _ j1).1
    clear hb1 k0 j0 b0
    go_wp2
    go_ret
    exact ⟨rfl, b1⟩
  | true =>
    rw [hr] at h2
    have H2 := Lib.hid h2
    clear hr h2
    rw [Bool.true_and]
    cases hh : hasB p q.v q.l with
    | false =>
      rw [hh] at h1
      have H1 := Lib.hid h1
      clear hh h1
      rw [Bool.false_and]
      generalize adv p.v p.l = X at *
      generalize adv q.v q.l = X' at *
      generalize pf p = P at *
      generalize pf q = Q at *
      generalize p.bits = n at *
      generalize q.bits = n' at *
      go_enter Tryd.func37, Tryd.ntmps37
      go_wp2_with (first
        | (refine wpList_loadBlk (g := w.heap.size + 1) (t := 45) (cs := Q) ?hw 45 (.tmp 3) ?ho ?hx ?hA _ Tryd.underlying45 rfl ?hi ?_
           case hw => rfl
           case ho => with_reducible rfl
           case hx => rfl
           case hA => exact j0
           case hi => exact zq)
        | fail)
      refine (H2.out _).mono ?_; rintro e w1 ⟨rfl, hb1⟩
      have k1 := k0.on (by exact hb1)
      have j1 := j0.on (by exact hb1)
      have b1 := Below.on b0 b0.size (by exact hb1)
      have r1 := (HR'.out _ j1).1
      clear hb1 k0 j0 b0
      go_wp2_with (first
        | (refine wpList_loadBlk (g := w.heap.size) (t := 45) (cs := P) ?hw 45 (.tmp 2) ?ho ?hx ?hA _ Tryd.underlying45 rfl ?hi ?_
           case hw => rfl
           case ho => with_reducible rfl
           case hx => rfl
           case hA => exact k1
           case hi => exact zp)
        | (refine wpList_loadPart (g := w.heap.size + 1) ?hw 24 (.tmp 9) ?ho (0) ?hx X' _ r1 Tryd.underlying24 rfl ?hi ?_
           case hw => rfl
           case ho => with_reducible rfl
           case hx => rfl
           case hi => exact za')
        | fail)
      refine (H1.out _).mono ?_; rintro e w2 ⟨rfl, hb2⟩
      have k2 := k1.on (by exact hb2)
      have j2 := j1.on (by exact hb2)
      have b2 := Below.on b1 b1.size (by exact hb2)
      have c1 := (HR.out _ k2).2
      have c2 := (HR'.out _ j2).2
      clear hb2 k1 j1 b1 r1
      go_wp2
      go_ret
      exact ⟨rfl, b2⟩
    | true =>
      rw [hh] at h1
      have H1 := Lib.hid h1
      clear hh h1
      rw [Bool.true_and]
      generalize adv p.v p.l = X at *
      generalize adv q.v q.l = X' at *
      generalize pf p = P at *
      generalize pf q = Q at *
      generalize p.bits = n at *
      generalize q.bits = n' at *
      go_enter Tryd.func37, Tryd.ntmps37
      go_wp2_with (first
        | (refine wpList_loadBlk (g := w.heap.size + 1) (t := 45) (cs := Q) ?hw 45 (.tmp 3) ?ho ?hx ?hA _ Tryd.underlying45 rfl ?hi ?_
           case hw => rfl
           case ho => with_reducible rfl
           case hx => rfl
           case hA => exact j0
           case hi => exact zq)
        | fail)
      refine (H2.out _).mono ?_; rintro e w1 ⟨rfl, hb1⟩
      have k1 := k0.on (by exact hb1)
      have j1 := j0.on (by exact hb1)
      have b1 := Below.on b0 b0.size (by exact hb1)
      have r1 := (HR'.out _ j1).1
      clear hb1 k0 j0 b0
      go_wp2_with (first
        | (refine wpList_loadBlk (g := w.heap.size) (t := 45) (cs := P) ?hw 45 (.tmp 2) ?ho ?hx ?hA _ Tryd.underlying45 rfl ?hi ?_
           case hw => rfl
           case ho => with_reducible rfl
           case hx => rfl
           case hA => exact k1
           case hi => exact zp)
        | (refine wpList_loadPart (g := w.heap.size + 1) ?hw 24 (.tmp 9) ?ho (0) ?hx X' _ r1 Tryd.underlying24 rfl ?hi ?_
           case hw => rfl
           case ho => with_reducible rfl
           case hx => rfl
           case hi => exact za')
        | fail)
      refine (H1.out _).mono ?_; rintro e w2 ⟨rfl, hb2⟩
      have k2 := k1.on (by exact hb2)
      have j2 := j1.on (by exact hb2)
      have b2 := Below.on b1 b1.size (by exact hb2)
      have c1 := (HR.out _ k2).2
      have c2 := (HR'.out _ j2).2
      clear hb2 k1 j1 b1 r1
      go_wp2
      go_ret
      exact ⟨rfl, b2⟩

theorem neqAny {P : Program} {w : World} {o : Oper} {a : Act} {ops : Array Oper} {rest : List Oper} {cs ds : Array Value} {b : Bool} {Q : Exit → Act → World → Prop} (hw : Region.wanted o (yielded ops a.tmps) = true) (ty rt : TypeId) (x y : Operand) (ho : o.op = .binOp .neq ty x y rt)
    (hx : a.eval x = .agg cs) (hy : a.eval y = .agg ds) (hm : P.eqGuardType P.depth ty = false) (he : ∀ w, (Op.equalIn 10000 ty (.agg cs) (.agg ds)).run P w = .ok b w)
    (h : wpList P ops Q rest (a.put o.dst (.bool (!b))) w) : wpList P ops Q (o :: rest) a w := by
  refine wpList_on hw ?_
  unfold Oper.wp execOp
  simp only [ho, hx, hy, Sem.run_bind, run_eqGuard_agg w .neq ty x y _ _ hm, Result.andThen_ok, run_neq_struct, he w, Sem.run_pure]
  exact h
/-- Which address is ahead; which prefix. -/
noncomputable def lessA (v v' : Int) (l l' : List UInt8) : Bool := if v = v' then lexB l l' else decide (v < v')
noncomputable def lessP (p q : Pfx) : Bool := if (p.v == q.v && p.l == q.l) = true then decide (p.bits < q.bits) else lessA p.v q.v p.l q.l
theorem less_both (v v' : Int) (l l' : List UInt8) (hl : l.length = 16) (hl' : l'.length = 16) :
    (∀ w, Calls Tryd.prog 68 #[.agg (adv v l), .agg (adv v' l')] w fun e w' => e = .returned (.bool (lessA v v' l l')) ∧ Below w.heap.size w w') ∧
    (∀ w, Calls Tryd.prog 69 #[.agg (adv v l), .agg (adv v' l')] w fun e w' => e = .returned (.bool (lessA v v' l l')) ∧ Below w.heap.size w w') := by
  unfold lessA
  by_cases h : v = v'
  · subst h
    rw [if_pos rfl]
    exact ⟨less_same v l l' hl hl', refLess_same v l l' hl hl'⟩
  · rw [if_neg h]
    exact ⟨less_apart v v' l l' h, refLess_apart v v' l l' h⟩

set_option maxHeartbeats 2000000 in
theorem cless_any (p q : Pfx) (hp : pfxOk p) (hq : pfxOk q) (w : World) :
    Calls Tryd.prog 38 #[.agg (pf p), .agg (pf q)] w fun e w' => e = .returned (.bool (lessP p q)) ∧ Below w.heap.size w w' := by
  obtain ⟨hv, hl, hn⟩ := hp
  obtain ⟨hv', hl', hn'⟩ := hq
  have H1 := Lib.hid (fun W => (less_both p.v q.v p.l q.l hl hl').1 W)
  have k0 : Blk ((w.alloc (.cells (pf p) 45)).alloc (.cells (pf q) 45)) w.heap.size 45 (pf p) := (blk_new _ _ _).alloc _
  have j0 : Blk ((w.alloc (.cells (pf p) 45)).alloc (.cells (pf q) 45)) (w.heap.size + 1) 45 (pf q) := blk_new' _ _ _ _ (by simp)
  have b0 : Below w.heap.size w ((w.alloc (.cells (pf p) 45)).alloc (.cells (pf q) 45)) := ((Below.refl _ _).alloc (Nat.le_refl _) _).alloc (by simp) _
  have zp : (Tryd.prog.info? 45).map (·.size) = some (pf p).size := by rw [pf_size p hl]; exact Tryd.infoPfx
  have zq : (Tryd.prog.info? 45).map (·.size) = some (pf q).size := by rw [pf_size q hl']; exact Tryd.infoPfx
  have za := Adr_size p.v p.l hl
  have za' := Adr_size q.v q.l hl'
  have HR := Lib.hid (fun (W : World) (h : Blk W w.heap.size 45 (pf p)) => And.intro (pf_adr h) (pf_bits hl h))
  have HR' := Lib.hid (fun (W : World) (h : Blk W (w.heap.size + 1) 45 (pf q)) => And.intro (pf_adr h) (pf_bits hl' h))

  have r0 := (HR.out _ k0).1
  have s0 := (HR'.out _ j0).1
  have c0 := (HR.out _ k0).2
  have c1 := (HR'.out _ j0).2
  have he := adr_eq p.v q.v p.l q.l hl hl'
  unfold lessP
  cases heq : (p.v == q.v && p.l == q.l) with
  | false =>
    rw [heq] at he
    have HE := Lib.hid he
    clear he heq HR HR' k0 j0
    rw [if_neg (by decide)]
    generalize lessA p.v q.v p.l q.l = L at *
    generalize adv p.v p.l = X at *
    generalize adv q.v q.l = X' at *
    generalize pf p = P at *
    generalize pf q = Q at *
    generalize p.bits = n at *
    generalize q.bits = n' at *
    go_enter Tryd.func38, Tryd.ntmps38
    go_wp2_with (first
      | (refine wpList_loadPart (g := w.heap.size) ?hw 24 (.tmp 5) ?ho (0) ?hx X _ r0 Tryd.underlying24 rfl ?hi ?_
         case hw => rfl
         case ho => with_reducible rfl
         case hx => rfl
         case hi => exact za)
      | (refine wpList_loadPart (g := w.heap.size + 1) ?hw 24 (.tmp 7) ?ho (0) ?hx X' _ s0 Tryd.underlying24 rfl ?hi ?_
         case hw => rfl
         case ho => with_reducible rfl
         case hx => rfl
         case hi => exact za')
      | (refine neqAny (cs := X) (ds := X') (b := false) rfl 24 24 (.tmp 6) (.tmp 8) ?ho ?hx ?hy Tryd.plainAddr ?he ?_
         case ho => with_reducible rfl
         case hx => rfl
         case hy => rfl
         case he => exact HE.out)
      | (refine wpList_loadPart (g := w.heap.size) ?hw 24 (.tmp 10) ?ho (0) ?hx X _ r0 Tryd.underlying24 rfl ?hi ?_
         case hw => rfl
         case ho => with_reducible rfl
         case hx => rfl
         case hi => exact za)
      | (refine wpList_loadPart (g := w.heap.size + 1) ?hw 24 (.tmp 12) ?ho (0) ?hx X' _ s0 Tryd.underlying24 rfl ?hi ?_
         case hw => rfl
         case ho => with_reducible rfl
         case hx => rfl
         case hi => exact za')
      | fail)
    refine (H1.out _).mono ?_; rintro e w1 ⟨rfl, hb1⟩
    have b1 := Below.on b0 b0.size (by exact hb1)
    go_wp2
    go_ret
    exact ⟨rfl, b1⟩
  | true =>
    rw [heq] at he
    have HE := Lib.hid he
    clear he heq HR HR' k0 j0 H1
    rw [if_pos rfl]
    generalize adv p.v p.l = X at *
    generalize adv q.v q.l = X' at *
    generalize pf p = P at *
    generalize pf q = Q at *
    generalize p.bits = n at *
    generalize q.bits = n' at *
    go_enter Tryd.func38, Tryd.ntmps38
    go_wp2_with (first
      | (refine wpList_loadPart (g := w.heap.size) ?hw 24 (.tmp 5) ?ho (0) ?hx X _ r0 Tryd.underlying24 rfl ?hi ?_
         case hw => rfl
         case ho => with_reducible rfl
         case hx => rfl
         case hi => exact za)
      | (refine wpList_loadPart (g := w.heap.size + 1) ?hw 24 (.tmp 7) ?ho (0) ?hx X' _ s0 Tryd.underlying24 rfl ?hi ?_
         case hw => rfl
         case ho => with_reducible rfl
         case hx => rfl
         case hi => exact za')
      | (refine neqAny (cs := X) (ds := X') (b := true) rfl 24 24 (.tmp 6) (.tmp 8) ?ho ?hx ?hy Tryd.plainAddr ?he ?_
         case ho => with_reducible rfl
         case hx => rfl
         case hy => rfl
         case he => exact HE.out)
      | fail)
    go_ret
    exact ⟨rfl, b0⟩

set_option maxHeartbeats 2000000 in
theorem refcless_any (p q : Pfx) (hp : pfxOk p) (hq : pfxOk q) (w : World) :
    Calls Tryd.prog 39 #[.agg (pf p), .agg (pf q)] w fun e w' => e = .returned (.bool (lessP p q)) ∧ Below w.heap.size w w' := by
  obtain ⟨hv, hl, hn⟩ := hp
  obtain ⟨hv', hl', hn'⟩ := hq
  have H1 := Lib.hid (fun W => (less_both p.v q.v p.l q.l hl hl').2 W)
  have k0 : Blk ((w.alloc (.cells (pf p) 45)).alloc (.cells (pf q) 45)) w.heap.size 45 (pf p) := (blk_new _ _ _).alloc _
  have j0 : Blk ((w.alloc (.cells (pf p) 45)).alloc (.cells (pf q) 45)) (w.heap.size + 1) 45 (pf q) := blk_new' _ _ _ _ (by simp)
  have b0 : Below w.heap.size w ((w.alloc (.cells (pf p) 45)).alloc (.cells (pf q) 45)) := ((Below.refl _ _).alloc (Nat.le_refl _) _).alloc (by simp) _
  have zp : (Tryd.prog.info? 45).map (·.size) = some (pf p).size := by rw [pf_size p hl]; exact Tryd.infoPfx
  have zq : (Tryd.prog.info? 45).map (·.size) = some (pf q).size := by rw [pf_size q hl']; exact Tryd.infoPfx
  have za := Adr_size p.v p.l hl
  have za' := Adr_size q.v q.l hl'
  have HR := Lib.hid (fun (W : World) (h : Blk W w.heap.size 45 (pf p)) => And.intro (pf_adr h) (pf_bits hl h))
  have HR' := Lib.hid (fun (W : World) (h : Blk W (w.heap.size + 1) 45 (pf q)) => And.intro (pf_adr h) (pf_bits hl' h))

  have r0 := (HR.out _ k0).1
  have s0 := (HR'.out _ j0).1
  have c0 := (HR.out _ k0).2
  have c1 := (HR'.out _ j0).2
  have he := adr_eq p.v q.v p.l q.l hl hl'
  unfold lessP
  cases heq : (p.v == q.v && p.l == q.l) with
  | false =>
    rw [heq] at he
    have HE := Lib.hid he
    clear he heq HR HR' k0 j0
    rw [if_neg (by decide)]
    generalize lessA p.v q.v p.l q.l = L at *
    generalize adv p.v p.l = X at *
    generalize adv q.v q.l = X' at *
    generalize pf p = P at *
    generalize pf q = Q at *
    generalize p.bits = n at *
    generalize q.bits = n' at *
    go_enter Tryd.func39, Tryd.ntmps39
    go_wp2_with (first
      | (refine wpList_loadPart (g := w.heap.size) ?hw 24 (.tmp 5) ?ho (0) ?hx X _ r0 Tryd.underlying24 rfl ?hi ?_
         case hw => rfl
         case ho => with_reducible rfl
         case hx => rfl
         case hi => exact za)
      | (refine wpList_loadPart (g := w.heap.size + 1) ?hw 24 (.tmp 7) ?ho (0) ?hx X' _ s0 Tryd.underlying24 rfl ?hi ?_
         case hw => rfl
         case ho => with_reducible rfl
         case hx => rfl
         case hi => exact za')
      | (refine neqAny (cs := X) (ds := X') (b := false) rfl 24 24 (.tmp 6) (.tmp 8) ?ho ?hx ?hy Tryd.plainAddr ?he ?_
         case ho => with_reducible rfl
         case hx => rfl
         case hy => rfl
         case he => exact HE.out)
      | (refine wpList_loadPart (g := w.heap.size) ?hw 24 (.tmp 10) ?ho (0) ?hx X _ r0 Tryd.underlying24 rfl ?hi ?_
         case hw => rfl
         case ho => with_reducible rfl
         case hx => rfl
         case hi => exact za)
      | (refine wpList_loadPart (g := w.heap.size + 1) ?hw 24 (.tmp 12) ?ho (0) ?hx X' _ s0 Tryd.underlying24 rfl ?hi ?_
         case hw => rfl
         case ho => with_reducible rfl
         case hx => rfl
         case hi => exact za')
      | fail)
    refine (H1.out _).mono ?_; rintro e w1 ⟨rfl, hb1⟩
    have b1 := Below.on b0 b0.size (by exact hb1)
    go_wp2
    go_ret
    exact ⟨rfl, b1⟩
  | true =>
    rw [heq] at he
    have HE := Lib.hid he
    clear he heq HR HR' k0 j0 H1
    rw [if_pos rfl]
    generalize adv p.v p.l = X at *
    generalize adv q.v q.l = X' at *
    generalize pf p = P at *
    generalize pf q = Q at *
    generalize p.bits = n at *
    generalize q.bits = n' at *
    go_enter Tryd.func39, Tryd.ntmps39
    go_wp2_with (first
      | (refine wpList_loadPart (g := w.heap.size) ?hw 24 (.tmp 5) ?ho (0) ?hx X _ r0 Tryd.underlying24 rfl ?hi ?_
         case hw => rfl
         case ho => with_reducible rfl
         case hx => rfl
         case hi => exact za)
      | (refine wpList_loadPart (g := w.heap.size + 1) ?hw 24 (.tmp 7) ?ho (0) ?hx X' _ s0 Tryd.underlying24 rfl ?hi ?_
         case hw => rfl
         case ho => with_reducible rfl
         case hx => rfl
         case hi => exact za')
      | (refine neqAny (cs := X) (ds := X') (b := true) rfl 24 24 (.tmp 6) (.tmp 8) ?ho ?hx ?hy Tryd.plainAddr ?he ?_
         case ho => with_reducible rfl
         case hx => rfl
         case hy => rfl
         case he => exact HE.out)
      | fail)
    go_ret
    exact ⟨rfl, b0⟩
end Go.Proofs.YtccidoigjdbepaaDoor
