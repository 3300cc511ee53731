
/- Layer 11. Contracts: cidr.Right, crawlwayref11.Right, cidr.Whole. -/
import Derived.Test.YtccidoigjdbepaaDoorCxA
import Derived.Deep.RegionHeld
namespace Go.Proofs.YtccidoigjdbepaaDoor
open Go.RowKit
set_option maxRecDepth 100000
set_option linter.unusedVariables false
set_option linter.unusedSimpArgs false

/-- May a prefix be? -/
noncomputable def rightP (p : Pfx) : Bool := decide (ofE p.v p.l p.bits = 0) && (p.l == mL p.bits.toNat p.l)
theorem pf_blk {w : World} {g : Nat} {t : TypeId} {p : Pfx} (h : Blk w g t (pf p)) : w.rangeAt g 0 (pf p).toList := h.range0
theorem pf_adr {w : World} {g : Nat} {t : TypeId} {p : Pfx} (h : Blk w g t (pf p)) : w.rangeAt g 0 (adv p.v p.l).toList := by
  intro j v hv
  refine h.range0 j v ?_
  unfold pf pfxC
  rw [List.getElem?_append_left ((List.getElem?_eq_some_iff.1 hv).1)]
  exact hv
theorem pf_bits {w : World} {g : Nat} {t : TypeId} {p : Pfx} (hl : p.l.length = 16) (h : Blk w g t (pf p)) : w.cell? ⟨g, 17, none⟩ = some (.int .i64 p.bits) := by
  rw [h.cellA 17]
  exact pfx_bits p hl
theorem pf_eq (p q : Pfx) (hp : p.l.length = 16) (hq : q.l.length = 16) : ∀ w, (Op.equalIn 10000 45 (.agg (pf p)) (.agg (pf q))).run Tryd.prog w = .ok (pfxEq p q) w := pfx_eq p q hp hq
theorem pfxEq_self (p : Pfx) : pfxEq p p = true := by simp [pfxEq]

set_option maxHeartbeats 2000000 in
theorem cright_any (p : Pfx) (hp : pfxOk p) (w : World) :
    Calls Tryd.prog 30 #[.agg (pf p)] w fun e w' => e = .returned (.bool (rightP p)) ∧ Below w.heap.size w w' := by
  obtain ⟨hv, hl, hn⟩ := hp
  unfold in64 at hn
  have H1 := Lib.hid (fun W => cof_any p.v p.l p.bits hl hn.1 hn.2 W)
  have hql := ofP_len p.v p.l p.bits hl
  have HE := Lib.hid (pf_eq (ofP p.v p.l p.bits) p hql hl)
  have y18 := pf_size (ofP p.v p.l p.bits) hql
  have o1 := pf_one (ofP p.v p.l p.bits)
  have zq : (Tryd.prog.info? 45).map (·.size) = some (pf (ofP p.v p.l p.bits)).size := by rw [y18]; exact Tryd.infoPfx
  have zp : (Tryd.prog.info? 45).map (·.size) = some (pf p).size := by rw [pf_size p hl]; exact Tryd.infoPfx
  have za := Adr_size p.v p.l hl
  have k0 : Blk (w.alloc (.cells (pf p) 45)) w.heap.size 45 (pf p) := blk_new _ _ _
  have b0 : Below w.heap.size w (w.alloc (.cells (pf p) 45)) := (Below.refl _ _).alloc (Nat.le_refl _) _
  have r0 := pf_adr k0
  have c0 := pf_bits hl k0
  have hR : (ofE p.v p.l p.bits = 0 ∧ rightP p = pfxEq (ofP p.v p.l p.bits) p) ∨ (((ofE p.v p.l p.bits : Int) == 0) = false ∧ rightP p = false) := by
    by_cases h : ofE p.v p.l p.bits = 0
    · refine .inl ⟨h, ?_⟩
      unfold rightP ofP pfxEq
      rw [if_pos h, decide_eq_true h]
      simp [Bool.beq_comm]
    · refine .inr ⟨by rw [beq_eq_false_iff_ne]; omega, ?_⟩
      unfold rightP
      rw [decide_eq_false h]
      rfl
  generalize rightP p = R at *
  generalize pfxEq (ofP p.v p.l p.bits) p = Eq at *
  generalize ofE p.v p.l p.bits = E at *
  generalize pf (ofP p.v p.l p.bits) = Y at *
  generalize adv p.v p.l = X at *
  generalize pf p = P at *
  generalize p.bits = n at *
  go_enter Tryd.func30, Tryd.ntmps30
  go_wp2_with (first
    | (refine wpList_loadPart (g := w.heap.size) ?hw 24 (.tmp 6) ?ho (0) ?hx X _ r0 Tryd.underlying24 rfl ?hi ?_
       case hw => rfl
       case ho => with_reducible rfl
       case hx => rfl
       case hi => exact za)
    | fail)
  refine (H1.out _).mono ?_; rintro e w1 ⟨rfl, hb1⟩
  have k1 := (k0.on (by exact hb1)).alloc (.cells Y 45)
  have j1 : Blk (w1.alloc (.cells Y 45)) w1.heap.size 45 Y := blk_new _ _ _
  have b1 := Below.on b0 b0.size (by exact hb1)
  have b1 := b1.alloc b1.size (.cells Y 45)
  clear hb1 k0 r0 c0 b0
  rcases hR with ⟨rfl, rfl⟩ | ⟨hE, rfl⟩
  · go_wp2_with (first
      | (refine wpList_allocStore (cs := Y) rfl rfl 45 ?ho (.tmp 3) (.tmp 11) ?ho2 Tryd.zeroPfx rfl ?hx ?hy ?hn ?h1 ?_
         case ho => with_reducible rfl
         case ho2 => with_reducible rfl
         case hx => rfl
         case hy => rfl
         case hn => exact y18
         case h1 => exact o1)
      | (refine wpList_loadBlk (g := w1.heap.size) (t := 45) (cs := Y) ?hw 45 (.tmp 3) ?ho ?hx ?hA _ Tryd.underlying45 rfl ?hi ?_
         case hw => rfl
         case ho => with_reducible rfl
         case hx => rfl
         case hA => exact j1
         case hi => exact zq)
      | (refine wpList_loadBlk (g := w.heap.size) (t := 45) (cs := P) ?hw 45 (.tmp 1) ?ho ?hx ?hA _ Tryd.underlying45 rfl ?hi ?_
         case hw => rfl
         case ho => with_reducible rfl
         case hx => rfl
         case hA => exact k1
         case hi => exact zp)
      | (refine eqlAny (cs := Y) (ds := P) (b := R) rfl 45 45 (.tmp 16) (.tmp 17) ?ho ?hx ?hy Tryd.plainPfx ?he ?_
         case ho => with_reducible rfl
         case hx => rfl
         case hy => rfl
         case he => exact HE.out)
      | fail)
    go_ret
    exact ⟨rfl, b1⟩
  · go_wp2_with (first
      | (refine wpList_allocStore (cs := Y) rfl rfl 45 ?ho (.tmp 3) (.tmp 11) ?ho2 Tryd.zeroPfx rfl ?hx ?hy ?hn ?h1 ?_
         case ho => with_reducible rfl
         case ho2 => with_reducible rfl
         case hx => rfl
         case hy => rfl
         case hn => exact y18
         case h1 => exact o1)
      | (refine wpList_loadBlk (g := w1.heap.size) (t := 45) (cs := Y) ?hw 45 (.tmp 3) ?ho ?hx ?hA _ Tryd.underlying45 rfl ?hi ?_
         case hw => rfl
         case ho => with_reducible rfl
         case hx => rfl
         case hA => exact j1
         case hi => exact zq)
      | (refine wpList_loadBlk (g := w.heap.size) (t := 45) (cs := P) ?hw 45 (.tmp 1) ?ho ?hx ?hA _ Tryd.underlying45 rfl ?hi ?_
         case hw => rfl
         case ho => with_reducible rfl
         case hx => rfl
         case hA => exact k1
         case hi => exact zp)
      | (refine eqlAny (cs := Y) (ds := P) (b := R) rfl 45 45 (.tmp 16) (.tmp 17) ?ho ?hx ?hy Tryd.plainPfx ?he ?_
         case ho => with_reducible rfl
         case hx => rfl
         case hy => rfl
         case he => exact HE.out)
      | fail)
    go_ret
    exact ⟨rfl, b1⟩

set_option maxHeartbeats 2000000 in
theorem refcright_any (p : Pfx) (hp : pfxOk p) (w : World) :
    Calls Tryd.prog 33 #[.agg (pf p)] w fun e w' => e = .returned (.bool (rightP p)) ∧ Below w.heap.size w w' := by
  obtain ⟨hv, hl, hn⟩ := hp
  unfold in64 at hn
  have H1 := refRight_any p.v p.l hl
  have H2 := Lib.hid (fun W => refWidthA_any p.v p.l hl W)
  have za := Adr_size p.v p.l hl
  have hsz := sizeA_le p.v p.l
  have k0 : Blk (w.alloc (.cells (pf p) 45)) w.heap.size 45 (pf p) := blk_new _ _ _
  have b0 : Below w.heap.size w (w.alloc (.cells (pf p) 45)) := (Below.refl _ _).alloc (Nat.le_refl _) _
  have r0 : ∀ W, Below (w.alloc (.cells (pf p) 45)).heap.size (w.alloc (.cells (pf p) 45)) W → W.rangeAt w.heap.size 0 (adv p.v p.l).toList := fun W hW => pf_adr (k0.on hW)
  have c0 : ∀ W, Below (w.alloc (.cells (pf p) 45)).heap.size (w.alloc (.cells (pf p) 45)) W → W.cell? ⟨w.heap.size, 17, none⟩ = some (.int .i64 p.bits) := fun W hW => pf_bits hl (k0.on hW)
  have hup : ∀ W, Below (w.alloc (.cells (pf p) 45)).heap.size (w.alloc (.cells (pf p) 45)) W → Below w.heap.size w W := fun W hW => Below.on b0 b0.size hW
  have hcase : (okA p.v p.l = false ∧ rightP p = false) ∨ (okA p.v p.l = true ∧ p.bits < 0 ∧ rightP p = false) ∨ (okA p.v p.l = true ∧ 0 ≤ p.bits ∧ (8 * sizeA p.v p.l : Int) < p.bits ∧ rightP p = false) ∨ (okA p.v p.l = true ∧ 0 ≤ p.bits ∧ ¬ (8 * sizeA p.v p.l : Int) < p.bits ∧ rightP p = (p.l == mL p.bits.toNat p.l)) := by
    unfold rightP
    rcases of_case p.v p.l p.bits with ⟨h1, h2, _⟩ | ⟨h1, h0, h2, _⟩ | ⟨h1, h0, h3, h2, _⟩ | ⟨h1, h0, h3, h2, _⟩
    · exact .inl ⟨h1, by rw [h2]; rfl⟩
    · exact .inr (.inl ⟨h1, h0, by rw [h2]; rfl⟩)
    · exact .inr (.inr (.inl ⟨h1, h0, h3, by rw [h2]; rfl⟩))
    · exact .inr (.inr (.inr ⟨h1, h0, h3, by rw [h2]; rfl⟩))
  rcases hcase with ⟨hok, hR⟩ | ⟨hok, h0, hR⟩ | ⟨hok, h0, h1, hR⟩ | ⟨hok, h0, h1, hR⟩
  · rw [hR]
    rw [hok] at H1
    have H1 := Lib.hid H1
    clear hR hok hsz k0 b0
    generalize adv p.v p.l = X at *
    generalize pf p = P at *
    generalize p.bits = n at *
    go_enter Tryd.func33, Tryd.ntmps33
    go_wp2_with fail
    generalize hw2 : w.alloc (.cells P 45) = w2 at *
    generalize hg1 : w.heap.size = g1 at *
    refine wp_region_below w2.heap.size (by kernel_rfl) (by kernel_rfl) ?_
    repeat (first
      | go_big_quiet_skip
      | (go_big_quiet_want
         first
           | (refine qm_load (g := g1) (off := 0) (cs := X.toList) 24 (.tmp 3) ?ho ?hx ?hA _ Tryd.underlying24 rfl ?hz ?_
              case ho => with_reducible rfl
              case hx => rfl
              case hA => exact fun w' hw' => r0 _ hw'
              case hz => simpa using za
              go_big_quiet_on
              simp only [Act.put, List.setIfInBounds_toArray, List.set_cons_succ, List.set_cons_zero])
           | (refine qc_load (ad := ⟨g1, 17, none⟩) (v := .int .i64 n) 3 .i64 (.tmp 8) ?ho ?hx ?hA Tryd.underlying3 ?_
              case ho => with_reducible rfl
              case hx => rfl
              case hA => exact fun w' hw' => c0 _ hw'
              go_big_quiet_on
              simp only [Act.put, List.setIfInBounds_toArray, List.set_cons_succ, List.set_cons_zero])
           | (refine qc_load (ad := ⟨g1, 17, none⟩) (v := .int .i64 n) 3 .i64 (.tmp 13) ?ho ?hx ?hA Tryd.underlying3 ?_
              case ho => with_reducible rfl
              case hx => rfl
              case hA => exact fun w' hw' => c0 _ hw'
              go_big_quiet_on
              simp only [Act.put, List.setIfInBounds_toArray, List.set_cons_succ, List.set_cons_zero])
           | (refine qm_load (g := g1) (off := 0) (cs := X.toList) 24 (.tmp 15) ?ho ?hx ?hA _ Tryd.underlying24 rfl ?hz ?_
              case ho => with_reducible rfl
              case hx => rfl
              case hA => exact fun w' hw' => r0 _ hw'
              case hz => simpa using za
              go_big_quiet_on
              simp only [Act.put, List.setIfInBounds_toArray, List.set_cons_succ, List.set_cons_zero])
           | (go_big_quiet_op
              first
                | go_big_quiet_on
                | (with_reducible refine ⟨_, fun _ _ => rfl, ?_⟩; go_big_quiet_on)
                | (apply Exists.intro
                   refine ⟨fun w' hw' => ?_, ?_⟩
                   · (go_at_call 12; with_reducible refine (H1.out _).mono ?_; exact fun _ _ h => ⟨h.1, Below.on hw' hw'.size h.2⟩)
                   go_big_quiet_on)
                | (apply Exists.intro
                   refine ⟨fun w' hw' => ?_, ?_⟩
                   · (go_at_call 20; with_reducible refine (H2.out _).mono ?_; exact fun _ _ h => ⟨h.1, Below.on hw' hw'.size h.2⟩)
                   go_big_quiet_on))))
    refine wpQuiet_nil ?_
    intro w3 hw3
    go_wp2
    go_ret
    exact ⟨rfl, by first | exact hup _ hw3 | (rw [hg1]; exact hup _ hw3)⟩
  · rw [hR]
    rw [hok] at H1
    have H1 := Lib.hid H1
    have d0 : decide (p.bits < 0) = true := decide_eq_true h0
    clear hR hok hsz k0 b0
    generalize adv p.v p.l = X at *
    generalize pf p = P at *
    generalize p.bits = n at *
    go_enter Tryd.func33, Tryd.ntmps33
    go_wp2_with fail
    generalize hw2 : w.alloc (.cells P 45) = w2 at *
    generalize hg1 : w.heap.size = g1 at *
    refine wp_region_below w2.heap.size (by kernel_rfl) (by kernel_rfl) ?_
    repeat (first
      | go_big_quiet_skip
      | (go_big_quiet_want
         first
           | (refine qm_load (g := g1) (off := 0) (cs := X.toList) 24 (.tmp 3) ?ho ?hx ?hA _ Tryd.underlying24 rfl ?hz ?_
              case ho => with_reducible rfl
              case hx => rfl
              case hA => exact fun w' hw' => r0 _ hw'
              case hz => simpa using za
              go_big_quiet_on
              simp only [Act.put, List.setIfInBounds_toArray, List.set_cons_succ, List.set_cons_zero])
           | (refine qc_load (ad := ⟨g1, 17, none⟩) (v := .int .i64 n) 3 .i64 (.tmp 8) ?ho ?hx ?hA Tryd.underlying3 ?_
              case ho => with_reducible rfl
              case hx => rfl
              case hA => exact fun w' hw' => c0 _ hw'
              go_big_quiet_on
              simp only [Act.put, List.setIfInBounds_toArray, List.set_cons_succ, List.set_cons_zero])
           | (refine qc_load (ad := ⟨g1, 17, none⟩) (v := .int .i64 n) 3 .i64 (.tmp 13) ?ho ?hx ?hA Tryd.underlying3 ?_
              case ho => with_reducible rfl
              case hx => rfl
              case hA => exact fun w' hw' => c0 _ hw'
              go_big_quiet_on
              simp only [Act.put, List.setIfInBounds_toArray, List.set_cons_succ, List.set_cons_zero])
           | (refine qm_load (g := g1) (off := 0) (cs := X.toList) 24 (.tmp 15) ?ho ?hx ?hA _ Tryd.underlying24 rfl ?hz ?_
              case ho => with_reducible rfl
              case hx => rfl
              case hA => exact fun w' hw' => r0 _ hw'
              case hz => simpa using za
              go_big_quiet_on
              simp only [Act.put, List.setIfInBounds_toArray, List.set_cons_succ, List.set_cons_zero])
           | (go_big_quiet_op
              first
                | go_big_quiet_on
                | (with_reducible refine ⟨_, fun _ _ => rfl, ?_⟩; go_big_quiet_on)
                | (apply Exists.intro
                   refine ⟨fun w' hw' => ?_, ?_⟩
                   · (go_at_call 12; with_reducible refine (H1.out _).mono ?_; exact fun _ _ h => ⟨h.1, Below.on hw' hw'.size h.2⟩)
                   go_big_quiet_on)
                | (apply Exists.intro
                   refine ⟨fun w' hw' => ?_, ?_⟩
                   · (go_at_call 20; with_reducible refine (H2.out _).mono ?_; exact fun _ _ h => ⟨h.1, Below.on hw' hw'.size h.2⟩)
                   go_big_quiet_on))))
    refine wpQuiet_nil ?_
    intro w3 hw3
    go_wp2
    go_ret
    exact ⟨rfl, by first | exact hup _ hw3 | (rw [hg1]; exact hup _ hw3)⟩
  · rw [hR]
    rw [hok] at H1
    have H1 := Lib.hid H1
    have d0 : decide (p.bits < 0) = false := decide_eq_false (by omega)
    have d1 : decide ((8 * sizeA p.v p.l : Int) < p.bits) = true := decide_eq_true h1
    clear hR hok hsz k0 b0
    generalize sizeA p.v p.l = m at *
    generalize adv p.v p.l = X at *
    generalize pf p = P at *
    generalize p.bits = n at *
    go_enter Tryd.func33, Tryd.ntmps33
    go_wp2_with fail
    generalize hw2 : w.alloc (.cells P 45) = w2 at *
    generalize hg1 : w.heap.size = g1 at *
    refine wp_region_below w2.heap.size (by kernel_rfl) (by kernel_rfl) ?_
    repeat (first
      | go_big_quiet_skip
      | (go_big_quiet_want
         first
           | (refine qm_load (g := g1) (off := 0) (cs := X.toList) 24 (.tmp 3) ?ho ?hx ?hA _ Tryd.underlying24 rfl ?hz ?_
              case ho => with_reducible rfl
              case hx => rfl
              case hA => exact fun w' hw' => r0 _ hw'
              case hz => simpa using za
              go_big_quiet_on
              simp only [Act.put, List.setIfInBounds_toArray, List.set_cons_succ, List.set_cons_zero])
           | (refine qc_load (ad := ⟨g1, 17, none⟩) (v := .int .i64 n) 3 .i64 (.tmp 8) ?ho ?hx ?hA Tryd.underlying3 ?_
              case ho => with_reducible rfl
              case hx => rfl
              case hA => exact fun w' hw' => c0 _ hw'
              go_big_quiet_on
              simp only [Act.put, List.setIfInBounds_toArray, List.set_cons_succ, List.set_cons_zero])
           | (refine qc_load (ad := ⟨g1, 17, none⟩) (v := .int .i64 n) 3 .i64 (.tmp 13) ?ho ?hx ?hA Tryd.underlying3 ?_
              case ho => with_reducible rfl
              case hx => rfl
              case hA => exact fun w' hw' => c0 _ hw'
              go_big_quiet_on
              simp only [Act.put, List.setIfInBounds_toArray, List.set_cons_succ, List.set_cons_zero])
           | (refine qm_load (g := g1) (off := 0) (cs := X.toList) 24 (.tmp 15) ?ho ?hx ?hA _ Tryd.underlying24 rfl ?hz ?_
              case ho => with_reducible rfl
              case hx => rfl
              case hA => exact fun w' hw' => r0 _ hw'
              case hz => simpa using za
              go_big_quiet_on
              simp only [Act.put, List.setIfInBounds_toArray, List.set_cons_succ, List.set_cons_zero])
           | (go_big_quiet_op
              first
                | go_big_quiet_on
                | (with_reducible refine ⟨_, fun _ _ => rfl, ?_⟩; go_big_quiet_on)
                | (apply Exists.intro
                   refine ⟨fun w' hw' => ?_, ?_⟩
                   · (go_at_call 12; with_reducible refine (H1.out _).mono ?_; exact fun _ _ h => ⟨h.1, Below.on hw' hw'.size h.2⟩)
                   go_big_quiet_on)
                | (apply Exists.intro
                   refine ⟨fun w' hw' => ?_, ?_⟩
                   · (go_at_call 20; with_reducible refine (H2.out _).mono ?_; exact fun _ _ h => ⟨h.1, Below.on hw' hw'.size h.2⟩)
                   go_big_quiet_on))))
    refine wpQuiet_nil ?_
    intro w3 hw3
    go_wp2
    go_ret
    exact ⟨rfl, by first | exact hup _ hw3 | (rw [hg1]; exact hup _ hw3)⟩
  · have H3 := Lib.hid (fun W => refMask_ok p.v p.bits p.l hl hok hn.1 hn.2 W)
    have HE0 := adr_eq p.v p.v p.l (mL p.bits.toNat p.l) hl (by rw [mL_len, hl])
    rw [show (p.v == p.v && p.l == mL p.bits.toNat p.l) = (p.l == mL p.bits.toNat p.l) by simp] at HE0
    have HE := Lib.hid HE0
    rw [hR]
    rw [hok] at H1
    have H1 := Lib.hid H1
    have d0 : decide (p.bits < 0) = false := decide_eq_false (by omega)
    have d1 : decide ((8 * sizeA p.v p.l : Int) < p.bits) = false := decide_eq_false h1
    clear hR hok hsz k0 b0 HE0
    generalize (p.l == mL p.bits.toNat p.l) = R at *
    generalize adv p.v (mL p.bits.toNat p.l) = M at *
    generalize sizeA p.v p.l = m at *
    generalize adv p.v p.l = X at *
    generalize pf p = P at *
    generalize p.bits = n at *
    go_enter Tryd.func33, Tryd.ntmps33
    go_wp2_with fail
    generalize hw2 : w.alloc (.cells P 45) = w2 at *
    generalize hg1 : w.heap.size = g1 at *
    refine wp_region_below w2.heap.size (by kernel_rfl) (by kernel_rfl) ?_
    repeat (first
      | go_big_quiet_skip
      | (go_big_quiet_want
         first
           | (refine qm_load (g := g1) (off := 0) (cs := X.toList) 24 (.tmp 3) ?ho ?hx ?hA _ Tryd.underlying24 rfl ?hz ?_
              case ho => with_reducible rfl
              case hx => rfl
              case hA => exact fun w' hw' => r0 _ hw'
              case hz => simpa using za
              go_big_quiet_on
              simp only [Act.put, List.setIfInBounds_toArray, List.set_cons_succ, List.set_cons_zero])
           | (refine qc_load (ad := ⟨g1, 17, none⟩) (v := .int .i64 n) 3 .i64 (.tmp 8) ?ho ?hx ?hA Tryd.underlying3 ?_
              case ho => with_reducible rfl
              case hx => rfl
              case hA => exact fun w' hw' => c0 _ hw'
              go_big_quiet_on
              simp only [Act.put, List.setIfInBounds_toArray, List.set_cons_succ, List.set_cons_zero])
           | (refine qc_load (ad := ⟨g1, 17, none⟩) (v := .int .i64 n) 3 .i64 (.tmp 13) ?ho ?hx ?hA Tryd.underlying3 ?_
              case ho => with_reducible rfl
              case hx => rfl
              case hA => exact fun w' hw' => c0 _ hw'
              go_big_quiet_on
              simp only [Act.put, List.setIfInBounds_toArray, List.set_cons_succ, List.set_cons_zero])
           | (refine qm_load (g := g1) (off := 0) (cs := X.toList) 24 (.tmp 15) ?ho ?hx ?hA _ Tryd.underlying24 rfl ?hz ?_
              case ho => with_reducible rfl
              case hx => rfl
              case hA => exact fun w' hw' => r0 _ hw'
              case hz => simpa using za
              go_big_quiet_on
              simp only [Act.put, List.setIfInBounds_toArray, List.set_cons_succ, List.set_cons_zero])
           | (go_big_quiet_op
              first
                | go_big_quiet_on
                | (with_reducible refine ⟨_, fun _ _ => rfl, ?_⟩; go_big_quiet_on)
                | (apply Exists.intro
                   refine ⟨fun w' hw' => ?_, ?_⟩
                   · (go_at_call 12; with_reducible refine (H1.out _).mono ?_; exact fun _ _ h => ⟨h.1, Below.on hw' hw'.size h.2⟩)
                   go_big_quiet_on)
                | (apply Exists.intro
                   refine ⟨fun w' hw' => ?_, ?_⟩
                   · (go_at_call 20; with_reducible refine (H2.out _).mono ?_; exact fun _ _ h => ⟨h.1, Below.on hw' hw'.size h.2⟩)
                   go_big_quiet_on))))
    refine wpQuiet_nil ?_
    intro w3 hw3
    go_wp2
    refine wp_region_below w3.heap.size (by kernel_rfl) (by kernel_rfl) ?_
    repeat (first
      | go_big_quiet_skip
      | (go_big_quiet_want
         first
           | (refine qm_load (g := g1) (off := 0) (cs := X.toList) 24 (.tmp 20) ?ho ?hx ?hA _ Tryd.underlying24 rfl ?hz ?_
              case ho => with_reducible rfl
              case hx => rfl
              case hA => exact fun w' hw' => r0 _ (Below.on hw3 hw3.size hw')
              case hz => simpa using za
              go_big_quiet_on
              simp only [Act.put, List.setIfInBounds_toArray, List.set_cons_succ, List.set_cons_zero])
           | (refine qm_load (g := g1) (off := 0) (cs := X.toList) 24 (.tmp 22) ?ho ?hx ?hA _ Tryd.underlying24 rfl ?hz ?_
              case ho => with_reducible rfl
              case hx => rfl
              case hA => exact fun w' hw' => r0 _ (Below.on hw3 hw3.size hw')
              case hz => simpa using za
              go_big_quiet_on
              simp only [Act.put, List.setIfInBounds_toArray, List.set_cons_succ, List.set_cons_zero])
           | (refine qc_load (ad := ⟨g1, 17, none⟩) (v := .int .i64 n) 3 .i64 (.tmp 24) ?ho ?hx ?hA Tryd.underlying3 ?_
              case ho => with_reducible rfl
              case hx => rfl
              case hA => exact fun w' hw' => c0 _ (Below.on hw3 hw3.size hw')
              go_big_quiet_on
              simp only [Act.put, List.setIfInBounds_toArray, List.set_cons_succ, List.set_cons_zero])
           | (refine qe_eql (cs := X) (ds := M) (b := R) 24 24 (.tmp 21) (.tmp 26) ?ho ?hx ?hy Tryd.plainAddr ?he ?_
              case ho => with_reducible rfl
              case hx => rfl
              case hy => rfl
              case he => exact HE.out
              go_big_quiet_on
              simp only [Act.put, List.setIfInBounds_toArray, List.set_cons_succ, List.set_cons_zero])
           | (go_big_quiet_op
              first
                | go_big_quiet_on
                | (with_reducible refine ⟨_, fun _ _ => rfl, ?_⟩; go_big_quiet_on)
                | (apply Exists.intro
                   refine ⟨fun w' hw' => ?_, ?_⟩
                   · (go_at_call 66; with_reducible refine (H3.out _).mono ?_; exact fun _ _ h => ⟨h.1, Below.on hw' hw'.size h.2⟩)
                   go_big_quiet_on))))
    refine wpQuiet_nil ?_
    intro w4 hw4
    go_wp2
    go_ret
    exact ⟨rfl, by first | exact hup _ (Below.on hw3 hw3.size hw4) | (rw [hg1]; exact hup _ (Below.on hw3 hw3.size hw4))⟩

/-- The prefix of all bits. -/
noncomputable def whP (v : Int) (l : List UInt8) : Pfx := ofP v l (8 * sizeA v l : Int)
set_option maxHeartbeats 2000000 in
theorem cwhole_any (v : Int) (l : List UInt8) (hl : l.length = 16) (w : World) :
    Calls Tryd.prog 31 #[.agg (adv v l)] w fun e w' => e = .returned (.agg (pf (whP v l))) ∧ Below w.heap.size w w' := by
  have hsz := sizeA_le v l
  have H1 := Lib.hid (fun W => widthA_any v l hl W)
  have H2 := Lib.hid (fun W => cof_any v l (8 * sizeA v l : Int) hl (by omega) (by omega) W)
  have hql := ofP_len v l (8 * sizeA v l : Int) hl
  have hz := (zero_of_info Tryd.zeroPfx).1
  have hne : ¬ pf zP = #[] := by simp [pf, pfxC]
  have y18 := pf_size _ hql
  have o1 := pf_one (ofP v l (8 * sizeA v l : Int))
  have zq : (Tryd.prog.info? 45).map (·.size) = some (pf (ofP v l (8 * sizeA v l : Int))).size := by rw [y18]; exact Tryd.infoPfx
  have z18 : (pf zP).size = (pf (ofP v l (8 * sizeA v l : Int))).size := by rw [y18]; rfl
  have za := Adr_size v l hl
  have k0 : Blk ((w.alloc (.cells (adv v l) 24)).alloc (.cells (pf zP) 45)) w.heap.size 24 (adv v l) := (blk_new _ _ _).alloc _
  have r0 : Blk ((w.alloc (.cells (adv v l) 24)).alloc (.cells (pf zP) 45)) (w.heap.size + 1) 45 (pf zP) := blk_new' _ _ _ _ (by simp)
  have b0 : Below w.heap.size w ((w.alloc (.cells (adv v l) 24)).alloc (.cells (pf zP) 45)) := ((Below.refl _ _).alloc (Nat.le_refl _) _).alloc (by simp) _
  unfold whP
  generalize ofE v l (8 * sizeA v l : Int) = E at *
  generalize pf (ofP v l (8 * sizeA v l : Int)) = Y at *
  generalize pf zP = Z at *
  generalize adv v l = X at *
  generalize sizeA v l = m at *
  go_enter Tryd.func31, Tryd.ntmps31
  go_wp2_with fail
  generalize hW0 : (w.alloc (.cells X 24)).alloc (.cells Z 45) = W0 at *
  have q0 : Blk W0.drew w.heap.size 24 X := k0
  have p0 : Blk W0.drew (w.heap.size + 1) 45 Z := r0
  have b0 : Below w.heap.size w W0.drew := b0.drew
  clear hW0 k0 r0
  refine wp_region_held_drew (S := fun W => Blk W w.heap.size 24 X) (by kernel_rfl) q0 ?_
  intro hS
  generalize W0.drew = W1 at *
  refine wpAnyH_take (i := 0) (oi := ?o1) (v := .agg X) ?hio1 (by kernel_rfl) (by kernel_rfl) (by kernel_rfl) ?hQo1 ?hyo1 hS ?_
  case hio1 => (simp only [List.getElem?_toArray, List.getElem?_cons_succ, List.getElem?_cons_zero]; rfl)
  case hQo1 => exact fun _ _ _ h => h
  case hyo1 => exact yieldsIf_load_mid (by rfl) 24 (.tmp 1) rfl w.heap.size 0 rfl X.toList _ (fun W hW => Blk.range0 hW) Tryd.underlying24 rfl (by simpa using za)
  try simp only [Act.put, List.setIfInBounds_toArray, List.set_cons_zero, List.set_cons_succ]
  refine wpAnyH_take (i := 1) (oi := ?o2) (v := .agg X) ?hio2 (by kernel_rfl) (by kernel_rfl) (by kernel_rfl) ?hQo2 ?hyo2 hS ?_
  case hio2 => (simp only [List.getElem?_toArray, List.getElem?_cons_succ, List.getElem?_cons_zero]; rfl)
  case hQo2 => exact fun _ _ _ h => h
  case hyo2 => exact yieldsIf_load_mid (by rfl) 24 (.tmp 1) rfl w.heap.size 0 rfl X.toList _ (fun W hW => Blk.range0 hW) Tryd.underlying24 rfl (by simpa using za)
  try simp only [Act.put, List.setIfInBounds_toArray, List.set_cons_zero, List.set_cons_succ]
  refine wpAnyH_ready (rs := [2, 7]) (by kernel_rfl) (by simp) ?_
  refine AllReadyH.cons (o := ?o24) ?hoo24 (fun K hK => ?ho24) (AllReadyH.cons (o := ?o25) ?hoo25 (fun K hK => ?ho25) AllReadyH.nil)
  case hoo24 => (simp only [List.getElem?_toArray, List.getElem?_cons_succ, List.getElem?_cons_zero]; rfl)
  case hoo25 => (simp only [List.getElem?_toArray, List.getElem?_cons_succ, List.getElem?_cons_zero]; rfl)
  case ho24 =>
    go_simp
    go_at_call 19
    with_reducible refine (H1.out _).mono ?_
    rintro e w2 ⟨rfl, hw2⟩
    have q2 := q0.on hw2
    have p2 := p0.on hw2
    have b2 := Below.on b0 b0.size hw2
    refine hK.out _ _ q2 (fun hS2 => ?_)
    clear hK K hw2
    try simp only [Act.put, List.setIfInBounds_toArray, List.set_cons_zero, List.set_cons_succ]
    refine wpAnyH_ready (rs := [3, 7]) (by kernel_rfl) (by simp) ?_
    refine AllReadyH.cons (o := ?o15) ?hoo15 (fun K hK => ?ho15) (AllReadyH.cons (o := ?o16) ?hoo16 (fun K hK => ?ho16) AllReadyH.nil)
    case hoo15 => (simp only [List.getElem?_toArray, List.getElem?_cons_succ, List.getElem?_cons_zero]; rfl)
    case hoo16 => (simp only [List.getElem?_toArray, List.getElem?_cons_succ, List.getElem?_cons_zero]; rfl)
    case ho15 =>
      go_simp
      go_at_call 28
      with_reducible refine (H2.out _).mono ?_
      rintro e w3 ⟨rfl, hw3⟩
      have q3 := q2.on hw3
      have p3 := p2.on hw3
      have b3 := Below.on b2 b2.size hw3
      refine hK.out _ _ q3 (fun hS3 => ?_)
      clear hK K hw3
      try simp only [Act.put, List.setIfInBounds_toArray, List.set_cons_zero, List.set_cons_succ]
      refine wpAnyH_take (i := 4) (oi := ?o3) (v := .tuple #[.agg Y, .int .i64 (E : Int)]) ?hio3 (by kernel_rfl) (by kernel_rfl) (by kernel_rfl) ?hQo3 ?hyo3 hS3 ?_
      case hio3 => (simp only [List.getElem?_toArray, List.getElem?_cons_succ, List.getElem?_cons_zero]; rfl)
      case hQo3 => exact fun _ _ _ h => h
      case hyo3 => exact Or.inl ⟨by rfl, fun W hW => by go_simp⟩
      try simp only [Act.put, List.setIfInBounds_toArray, List.set_cons_zero, List.set_cons_succ]
      refine wpAnyH_take (i := 5) (oi := ?o4) (v := .agg Y) ?hio4 (by kernel_rfl) (by kernel_rfl) (by kernel_rfl) ?hQo4 ?hyo4 hS3 ?_
      case hio4 => (simp only [List.getElem?_toArray, List.getElem?_cons_succ, List.getElem?_cons_zero]; rfl)
      case hQo4 => exact fun _ _ _ h => h
      case hyo4 => exact Or.inl ⟨by rfl, fun W hW => by go_simp⟩
      try simp only [Act.put, List.setIfInBounds_toArray, List.set_cons_zero, List.set_cons_succ]
      refine wpAnyH_take (i := 6) (oi := ?o5) (v := .int .i64 (E : Int)) ?hio5 (by kernel_rfl) (by kernel_rfl) (by kernel_rfl) ?hQo5 ?hyo5 hS3 ?_
      case hio5 => (simp only [List.getElem?_toArray, List.getElem?_cons_succ, List.getElem?_cons_zero]; rfl)
      case hQo5 => exact fun _ _ _ h => h
      case hyo5 => exact Or.inl ⟨by rfl, fun W hW => by go_simp⟩
      try simp only [Act.put, List.setIfInBounds_toArray, List.set_cons_zero, List.set_cons_succ]
      refine wpAnyH_ready (rs := [7]) (by kernel_rfl) (by simp) ?_
      refine AllReadyH.cons (o := ?o8) ?hoo8 (fun K hK => ?ho8) AllReadyH.nil
      case hoo8 => (simp only [List.getElem?_toArray, List.getElem?_cons_succ, List.getElem?_cons_zero]; rfl)
      case ho8 =>
        go_simp
        have n4 : Blk (w3.alloc (.cells Z 45)) w3.heap.size 45 Z := blk_new _ _ _
        have q4 := q3.alloc (.cells Z 45)
        have p4 := p3.alloc (.cells Z 45)
        have b4 := b3.alloc b3.size (.cells Z 45)
        have l4 := p3.lt
        refine hK.out _ _ q4 (fun hS4 => ?_)
        clear hK K
        try simp only [Act.put, List.setIfInBounds_toArray, List.set_cons_zero, List.set_cons_succ]
        refine wpAnyH_ready (rs := [8]) (by kernel_rfl) (by simp) ?_
        refine AllReadyH.cons (o := ?o7) ?hoo7 (fun K hK => ?ho7) AllReadyH.nil
        case hoo7 => (simp only [List.getElem?_toArray, List.getElem?_cons_succ, List.getElem?_cons_zero]; rfl)
        case ho7 =>
          refine step_storeBlk (g := w3.heap.size) (t := 45) (cs := Y) rfl 45 (.tmp 3) (.tmp 10) rfl rfl rfl Z n4 zq z18 o1 ?_
          intro w5 n5 hg5
          have b5 : Below w.heap.size w w5 := b4.grown hg5 b4.size (fun j hj => by injection hj with hj; omega)
          have p5 : Blk w5 (w.heap.size + 1) 45 Z := p4.grown hg5 (by omega)
          refine hK.out _ _ (q4.grown hg5 (by omega)) (fun hS5 => ?_)
          clear hK K
          try simp only [Act.put, List.setIfInBounds_toArray, List.set_cons_zero, List.set_cons_succ]
          refine wpAnyH_take (i := 9) (oi := ?o6) (v := .int .i64 (E : Int)) ?hio6 (by kernel_rfl) (by kernel_rfl) (by kernel_rfl) ?hQo6 ?hyo6 hS5 ?_
          case hio6 => (simp only [List.getElem?_toArray, List.getElem?_cons_succ, List.getElem?_cons_zero]; rfl)
          case hQo6 => exact fun _ _ _ h => h
          case hyo6 => exact Or.inl ⟨by rfl, fun W hW => by go_simp⟩
          try simp only [Act.put, List.setIfInBounds_toArray, List.set_cons_zero, List.set_cons_succ]
          refine wpAnyH_done (by kernel_rfl) ?_ _
          clear hS5
          go_wp2_with (first
            | (refine wpList_loadBlk (g := w3.heap.size) (t := 45) (cs := Y) ?hw 45 (.tmp 3) ?ho ?hx ?hA _ Tryd.underlying45 rfl ?hi ?_
               case hw => rfl
               case ho => with_reducible rfl
               case hx => rfl
               case hA => exact n5
               case hi => exact zq)
            | (refine wpList_storeBlk (g := w.heap.size + 1) (t := 45) (cs := Y) ?hw 45 (.tmp 2) (.tmp 12) ?ho ?hx2 ?hy2 Z p5 ?hi ?hs ?h1 ?_
               case ho => with_reducible rfl
               case hw => rfl
               case hx2 => rfl
               case hy2 => rfl
               case hi => exact zq
               case hs => exact z18
               case h1 => exact o1
               intro w9 k9 hg9
               have b9 : Below w.heap.size w w9 := (b5).grown hg9 (b5).size (fun j hj => by injection hj with hj; omega))
            | fail)
          refine bodyPost_blk rfl _ rfl k9 Tryd.underlying45 rfl zq rfl ⟨rfl, b9⟩
    case ho16 =>
      go_simp
      have n6 : Blk (w2.alloc (.cells Z 45)) w2.heap.size 45 Z := blk_new _ _ _
      have q6 := q2.alloc (.cells Z 45)
      have p6 := p2.alloc (.cells Z 45)
      have b6 := b2.alloc b2.size (.cells Z 45)
      have l6 := p2.lt
      refine hK.out _ _ q6 (fun hS6 => ?_)
      clear hK K
      try simp only [Act.put, List.setIfInBounds_toArray, List.set_cons_zero, List.set_cons_succ]
      refine wpAnyH_ready (rs := [3]) (by kernel_rfl) (by simp) ?_
      refine AllReadyH.cons (o := ?o14) ?hoo14 (fun K hK => ?ho14) AllReadyH.nil
      case hoo14 => (simp only [List.getElem?_toArray, List.getElem?_cons_succ, List.getElem?_cons_zero]; rfl)
      case ho14 =>
        go_simp
        go_at_call 28
        with_reducible refine (H2.out _).mono ?_
        rintro e w7 ⟨rfl, hw7⟩
        have q7 := q6.on hw7
        have p7 := p6.on hw7
        have b7 := Below.on b6 b6.size hw7
        have n7 := n6.on hw7
        refine hK.out _ _ q7 (fun hS7 => ?_)
        clear hK K hw7
        try simp only [Act.put, List.setIfInBounds_toArray, List.set_cons_zero, List.set_cons_succ]
        refine wpAnyH_take (i := 4) (oi := ?o9) (v := .tuple #[.agg Y, .int .i64 (E : Int)]) ?hio9 (by kernel_rfl) (by kernel_rfl) (by kernel_rfl) ?hQo9 ?hyo9 hS7 ?_
        case hio9 => (simp only [List.getElem?_toArray, List.getElem?_cons_succ, List.getElem?_cons_zero]; rfl)
        case hQo9 => exact fun _ _ _ h => h
        case hyo9 => exact Or.inl ⟨by rfl, fun W hW => by go_simp⟩
        try simp only [Act.put, List.setIfInBounds_toArray, List.set_cons_zero, List.set_cons_succ]
        refine wpAnyH_take (i := 5) (oi := ?o10) (v := .agg Y) ?hio10 (by kernel_rfl) (by kernel_rfl) (by kernel_rfl) ?hQo10 ?hyo10 hS7 ?_
        case hio10 => (simp only [List.getElem?_toArray, List.getElem?_cons_succ, List.getElem?_cons_zero]; rfl)
        case hQo10 => exact fun _ _ _ h => h
        case hyo10 => exact Or.inl ⟨by rfl, fun W hW => by go_simp⟩
        try simp only [Act.put, List.setIfInBounds_toArray, List.set_cons_zero, List.set_cons_succ]
        refine wpAnyH_take (i := 6) (oi := ?o11) (v := .int .i64 (E : Int)) ?hio11 (by kernel_rfl) (by kernel_rfl) (by kernel_rfl) ?hQo11 ?hyo11 hS7 ?_
        case hio11 => (simp only [List.getElem?_toArray, List.getElem?_cons_succ, List.getElem?_cons_zero]; rfl)
        case hQo11 => exact fun _ _ _ h => h
        case hyo11 => exact Or.inl ⟨by rfl, fun W hW => by go_simp⟩
        try simp only [Act.put, List.setIfInBounds_toArray, List.set_cons_zero, List.set_cons_succ]
        refine wpAnyH_ready (rs := [8]) (by kernel_rfl) (by simp) ?_
        refine AllReadyH.cons (o := ?o13) ?hoo13 (fun K hK => ?ho13) AllReadyH.nil
        case hoo13 => (simp only [List.getElem?_toArray, List.getElem?_cons_succ, List.getElem?_cons_zero]; rfl)
        case ho13 =>
          refine step_storeBlk (g := w2.heap.size) (t := 45) (cs := Y) rfl 45 (.tmp 3) (.tmp 10) rfl rfl rfl Z n7 zq z18 o1 ?_
          intro w8 n8 hg8
          have b8 : Below w.heap.size w w8 := b7.grown hg8 b7.size (fun j hj => by injection hj with hj; omega)
          have p8 : Blk w8 (w.heap.size + 1) 45 Z := p7.grown hg8 (by omega)
          refine hK.out _ _ (q7.grown hg8 (by omega)) (fun hS8 => ?_)
          clear hK K
          try simp only [Act.put, List.setIfInBounds_toArray, List.set_cons_zero, List.set_cons_succ]
          refine wpAnyH_take (i := 9) (oi := ?o12) (v := .int .i64 (E : Int)) ?hio12 (by kernel_rfl) (by kernel_rfl) (by kernel_rfl) ?hQo12 ?hyo12 hS8 ?_
          case hio12 => (simp only [List.getElem?_toArray, List.getElem?_cons_succ, List.getElem?_cons_zero]; rfl)
          case hQo12 => exact fun _ _ _ h => h
          case hyo12 => exact Or.inl ⟨by rfl, fun W hW => by go_simp⟩
          try simp only [Act.put, List.setIfInBounds_toArray, List.set_cons_zero, List.set_cons_succ]
          refine wpAnyH_done (by kernel_rfl) ?_ _
          clear hS8
          go_wp2_with (first
            | (refine wpList_loadBlk (g := w2.heap.size) (t := 45) (cs := Y) ?hw 45 (.tmp 3) ?ho ?hx ?hA _ Tryd.underlying45 rfl ?hi ?_
               case hw => rfl
               case ho => with_reducible rfl
               case hx => rfl
               case hA => exact n8
               case hi => exact zq)
            | (refine wpList_storeBlk (g := w.heap.size + 1) (t := 45) (cs := Y) ?hw 45 (.tmp 2) (.tmp 12) ?ho ?hx2 ?hy2 Z p8 ?hi ?hs ?h1 ?_
               case ho => with_reducible rfl
               case hw => rfl
               case hx2 => rfl
               case hy2 => rfl
               case hi => exact zq
               case hs => exact z18
               case h1 => exact o1
               intro w9 k9 hg9
               have b9 : Below w.heap.size w w9 := (b8).grown hg9 (b8).size (fun j hj => by injection hj with hj; omega))
            | fail)
          refine bodyPost_blk rfl _ rfl k9 Tryd.underlying45 rfl zq rfl ⟨rfl, b9⟩
  case ho25 =>
    go_simp
    have n9 : Blk (W1.alloc (.cells Z 45)) W1.heap.size 45 Z := blk_new _ _ _
    have q9 := q0.alloc (.cells Z 45)
    have p9 := p0.alloc (.cells Z 45)
    have b9 := b0.alloc b0.size (.cells Z 45)
    have l9 := p0.lt
    refine hK.out _ _ q9 (fun hS9 => ?_)
    clear hK K
    try simp only [Act.put, List.setIfInBounds_toArray, List.set_cons_zero, List.set_cons_succ]
    refine wpAnyH_ready (rs := [2]) (by kernel_rfl) (by simp) ?_
    refine AllReadyH.cons (o := ?o23) ?hoo23 (fun K hK => ?ho23) AllReadyH.nil
    case hoo23 => (simp only [List.getElem?_toArray, List.getElem?_cons_succ, List.getElem?_cons_zero]; rfl)
    case ho23 =>
      go_simp
      go_at_call 19
      with_reducible refine (H1.out _).mono ?_
      rintro e w10 ⟨rfl, hw10⟩
      have q10 := q9.on hw10
      have p10 := p9.on hw10
      have b10 := Below.on b9 b9.size hw10
      have n10 := n9.on hw10
      refine hK.out _ _ q10 (fun hS10 => ?_)
      clear hK K hw10
      try simp only [Act.put, List.setIfInBounds_toArray, List.set_cons_zero, List.set_cons_succ]
      refine wpAnyH_ready (rs := [3]) (by kernel_rfl) (by simp) ?_
      refine AllReadyH.cons (o := ?o22) ?hoo22 (fun K hK => ?ho22) AllReadyH.nil
      case hoo22 => (simp only [List.getElem?_toArray, List.getElem?_cons_succ, List.getElem?_cons_zero]; rfl)
      case ho22 =>
        go_simp
        go_at_call 28
        with_reducible refine (H2.out _).mono ?_
        rintro e w11 ⟨rfl, hw11⟩
        have q11 := q10.on hw11
        have p11 := p10.on hw11
        have b11 := Below.on b10 b10.size hw11
        have n11 := n10.on hw11
        refine hK.out _ _ q11 (fun hS11 => ?_)
        clear hK K hw11
        try simp only [Act.put, List.setIfInBounds_toArray, List.set_cons_zero, List.set_cons_succ]
        refine wpAnyH_take (i := 4) (oi := ?o17) (v := .tuple #[.agg Y, .int .i64 (E : Int)]) ?hio17 (by kernel_rfl) (by kernel_rfl) (by kernel_rfl) ?hQo17 ?hyo17 hS11 ?_
        case hio17 => (simp only [List.getElem?_toArray, List.getElem?_cons_succ, List.getElem?_cons_zero]; rfl)
        case hQo17 => exact fun _ _ _ h => h
        case hyo17 => exact Or.inl ⟨by rfl, fun W hW => by go_simp⟩
        try simp only [Act.put, List.setIfInBounds_toArray, List.set_cons_zero, List.set_cons_succ]
        refine wpAnyH_take (i := 5) (oi := ?o18) (v := .agg Y) ?hio18 (by kernel_rfl) (by kernel_rfl) (by kernel_rfl) ?hQo18 ?hyo18 hS11 ?_
        case hio18 => (simp only [List.getElem?_toArray, List.getElem?_cons_succ, List.getElem?_cons_zero]; rfl)
        case hQo18 => exact fun _ _ _ h => h
        case hyo18 => exact Or.inl ⟨by rfl, fun W hW => by go_simp⟩
        try simp only [Act.put, List.setIfInBounds_toArray, List.set_cons_zero, List.set_cons_succ]
        refine wpAnyH_take (i := 6) (oi := ?o19) (v := .int .i64 (E : Int)) ?hio19 (by kernel_rfl) (by kernel_rfl) (by kernel_rfl) ?hQo19 ?hyo19 hS11 ?_
        case hio19 => (simp only [List.getElem?_toArray, List.getElem?_cons_succ, List.getElem?_cons_zero]; rfl)
        case hQo19 => exact fun _ _ _ h => h
        case hyo19 => exact Or.inl ⟨by rfl, fun W hW => by go_simp⟩
        try simp only [Act.put, List.setIfInBounds_toArray, List.set_cons_zero, List.set_cons_succ]
        refine wpAnyH_ready (rs := [8]) (by kernel_rfl) (by simp) ?_
        refine AllReadyH.cons (o := ?o21) ?hoo21 (fun K hK => ?ho21) AllReadyH.nil
        case hoo21 => (simp only [List.getElem?_toArray, List.getElem?_cons_succ, List.getElem?_cons_zero]; rfl)
        case ho21 =>
          refine step_storeBlk (g := W1.heap.size) (t := 45) (cs := Y) rfl 45 (.tmp 3) (.tmp 10) rfl rfl rfl Z n11 zq z18 o1 ?_
          intro w12 n12 hg12
          have b12 : Below w.heap.size w w12 := b11.grown hg12 b11.size (fun j hj => by injection hj with hj; omega)
          have p12 : Blk w12 (w.heap.size + 1) 45 Z := p11.grown hg12 (by omega)
          refine hK.out _ _ (q11.grown hg12 (by omega)) (fun hS12 => ?_)
          clear hK K
          try simp only [Act.put, List.setIfInBounds_toArray, List.set_cons_zero, List.set_cons_succ]
          refine wpAnyH_take (i := 9) (oi := ?o20) (v := .int .i64 (E : Int)) ?hio20 (by kernel_rfl) (by kernel_rfl) (by kernel_rfl) ?hQo20 ?hyo20 hS12 ?_
          case hio20 => (simp only [List.getElem?_toArray, List.getElem?_cons_succ, List.getElem?_cons_zero]; rfl)
          case hQo20 => exact fun _ _ _ h => h
          case hyo20 => exact Or.inl ⟨by rfl, fun W hW => by go_simp⟩
          try simp only [Act.put, List.setIfInBounds_toArray, List.set_cons_zero, List.set_cons_succ]
          refine wpAnyH_done (by kernel_rfl) ?_ _
          clear hS12
          go_wp2_with (first
            | (refine wpList_loadBlk (g := W1.heap.size) (t := 45) (cs := Y) ?hw 45 (.tmp 3) ?ho ?hx ?hA _ Tryd.underlying45 rfl ?hi ?_
               case hw => rfl
               case ho => with_reducible rfl
               case hx => rfl
               case hA => exact n12
               case hi => exact zq)
            | (refine wpList_storeBlk (g := w.heap.size + 1) (t := 45) (cs := Y) ?hw 45 (.tmp 2) (.tmp 12) ?ho ?hx2 ?hy2 Z p12 ?hi ?hs ?h1 ?_
               case ho => with_reducible rfl
               case hw => rfl
               case hx2 => rfl
               case hy2 => rfl
               case hi => exact zq
               case hs => exact z18
               case h1 => exact o1
               intro w9 k9 hg9
               have b9 : Below w.heap.size w w9 := (b12).grown hg9 (b12).size (fun j hj => by injection hj with hj; omega))
            | fail)
          refine bodyPost_blk rfl _ rfl k9 Tryd.underlying45 rfl zq rfl ⟨rfl, b9⟩
end Go.Proofs.YtccidoigjdbepaaDoor
