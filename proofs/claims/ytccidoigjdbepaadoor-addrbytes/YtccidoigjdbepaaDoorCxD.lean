
/- Layer 11. Numbers up to a bound; contracts: Text of cidr and crawlwayref11. -/
import Derived.Test.YtccidoigjdbepaaDoorCxC
import Derived.Test.YtccidoigjdbepaaDoorZAx
namespace Go.Proofs.YtccidoigjdbepaaDoor
open Go.RowKit Dec Lin
set_option maxRecDepth 100000
set_option linter.unusedVariables false
set_option linter.unusedSimpArgs false

open Classical in
/-- The error of a number's text, and the number. -/
noncomputable def nE (most : Nat) (x : List UInt8) : Nat := if Formed x then (if most < dval x then 6 else 0) else 5
noncomputable def nV (most : Nat) (x : List UInt8) : Nat := if nE most x = 0 then dval x else 0
theorem nV_le (most : Nat) (x : List UInt8) : nV most x ≤ most := by
  unfold nV
  split
  · next h =>
    unfold nE at h
    split at h
    · split at h
      · cases h
      · omega
    · cases h
  · omega
theorem readN (most : Nat) (hm : most ≤ 1000000) (x : List UInt8) (hx : x.length ≤ 1000000) (w : World) :
    Calls Tryd.prog 72 #[sv x, .int .u64 (most : Int)] w fun e w' => e = .returned (.tuple #[.int .u64 (nV most x : Int), .int .i64 (nE most x : Int)]) ∧ Below w.heap.size w w' := by
  by_cases h : Formed x
  · by_cases h2 : most < dval x
    · have e : nE most x = 6 := by rw [nE, if_pos h, if_pos h2]
      have e' : nV most x = 0 := by rw [nV, e]; rfl
      rw [e, e']
      exact read_walk ⟨⟨x⟩⟩ x rfl most _ w h (fun W => formed_yes _ W (by omega) h) (.inr ⟨.inr h2, rfl⟩)
    · have e : nE most x = 0 := by rw [nE, if_pos h, if_neg h2]
      have e' : nV most x = dval x := by rw [nV, if_pos e]
      rw [e, e']
      exact read_walk ⟨⟨x⟩⟩ x rfl most _ w h (fun W => formed_yes _ W (by omega) h) (.inl ⟨by omega, by omega, rfl⟩)
  · have e : nE most x = 5 := by rw [nE, if_neg h]
    have e' : nV most x = 0 := by rw [nV, e]; rfl
    rw [e, e']
    exact read_form x most w (by omega) h
theorem refReadN (most : Nat) (hm : most ≤ 1000000) (x : List UInt8) (hx : x.length ≤ 1000000) (w : World) :
    Calls Tryd.prog 73 #[sv x, .int .u64 (most : Int)] w fun e w' => e = .returned (.tuple #[.int .u64 (nV most x : Int), .int .i64 (nE most x : Int)]) ∧ w = w' := by
  by_cases h : Formed x
  · by_cases h2 : most < dval x
    · have e : nE most x = 6 := by rw [nE, if_pos h, if_pos h2]
      have e' : nV most x = 0 := by rw [nV, e]; rfl
      rw [e, e']
      exact refRead_walk ⟨⟨x⟩⟩ x rfl most _ w (by show x.length ≤ _; omega) h (by omega) (.inr ⟨h2, rfl⟩)
    · have e : nE most x = 0 := by rw [nE, if_pos h, if_neg h2]
      have e' : nV most x = dval x := by rw [nV, if_pos e]
      rw [e, e']
      exact refRead_walk ⟨⟨x⟩⟩ x rfl most _ w (by show x.length ≤ _; omega) h (by omega) (.inl ⟨by omega, rfl⟩)
  · have e : nE most x = 5 := by rw [nE, if_neg h]
    have e' : nV most x = 0 := by rw [nV, e]; rfl
    rw [e, e']
    exact refRead_form x most w (by omega) h
theorem n_back (most u : Nat) (h : u ≤ most) : nE most (Lib.decDigits u) = 0 ∧ nV most (Lib.decDigits u) = u := by
  obtain ⟨h1, h2, _⟩ := dec_props u
  have e : nE most (Lib.decDigits u) = 0 := by rw [nE, if_pos h1, if_neg (by rw [h2]; omega)]
  exact ⟨e, by rw [nV, if_pos e, h2]⟩
theorem nn_len (u : Nat) (h : u ≤ 65535) : (Lib.decDigits u).length ≤ 20 := dec_len u (by omega)

/-- A prefix's text. -/
noncomputable def txP (p : Pfx) : List UInt8 := if rightP p = true then txA p.v p.l ++ [47] ++ Lib.decDigits p.bits.toNat else []

set_option maxHeartbeats 2000000 in
theorem ctextP_any (p : Pfx) (hp : pfxOk p) (w : World) (htab : Tab w) :
    Calls Tryd.prog 40 #[.agg (pf p)] w fun e w' => e = .returned (sv (txP p)) ∧ Below w.heap.size w w' := by
  have h1 := fun W => cright_any p hp W
  obtain ⟨hv, hl, hn⟩ := hp
  have Htab := Lib.hid htab
  have k0 : Blk (w.alloc (.cells (pf p) 45)) w.heap.size 45 (pf p) := blk_new _ _ _
  have b0 : Below w.heap.size w (w.alloc (.cells (pf p) 45)) := (Below.refl _ _).alloc (Nat.le_refl _) _
  have zp : (Tryd.prog.info? 45).map (·.size) = some (pf p).size := by rw [pf_size p hl]; exact Tryd.infoPfx
  have za := Adr_size p.v p.l hl
  have HR := Lib.hid (fun (W : World) (h : Blk W w.heap.size 45 (pf p)) => And.intro (pf_adr h) (pf_bits hl h))
  cases hr : rightP p with
  | false =>
    rw [hr] at h1
    have H1 := Lib.hid h1
    rw [show txP p = [] by unfold txP; rw [hr]; rfl]
    clear h1 hr
    generalize pf p = P at *
    go_enter Tryd.func40, Tryd.ntmps40
    go_wp2_with (first
      | (refine wpList_loadBlk (g := w.heap.size) (t := 45) (cs := P) ?hw 45 (.tmp 1) ?ho ?hx ?hA _ Tryd.underlying45 rfl ?hi ?_
         case hw => rfl
         case ho => with_reducible rfl
         case hx => rfl
         case hA => exact k0
         case hi => exact zp)
      | fail)
    refine (H1.out _).mono ?_; rintro e w1 ⟨rfl, hb1⟩
    have k1 := k0.on (by exact hb1)
    have b1 := Below.on b0 b0.size (by exact hb1)
    clear hb1 k0 b0
    go_wp2
    go_ret
    exact ⟨rfl, b1⟩
  | true =>
    rw [hr] at h1
    have H1 := Lib.hid h1
    obtain ⟨f1, f2, f3, _⟩ := right_facts p hr
    have hsz := sizeA_le p.v p.l
    rw [show txP p = txA p.v p.l ++ [47] ++ Lib.decDigits p.bits.toNat by unfold txP; rw [hr]; rfl]
    obtain ⟨n, hnn⟩ := Int.eq_ofNat_of_zero_le f2
    have hwr : IntKind.u64.wrap (n : Int) = (n : Int) := IntWalk.u64_in _ (by omega)
    have hn128 : n ≤ 128 := by omega
    have H2 := Lib.hid (fun W h => @Go.Proofs.YtccidoigjdbepaaDoor.text_any p.v p.l hl W h)
    have H3 := Lib.hid (fun W h => Dec.text_any n W (by omega) h)
    have H4 : Hid (∀ W, Tab W → Calls Tryd.prog 70 #[.int .u64 (IntKind.u64.wrap (n : Int))] W fun e w' => e = .returned (sv (Lib.decDigits n)) ∧ Below W.heap.size W w') := Lib.hid (by rw [hwr]; exact H3.out)
    rw [hnn] at HR ⊢
    rw [Int.toNat_natCast]
    clear h1 hr f1 f2 f3 hnn hn hv
    generalize adv p.v p.l = X at *
    have hTl := txA_len p.v p.l hl
    have hDl := nn_len n (by omega)
    generalize Lib.decDigits n = D at *
    generalize txA p.v p.l = T at *
    have hA1 := Cl.str_add T [47]
    have hA2 := Cl.str_add (T ++ [47]) D
    have z1 : (ByteArray.mk ⟨T⟩).size = T.length := rfl
    have z2 : (ByteArray.mk ⟨D⟩).size = D.length := rfl
    have z3 : (ByteArray.mk ⟨T ++ [47]⟩).size = T.length + 1 := by show (T ++ [47]).length = _; simp
    generalize pf p = P at *
    go_enter Tryd.func40, Tryd.ntmps40
    go_wp2_with (first
      | (refine wpList_loadBlk (g := w.heap.size) (t := 45) (cs := P) ?hw 45 (.tmp 1) ?ho ?hx ?hA _ Tryd.underlying45 rfl ?hi ?_
         case hw => rfl
         case ho => with_reducible rfl
         case hx => rfl
         case hA => exact k0
         case hi => exact zp)
      | fail)
    refine (H1.out _).mono ?_; rintro e w1 ⟨rfl, hb1⟩
    have k1 := k0.on (by exact hb1)
    have b1 := Below.on b0 b0.size (by exact hb1)
    clear hb1 k0 b0
    go_wp2_with fail
    have hup : ∀ W, Below w1.heap.size w1 W → Below w.heap.size w W := fun W hW => Below.on b1 b1.size hW
    have r1 : ∀ W, Below w1.heap.size w1 W → W.rangeAt w.heap.size 0 X.toList := fun W hW => (HR.out W (k1.on hW)).1
    have c3 : ∀ W, Below w1.heap.size w1 W → W.cell? ⟨w.heap.size, 17, none⟩ = some (.int .i64 (n : Int)) := fun W hW => (HR.out W (k1.on hW)).2
    have hT : ∀ W, Below w1.heap.size w1 W → Tab W := fun W hW => Htab.out.on (hup W hW)
    clear k1 b1 HR
    generalize hg1 : w.heap.size = g1 at *
    refine wp_region_below w1.heap.size (by kernel_rfl) (by kernel_rfl) ?_
    repeat (first
      | go_big_quiet_skip
      | (go_big_quiet_want
         first
           | (refine qm_load (g := g1) (off := 0) (cs := X.toList) 24 (.tmp 6) ?ho ?hx ?hA _ Tryd.underlying24 rfl ?hz ?_
              case ho => with_reducible rfl
              case hx => rfl
              case hA => exact fun w' hw' => r1 _ hw'
              case hz => simpa using za
              go_big_quiet_on
              simp only [Act.put, List.setIfInBounds_toArray, List.set_cons_succ, List.set_cons_zero])
           | (refine qc_load (ad := ⟨g1, 17, none⟩) (v := .int .i64 (n : Int)) 3 .i64 (.tmp 10) ?ho ?hx ?hA Tryd.underlying3 ?_
              case ho => with_reducible rfl
              case hx => rfl
              case hA => exact fun w' hw' => c3 _ hw'
              go_big_quiet_on
              simp only [Act.put, List.setIfInBounds_toArray, List.set_cons_succ, List.set_cons_zero])
           | (go_big_quiet_op
              first
                | go_big_quiet_on
                | (with_reducible refine ⟨_, fun _ _ => rfl, ?_⟩; go_big_quiet_on)
                | (apply Exists.intro
                   refine ⟨fun w' hw' => ?_, ?_⟩
                   · (go_at_call 14; with_reducible refine (H2.out _ (hT _ hw')).mono ?_; exact fun _ _ h => ⟨h.1, Below.on hw' hw'.size h.2⟩)
                   go_big_quiet_on)
                | (apply Exists.intro
                   refine ⟨fun w' hw' => ?_, ?_⟩
                   · (go_at_call 70; with_reducible refine (H3.out _ (hT _ hw')).mono ?_; exact fun _ _ h => ⟨h.1, Below.on hw' hw'.size h.2⟩)
                   go_big_quiet_on)
                | (apply Exists.intro
                   refine ⟨fun w' hw' => ?_, ?_⟩
                   · (go_at_call 70; with_reducible refine (H4.out _ (hT _ hw')).mono ?_; exact fun _ _ h => ⟨h.1, Below.on hw' hw'.size h.2⟩)
                   go_big_quiet_on))))
    refine wpQuiet_nil ?_
    intro w4 hw4
    go_wp2
    go_ret
    exact ⟨Cl.ret_sv (by simp), by first | exact hup _ hw4 | (rw [hg1]; exact hup _ hw4)⟩

set_option maxHeartbeats 2000000 in
theorem refctextP_any (p : Pfx) (hp : pfxOk p) (w : World) :
    Calls Tryd.prog 41 #[.agg (pf p)] w fun e w' => e = .returned (sv (txP p)) ∧ Below w.heap.size w w' := by
  have h1 := fun W => refcright_any p hp W
  obtain ⟨hv, hl, hn⟩ := hp

  have k0 : Blk (w.alloc (.cells (pf p) 45)) w.heap.size 45 (pf p) := blk_new _ _ _
  have b0 : Below w.heap.size w (w.alloc (.cells (pf p) 45)) := (Below.refl _ _).alloc (Nat.le_refl _) _
  have zp : (Tryd.prog.info? 45).map (·.size) = some (pf p).size := by rw [pf_size p hl]; exact Tryd.infoPfx
  have za := Adr_size p.v p.l hl
  have HR := Lib.hid (fun (W : World) (h : Blk W w.heap.size 45 (pf p)) => And.intro (pf_adr h) (pf_bits hl h))
  cases hr : rightP p with
  | false =>
    rw [hr] at h1
    have H1 := Lib.hid h1
    rw [show txP p = [] by unfold txP; rw [hr]; rfl]
    clear h1 hr
    generalize pf p = P at *
    go_enter Tryd.func41, Tryd.ntmps41
    go_wp2_with (first
      | (refine wpList_loadBlk (g := w.heap.size) (t := 45) (cs := P) ?hw 45 (.tmp 1) ?ho ?hx ?hA _ Tryd.underlying45 rfl ?hi ?_
         case hw => rfl
         case ho => with_reducible rfl
         case hx => rfl
         case hA => exact k0
         case hi => exact zp)
      | fail)
    refine (H1.out _).mono ?_; rintro e w1 ⟨rfl, hb1⟩
    have k1 := k0.on (by exact hb1)
    have b1 := Below.on b0 b0.size (by exact hb1)
    clear hb1 k0 b0
    go_wp2
    go_ret
    exact ⟨rfl, b1⟩
  | true =>
    rw [hr] at h1
    have H1 := Lib.hid h1
    obtain ⟨f1, f2, f3, _⟩ := right_facts p hr
    have hsz := sizeA_le p.v p.l
    rw [show txP p = txA p.v p.l ++ [47] ++ Lib.decDigits p.bits.toNat by unfold txP; rw [hr]; rfl]
    obtain ⟨n, hnn⟩ := Int.eq_ofNat_of_zero_le f2
    have hwr : IntKind.u64.wrap (n : Int) = (n : Int) := IntWalk.u64_in _ (by omega)
    have hn128 : n ≤ 128 := by omega
    have H2 := Lib.hid (fun W => @Go.Proofs.YtccidoigjdbepaaDoor.refText_any p.v p.l hl W)
    have H3 := Lib.hid (fun W => Dec.refText_any 20 n W (by omega) (by omega))
    have H4 : Hid (∀ W, Calls Tryd.prog 71 #[.int .u64 (IntKind.u64.wrap (n : Int))] W fun e w' => e = .returned (sv (Lib.decDigits n)) ∧ Below W.heap.size W w') := Lib.hid (by rw [hwr]; exact H3.out)
    rw [hnn] at HR ⊢
    rw [Int.toNat_natCast]
    clear h1 hr f1 f2 f3 hnn hn hv
    generalize adv p.v p.l = X at *
    have hTl := txA_len p.v p.l hl
    have hDl := nn_len n (by omega)
    generalize Lib.decDigits n = D at *
    generalize txA p.v p.l = T at *
    have hA1 := Cl.str_add T [47]
    have hA2 := Cl.str_add (T ++ [47]) D
    have z1 : (ByteArray.mk ⟨T⟩).size = T.length := rfl
    have z2 : (ByteArray.mk ⟨D⟩).size = D.length := rfl
    have z3 : (ByteArray.mk ⟨T ++ [47]⟩).size = T.length + 1 := by show (T ++ [47]).length = _; simp
    generalize pf p = P at *
    go_enter Tryd.func41, Tryd.ntmps41
    go_wp2_with (first
      | (refine wpList_loadBlk (g := w.heap.size) (t := 45) (cs := P) ?hw 45 (.tmp 1) ?ho ?hx ?hA _ Tryd.underlying45 rfl ?hi ?_
         case hw => rfl
         case ho => with_reducible rfl
         case hx => rfl
         case hA => exact k0
         case hi => exact zp)
      | fail)
    refine (H1.out _).mono ?_; rintro e w1 ⟨rfl, hb1⟩
    have k1 := k0.on (by exact hb1)
    have b1 := Below.on b0 b0.size (by exact hb1)
    clear hb1 k0 b0
    go_wp2_with fail
    have hup : ∀ W, Below w1.heap.size w1 W → Below w.heap.size w W := fun W hW => Below.on b1 b1.size hW
    have r1 : ∀ W, Below w1.heap.size w1 W → W.rangeAt w.heap.size 0 X.toList := fun W hW => (HR.out W (k1.on hW)).1
    have c3 : ∀ W, Below w1.heap.size w1 W → W.cell? ⟨w.heap.size, 17, none⟩ = some (.int .i64 (n : Int)) := fun W hW => (HR.out W (k1.on hW)).2

    clear k1 b1 HR
    generalize hg1 : w.heap.size = g1 at *
    refine wp_region_below w1.heap.size (by kernel_rfl) (by kernel_rfl) ?_
    repeat (first
      | go_big_quiet_skip
      | (go_big_quiet_want
         first
           | (refine qm_load (g := g1) (off := 0) (cs := X.toList) 24 (.tmp 6) ?ho ?hx ?hA _ Tryd.underlying24 rfl ?hz ?_
              case ho => with_reducible rfl
              case hx => rfl
              case hA => exact fun w' hw' => r1 _ hw'
              case hz => simpa using za
              go_big_quiet_on
              simp only [Act.put, List.setIfInBounds_toArray, List.set_cons_succ, List.set_cons_zero])
           | (refine qc_load (ad := ⟨g1, 17, none⟩) (v := .int .i64 (n : Int)) 3 .i64 (.tmp 10) ?ho ?hx ?hA Tryd.underlying3 ?_
              case ho => with_reducible rfl
              case hx => rfl
              case hA => exact fun w' hw' => c3 _ hw'
              go_big_quiet_on
              simp only [Act.put, List.setIfInBounds_toArray, List.set_cons_succ, List.set_cons_zero])
           | (go_big_quiet_op
              first
                | go_big_quiet_on
                | (with_reducible refine ⟨_, fun _ _ => rfl, ?_⟩; go_big_quiet_on)
                | (apply Exists.intro
                   refine ⟨fun w' hw' => ?_, ?_⟩
                   · (go_at_call 18; with_reducible refine (H2.out _).mono ?_; exact fun _ _ h => ⟨h.1, Below.on hw' hw'.size h.2⟩)
                   go_big_quiet_on)
                | (apply Exists.intro
                   refine ⟨fun w' hw' => ?_, ?_⟩
                   · (go_at_call 71; with_reducible refine (H3.out _).mono ?_; exact fun _ _ h => ⟨h.1, Below.on hw' hw'.size h.2⟩)
                   go_big_quiet_on)
                | (apply Exists.intro
                   refine ⟨fun w' hw' => ?_, ?_⟩
                   · (go_at_call 71; with_reducible refine (H4.out _).mono ?_; exact fun _ _ h => ⟨h.1, Below.on hw' hw'.size h.2⟩)
                   go_big_quiet_on))))
    refine wpQuiet_nil ?_
    intro w4 hw4
    go_wp2
    go_ret
    exact ⟨Cl.ret_sv (by simp), by first | exact hup _ hw4 | (rw [hg1]; exact hup _ hw4)⟩
end Go.Proofs.YtccidoigjdbepaaDoor
