
/- Contract: crawlwayref20.Parse. -/
import Derived.Test.YtkokgoodpibboaaSxB
namespace Go.Proofs.Ytkokgoodpibboaa
open Go.RowKit
set_option maxRecDepth 100000
set_option linter.unusedSimpArgs false
set_option linter.unusedVariables false

/-- What the numbers of a head of family 6 are, byte by byte. -/
theorem head6_fields (l : List UInt8) (h : 40 ≤ l.length) : ∃ b0 b1 b2 b3 b4 b5 b6 b7 : UInt8, (l[0]? = some b0 ∧ l[1]? = some b1 ∧ l[2]? = some b2 ∧ l[3]? = some b3 ∧ l[4]? = some b4 ∧ l[5]? = some b5 ∧ l[6]? = some b6 ∧ l[7]? = some b7) ∧
    n1 l / 1152921504606846976 = b0.toNat / 16 ∧ n1 l / 65536 % 65536 + 40 = 40 + 256 * b4.toNat + b5.toNat ∧ n1 l / 4503599627370496 % 256 = 16 * (b0.toNat % 16) + b1.toNat / 16 ∧ n1 l / 4294967296 % 1048576 = 65536 * (b1.toNat % 16) + 256 * b2.toNat + b3.toNat ∧ n1 l % 256 = b7.toNat ∧ n1 l / 256 % 256 = b6.toNat := by
  match l, h with
  | b0 :: b1 :: b2 :: b3 :: b4 :: b5 :: b6 :: b7 :: t, _ =>
    refine ⟨b0, b1, b2, b3, b4, b5, b6, b7, ⟨rfl, rfl, rfl, rfl, rfl, rfl, rfl, rfl⟩, ?_⟩
    have e1 : n1 (b0 :: b1 :: b2 :: b3 :: b4 :: b5 :: b6 :: b7 :: t) = b7.toNat + 256 * (b6.toNat + 256 * (b5.toNat + 256 * (b4.toNat + 256 * (b3.toNat + 256 * (b2.toNat + 256 * (b1.toNat + 256 * (b0.toNat + 256 * 0))))))) := rfl
    rw [e1]
    have h0 := b0.toNat_lt; have h1 := b1.toNat_lt; have h2 := b2.toNat_lt; have h3 := b3.toNat_lt; have h4 := b4.toNat_lt; have h5 := b5.toNat_lt; have h6 := b6.toNat_lt; have h7 := b7.toNat_lt
    clear e1
    generalize b0.toNat = x0 at *; generalize b1.toNat = x1 at *; generalize b2.toNat = x2 at *; generalize b3.toNat = x3 at *; generalize b4.toNat = x4 at *; generalize b5.toNat = x5 at *
    generalize b6.toNat = x6 at *; generalize b7.toNat = x7 at *
    refine ⟨?_, ?_, ?_, ?_, ?_, ?_⟩ <;> omega

theorem refParse6_short (A : Option Addr) (n c : Nat) (l : List UInt8) (w : World) (hl : l.length = n) (h20 : n < 40) :
    Calls Try.prog 87 #[.slice A n c] w fun e w' => e = .returned (.tuple #[.agg (pH6 l), .int .i64 (pE6 l : Int)]) ∧ Below w.heap.size w w' := by
  have hz := (zero_of_info Try.zeroHead).1
  have hne : ¬ zH = #[] := by intro h; have := zH_size; rw [h] at this; cases this
  have zs : (Try.prog.info? 42).map (·.size) = some zH.size := by rw [zH_size]; exact Try.infoHead
  have k0 : Blk (w.alloc (.cells zH 42)) w.heap.size 42 zH := blk_new _ _ _
  have hb0 : Below w.heap.size w (w.alloc (.cells zH 42)) := (Below.refl _ _).alloc (Nat.le_refl _) _
  have E : pE6 l = 3 := by unfold pE6; rw [hl, if_pos h20]
  have EH : pH6 l = zH := by unfold pH6; rw [E]; rfl
  have d : decide ((n : Int) < 40) = true := decide_eq_true (by omega)
  go_enter Try.func87, Try.ntmps87
  go_wp2_with (first
    | (refine wpList_storeBlk (g := w.heap.size) (t := 42) (cs := zH) rfl 42 (.tmp 2) (.tmp 14) ?ho ?hx2 ?hy2 zH k0 ?hi ?hs ?h1 ?_
       case ho => with_reducible rfl
       case hx2 => rfl
       case hy2 => rfl
       case hi => exact zs
       case hs => rfl
       case h1 => exact zH_one
       intro w5 kb hg5
       have b5 : Below w.heap.size w w5 := hb0.grown hg5 hb0.size (fun k hk => by injection hk with hk; omega)))
  refine bodyPost_blk2 rfl _ rfl kb Try.underlying42 rfl zs rfl ?_
  exact ⟨by rw [EH, E]; rfl, b5⟩

set_option maxRecDepth 100000 in
set_option maxHeartbeats 16000000 in
theorem refParse6_any (b off n c : Nat) (l : List UInt8) (w : World) (hn : n ≤ 1000000) (h20 : 40 ≤ n) (hc : n ≤ c) (hcm : c ≤ maxLen) (hs : Shows w w.heap.size (some ⟨b, off, none⟩) n l) (hbb : b < w.heap.size) :
    Calls Try.prog 87 #[.slice (some ⟨b, off, none⟩) n c] w fun e w' => e = .returned (.tuple #[.agg (pH6 l), .int .i64 (pE6 l : Int)]) ∧ Below w.heap.size w w' := by
  have hz := (zero_of_info Try.zeroHead).1
  have hza := (zero_of_info Try.zeroAddr).1
  have hne : ¬ zH = #[] := by intro h; have := zH_size; rw [h] at this; cases this
  have zs : (Try.prog.info? 42).map (·.size) = some zH.size := by rw [zH_size]; exact Try.infoHead
  have k0 : Blk (w.alloc (.cells zH 42)) w.heap.size 42 zH := blk_new _ _ _
  have hb0 : Below w.heap.size w (w.alloc (.cells zH 42)) := (Below.refl _ _).alloc (Nat.le_refl _) _
  have hl := hs.len
  have d : decide ((n : Int) < 40) = false := decide_eq_false (by omega)
  obtain ⟨b0, b1, b2, b3, b4, b5, b6, b7, ⟨g0, g1, g2, g3, g4, g5, g6, g7⟩, fV, fT, fC, fI, fL, fP⟩ := head6_fields l (by omega)
  have HC := Lib.hid (fun (i : Nat) (x : UInt8) (hi : l[i]? = some x) (W : World) (hW : Below w.heap.size w W) => show W.cell? ⟨b, off + i, none⟩ = some (.int .u8 (x.toNat : Int)) by
    obtain ⟨b', off', e, _, hcc⟩ := (hs.below hW).2 (by omega)
    injection e with e
    injection e with eb eo
    subst eb
    subst eo
    obtain ⟨hj, rfl⟩ := List.getElem?_eq_some_iff.1 hi
    exact hcc i hj)
  have c0 : (w.alloc (.cells zH 42)).cell? ⟨b, off, none⟩ = some (.int .u8 (b0.toNat : Int)) := HC.out 0 b0 g0 _ hb0
  have hc0 := Lib.hid (fun (W : World) (hW : Below w.heap.size w W) => show W.cell? ⟨b, off, none⟩ = some (.int .u8 (b0.toNat : Int)) from HC.out 0 b0 g0 W hW)
  have hc1 := Lib.hid (HC.out 1 b1 g1)
  have hc2 := Lib.hid (HC.out 2 b2 g2)
  have hc3 := Lib.hid (HC.out 3 b3 g3)
  have hc4 := Lib.hid (HC.out 4 b4 g4)
  have hc5 := Lib.hid (HC.out 5 b5 g5)
  have hc6 := Lib.hid (HC.out 6 b6 g6)
  have hc7 := Lib.hid (HC.out 7 b7 g7)
  have HO1 := Lib.hid (fun (W : World) (hW : Below w.heap.size w W) => refOf16 b (off + 8) (c - 8) (src6 l) W (((hs.below hW).up hW.size).piece 8 16 (by omega)))
  have HO2 := Lib.hid (fun (W : World) (hW : Below w.heap.size w W) => refOf16 b (off + 24) (c - 24) (dst6 l) W (((hs.below hW).up hW.size).piece 24 16 (by omega)))
  rw [show zb 0 = [] from rfl, List.append_nil] at HO1 HO2
  have ls : (src6 l).length = 16 := by simp [src6]; omega
  have ld : (dst6 l).length = 16 := by simp [dst6]; omega
  have E : pE6 l = wE6 (n1 l / 1152921504606846976) (n1 l / 65536 % 65536 + 40) n := by unfold pE6; rw [hl, if_neg (by omega)]
  have EH : pH6 l = if pE6 l = 0 then hdL6 l else zH := rfl
  have EL : hdL6 l = hdv [((n1 l / 1152921504606846976 : Nat) : Int), 40, ((n1 l / 65536 % 65536 + 40 : Nat) : Int), ((n1 l / 4503599627370496 % 256 : Nat) : Int), ((n1 l / 4294967296 % 1048576 : Nat) : Int), 0, 0, ((n1 l % 256 : Nat) : Int), ((n1 l / 256 % 256 : Nat) : Int)] (adv 6 (src6 l)) (adv 6 (dst6 l)) := rfl
  have lb0 := b0.toNat_lt
  have lb1 := b1.toNat_lt
  have lb2 := b2.toNat_lt
  have lb3 := b3.toNat_lt
  have lb4 := b4.toNat_lt
  have lb5 := b5.toNat_lt
  have lb6 := b6.toNat_lt
  have lb7 := b7.toNat_lt
  rw [fL, fP] at EL
  clear fL fP
  generalize n1 l / 1152921504606846976 = V at *
  generalize n1 l / 65536 % 65536 + 40 = T at *
  generalize n1 l / 4503599627370496 % 256 = C at *
  generalize n1 l / 4294967296 % 1048576 = I at *
  clear g0 g1 g2 g3 g4 g5 g6 g7 HC hs hl
  generalize b0.toNat = x0 at *
  generalize b1.toNat = x1 at *
  generalize b2.toNat = x2 at *
  generalize b3.toNat = x3 at *
  generalize b4.toNat = x4 at *
  generalize b5.toNat = x5 at *
  generalize b6.toNat = x6 at *
  generalize b7.toNat = x7 at *
  have eV : (x0 : Int) / 16 = (V : Int) := by omega
  have lT : T ≤ 65575 := by omega
  have wx0 := wrap_id x0 (by omega)
  have wx1 := wrap_id x1 (by omega)
  have wx2 := wrap_id x2 (by omega)
  have wx3 := wrap_id x3 (by omega)
  have wx4 := wrap_id x4 (by omega)
  have wx5 := wrap_id x5 (by omega)
  have wx6 := wrap_id x6 (by omega)
  have wx7 := wrap_id x7 (by omega)
  have w41 : IntKind.i64.wrap (256 * (x4 : Int)) = 256 * (x4 : Int) := by rw [IntKind.wrap_i64]; omega
  have w42 : IntKind.i64.wrap (40 + 256 * (x4 : Int)) = 40 + 256 * (x4 : Int) := by rw [IntKind.wrap_i64]; omega
  have w43 : IntKind.i64.wrap (40 + 256 * (x4 : Int) + (x5 : Int)) = (T : Int) := by rw [IntKind.wrap_i64]; omega
  obtain ⟨Q0, eQ0⟩ : ∃ Q0 : Nat, Q0 = x0 % 16 := ⟨_, rfl⟩
  obtain ⟨Q1, eQ1⟩ : ∃ Q1 : Nat, Q1 = x1 % 16 := ⟨_, rfl⟩
  obtain ⟨D1, eD1⟩ : ∃ D1 : Nat, D1 = x1 / 16 := ⟨_, rfl⟩
  have f0 : (x0 : Int) % 16 = (Q0 : Int) := by omega
  have f1 : (x1 : Int) % 16 = (Q1 : Int) := by omega
  have f2 : (x1 : Int) / 16 = (D1 : Int) := by omega
  have f2t : (x1 : Int).tdiv 16 = (D1 : Int) := by rw [Int.tdiv_eq_ediv_of_nonneg (by omega)]; exact f2
  have f0t : (x0 : Int).tmod 16 = (Q0 : Int) := by rw [Int.tmod_eq_emod_of_nonneg (by omega)]; exact f0
  have f1t : (x1 : Int).tmod 16 = (Q1 : Int) := by rw [Int.tmod_eq_emod_of_nonneg (by omega)]; exact f1
  have wQ0 := wrap_id Q0 (by omega)
  have wQ1 := wrap_id Q1 (by omega)
  have wD1 := wrap_id D1 (by omega)
  have wc1 : IntKind.i64.wrap (16 * (Q0 : Int)) = 16 * (Q0 : Int) := by rw [IntKind.wrap_i64]; omega
  have wc2 : IntKind.i64.wrap (16 * (Q0 : Int) + (D1 : Int)) = (C : Int) := by rw [IntKind.wrap_i64]; omega
  have wi1 : IntKind.i64.wrap (65536 * (Q1 : Int)) = 65536 * (Q1 : Int) := by rw [IntKind.wrap_i64]; omega
  have wi2 : IntKind.i64.wrap (256 * (x2 : Int)) = 256 * (x2 : Int) := by rw [IntKind.wrap_i64]; omega
  have wi3 : IntKind.i64.wrap (65536 * (Q1 : Int) + 256 * (x2 : Int)) = 65536 * (Q1 : Int) + 256 * (x2 : Int) := by rw [IntKind.wrap_i64]; omega
  have wi4 : IntKind.i64.wrap (65536 * (Q1 : Int) + 256 * (x2 : Int) + (x3 : Int)) = (I : Int) := by rw [IntKind.wrap_i64]; omega
  have iT : (T : Int) ≤ 65575 := by omega
  have xi0 : (x0 : Int) < 256 := by omega
  clear fV fT fC fI eQ0 eQ1 eD1
  have HE := Lib.hid E
  have HEH := Lib.hid EH
  have HEL := Lib.hid EL
  clear E EH EL
  have in0 : (0 : Int) < (n : Int) := by omega
  have in1 : (1 : Int) < (n : Int) := by omega
  have in2 : (2 : Int) < (n : Int) := by omega
  have in3 : (3 : Int) < (n : Int) := by omega
  have in4 : (4 : Int) < (n : Int) := by omega
  have in5 : (5 : Int) < (n : Int) := by omega
  have in6 : (6 : Int) < (n : Int) := by omega
  have in7 : (7 : Int) < (n : Int) := by omega
  have in0' : 0 < n := by omega
  by_cases q0 : ¬ V = 6
  · have E : pE6 l = 9 := by rw [HE.out]; simp [wE6, q0]
    have EH : pH6 l = zH := by rw [HEH.out, E]; rfl
    have d0 : decide ((V : Int) = 6) = false := decide_eq_false (by omega)
    have d0'' : ((V : Int) != 6) = true := by simp; omega
    go_enter Try.func87, Try.ntmps87
    go_wp2_with (first
      | (refine wpList_storeBlk (g := w.heap.size) (t := 42) (cs := zH) rfl 42 (.tmp 2) (.tmp 20) ?ho ?hx2 ?hy2 zH k0 ?hi ?hs ?h1 ?_
         case ho => with_reducible rfl
         case hx2 => rfl
         case hy2 => rfl
         case hi => exact zs
         case hs => rfl
         case h1 => exact zH_one
         intro w5 kb hg5
         have b5 : Below w.heap.size w w5 := hb0.grown hg5 hb0.size (fun k hk => by injection hk with hk; omega)))
    refine bodyPost_blk2 rfl _ rfl kb Try.underlying42 rfl zs rfl ?_
    exact ⟨by rw [EH, E]; rfl, b5⟩
  have q0' : V = 6 := by omega
  have d0 : decide ((V : Int) = 6) = true := decide_eq_true (by omega)
  have d0'' : ((V : Int) != 6) = false := by simp; omega
  by_cases q1 : n < T
  · have E : pE6 l = 3 := by rw [HE.out]; simp [wE6, q0', q1]
    have EH : pH6 l = zH := by rw [HEH.out, E]; rfl
    have d1 : decide ((n : Int) < (T : Int)) = true := decide_eq_true (by omega)
    go_enter Try.func87, Try.ntmps87
    go_wp2_with fail
    have qb1 : Below w.heap.size w (w.alloc (.cells zH 42)).drew := hb0.drew
    have k1 : Blk (w.alloc (.cells zH 42)).drew w.heap.size 42 zH := k0
    generalize (w.alloc (.cells zH 42)) = W1 at *
    clear k0 hb0 c0
    refine wp_region_held_drew (S := fun W => Below w.heap.size w W ∧ Blk W w.heap.size 42 zH) (by kernel_rfl) ⟨qb1, k1⟩ ?_
    intro hS
    refine wpAnyH_take (i := 0) (oi := ?o501) (v := ?vo501) ?hio501 (by kernel_rfl) (by kernel_rfl) (by kernel_rfl) ?hQo501 ?hyo501 hS ?_
    case hio501 => (simp only [List.getElem?_toArray, List.getElem?_cons_succ, List.getElem?_cons_zero]; rfl)
    case hQo501 => exact fun _ _ _ h => h
    case hyo501 =>
      refine Or.inl ⟨by rfl, ?_⟩
      intro W hW
      go_simp
      first | done | with_reducible rfl
    try simp only [Act.put, List.setIfInBounds_toArray, List.set_cons_zero, List.set_cons_succ]
    refine wpAnyH_take (i := 1) (oi := ?o502) (v := ?vo502) ?hio502 (by kernel_rfl) (by kernel_rfl) (by kernel_rfl) ?hQo502 ?hyo502 hS ?_
    case hio502 => (simp only [List.getElem?_toArray, List.getElem?_cons_succ, List.getElem?_cons_zero]; rfl)
    case hQo502 => exact fun _ _ _ h => h
    case hyo502 =>
      refine Or.inl ⟨by rfl, ?_⟩
      intro W hW
      go_simp
      first | done | with_reducible rfl
    try simp only [Act.put, List.setIfInBounds_toArray, List.set_cons_zero, List.set_cons_succ]
    refine wpAnyH_take (i := 2) (oi := ?o503) (v := ?vo503) ?hio503 (by kernel_rfl) (by kernel_rfl) (by kernel_rfl) ?hQo503 ?hyo503 hS ?_
    case hio503 => (simp only [List.getElem?_toArray, List.getElem?_cons_succ, List.getElem?_cons_zero]; rfl)
    case hQo503 => exact fun _ _ _ h => h
    case hyo503 =>
      refine Or.inl ⟨by rfl, ?_⟩
      intro W hW
      have hcell := hc4.out W hW.1
      go_simp
      first | done | with_reducible rfl
    try simp only [Act.put, List.setIfInBounds_toArray, List.set_cons_zero, List.set_cons_succ]
    refine wpAnyH_take (i := 3) (oi := ?o504) (v := ?vo504) ?hio504 (by kernel_rfl) (by kernel_rfl) (by kernel_rfl) ?hQo504 ?hyo504 hS ?_
    case hio504 => (simp only [List.getElem?_toArray, List.getElem?_cons_succ, List.getElem?_cons_zero]; rfl)
    case hQo504 => exact fun _ _ _ h => h
    case hyo504 =>
      refine Or.inl ⟨by rfl, ?_⟩
      intro W hW
      go_simp
      first | done | with_reducible rfl
    try simp only [Act.put, List.setIfInBounds_toArray, List.set_cons_zero, List.set_cons_succ]
    refine wpAnyH_take (i := 4) (oi := ?o505) (v := ?vo505) ?hio505 (by kernel_rfl) (by kernel_rfl) (by kernel_rfl) ?hQo505 ?hyo505 hS ?_
    case hio505 => (simp only [List.getElem?_toArray, List.getElem?_cons_succ, List.getElem?_cons_zero]; rfl)
    case hQo505 => exact fun _ _ _ h => h
    case hyo505 =>
      refine Or.inl ⟨by rfl, ?_⟩
      intro W hW
      go_simp
      first | done | with_reducible rfl
    try simp only [Act.put, List.setIfInBounds_toArray, List.set_cons_zero, List.set_cons_succ]
    refine wpAnyH_take (i := 5) (oi := ?o506) (v := ?vo506) ?hio506 (by kernel_rfl) (by kernel_rfl) (by kernel_rfl) ?hQo506 ?hyo506 hS ?_
    case hio506 => (simp only [List.getElem?_toArray, List.getElem?_cons_succ, List.getElem?_cons_zero]; rfl)
    case hQo506 => exact fun _ _ _ h => h
    case hyo506 =>
      refine Or.inl ⟨by rfl, ?_⟩
      intro W hW
      go_simp
      first | done | with_reducible rfl
    try simp only [Act.put, List.setIfInBounds_toArray, List.set_cons_zero, List.set_cons_succ]
    refine wpAnyH_take (i := 6) (oi := ?o507) (v := ?vo507) ?hio507 (by kernel_rfl) (by kernel_rfl) (by kernel_rfl) ?hQo507 ?hyo507 hS ?_
    case hio507 => (simp only [List.getElem?_toArray, List.getElem?_cons_succ, List.getElem?_cons_zero]; rfl)
    case hQo507 => exact fun _ _ _ h => h
    case hyo507 =>
      refine Or.inl ⟨by rfl, ?_⟩
      intro W hW
      go_simp
      first | done | with_reducible rfl
    try simp only [Act.put, List.setIfInBounds_toArray, List.set_cons_zero, List.set_cons_succ]
    refine wpAnyH_take (i := 7) (oi := ?o508) (v := ?vo508) ?hio508 (by kernel_rfl) (by kernel_rfl) (by kernel_rfl) ?hQo508 ?hyo508 hS ?_
    case hio508 => (simp only [List.getElem?_toArray, List.getElem?_cons_succ, List.getElem?_cons_zero]; rfl)
    case hQo508 => exact fun _ _ _ h => h
    case hyo508 =>
      refine Or.inl ⟨by rfl, ?_⟩
      intro W hW
      go_simp
      first | done | with_reducible rfl
    try simp only [Act.put, List.setIfInBounds_toArray, List.set_cons_zero, List.set_cons_succ]
    refine wpAnyH_take (i := 8) (oi := ?o509) (v := ?vo509) ?hio509 (by kernel_rfl) (by kernel_rfl) (by kernel_rfl) ?hQo509 ?hyo509 hS ?_
    case hio509 => (simp only [List.getElem?_toArray, List.getElem?_cons_succ, List.getElem?_cons_zero]; rfl)
    case hQo509 => exact fun _ _ _ h => h
    case hyo509 =>
      refine Or.inl ⟨by rfl, ?_⟩
      intro W hW
      have hcell := hc5.out W hW.1
      go_simp
      first | done | with_reducible rfl
    try simp only [Act.put, List.setIfInBounds_toArray, List.set_cons_zero, List.set_cons_succ]
    refine wpAnyH_take (i := 9) (oi := ?o510) (v := ?vo510) ?hio510 (by kernel_rfl) (by kernel_rfl) (by kernel_rfl) ?hQo510 ?hyo510 hS ?_
    case hio510 => (simp only [List.getElem?_toArray, List.getElem?_cons_succ, List.getElem?_cons_zero]; rfl)
    case hQo510 => exact fun _ _ _ h => h
    case hyo510 =>
      refine Or.inl ⟨by rfl, ?_⟩
      intro W hW
      go_simp
      first | done | with_reducible rfl
    try simp only [Act.put, List.setIfInBounds_toArray, List.set_cons_zero, List.set_cons_succ]
    refine wpAnyH_take (i := 10) (oi := ?o511) (v := ?vo511) ?hio511 (by kernel_rfl) (by kernel_rfl) (by kernel_rfl) ?hQo511 ?hyo511 hS ?_
    case hio511 => (simp only [List.getElem?_toArray, List.getElem?_cons_succ, List.getElem?_cons_zero]; rfl)
    case hQo511 => exact fun _ _ _ h => h
    case hyo511 =>
      refine Or.inl ⟨by rfl, ?_⟩
      intro W hW
      go_simp
      first | done | with_reducible rfl
    try simp only [Act.put, List.setIfInBounds_toArray, List.set_cons_zero, List.set_cons_succ]
    refine wpAnyH_take (i := 11) (oi := ?o512) (v := ?vo512) ?hio512 (by kernel_rfl) (by kernel_rfl) (by kernel_rfl) ?hQo512 ?hyo512 hS ?_
    case hio512 => (simp only [List.getElem?_toArray, List.getElem?_cons_succ, List.getElem?_cons_zero]; rfl)
    case hQo512 => exact fun _ _ _ h => h
    case hyo512 =>
      refine Or.inl ⟨by rfl, ?_⟩
      intro W hW
      go_simp
      first | done | with_reducible rfl
    try simp only [Act.put, List.setIfInBounds_toArray, List.set_cons_zero, List.set_cons_succ]
    refine wpAnyH_done (by kernel_rfl) ?_ _
    clear hS
    go_wp2_with (first
      | (refine wpList_storeBlk (g := w.heap.size) (t := 42) (cs := zH) rfl 42 (.tmp 2) (.tmp 36) ?ho ?hx2 ?hy2 zH k1 ?hi ?hs ?h1 ?_
         case ho => with_reducible rfl
         case hx2 => rfl
         case hy2 => rfl
         case hi => exact zs
         case hs => rfl
         case h1 => exact zH_one
         intro w5 kb hg5
         have b5 : Below w.heap.size w w5 := qb1.grown hg5 qb1.size (fun k hk => by injection hk with hk; omega)))
    refine bodyPost_blk2 rfl _ rfl kb Try.underlying42 rfl zs rfl ?_
    exact ⟨by rw [EH, E]; rfl, b5⟩
  have E : pE6 l = 0 := by rw [HE.out]; simp [wE6, q0', q1]
  have EH : pH6 l = hdL6 l := by rw [HEH.out, E]; rfl
  have HP := Lib.hid (EH.trans HEL.out)
  rw [q0'] at HP
  have d1 : decide ((n : Int) < (T : Int)) = false := decide_eq_false (by omega)
  have i24 : (24 : Int) ≤ (c : Int) := by omega
  have i40 : (40 : Int) ≤ (c : Int) := by omega
  have nc8 : ¬ c = 8 := by omega
  have nc24 : ¬ c = 24 := by omega
  have o1 := fun xs => hdv_one xs 6 6 (src6 l) (dst6 l)
  have o2 : ((adv 6 (src6 l)).all fun x => x.oneCell') = true := adv_one _ _
  have o3 : ((adv 6 (dst6 l)).all fun x => x.oneCell') = true := adv_one _ _
  have z2 : (adv 6 (src6 l)).size = 17 := adv_size _ _ ls
  have z3 : (adv 6 (dst6 l)).size = 17 := adv_size _ _ ld
  obtain ⟨s0, s1, s2, s3, s4, s5, s6, s7, s8, s9, s10, s11, s12, s13, s14, s15, es⟩ := list16 _ ls
  obtain ⟨t0, t1, t2, t3, t4, t5, t6, t7, t8, t9, t10, t11, t12, t13, t14, t15, et⟩ := list16 _ ld
  have HX := Lib.hid (show adv 6 [s0, s1, s2, s3, s4, s5, s6, s7, s8, s9, s10, s11, s12, s13, s14, s15] = adv 6 (src6 l) by rw [es])
  have HY := Lib.hid (show adv 6 [t0, t1, t2, t3, t4, t5, t6, t7, t8, t9, t10, t11, t12, t13, t14, t15] = adv 6 (dst6 l) by rw [et])
  clear es et ls ld HE HEH HEL
  have HE := Lib.hid E
  clear E EH
  generalize adv 6 (src6 l) = XS at *
  generalize adv 6 (dst6 l) = XD at *
  have zi2 : (Try.prog.info? 32).map (·.size) = some XS.size := by rw [z2]; exact Try.infoAddr
  have zi3 : (Try.prog.info? 32).map (·.size) = some XD.size := by rw [z3]; exact Try.infoAddr
  have zne : ¬ adv 0 (zb 16) = #[] := by simp [adv]
  go_enter Try.func87, Try.ntmps87
  go_wp2_with fail
  have qb1 : Below w.heap.size w (w.alloc (.cells zH 42)).drew := hb0.drew
  have k1 : Blk (w.alloc (.cells zH 42)).drew w.heap.size 42 zH := k0
  generalize (w.alloc (.cells zH 42)) = W1 at *
  clear k0 hb0 c0
  refine wp_region_held_drew (S := fun W => Below w.heap.size w W ∧ Blk W w.heap.size 42 zH) (by kernel_rfl) ⟨qb1, k1⟩ ?_
  intro hS
  refine wpAnyH_take (i := 0) (oi := ?o513) (v := ?vo513) ?hio513 (by kernel_rfl) (by kernel_rfl) (by kernel_rfl) ?hQo513 ?hyo513 hS ?_
  case hio513 => (simp only [List.getElem?_toArray, List.getElem?_cons_succ, List.getElem?_cons_zero]; rfl)
  case hQo513 => exact fun _ _ _ h => h
  case hyo513 =>
    refine Or.inl ⟨by rfl, ?_⟩
    intro W hW
    go_simp
    first | done | with_reducible rfl
  try simp only [Act.put, List.setIfInBounds_toArray, List.set_cons_zero, List.set_cons_succ]
  refine wpAnyH_take (i := 1) (oi := ?o514) (v := ?vo514) ?hio514 (by kernel_rfl) (by kernel_rfl) (by kernel_rfl) ?hQo514 ?hyo514 hS ?_
  case hio514 => (simp only [List.getElem?_toArray, List.getElem?_cons_succ, List.getElem?_cons_zero]; rfl)
  case hQo514 => exact fun _ _ _ h => h
  case hyo514 =>
    refine Or.inl ⟨by rfl, ?_⟩
    intro W hW
    go_simp
    first | done | with_reducible rfl
  try simp only [Act.put, List.setIfInBounds_toArray, List.set_cons_zero, List.set_cons_succ]
  refine wpAnyH_take (i := 2) (oi := ?o515) (v := ?vo515) ?hio515 (by kernel_rfl) (by kernel_rfl) (by kernel_rfl) ?hQo515 ?hyo515 hS ?_
  case hio515 => (simp only [List.getElem?_toArray, List.getElem?_cons_succ, List.getElem?_cons_zero]; rfl)
  case hQo515 => exact fun _ _ _ h => h
  case hyo515 =>
    refine Or.inl ⟨by rfl, ?_⟩
    intro W hW
    have hcell := hc4.out W hW.1
    go_simp
    first | done | with_reducible rfl
  try simp only [Act.put, List.setIfInBounds_toArray, List.set_cons_zero, List.set_cons_succ]
  refine wpAnyH_take (i := 3) (oi := ?o516) (v := ?vo516) ?hio516 (by kernel_rfl) (by kernel_rfl) (by kernel_rfl) ?hQo516 ?hyo516 hS ?_
  case hio516 => (simp only [List.getElem?_toArray, List.getElem?_cons_succ, List.getElem?_cons_zero]; rfl)
  case hQo516 => exact fun _ _ _ h => h
  case hyo516 =>
    refine Or.inl ⟨by rfl, ?_⟩
    intro W hW
    go_simp
    first | done | with_reducible rfl
  try simp only [Act.put, List.setIfInBounds_toArray, List.set_cons_zero, List.set_cons_succ]
  refine wpAnyH_take (i := 4) (oi := ?o517) (v := ?vo517) ?hio517 (by kernel_rfl) (by kernel_rfl) (by kernel_rfl) ?hQo517 ?hyo517 hS ?_
  case hio517 => (simp only [List.getElem?_toArray, List.getElem?_cons_succ, List.getElem?_cons_zero]; rfl)
  case hQo517 => exact fun _ _ _ h => h
  case hyo517 =>
    refine Or.inl ⟨by rfl, ?_⟩
    intro W hW
    go_simp
    first | done | with_reducible rfl
  try simp only [Act.put, List.setIfInBounds_toArray, List.set_cons_zero, List.set_cons_succ]
  refine wpAnyH_take (i := 5) (oi := ?o518) (v := ?vo518) ?hio518 (by kernel_rfl) (by kernel_rfl) (by kernel_rfl) ?hQo518 ?hyo518 hS ?_
  case hio518 => (simp only [List.getElem?_toArray, List.getElem?_cons_succ, List.getElem?_cons_zero]; rfl)
  case hQo518 => exact fun _ _ _ h => h
  case hyo518 =>
    refine Or.inl ⟨by rfl, ?_⟩
    intro W hW
    go_simp
    first | done | with_reducible rfl
  try simp only [Act.put, List.setIfInBounds_toArray, List.set_cons_zero, List.set_cons_succ]
  refine wpAnyH_take (i := 6) (oi := ?o519) (v := ?vo519) ?hio519 (by kernel_rfl) (by kernel_rfl) (by kernel_rfl) ?hQo519 ?hyo519 hS ?_
  case hio519 => (simp only [List.getElem?_toArray, List.getElem?_cons_succ, List.getElem?_cons_zero]; rfl)
  case hQo519 => exact fun _ _ _ h => h
  case hyo519 =>
    refine Or.inl ⟨by rfl, ?_⟩
    intro W hW
    go_simp
    first | done | with_reducible rfl
  try simp only [Act.put, List.setIfInBounds_toArray, List.set_cons_zero, List.set_cons_succ]
  refine wpAnyH_take (i := 7) (oi := ?o520) (v := ?vo520) ?hio520 (by kernel_rfl) (by kernel_rfl) (by kernel_rfl) ?hQo520 ?hyo520 hS ?_
  case hio520 => (simp only [List.getElem?_toArray, List.getElem?_cons_succ, List.getElem?_cons_zero]; rfl)
  case hQo520 => exact fun _ _ _ h => h
  case hyo520 =>
    refine Or.inl ⟨by rfl, ?_⟩
    intro W hW
    go_simp
    first | done | with_reducible rfl
  try simp only [Act.put, List.setIfInBounds_toArray, List.set_cons_zero, List.set_cons_succ]
  refine wpAnyH_take (i := 8) (oi := ?o521) (v := ?vo521) ?hio521 (by kernel_rfl) (by kernel_rfl) (by kernel_rfl) ?hQo521 ?hyo521 hS ?_
  case hio521 => (simp only [List.getElem?_toArray, List.getElem?_cons_succ, List.getElem?_cons_zero]; rfl)
  case hQo521 => exact fun _ _ _ h => h
  case hyo521 =>
    refine Or.inl ⟨by rfl, ?_⟩
    intro W hW
    have hcell := hc5.out W hW.1
    go_simp
    first | done | with_reducible rfl
  try simp only [Act.put, List.setIfInBounds_toArray, List.set_cons_zero, List.set_cons_succ]
  refine wpAnyH_take (i := 9) (oi := ?o522) (v := ?vo522) ?hio522 (by kernel_rfl) (by kernel_rfl) (by kernel_rfl) ?hQo522 ?hyo522 hS ?_
  case hio522 => (simp only [List.getElem?_toArray, List.getElem?_cons_succ, List.getElem?_cons_zero]; rfl)
  case hQo522 => exact fun _ _ _ h => h
  case hyo522 =>
    refine Or.inl ⟨by rfl, ?_⟩
    intro W hW
    go_simp
    first | done | with_reducible rfl
  try simp only [Act.put, List.setIfInBounds_toArray, List.set_cons_zero, List.set_cons_succ]
  refine wpAnyH_take (i := 10) (oi := ?o523) (v := ?vo523) ?hio523 (by kernel_rfl) (by kernel_rfl) (by kernel_rfl) ?hQo523 ?hyo523 hS ?_
  case hio523 => (simp only [List.getElem?_toArray, List.getElem?_cons_succ, List.getElem?_cons_zero]; rfl)
  case hQo523 => exact fun _ _ _ h => h
  case hyo523 =>
    refine Or.inl ⟨by rfl, ?_⟩
    intro W hW
    go_simp
    first | done | with_reducible rfl
  try simp only [Act.put, List.setIfInBounds_toArray, List.set_cons_zero, List.set_cons_succ]
  refine wpAnyH_take (i := 11) (oi := ?o524) (v := ?vo524) ?hio524 (by kernel_rfl) (by kernel_rfl) (by kernel_rfl) ?hQo524 ?hyo524 hS ?_
  case hio524 => (simp only [List.getElem?_toArray, List.getElem?_cons_succ, List.getElem?_cons_zero]; rfl)
  case hQo524 => exact fun _ _ _ h => h
  case hyo524 =>
    refine Or.inl ⟨by rfl, ?_⟩
    intro W hW
    go_simp
    first | done | with_reducible rfl
  try simp only [Act.put, List.setIfInBounds_toArray, List.set_cons_zero, List.set_cons_succ]
  refine wpAnyH_done (by kernel_rfl) ?_ _
  clear hS
  go_wp2_with fail
  refine (HO1.out _ qb1).mono ?_
  rintro e w3 ⟨rfl, hbw3⟩
  have k3 := k1.on hbw3
  have bb3 := Below.on qb1 qb1.size hbw3
  have n3 := k3.lt
  clear k1 qb1 hbw3
  have k4 : Blk (w3.alloc (.cells XS 32)) w.heap.size 42 zH := k3.alloc _
  have bb4 : Below w.heap.size w (w3.alloc (.cells XS 32)) := bb3.alloc bb3.size _
  have j4 : Blk (w3.alloc (.cells XS 32)) w3.heap.size 32 XS := blk_new _ _ _
  generalize hg5 : w3.heap.size = g5 at *
  go_wp2_with (first
    | (refine wpList_allocStore (cs := XS) rfl rfl 32 ?ho (.tmp 5) (.tmp 41) ?ho2 Try.zeroAddr ?hz ?hx ?hy ?hn ?h1 ?_
       case ho => with_reducible rfl
       case ho2 => rfl
       case hz => rfl
       case hx => rfl
       case hy => rfl
       case hn => exact z2
       case h1 => exact o2
       rw [hg5])
    | fail)
  refine (HO2.out _ bb4).mono ?_
  rintro e w4 ⟨rfl, hbw4⟩
  have k5 := k4.on hbw4
  have j5 := j4.on hbw4
  have bb5 := Below.on bb4 bb4.size hbw4
  have n5 := j5.lt
  clear k3 bb3 k4 bb4 j4 hbw4
  have k6 : Blk (w4.alloc (.cells XD 32)) w.heap.size 42 zH := k5.alloc _
  have j6 : Blk (w4.alloc (.cells XD 32)) g5 32 XS := j5.alloc _
  have bb6 : Below w.heap.size w (w4.alloc (.cells XD 32)) := bb5.alloc bb5.size _
  have m6 : Blk (w4.alloc (.cells XD 32)) w4.heap.size 32 XD := blk_new _ _ _
  have n7 := k5.lt
  generalize hg7 : w4.heap.size = g7 at *
  go_wp2_with (first
    | (refine wpList_allocStore (cs := XD) rfl rfl 32 ?ho (.tmp 7) (.tmp 47) ?ho2 Try.zeroAddr ?hz ?hx ?hy ?hn ?h1 ?_
       case ho => with_reducible rfl
       case ho2 => rfl
       case hz => rfl
       case hx => rfl
       case hy => rfl
       case hn => exact z3
       case h1 => exact o3
       rw [hg7])
    | fail)
  clear k5 j5 bb5 hg5 hg7
  generalize w4.alloc (.cells XD 32) = W2 at *
  have hS0 : Below w.heap.size w W2.drew ∧ Blk W2.drew w.heap.size 42 zH ∧ Blk W2.drew g5 32 XS ∧ Blk W2.drew g7 32 XD := ⟨bb6.drew, k6, j6, m6⟩
  clear bb6 k6 j6 m6
  refine wp_region_held_drew (S := fun W => Below w.heap.size w W ∧ (∃ hh, Blk W w.heap.size 42 hh) ∧ Blk W g5 32 XS ∧ Blk W g7 32 XD) (by kernel_rfl) ⟨hS0.1, ⟨_, hS0.2.1⟩, hS0.2.2⟩ ?_
  intro hS
  refine wpAnyH_take (i := 0) (oi := ?o525) (v := ?vo525) ?hio525 (by kernel_rfl) (by kernel_rfl) (by kernel_rfl) ?hQo525 ?hyo525 hS ?_
  case hio525 => (simp only [List.getElem?_toArray, List.getElem?_cons_succ, List.getElem?_cons_zero]; rfl)
  case hQo525 => exact fun _ _ _ h => h
  case hyo525 =>
    refine Or.inl ⟨by rfl, ?_⟩
    intro W hW
    go_simp
    first | done | with_reducible rfl
  try simp only [Act.put, List.setIfInBounds_toArray, List.set_cons_zero, List.set_cons_succ]
  refine wpAnyH_take (i := 1) (oi := ?o526) (v := ?vo526) ?hio526 (by kernel_rfl) (by kernel_rfl) (by kernel_rfl) ?hQo526 ?hyo526 hS ?_
  case hio526 => (simp only [List.getElem?_toArray, List.getElem?_cons_succ, List.getElem?_cons_zero]; rfl)
  case hQo526 => exact fun _ _ _ h => h
  case hyo526 =>
    refine Or.inl ⟨by rfl, ?_⟩
    intro W hW
    go_simp
    first | done | with_reducible rfl
  try simp only [Act.put, List.setIfInBounds_toArray, List.set_cons_zero, List.set_cons_succ]
  refine wpAnyH_take (i := 2) (oi := ?o527) (v := ?vo527) ?hio527 (by kernel_rfl) (by kernel_rfl) (by kernel_rfl) ?hQo527 ?hyo527 hS ?_
  case hio527 => (simp only [List.getElem?_toArray, List.getElem?_cons_succ, List.getElem?_cons_zero]; rfl)
  case hQo527 => exact fun _ _ _ h => h
  case hyo527 =>
    refine Or.inl ⟨by rfl, ?_⟩
    intro W hW
    have hcell := hc0.out W hW.1
    go_simp
    first | done | with_reducible rfl
  try simp only [Act.put, List.setIfInBounds_toArray, List.set_cons_zero, List.set_cons_succ]
  refine wpAnyH_take (i := 3) (oi := ?o528) (v := ?vo528) ?hio528 (by kernel_rfl) (by kernel_rfl) (by kernel_rfl) ?hQo528 ?hyo528 hS ?_
  case hio528 => (simp only [List.getElem?_toArray, List.getElem?_cons_succ, List.getElem?_cons_zero]; rfl)
  case hQo528 => exact fun _ _ _ h => h
  case hyo528 =>
    refine Or.inl ⟨by rfl, ?_⟩
    intro W hW
    go_simp
    first | done | with_reducible rfl
  try simp only [Act.put, List.setIfInBounds_toArray, List.set_cons_zero, List.set_cons_succ]
  refine wpAnyH_take (i := 4) (oi := ?o529) (v := ?vo529) ?hio529 (by kernel_rfl) (by kernel_rfl) (by kernel_rfl) ?hQo529 ?hyo529 hS ?_
  case hio529 => (simp only [List.getElem?_toArray, List.getElem?_cons_succ, List.getElem?_cons_zero]; rfl)
  case hQo529 => exact fun _ _ _ h => h
  case hyo529 =>
    refine Or.inl ⟨by rfl, ?_⟩
    intro W hW
    go_simp
    first | done | with_reducible rfl
  try simp only [Act.put, List.setIfInBounds_toArray, List.set_cons_zero, List.set_cons_succ]
  refine wpAnyH_take (i := 5) (oi := ?o530) (v := ?vo530) ?hio530 (by kernel_rfl) (by kernel_rfl) (by kernel_rfl) ?hQo530 ?hyo530 hS ?_
  case hio530 => (simp only [List.getElem?_toArray, List.getElem?_cons_succ, List.getElem?_cons_zero]; rfl)
  case hQo530 => exact fun _ _ _ h => h
  case hyo530 =>
    refine Or.inl ⟨by rfl, ?_⟩
    intro W hW
    go_simp
    first | done | with_reducible rfl
  try simp only [Act.put, List.setIfInBounds_toArray, List.set_cons_zero, List.set_cons_succ]
  refine wpAnyH_take (i := 6) (oi := ?o531) (v := ?vo531) ?hio531 (by kernel_rfl) (by kernel_rfl) (by kernel_rfl) ?hQo531 ?hyo531 hS ?_
  case hio531 => (simp only [List.getElem?_toArray, List.getElem?_cons_succ, List.getElem?_cons_zero]; rfl)
  case hQo531 => exact fun _ _ _ h => h
  case hyo531 =>
    refine Or.inl ⟨by rfl, ?_⟩
    intro W hW
    go_simp
    first | done | with_reducible rfl
  try simp only [Act.put, List.setIfInBounds_toArray, List.set_cons_zero, List.set_cons_succ]
  refine wpAnyH_take (i := 7) (oi := ?o532) (v := ?vo532) ?hio532 (by kernel_rfl) (by kernel_rfl) (by kernel_rfl) ?hQo532 ?hyo532 hS ?_
  case hio532 => (simp only [List.getElem?_toArray, List.getElem?_cons_succ, List.getElem?_cons_zero]; rfl)
  case hQo532 => exact fun _ _ _ h => h
  case hyo532 =>
    refine Or.inl ⟨by rfl, ?_⟩
    intro W hW
    go_simp
    first | done | with_reducible rfl
  try simp only [Act.put, List.setIfInBounds_toArray, List.set_cons_zero, List.set_cons_succ]
  refine wpAnyH_take (i := 8) (oi := ?o533) (v := ?vo533) ?hio533 (by kernel_rfl) (by kernel_rfl) (by kernel_rfl) ?hQo533 ?hyo533 hS ?_
  case hio533 => (simp only [List.getElem?_toArray, List.getElem?_cons_succ, List.getElem?_cons_zero]; rfl)
  case hQo533 => exact fun _ _ _ h => h
  case hyo533 =>
    refine Or.inl ⟨by rfl, ?_⟩
    intro W hW
    have hcell := hc1.out W hW.1
    go_simp
    first | done | with_reducible rfl
  try simp only [Act.put, List.setIfInBounds_toArray, List.set_cons_zero, List.set_cons_succ]
  refine wpAnyH_take (i := 9) (oi := ?o534) (v := ?vo534) ?hio534 (by kernel_rfl) (by kernel_rfl) (by kernel_rfl) ?hQo534 ?hyo534 hS ?_
  case hio534 => (simp only [List.getElem?_toArray, List.getElem?_cons_succ, List.getElem?_cons_zero]; rfl)
  case hQo534 => exact fun _ _ _ h => h
  case hyo534 =>
    refine Or.inl ⟨by rfl, ?_⟩
    intro W hW
    go_simp
    first | done | with_reducible rfl
  try simp only [Act.put, List.setIfInBounds_toArray, List.set_cons_zero, List.set_cons_succ]
  refine wpAnyH_take (i := 10) (oi := ?o535) (v := ?vo535) ?hio535 (by kernel_rfl) (by kernel_rfl) (by kernel_rfl) ?hQo535 ?hyo535 hS ?_
  case hio535 => (simp only [List.getElem?_toArray, List.getElem?_cons_succ, List.getElem?_cons_zero]; rfl)
  case hQo535 => exact fun _ _ _ h => h
  case hyo535 =>
    refine Or.inl ⟨by rfl, ?_⟩
    intro W hW
    go_simp
    first | done | with_reducible rfl
  try simp only [Act.put, List.setIfInBounds_toArray, List.set_cons_zero, List.set_cons_succ]
  refine wpAnyH_take (i := 11) (oi := ?o536) (v := ?vo536) ?hio536 (by kernel_rfl) (by kernel_rfl) (by kernel_rfl) ?hQo536 ?hyo536 hS ?_
  case hio536 => (simp only [List.getElem?_toArray, List.getElem?_cons_succ, List.getElem?_cons_zero]; rfl)
  case hQo536 => exact fun _ _ _ h => h
  case hyo536 =>
    refine Or.inl ⟨by rfl, ?_⟩
    intro W hW
    go_simp
    first | done | with_reducible rfl
  try simp only [Act.put, List.setIfInBounds_toArray, List.set_cons_zero, List.set_cons_succ]
  refine wpAnyH_take (i := 12) (oi := ?o537) (v := ?vo537) ?hio537 (by kernel_rfl) (by kernel_rfl) (by kernel_rfl) ?hQo537 ?hyo537 hS ?_
  case hio537 => (simp only [List.getElem?_toArray, List.getElem?_cons_succ, List.getElem?_cons_zero]; rfl)
  case hQo537 => exact fun _ _ _ h => h
  case hyo537 =>
    refine Or.inl ⟨by rfl, ?_⟩
    intro W hW
    go_simp
    first | done | with_reducible rfl
  try simp only [Act.put, List.setIfInBounds_toArray, List.set_cons_zero, List.set_cons_succ]
  refine wpAnyH_done (by kernel_rfl) ?_ _
  clear hS
  go_wp2_with fail
  have hS1 : Below w.heap.size w W2.drew.drew ∧ Blk W2.drew.drew w.heap.size 42 zH ∧ Blk W2.drew.drew g5 32 XS ∧ Blk W2.drew.drew g7 32 XD := ⟨hS0.1.drew, hS0.2.1, hS0.2.2.1, hS0.2.2.2⟩
  clear hS0
  refine wp_region_held_drew (S := fun W => Below w.heap.size w W ∧ (∃ hh, Blk W w.heap.size 42 hh) ∧ Blk W g5 32 XS ∧ Blk W g7 32 XD) (by kernel_rfl) ⟨hS1.1, ⟨_, hS1.2.1⟩, hS1.2.2⟩ ?_
  intro hS
  refine wpAnyH_take (i := 0) (oi := ?o538) (v := ?vo538) ?hio538 (by kernel_rfl) (by kernel_rfl) (by kernel_rfl) ?hQo538 ?hyo538 hS ?_
  case hio538 => (simp only [List.getElem?_toArray, List.getElem?_cons_succ, List.getElem?_cons_zero]; rfl)
  case hQo538 => exact fun _ _ _ h => h
  case hyo538 =>
    refine Or.inl ⟨by rfl, ?_⟩
    intro W hW
    go_simp
    first | done | with_reducible rfl
  try simp only [Act.put, List.setIfInBounds_toArray, List.set_cons_zero, List.set_cons_succ]
  refine wpAnyH_take (i := 1) (oi := ?o539) (v := ?vo539) ?hio539 (by kernel_rfl) (by kernel_rfl) (by kernel_rfl) ?hQo539 ?hyo539 hS ?_
  case hio539 => (simp only [List.getElem?_toArray, List.getElem?_cons_succ, List.getElem?_cons_zero]; rfl)
  case hQo539 => exact fun _ _ _ h => h
  case hyo539 =>
    refine Or.inl ⟨by rfl, ?_⟩
    intro W hW
    go_simp
    first | done | with_reducible rfl
  try simp only [Act.put, List.setIfInBounds_toArray, List.set_cons_zero, List.set_cons_succ]
  refine wpAnyH_take (i := 2) (oi := ?o540) (v := ?vo540) ?hio540 (by kernel_rfl) (by kernel_rfl) (by kernel_rfl) ?hQo540 ?hyo540 hS ?_
  case hio540 => (simp only [List.getElem?_toArray, List.getElem?_cons_succ, List.getElem?_cons_zero]; rfl)
  case hQo540 => exact fun _ _ _ h => h
  case hyo540 =>
    refine Or.inl ⟨by rfl, ?_⟩
    intro W hW
    have hcell := hc1.out W hW.1
    go_simp
    first | done | with_reducible rfl
  try simp only [Act.put, List.setIfInBounds_toArray, List.set_cons_zero, List.set_cons_succ]
  refine wpAnyH_take (i := 3) (oi := ?o541) (v := ?vo541) ?hio541 (by kernel_rfl) (by kernel_rfl) (by kernel_rfl) ?hQo541 ?hyo541 hS ?_
  case hio541 => (simp only [List.getElem?_toArray, List.getElem?_cons_succ, List.getElem?_cons_zero]; rfl)
  case hQo541 => exact fun _ _ _ h => h
  case hyo541 =>
    refine Or.inl ⟨by rfl, ?_⟩
    intro W hW
    go_simp
    first | done | with_reducible rfl
  try simp only [Act.put, List.setIfInBounds_toArray, List.set_cons_zero, List.set_cons_succ]
  refine wpAnyH_take (i := 4) (oi := ?o542) (v := ?vo542) ?hio542 (by kernel_rfl) (by kernel_rfl) (by kernel_rfl) ?hQo542 ?hyo542 hS ?_
  case hio542 => (simp only [List.getElem?_toArray, List.getElem?_cons_succ, List.getElem?_cons_zero]; rfl)
  case hQo542 => exact fun _ _ _ h => h
  case hyo542 =>
    refine Or.inl ⟨by rfl, ?_⟩
    intro W hW
    go_simp
    first | done | with_reducible rfl
  try simp only [Act.put, List.setIfInBounds_toArray, List.set_cons_zero, List.set_cons_succ]
  refine wpAnyH_take (i := 5) (oi := ?o543) (v := ?vo543) ?hio543 (by kernel_rfl) (by kernel_rfl) (by kernel_rfl) ?hQo543 ?hyo543 hS ?_
  case hio543 => (simp only [List.getElem?_toArray, List.getElem?_cons_succ, List.getElem?_cons_zero]; rfl)
  case hQo543 => exact fun _ _ _ h => h
  case hyo543 =>
    refine Or.inl ⟨by rfl, ?_⟩
    intro W hW
    go_simp
    first | done | with_reducible rfl
  try simp only [Act.put, List.setIfInBounds_toArray, List.set_cons_zero, List.set_cons_succ]
  refine wpAnyH_take (i := 6) (oi := ?o544) (v := ?vo544) ?hio544 (by kernel_rfl) (by kernel_rfl) (by kernel_rfl) ?hQo544 ?hyo544 hS ?_
  case hio544 => (simp only [List.getElem?_toArray, List.getElem?_cons_succ, List.getElem?_cons_zero]; rfl)
  case hQo544 => exact fun _ _ _ h => h
  case hyo544 =>
    refine Or.inl ⟨by rfl, ?_⟩
    intro W hW
    go_simp
    first | done | with_reducible rfl
  try simp only [Act.put, List.setIfInBounds_toArray, List.set_cons_zero, List.set_cons_succ]
  refine wpAnyH_take (i := 7) (oi := ?o545) (v := ?vo545) ?hio545 (by kernel_rfl) (by kernel_rfl) (by kernel_rfl) ?hQo545 ?hyo545 hS ?_
  case hio545 => (simp only [List.getElem?_toArray, List.getElem?_cons_succ, List.getElem?_cons_zero]; rfl)
  case hQo545 => exact fun _ _ _ h => h
  case hyo545 =>
    refine Or.inl ⟨by rfl, ?_⟩
    intro W hW
    go_simp
    first | done | with_reducible rfl
  try simp only [Act.put, List.setIfInBounds_toArray, List.set_cons_zero, List.set_cons_succ]
  refine wpAnyH_take (i := 8) (oi := ?o546) (v := ?vo546) ?hio546 (by kernel_rfl) (by kernel_rfl) (by kernel_rfl) ?hQo546 ?hyo546 hS ?_
  case hio546 => (simp only [List.getElem?_toArray, List.getElem?_cons_succ, List.getElem?_cons_zero]; rfl)
  case hQo546 => exact fun _ _ _ h => h
  case hyo546 =>
    refine Or.inl ⟨by rfl, ?_⟩
    intro W hW
    have hcell := hc2.out W hW.1
    go_simp
    first | done | with_reducible rfl
  try simp only [Act.put, List.setIfInBounds_toArray, List.set_cons_zero, List.set_cons_succ]
  refine wpAnyH_take (i := 9) (oi := ?o547) (v := ?vo547) ?hio547 (by kernel_rfl) (by kernel_rfl) (by kernel_rfl) ?hQo547 ?hyo547 hS ?_
  case hio547 => (simp only [List.getElem?_toArray, List.getElem?_cons_succ, List.getElem?_cons_zero]; rfl)
  case hQo547 => exact fun _ _ _ h => h
  case hyo547 =>
    refine Or.inl ⟨by rfl, ?_⟩
    intro W hW
    go_simp
    first | done | with_reducible rfl
  try simp only [Act.put, List.setIfInBounds_toArray, List.set_cons_zero, List.set_cons_succ]
  refine wpAnyH_take (i := 10) (oi := ?o548) (v := ?vo548) ?hio548 (by kernel_rfl) (by kernel_rfl) (by kernel_rfl) ?hQo548 ?hyo548 hS ?_
  case hio548 => (simp only [List.getElem?_toArray, List.getElem?_cons_succ, List.getElem?_cons_zero]; rfl)
  case hQo548 => exact fun _ _ _ h => h
  case hyo548 =>
    refine Or.inl ⟨by rfl, ?_⟩
    intro W hW
    go_simp
    first | done | with_reducible rfl
  try simp only [Act.put, List.setIfInBounds_toArray, List.set_cons_zero, List.set_cons_succ]
  refine wpAnyH_take (i := 11) (oi := ?o549) (v := ?vo549) ?hio549 (by kernel_rfl) (by kernel_rfl) (by kernel_rfl) ?hQo549 ?hyo549 hS ?_
  case hio549 => (simp only [List.getElem?_toArray, List.getElem?_cons_succ, List.getElem?_cons_zero]; rfl)
  case hQo549 => exact fun _ _ _ h => h
  case hyo549 =>
    refine Or.inl ⟨by rfl, ?_⟩
    intro W hW
    go_simp
    first | done | with_reducible rfl
  try simp only [Act.put, List.setIfInBounds_toArray, List.set_cons_zero, List.set_cons_succ]
  refine wpAnyH_take (i := 12) (oi := ?o550) (v := ?vo550) ?hio550 (by kernel_rfl) (by kernel_rfl) (by kernel_rfl) ?hQo550 ?hyo550 hS ?_
  case hio550 => (simp only [List.getElem?_toArray, List.getElem?_cons_succ, List.getElem?_cons_zero]; rfl)
  case hQo550 => exact fun _ _ _ h => h
  case hyo550 =>
    refine Or.inl ⟨by rfl, ?_⟩
    intro W hW
    go_simp
    first | done | with_reducible rfl
  try simp only [Act.put, List.setIfInBounds_toArray, List.set_cons_zero, List.set_cons_succ]
  refine wpAnyH_take (i := 13) (oi := ?o551) (v := ?vo551) ?hio551 (by kernel_rfl) (by kernel_rfl) (by kernel_rfl) ?hQo551 ?hyo551 hS ?_
  case hio551 => (simp only [List.getElem?_toArray, List.getElem?_cons_succ, List.getElem?_cons_zero]; rfl)
  case hQo551 => exact fun _ _ _ h => h
  case hyo551 =>
    refine Or.inl ⟨by rfl, ?_⟩
    intro W hW
    go_simp
    first | done | with_reducible rfl
  try simp only [Act.put, List.setIfInBounds_toArray, List.set_cons_zero, List.set_cons_succ]
  refine wpAnyH_take (i := 14) (oi := ?o552) (v := ?vo552) ?hio552 (by kernel_rfl) (by kernel_rfl) (by kernel_rfl) ?hQo552 ?hyo552 hS ?_
  case hio552 => (simp only [List.getElem?_toArray, List.getElem?_cons_succ, List.getElem?_cons_zero]; rfl)
  case hQo552 => exact fun _ _ _ h => h
  case hyo552 =>
    refine Or.inl ⟨by rfl, ?_⟩
    intro W hW
    have hcell := hc3.out W hW.1
    go_simp
    first | done | with_reducible rfl
  try simp only [Act.put, List.setIfInBounds_toArray, List.set_cons_zero, List.set_cons_succ]
  refine wpAnyH_take (i := 15) (oi := ?o553) (v := ?vo553) ?hio553 (by kernel_rfl) (by kernel_rfl) (by kernel_rfl) ?hQo553 ?hyo553 hS ?_
  case hio553 => (simp only [List.getElem?_toArray, List.getElem?_cons_succ, List.getElem?_cons_zero]; rfl)
  case hQo553 => exact fun _ _ _ h => h
  case hyo553 =>
    refine Or.inl ⟨by rfl, ?_⟩
    intro W hW
    go_simp
    first | done | with_reducible rfl
  try simp only [Act.put, List.setIfInBounds_toArray, List.set_cons_zero, List.set_cons_succ]
  refine wpAnyH_take (i := 16) (oi := ?o554) (v := ?vo554) ?hio554 (by kernel_rfl) (by kernel_rfl) (by kernel_rfl) ?hQo554 ?hyo554 hS ?_
  case hio554 => (simp only [List.getElem?_toArray, List.getElem?_cons_succ, List.getElem?_cons_zero]; rfl)
  case hQo554 => exact fun _ _ _ h => h
  case hyo554 =>
    refine Or.inl ⟨by rfl, ?_⟩
    intro W hW
    go_simp
    first | done | with_reducible rfl
  try simp only [Act.put, List.setIfInBounds_toArray, List.set_cons_zero, List.set_cons_succ]
  refine wpAnyH_take (i := 17) (oi := ?o555) (v := ?vo555) ?hio555 (by kernel_rfl) (by kernel_rfl) (by kernel_rfl) ?hQo555 ?hyo555 hS ?_
  case hio555 => (simp only [List.getElem?_toArray, List.getElem?_cons_succ, List.getElem?_cons_zero]; rfl)
  case hQo555 => exact fun _ _ _ h => h
  case hyo555 =>
    refine Or.inl ⟨by rfl, ?_⟩
    intro W hW
    go_simp
    first | done | with_reducible rfl
  try simp only [Act.put, List.setIfInBounds_toArray, List.set_cons_zero, List.set_cons_succ]
  refine wpAnyH_done (by kernel_rfl) ?_ _
  clear hS
  go_wp2_with fail
  have hS2 : Below w.heap.size w W2.drew.drew.drew ∧ Blk W2.drew.drew.drew w.heap.size 42 zH ∧ Blk W2.drew.drew.drew g5 32 XS ∧ Blk W2.drew.drew.drew g7 32 XD := ⟨hS1.1.drew, hS1.2.1, hS1.2.2.1, hS1.2.2.2⟩
  clear hS1
  refine wp_region_held_drew (S := fun W => Below w.heap.size w W ∧ (∃ hh, Blk W w.heap.size 42 hh) ∧ Blk W g5 32 XS ∧ Blk W g7 32 XD) (by kernel_rfl) ⟨hS2.1, ⟨_, hS2.2.1⟩, hS2.2.2⟩ ?_
  intro hS
  refine wpAnyH_take (i := 0) (oi := ?o556) (v := ?vo556) ?hio556 (by kernel_rfl) (by kernel_rfl) (by kernel_rfl) ?hQo556 ?hyo556 hS ?_
  case hio556 => (simp only [List.getElem?_toArray, List.getElem?_cons_succ, List.getElem?_cons_zero]; rfl)
  case hQo556 => exact fun _ _ _ h => h
  case hyo556 =>
    refine Or.inl ⟨by rfl, ?_⟩
    intro W hW
    go_simp
    first | done | with_reducible rfl
  try simp only [Act.put, List.setIfInBounds_toArray, List.set_cons_zero, List.set_cons_succ]
  refine wpAnyH_take (i := 1) (oi := ?o557) (v := ?vo557) ?hio557 (by kernel_rfl) (by kernel_rfl) (by kernel_rfl) ?hQo557 ?hyo557 hS ?_
  case hio557 => (simp only [List.getElem?_toArray, List.getElem?_cons_succ, List.getElem?_cons_zero]; rfl)
  case hQo557 => exact fun _ _ _ h => h
  case hyo557 =>
    refine Or.inl ⟨by rfl, ?_⟩
    intro W hW
    go_simp
    first | done | with_reducible rfl
  try simp only [Act.put, List.setIfInBounds_toArray, List.set_cons_zero, List.set_cons_succ]
  refine wpAnyH_take (i := 2) (oi := ?o558) (v := ?vo558) ?hio558 (by kernel_rfl) (by kernel_rfl) (by kernel_rfl) ?hQo558 ?hyo558 hS ?_
  case hio558 => (simp only [List.getElem?_toArray, List.getElem?_cons_succ, List.getElem?_cons_zero]; rfl)
  case hQo558 => exact fun _ _ _ h => h
  case hyo558 =>
    refine Or.inl ⟨by rfl, ?_⟩
    intro W hW
    go_simp
    first | done | with_reducible rfl
  try simp only [Act.put, List.setIfInBounds_toArray, List.set_cons_zero, List.set_cons_succ]
  refine wpAnyH_take (i := 3) (oi := ?o559) (v := ?vo559) ?hio559 (by kernel_rfl) (by kernel_rfl) (by kernel_rfl) ?hQo559 ?hyo559 hS ?_
  case hio559 => (simp only [List.getElem?_toArray, List.getElem?_cons_succ, List.getElem?_cons_zero]; rfl)
  case hQo559 => exact fun _ _ _ h => h
  case hyo559 =>
    refine Or.inl ⟨by rfl, ?_⟩
    intro W hW
    go_simp
    first | done | with_reducible rfl
  try simp only [Act.put, List.setIfInBounds_toArray, List.set_cons_zero, List.set_cons_succ]
  refine wpAnyH_take (i := 4) (oi := ?o560) (v := ?vo560) ?hio560 (by kernel_rfl) (by kernel_rfl) (by kernel_rfl) ?hQo560 ?hyo560 hS ?_
  case hio560 => (simp only [List.getElem?_toArray, List.getElem?_cons_succ, List.getElem?_cons_zero]; rfl)
  case hQo560 => exact fun _ _ _ h => h
  case hyo560 =>
    refine Or.inl ⟨by rfl, ?_⟩
    intro W hW
    go_simp
    first | done | with_reducible rfl
  try simp only [Act.put, List.setIfInBounds_toArray, List.set_cons_zero, List.set_cons_succ]
  refine wpAnyH_take (i := 5) (oi := ?o561) (v := ?vo561) ?hio561 (by kernel_rfl) (by kernel_rfl) (by kernel_rfl) ?hQo561 ?hyo561 hS ?_
  case hio561 => (simp only [List.getElem?_toArray, List.getElem?_cons_succ, List.getElem?_cons_zero]; rfl)
  case hQo561 => exact fun _ _ _ h => h
  case hyo561 =>
    refine Or.inl ⟨by rfl, ?_⟩
    intro W hW
    have hcell := hc7.out W hW.1
    go_simp
    first | done | with_reducible rfl
  try simp only [Act.put, List.setIfInBounds_toArray, List.set_cons_zero, List.set_cons_succ]
  refine wpAnyH_take (i := 6) (oi := ?o562) (v := ?vo562) ?hio562 (by kernel_rfl) (by kernel_rfl) (by kernel_rfl) ?hQo562 ?hyo562 hS ?_
  case hio562 => (simp only [List.getElem?_toArray, List.getElem?_cons_succ, List.getElem?_cons_zero]; rfl)
  case hQo562 => exact fun _ _ _ h => h
  case hyo562 =>
    refine Or.inl ⟨by rfl, ?_⟩
    intro W hW
    go_simp
    first | done | with_reducible rfl
  try simp only [Act.put, List.setIfInBounds_toArray, List.set_cons_zero, List.set_cons_succ]
  refine wpAnyH_take (i := 7) (oi := ?o563) (v := ?vo563) ?hio563 (by kernel_rfl) (by kernel_rfl) (by kernel_rfl) ?hQo563 ?hyo563 hS ?_
  case hio563 => (simp only [List.getElem?_toArray, List.getElem?_cons_succ, List.getElem?_cons_zero]; rfl)
  case hQo563 => exact fun _ _ _ h => h
  case hyo563 =>
    refine Or.inl ⟨by rfl, ?_⟩
    intro W hW
    go_simp
    first | done | with_reducible rfl
  try simp only [Act.put, List.setIfInBounds_toArray, List.set_cons_zero, List.set_cons_succ]
  refine wpAnyH_take (i := 8) (oi := ?o564) (v := ?vo564) ?hio564 (by kernel_rfl) (by kernel_rfl) (by kernel_rfl) ?hQo564 ?hyo564 hS ?_
  case hio564 => (simp only [List.getElem?_toArray, List.getElem?_cons_succ, List.getElem?_cons_zero]; rfl)
  case hQo564 => exact fun _ _ _ h => h
  case hyo564 =>
    refine Or.inl ⟨by rfl, ?_⟩
    intro W hW
    go_simp
    first | done | with_reducible rfl
  try simp only [Act.put, List.setIfInBounds_toArray, List.set_cons_zero, List.set_cons_succ]
  refine wpAnyH_take (i := 9) (oi := ?o565) (v := ?vo565) ?hio565 (by kernel_rfl) (by kernel_rfl) (by kernel_rfl) ?hQo565 ?hyo565 hS ?_
  case hio565 => (simp only [List.getElem?_toArray, List.getElem?_cons_succ, List.getElem?_cons_zero]; rfl)
  case hQo565 => exact fun _ _ _ h => h
  case hyo565 =>
    refine Or.inl ⟨by rfl, ?_⟩
    intro W hW
    have hcell := hc6.out W hW.1
    go_simp
    first | done | with_reducible rfl
  try simp only [Act.put, List.setIfInBounds_toArray, List.set_cons_zero, List.set_cons_succ]
  refine wpAnyH_take (i := 10) (oi := ?o566) (v := ?vo566) ?hio566 (by kernel_rfl) (by kernel_rfl) (by kernel_rfl) ?hQo566 ?hyo566 hS ?_
  case hio566 => (simp only [List.getElem?_toArray, List.getElem?_cons_succ, List.getElem?_cons_zero]; rfl)
  case hQo566 => exact fun _ _ _ h => h
  case hyo566 =>
    refine Or.inl ⟨by rfl, ?_⟩
    intro W hW
    go_simp
    first | done | with_reducible rfl
  try simp only [Act.put, List.setIfInBounds_toArray, List.set_cons_zero, List.set_cons_succ]
  refine wpAnyH_take (i := 11) (oi := ?o567) (v := .agg XS) ?hio567 (by kernel_rfl) (by kernel_rfl) (by kernel_rfl) ?hQo567 ?hyo567 hS ?_
  case hio567 => (simp only [List.getElem?_toArray, List.getElem?_cons_succ, List.getElem?_cons_zero]; rfl)
  case hQo567 => exact fun _ _ _ h => h
  case hyo567 => exact yieldsIf_load_mid (by rfl) 32 (.tmp 5) rfl g5 0 rfl XS.toList _ (fun W hW => Blk.range0 hW.2.2.1) Try.underlying32 rfl (by simpa using zi2)
  try simp only [Act.put, List.setIfInBounds_toArray, List.set_cons_zero, List.set_cons_succ]
  refine wpAnyH_take (i := 12) (oi := ?o568) (v := .agg XD) ?hio568 (by kernel_rfl) (by kernel_rfl) (by kernel_rfl) ?hQo568 ?hyo568 hS ?_
  case hio568 => (simp only [List.getElem?_toArray, List.getElem?_cons_succ, List.getElem?_cons_zero]; rfl)
  case hQo568 => exact fun _ _ _ h => h
  case hyo568 => exact yieldsIf_load_mid (by rfl) 32 (.tmp 7) rfl g7 0 rfl XD.toList _ (fun W hW => Blk.range0 hW.2.2.2) Try.underlying32 rfl (by simpa using zi3)
  try simp only [Act.put, List.setIfInBounds_toArray, List.set_cons_zero, List.set_cons_succ]
  refine wpAnyH_take (i := 13) (oi := ?o570) (v := .agg (hdv [((6 : Nat) : Int), 40, (T : Int), (C : Int), (I : Int), 0, 0, (x7 : Int), (x6 : Int)] XS XD)) ?hio570 (by kernel_rfl) (by kernel_rfl) (by kernel_rfl) ?hQo570 ?hyo570 hS ?_
  case hio570 => (simp only [List.getElem?_toArray, List.getElem?_cons_succ, List.getElem?_cons_zero]; rfl)
  case hQo570 => exact fun _ _ _ h => h
  case hyo570 =>
    refine Or.inl ⟨by rfl, ?_⟩
    intro W hW
    have e1 := HX.out
    have e2 := HY.out
    clear hW
    rw [← e1, ← e2]
    change _ = _
    kernel_rfl
  try simp only [Act.put, List.setIfInBounds_toArray, List.set_cons_zero, List.set_cons_succ]
  refine wpAnyH_ready (rs := [14]) (by kernel_rfl) (by simp) ?_
  refine AllReadyH.cons (o := ?o571) ?hoo571 (fun K hK => ?ho571) AllReadyH.nil
  case hoo571 => (simp only [List.getElem?_toArray, List.getElem?_cons_succ, List.getElem?_cons_zero]; rfl)
  case ho571 =>
    refine step_storeBlk (g := w.heap.size) (t := 42) (cs := hdv [((6 : Nat) : Int), 40, (T : Int), (C : Int), (I : Int), 0, 0, (x7 : Int), (x6 : Int)] XS XD) rfl 42 (.tmp 2) (.tmp 91) rfl rfl rfl zH hS2.2.1 ?hi ?hs ?h1 ?_
    case hi => rw [hdv_size _ _ _ rfl z2 z3]; exact Try.infoHead
    case hs => rw [hdv_size _ _ _ rfl z2 z3]; exact zH_size
    case h1 => exact o1 _
    intro w9 kb hg9
    have b9' : Below w.heap.size w w9 := hS2.1.grown hg9 hS2.1.size (fun k hk => by injection hk with hk; omega)
    have hS9 : Below w.heap.size w w9 ∧ (∃ hh, Blk w9 w.heap.size 42 hh) ∧ Blk w9 g5 32 XS ∧ Blk w9 g7 32 XD := ⟨b9', ⟨_, kb⟩, hS2.2.2.1.grown hg9 (by omega), hS2.2.2.2.grown hg9 (by omega)⟩
    refine hK.out _ _ hS9 (fun hS => ?_)
    clear hK K
    try simp only [Act.put, List.setIfInBounds_toArray, List.set_cons_zero, List.set_cons_succ]
    refine wpAnyH_take (i := 15) (oi := ?o569) (v := .int .i64 0) ?hio569 (by kernel_rfl) (by kernel_rfl) (by kernel_rfl) ?hQo569 ?hyo569 hS9 ?_
    case hio569 => (simp only [List.getElem?_toArray, List.getElem?_cons_succ, List.getElem?_cons_zero]; rfl)
    case hQo569 => exact fun _ _ _ h => h
    case hyo569 => exact Or.inl ⟨by rfl, fun W hW => by go_simp⟩
    try simp only [Act.put, List.setIfInBounds_toArray, List.set_cons_zero, List.set_cons_succ]
    refine wpAnyH_done (by kernel_rfl) ?_ _
    go_wp2_with fail
    refine bodyPost_blk2 rfl _ rfl kb Try.underlying42 rfl (by rw [hdv_size _ _ _ rfl z2 z3]; exact Try.infoHead) rfl ?_
    exact ⟨by rw [HP.out, HE.out]; rfl, b9'⟩

end Go.Proofs.Ytkokgoodpibboaa
