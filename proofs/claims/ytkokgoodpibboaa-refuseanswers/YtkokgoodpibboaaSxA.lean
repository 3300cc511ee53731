
/- Contracts: addr.Six, ipsix.six, fits, Put (where all is in its bounds). -/
import Derived.Test.YtkokgoodpibboaaHdC
namespace Go.Proofs.Ytkokgoodpibboaa
open Go.RowKit
set_option maxRecDepth 100000
set_option linter.unusedSimpArgs false
set_option linter.unusedVariables false

theorem or_pow (k x y : Nat) (hx : x % 2 ^ k = 0) (hy : y < 2 ^ k) : x ||| y = x + y := by
  have h := Nat.two_pow_add_eq_or_of_lt hy (x / 2 ^ k)
  have e : 2 ^ k * (x / 2 ^ k) = x := by have := Nat.div_add_mod x (2 ^ k); omega
  rw [e] at h
  omega
theorem or_k (k x y : Nat) (hx : x % 2 ^ k = 0) (hy : y < 2 ^ k) (h : x + y < 18446744073709551616) : bits .or .u64 (x : Int) (y : Int) = ((x + y : Nat) : Int) := by rw [u64_or_nat _ _ (by omega) (by omega), or_pow k x y hx hy]

/-- An operation that builds a value: its outcome is handed in. -/
theorem wpList_build {P : Program} {w : World} {ops : Array Oper} {rest : List Oper} {o : Oper} {a : Act} {Q : Exit → Act → World → Prop} (hgd : o.guard = none) (ty : TypeId) (fs : Array (Nat × Operand)) (ho : o.op = .build ty fs) (v : Value)
    (hr : ∀ w, (execOp a.eval o).run P w = .ok (.value v) w) (h : wpList P ops Q rest (a.put o.dst v) w) : wpList P ops Q (o :: rest) a w :=
  wpList_plain hgd fun _ hK => by
    unfold Oper.wp
    rw [hr w]
    exact hK _ _ h
theorem list16 (l : List UInt8) (h : l.length = 16) : ∃ b0 b1 b2 b3 b4 b5 b6 b7 b8 b9 b10 b11 b12 b13 b14 b15, l = [b0, b1, b2, b3, b4, b5, b6, b7, b8, b9, b10, b11, b12, b13, b14, b15] := by
  match l, h with
  | [b0, b1, b2, b3, b4, b5, b6, b7, b8, b9, b10, b11, b12, b13, b14, b15], _ => exact ⟨b0, b1, b2, b3, b4, b5, b6, b7, b8, b9, b10, b11, b12, b13, b14, b15, rfl⟩

set_option maxHeartbeats 1000000 in
theorem addrSix_any (l : List UInt8) (hl : l.length = 16) (w : World) :
    Calls Try.prog 115 #[av l] w fun e w' => e = .returned (.agg (adv 6 l)) ∧ Below w.heap.size w w' := by
  have hz := (zero_of_info Try.zeroAddr).1
  have hne : ¬ adv 0 (zb 16) = #[] := by simp [adv]
  have k0 : Blk ((w.alloc (.cells (l.map bv).toArray 30)).alloc (.cells (adv 0 (zb 16)) 32)) w.heap.size 30 (l.map bv).toArray := (blk_new _ _ _).alloc _
  have k1 : Blk ((w.alloc (.cells (l.map bv).toArray 30)).alloc (.cells (adv 0 (zb 16)) 32)) (w.heap.size + 1) 32 (adv 0 (zb 16)) := blk_new' _ _ _ _ (by simp)
  have hb0 : Below w.heap.size w ((w.alloc (.cells (l.map bv).toArray 30)).alloc (.cells (adv 0 (zb 16)) 32)) := ((Below.refl _ _).alloc (Nat.le_refl _) _).alloc (by simp) _
  have zi : (Try.prog.info? 30).map (·.size) = some (l.map bv).toArray.size := by simp only [List.size_toArray, List.length_map, hl]; kernel_rfl
  have zs := Adr_size 6 l hl
  have o1 := adv_one 6 l
  have z17 : (adv 0 (zb 16)).size = (adv 6 l).size := by rw [adv_size 6 l hl]; rfl
  obtain ⟨b0, b1, b2, b3, b4, b5, b6, b7, b8, b9, b10, b11, b12, b13, b14, b15, e16⟩ := list16 l hl
  have HX := Lib.hid (show ([b0, b1, b2, b3, b4, b5, b6, b7, b8, b9, b10, b11, b12, b13, b14, b15].map bv).toArray = (l.map bv).toArray by rw [e16])
  have HY := Lib.hid (show adv 6 [b0, b1, b2, b3, b4, b5, b6, b7, b8, b9, b10, b11, b12, b13, b14, b15] = adv 6 l by rw [e16])
  clear e16
  generalize adv 6 l = Y at *
  have eav : av l = .agg (l.map bv).toArray := rfl
  rw [eav]
  generalize (l.map bv).toArray = X at *
  go_enter Try.func115, Try.ntmps115
  go_wp2_with (first
    | (refine wpList_loadBlk (g := w.heap.size) (t := 30) (cs := X) rfl 30 (.tmp 1) ?ho ?hx ?hA _ Try.underlying30 rfl ?hi ?_
       case ho => with_reducible rfl
       case hx => rfl
       case hA => exact k0
       case hi => exact zi)
    | (refine wpList_build rfl 32 ?fs ?ho (.agg Y) ?hr ?_
       case ho => with_reducible rfl
       case hr =>
         intro W
         have e1 := HX.out
         have e2 := HY.out
         rw [← e1, ← e2]
         change _ = _
         kernel_rfl)
    | (refine wpList_storeBlk (g := w.heap.size + 1) (t := 32) (cs := Y) rfl 32 (.tmp 2) (.tmp 4) ?ho ?hx2 ?hy2 (adv 0 (zb 16)) k1 ?hi ?hs ?h1 ?_
       case ho => with_reducible rfl
       case hx2 => rfl
       case hy2 => rfl
       case hi => exact zs
       case hs => exact z17
       case h1 => exact o1
       intro w5 kb hg5
       have b5 : Below w.heap.size w w5 := hb0.grown hg5 hb0.size (fun k hk => by injection hk with hk; omega)))
  refine bodyPost_blk rfl _ rfl kb Try.underlying32 rfl zs rfl ?_
  exact ⟨rfl, b5⟩

theorem six_yes (l : List UInt8) (hl : l.length = 16) (w : World) :
    Calls Try.prog 114 #[.agg (adv 6 l)] w fun e w' => e = .returned (.bool true) ∧ Below w.heap.size w w' := by
  have k0 : Blk (w.alloc (.cells (adv 6 l) 32)) w.heap.size 32 (adv 6 l) := blk_new _ _ _
  have hb0 : Below w.heap.size w (w.alloc (.cells (adv 6 l) 32)) := (Below.refl _ _).alloc (Nat.le_refl _) _
  have hz := Adr_size 6 l hl
  have c0 := k0.adv0
  have HR := Lib.hid (fun W => right_any 6 l hl W)
  rw [show okA 6 l = true by simp [okA]] at HR
  generalize adv 6 l = X at *
  go_enter Try.func114, Try.ntmps114
  go_wp2_with (first
    | (refine wpList_loadBlk (g := w.heap.size) (t := 32) (cs := X) rfl 32 (.tmp 1) ?ho ?hx ?hA _ Try.underlying32 rfl ?hi ?_
       case ho => with_reducible rfl
       case hx => rfl
       case hA => exact k0
       case hi => exact hz)
    | fail)
  refine (HR.out _).mono ?_
  rintro e w1 ⟨rfl, hb1⟩
  have b1 := Below.on hb0 hb0.size hb1
  clear k0 hb0 hb1 c0
  go_wp2
  go_ret
  exact ⟨rfl, b1⟩

set_option maxHeartbeats 1000000 in
theorem fits6_in (V S T F G : Int) (C I L P : Nat) (l l' : List UInt8) (hl : l.length = 16) (hl' : l'.length = 16) (w : World)
    (bC : C < 256) (bI : I < 1048576) (bL : L < 256) (bP : P < 256) :
    Calls Try.prog 78 #[.agg (hdv [V, S, T, C, I, F, G, L, P] (adv 6 l) (adv 6 l'))] w fun e w' => e = .returned (.bool true) ∧ Below w.heap.size w w' := by
  have k0 : Blk (w.alloc (.cells (hdv [V, S, T, C, I, F, G, L, P] (adv 6 l) (adv 6 l')) 42)) w.heap.size 42 (hdv [V, S, T, C, I, F, G, L, P] (adv 6 l) (adv 6 l')) := blk_new _ _ _
  have hb0 : Below w.heap.size w (w.alloc (.cells (hdv [V, S, T, C, I, F, G, L, P] (adv 6 l) (adv 6 l')) 42)) := (Below.refl _ _).alloc (Nat.le_refl _) _
  have c3 := (k0.cellA 3).trans (hdv_num [V, S, T, C, I, F, G, L, P] (adv 6 l) (adv 6 l') 3 C rfl)
  have c4 := (k0.cellA 4).trans (hdv_num [V, S, T, C, I, F, G, L, P] (adv 6 l) (adv 6 l') 4 I rfl)
  have c7 := (k0.cellA 7).trans (hdv_num [V, S, T, C, I, F, G, L, P] (adv 6 l) (adv 6 l') 7 L rfl)
  have c8 := (k0.cellA 8).trans (hdv_num [V, S, T, C, I, F, G, L, P] (adv 6 l) (adv 6 l') 8 P rfl)
  have R1 := fun (W : World) (h : Blk W w.heap.size 42 (hdv [V, S, T, C, I, F, G, L, P] (adv 6 l) (adv 6 l'))) => hdv_src (by rfl) h
  have R2 := fun (W : World) (h : Blk W w.heap.size 42 (hdv [V, S, T, C, I, F, G, L, P] (adv 6 l) (adv 6 l'))) => hdv_dst (by rfl) (adv_size 6 l hl) h
  have z1 := Adr_size 6 l hl
  have z2 := Adr_size 6 l' hl'
  have H1 := Lib.hid (fun W => six_yes l hl W)
  have H2 := Lib.hid (fun W => six_yes l' hl' W)
  have eC : bits .or .i64 (bits .or .i64 (C : Int) (L : Int)) (P : Int) / 256 = 0 := by
    have h1 : C ||| L < 2 ^ 8 := Nat.or_lt_two_pow (by omega) (by omega)
    have h2 : C ||| L ||| P < 2 ^ 8 := Nat.or_lt_two_pow h1 (by omega)
    rw [i64_orN C L (by omega) (by omega), i64_orN _ P (by omega) (by omega)]
    omega
  have eI : (I : Int) / 1048576 = 0 := by omega
  have e00 : bits .or .i64 0 0 = 0 := i64_orN 0 0 (by omega) (by omega)
  generalize hdv [V, S, T, C, I, F, G, L, P] (adv 6 l) (adv 6 l') = M at *
  generalize adv 6 l = s at *
  generalize adv 6 l' = d at *
  clear bC bI bL bP
  go_enter Try.func78, Try.ntmps78
  go_wp2_with (first
    | (refine wpList_loadPart (g := w.heap.size) rfl 32 (.tmp 20) ?ho 9 ?hx s _ (R1 _ k0) Try.underlying32 rfl ?hi ?_
       case ho => with_reducible rfl
       case hx => rfl
       case hi => exact z1)
    | fail)
  refine (H1.out _).mono ?_
  rintro e w1 ⟨rfl, hb1⟩
  have k1 := k0.on hb1
  have b1 := Below.on hb0 hb0.size hb1
  clear k0 hb0 hb1
  go_wp2_with (first
    | (refine wpList_loadPart (g := w.heap.size) rfl 32 (.tmp 25) ?ho 26 ?hx d _ (R2 _ k1) Try.underlying32 rfl ?hi ?_
       case ho => with_reducible rfl
       case hx => rfl
       case hi => exact z2)
    | fail)
  refine (H2.out _).mono ?_
  rintro e w2 ⟨rfl, hb2⟩
  have b2 := Below.on b1 b1.size hb2
  clear k1 b1 hb2 R1 R2
  go_wp2
  go_ret
  exact ⟨rfl, b2⟩

/-- The first eight bytes of a head of family 6, as one number. -/
def first6 (C I n P L : Nat) : Nat := 6917529027641081856 + C * 4503599627370496 + I * 4294967296 + n * 65536 + P * 256 + L
theorem first6_or (C I n P L : Nat) (hn : n ≤ 65495) (bC : C < 256) (bI : I < 1048576) (bL : L < 256) (bP : P < 256) :
    bits .or .u64 (bits .or .u64 (bits .or .u64 (bits .or .u64 (bits .or .u64 6917529027641081856 ((C : Int) * 4503599627370496)) ((I : Int) * 4294967296)) ((n : Int) * 65536)) ((P : Int) * 256)) (L : Int) = ((first6 C I n P L : Nat) : Int) := by
  have e1 : bits .or .u64 6917529027641081856 ((C : Int) * 4503599627370496) = ((6917529027641081856 + C * 4503599627370496 : Nat) : Int) := by
    have := or_k 60 6917529027641081856 (C * 4503599627370496) (by omega) (by omega) (by omega)
    simpa using this
  rw [e1, show (I : Int) * 4294967296 = ((I * 4294967296 : Nat) : Int) by omega, or_k 52 _ _ (by omega) (by omega) (by omega),
    show (n : Int) * 65536 = ((n * 65536 : Nat) : Int) by omega, or_k 32 _ _ (by omega) (by omega) (by omega),
    show (P : Int) * 256 = ((P * 256 : Nat) : Int) by omega, or_k 16 _ _ (by omega) (by omega) (by omega), or_k 8 _ _ (by omega) (by omega) (by omega)]
  rfl
theorem first6_lt (C I n P L : Nat) (hn : n ≤ 65495) (bC : C < 256) (bI : I < 1048576) (bL : L < 256) (bP : P < 256) : first6 C I n P L ≤ 18446744073709551615 := by unfold first6; omega
/-- The packet that is put. -/
def pkt6 (C I L P : Nat) (s d body : List UInt8) : List UInt8 := (leBytes (first6 C I body.length P L) 8).reverse ++ (s ++ (d ++ body))
theorem sizeA_6 (l : List UInt8) : sizeA 6 l = 16 := by simp [sizeA, okA]

set_option maxHeartbeats 4000000 in
theorem put6_in (V S T F G : Int) (C I L P : Nat) (l l' : List UInt8) (hl : l.length = 16) (hl' : l'.length = 16) (A : Option Addr) (n cb : Nat) (bl : List UInt8) (w : World) (hn : n ≤ 65495) (hs : Shows w w.heap.size A n bl)
    (bC : C < 256) (bI : I < 1048576) (bL : L < 256) (bP : P < 256) :
    Calls Try.prog 29 #[.agg (hdv [V, S, T, C, I, F, G, L, P] (adv 6 l) (adv 6 l')), .slice A n cb] w fun e w' =>
      ∃ x, e = .returned (.tuple #[x, .int .i64 0]) ∧ Own w' w.heap.size x (40 + n) (pkt6 C I L P l l' bl) ∧ Below w.heap.size w w' := by
  have k0 : Blk (w.alloc (.cells (hdv [V, S, T, C, I, F, G, L, P] (adv 6 l) (adv 6 l')) 42)) w.heap.size 42 (hdv [V, S, T, C, I, F, G, L, P] (adv 6 l) (adv 6 l')) := blk_new _ _ _
  have hb0 : Below w.heap.size w (w.alloc (.cells (hdv [V, S, T, C, I, F, G, L, P] (adv 6 l) (adv 6 l')) 42)) := (Below.refl _ _).alloc (Nat.le_refl _) _
  have c3 := hdv_num [V, S, T, C, I, F, G, L, P] (adv 6 l) (adv 6 l') 3 C rfl
  have c4 := hdv_num [V, S, T, C, I, F, G, L, P] (adv 6 l) (adv 6 l') 4 I rfl
  have c7 := hdv_num [V, S, T, C, I, F, G, L, P] (adv 6 l) (adv 6 l') 7 L rfl
  have c8 := hdv_num [V, S, T, C, I, F, G, L, P] (adv 6 l) (adv 6 l') 8 P rfl
  have z0 : (Try.prog.info? 42).map (·.size) = some (hdv [V, S, T, C, I, F, G, L, P] (adv 6 l) (adv 6 l')).size := by rw [hdv_size _ _ _ rfl (adv_size 6 l hl) (adv_size 6 l' hl')]; exact Try.infoHead
  have R1 := fun (W : World) (h : Blk W w.heap.size 42 (hdv [V, S, T, C, I, F, G, L, P] (adv 6 l) (adv 6 l'))) => hdv_src (by rfl) h
  have R2 := fun (W : World) (h : Blk W w.heap.size 42 (hdv [V, S, T, C, I, F, G, L, P] (adv 6 l) (adv 6 l'))) => hdv_dst (by rfl) (adv_size 6 l hl) h
  have z1 := Adr_size 6 l hl
  have z2 := Adr_size 6 l' hl'
  have HF := Lib.hid (fun W => fits6_in V S T F G C I L P l l' hl hl' W bC bI bL bP)
  have HS := Lib.hid (fun W => abytes_any 6 l hl W)
  have HD := Lib.hid (fun W => abytes_any 6 l' hl' W)
  rw [sizeA_6 l, List.take_of_length_le (by omega)] at HS
  rw [sizeA_6 l', List.take_of_length_le (by omega)] at HD
  have hni : (n : Int) ≤ 65495 := by omega
  have iC : (C : Int) ≤ 255 := by omega
  have iI : (I : Int) ≤ 1048575 := by omega
  have iL : (L : Int) ≤ 255 := by omega
  have iP : (P : Int) ≤ 255 := by omega
  have hbl := hs.len
  have efirst := first6_or C I n P L hn bC bI bL bP
  have lfirst := first6_lt C I n P L hn bC bI bL bP
  have hpk : pkt6 C I L P l l' bl = (leBytes (first6 C I n P L) 8).reverse ++ (l ++ (l' ++ bl)) := by rw [pkt6, hbl]
  rw [hpk]
  generalize hdv [V, S, T, C, I, F, G, L, P] (adv 6 l) (adv 6 l') = M at *
  generalize adv 6 l = s at *
  generalize adv 6 l' = d at *
  generalize first6 C I n P L = N1 at *
  clear bC bI bL bP hpk
  go_enter Try.func29, Try.ntmps29
  go_wp2_with (first
    | (refine wpList_loadBlk (g := w.heap.size) (t := 42) (cs := M) rfl 42 (.tmp 2) ?ho ?hx ?hA _ Try.underlying42 rfl ?hi ?_
       case ho => with_reducible rfl
       case hx => rfl
       case hA => exact k0
       case hi => exact z0)
    | fail)
  refine (HF.out _).mono ?_
  rintro e w1 ⟨rfl, hb1⟩
  have k1 := k0.on hb1
  have b1 := Below.on hb0 hb0.size hb1
  have d3 := (k1.cellA 3).trans c3
  have d4' := (k1.cellA 4).trans c4
  have d7 := (k1.cellA 7).trans c7
  have d8 := (k1.cellA 8).trans c8
  clear k0 hb0 hb1 c3 c4 c7 c8
  go_wp2_with fail
  clear efirst d3 d4' d7 d8
  refine (big_ok N1 8 w1 (by omega) (by omega) (by rw [show ones (8 * ((8 : Nat) : Int)) = 18446744073709551615 by rw [ones_256 8 (by omega)]]; omega)).mono ?_
  rintro e w3 ⟨rfl, ho3, hb3⟩
  have q3' := k1.on hb3
  have q3 : Blk w3.drew w.heap.size 42 M := q3'
  have qb : Below w.heap.size w w3.drew := (Below.on b1 b1.size hb3).drew
  have qf : Shows w3.drew w3.drew.heap.size (some ⟨w1.heap.size, 0, none⟩) 8 (leBytes N1 8).reverse := ho3.shown
  have qB : Shows w3.drew w3.drew.heap.size A n bl := (hs.below qb).up qb.size
  clear q3' k1 b1 hb3 ho3 hs
  generalize w1.heap.size = g1 at *
  go_wp2_with fail
  refine wp_region_held_drew (S := fun W => Blk W w.heap.size 42 M) (by kernel_rfl) q3 ?_
  intro hS
  refine wpAnyH_take (i := 0) (oi := ?o201) (v := ?vo201) ?hio201 (by kernel_rfl) (by kernel_rfl) (by kernel_rfl) ?hQo201 ?hyo201 hS ?_
  case hio201 => (simp only [List.getElem?_toArray, List.getElem?_cons_succ, List.getElem?_cons_zero]; rfl)
  case hQo201 => exact fun _ _ _ h => h
  case hyo201 =>
    refine Or.inl ⟨by rfl, ?_⟩
    intro W hW
    go_simp
    first | done | with_reducible rfl
  try simp only [Act.put, List.setIfInBounds_toArray, List.set_cons_zero, List.set_cons_succ]
  refine wpAnyH_take (i := 1) (oi := ?o202) (v := .pointer (some ⟨w.heap.size, 9, none⟩)) ?hio202 (by kernel_rfl) (by kernel_rfl) (by kernel_rfl) ?hQo202 ?hyo202 hS ?_
  case hio202 => (simp only [List.getElem?_toArray, List.getElem?_cons_succ, List.getElem?_cons_zero]; rfl)
  case hQo202 => exact fun _ _ _ h => h
  case hyo202 => exact Or.inl ⟨by rfl, fun W hW => by go_simp⟩
  try simp only [Act.put, List.setIfInBounds_toArray, List.set_cons_zero, List.set_cons_succ]
  refine wpAnyH_take (i := 4) (oi := ?o203) (v := .pointer (some ⟨w.heap.size, 26, none⟩)) ?hio203 (by kernel_rfl) (by kernel_rfl) (by kernel_rfl) ?hQo203 ?hyo203 hS ?_
  case hio203 => (simp only [List.getElem?_toArray, List.getElem?_cons_succ, List.getElem?_cons_zero]; rfl)
  case hQo203 => exact fun _ _ _ h => h
  case hyo203 => exact Or.inl ⟨by rfl, fun W hW => by go_simp⟩
  try simp only [Act.put, List.setIfInBounds_toArray, List.set_cons_zero, List.set_cons_succ]
  refine wpAnyH_take (i := 7) (oi := ?o204) (v := ?vo204) ?hio204 (by kernel_rfl) (by kernel_rfl) (by kernel_rfl) ?hQo204 ?hyo204 hS ?_
  case hio204 => (simp only [List.getElem?_toArray, List.getElem?_cons_succ, List.getElem?_cons_zero]; rfl)
  case hQo204 => exact fun _ _ _ h => h
  case hyo204 =>
    refine Or.inl ⟨by rfl, ?_⟩
    intro W hW
    go_simp
    first | done | with_reducible rfl
  try simp only [Act.put, List.setIfInBounds_toArray, List.set_cons_zero, List.set_cons_succ]
  refine wpAnyH_take (i := 2) (oi := ?o205) (v := .agg s) ?hio205 (by kernel_rfl) (by kernel_rfl) (by kernel_rfl) ?hQo205 ?hyo205 hS ?_
  case hio205 => (simp only [List.getElem?_toArray, List.getElem?_cons_succ, List.getElem?_cons_zero]; rfl)
  case hQo205 => exact fun _ _ _ h => h
  case hyo205 => exact yieldsIf_load_mid (by rfl) 32 (.tmp 45) rfl w.heap.size 9 rfl s.toList _ (fun W hW => R1 W hW) Try.underlying32 rfl (by simpa using z1)
  try simp only [Act.put, List.setIfInBounds_toArray, List.set_cons_zero, List.set_cons_succ]
  refine wpAnyH_take (i := 5) (oi := ?o206) (v := .agg d) ?hio206 (by kernel_rfl) (by kernel_rfl) (by kernel_rfl) ?hQo206 ?hyo206 hS ?_
  case hio206 => (simp only [List.getElem?_toArray, List.getElem?_cons_succ, List.getElem?_cons_zero]; rfl)
  case hQo206 => exact fun _ _ _ h => h
  case hyo206 => exact yieldsIf_load_mid (by rfl) 32 (.tmp 48) rfl w.heap.size 26 rfl d.toList _ (fun W hW => R2 W hW) Try.underlying32 rfl (by simpa using z2)
  try simp only [Act.put, List.setIfInBounds_toArray, List.set_cons_zero, List.set_cons_succ]
  clear R1 R2 z0 z1 z2
  refine wpAnyH_ready (rs := [3]) (by kernel_rfl) (by simp) ?_
  refine AllReadyH.cons (o := ?o212) ?hoo212 (fun K hK => ?ho212) AllReadyH.nil
  case hoo212 => (simp only [List.getElem?_toArray, List.getElem?_cons_succ, List.getElem?_cons_zero]; rfl)
  case ho212 =>
    go_simp
    go_at_call 69
    with_reducible refine (HS.out _).mono ?_
    rintro e w5 ⟨xS, rfl, hoxS, hbw5⟩
    obtain ⟨aS, cS, rfl, hcxS, sS1⟩ := hoxS.at_some (by omega)
    have f5 := (qf.below hbw5).up hbw5.size
    have B5 := (qB.below hbw5).up hbw5.size
    have b5 := Below.on qb qb.size hbw5
    have q5 := q3.on hbw5
    clear hoxS hbw5
    refine hK.out _ _ q5 (fun _ => ?_)
    clear hK K qf qB qb q3
    try simp only [Act.put, List.setIfInBounds_toArray, List.set_cons_zero, List.set_cons_succ]
    refine wpAnyH_ready (rs := [6]) (by kernel_rfl) (by simp) ?_
    refine AllReadyH.cons (o := ?o211) ?hoo211 (fun K hK => ?ho211) AllReadyH.nil
    case hoo211 => (simp only [List.getElem?_toArray, List.getElem?_cons_succ, List.getElem?_cons_zero]; rfl)
    case ho211 =>
      go_simp
      go_at_call 69
      with_reducible refine (HD.out _).mono ?_
      rintro e w6 ⟨xD, rfl, hoxD, hbw6⟩
      obtain ⟨aD, cD, rfl, hcxD, sD⟩ := hoxD.at_some (by omega)
      have sF := (f5.below hbw6).up hbw6.size
      have sB := (B5.below hbw6).up hbw6.size
      have sS := (sS1.below hbw6).up hbw6.size
      have b6 := Below.on b5 b5.size hbw6
      have q6 := q5.on hbw6
      clear hoxD hbw6 f5 B5 sS1
      refine hK.out _ _ q6 (fun _ => ?_)
      clear hK K b5 q5
      try simp only [Act.put, List.setIfInBounds_toArray, List.set_cons_zero, List.set_cons_succ]
      refine wpAnyH_ready (rs := [8]) (by kernel_rfl) (by simp) ?_
      refine AllReadyH.cons (o := ?o210) ?hoo210 (fun K hK => ?ho210) AllReadyH.nil
      case hoo210 => (simp only [List.getElem?_toArray, List.getElem?_cons_succ, List.getElem?_cons_zero]; rfl)
      case ho210 =>
        have hlF : (leBytes N1 8).reverse.length = 8 := sF.len
        generalize hhLF : (leBytes N1 8).reverse = LF at *
        have HHLF := Lib.hid hhLF
        clear hhLF
        have P5 : Parts (w6.alloc (.cells #[.slice (some ⟨g1, 0, none⟩) 8 8, .slice (some aS) 16 cS, .slice (some aD) 16 cD, .slice A n cb] 43)) (w6.alloc (.cells #[.slice (some ⟨g1, 0, none⟩) 8 8, .slice (some aS) 16 cS, .slice (some aD) 16 cD, .slice A n cb] 43)).heap.size (some ⟨w6.heap.size, 0, none⟩) 4 [⟨some ⟨g1, 0, none⟩, 8, 8, LF⟩, ⟨some aS, 16, cS, l⟩, ⟨some aD, 16, cD, l'⟩, ⟨A, n, cb, bl⟩] := partsN w6 [⟨some ⟨g1, 0, none⟩, 8, 8, LF⟩, ⟨some aS, 16, cS, l⟩, ⟨some aD, 16, cD, l'⟩, ⟨A, n, cb, bl⟩] (by
          intro p hp
          simp only [List.mem_cons, List.not_mem_nil, or_false] at hp
          rcases hp with rfl | rfl | rfl | rfl
          · exact sF
          · exact sS
          · exact sD
          · exact sB)
        have j5 : joinP [⟨some ⟨g1, 0, none⟩, 8, 8, LF⟩, ⟨some aS, 16, cS, l⟩, ⟨some aD, 16, cD, l'⟩, ⟨A, n, cb, bl⟩] = LF ++ (l ++ (l' ++ bl)) := by simp [joinP]
        have n5 : (LF ++ (l ++ (l' ++ bl))).length = 40 + n := by simp [hlF, hl, hl', hbl]; omega
        have HC := Lib.hid (concatP_any (some ⟨w6.heap.size, 0, none⟩) 4 4 [⟨some ⟨g1, 0, none⟩, 8, 8, LF⟩, ⟨some aS, 16, cS, l⟩, ⟨some aD, 16, cD, l'⟩, ⟨A, n, cb, bl⟩] _ (by omega) P5 (by rw [j5, n5]; omega) (by rw [j5, n5]; omega))
        rw [j5, n5] at HC
        have b7 := b6.alloc b6.size (.cells #[.slice (some ⟨g1, 0, none⟩) 8 8, .slice (some aS) 16 cS, .slice (some aD) 16 cD, .slice A n cb] 43)
        have q7 := q6.alloc (.cells #[.slice (some ⟨g1, 0, none⟩) 8 8, .slice (some aS) 16 cS, .slice (some aD) 16 cD, .slice A n cb] 43)
        clear sF sS sD sB P5 j5 n5
        generalize hhLL : LF ++ (l ++ (l' ++ bl)) = LL at *
        have HHLL := Lib.hid hhLL
        clear hhLL
        go_simp
        refine hK.out _ _ q7 (fun _ => ?_)
        clear hK K
        try simp only [Act.put, List.setIfInBounds_toArray, List.set_cons_zero, List.set_cons_succ]
        refine wpAnyH_ready (rs := [9]) (by kernel_rfl) (by simp) ?_
        refine AllReadyH.cons (o := ?o209) ?hoo209 (fun K hK => ?ho209) AllReadyH.nil
        case hoo209 => (simp only [List.getElem?_toArray, List.getElem?_cons_succ, List.getElem?_cons_zero]; rfl)
        case ho209 =>
          go_simp
          go_at_call 71
          refine (HC.out).mono ?_
          rintro e w9 ⟨v, rfl, hown, hb9⟩
          have q9 := q7.on hb9
          have ho9 := hown.base (b' := w.heap.size) b7.size
          have b9 := Below.on b7 b7.size hb9
          refine hK.out _ _ q9 (fun _ => ?_)
          clear hK K hb9 hown HC
          try simp only [Act.put, List.setIfInBounds_toArray, List.set_cons_zero, List.set_cons_succ]
          refine wpAnyH_take (i := 10) (oi := ?o207) (v := v) ?hio207 (by kernel_rfl) (by kernel_rfl) (by kernel_rfl) ?hQo207 ?hyo207 q9 ?_
          case hio207 => (simp only [List.getElem?_toArray, List.getElem?_cons_succ, List.getElem?_cons_zero]; rfl)
          case hQo207 => exact fun _ _ _ h => h
          case hyo207 => exact Or.inl ⟨by rfl, fun W hW => by go_simp⟩
          try simp only [Act.put, List.setIfInBounds_toArray, List.set_cons_zero, List.set_cons_succ]
          refine wpAnyH_take (i := 11) (oi := ?o208) (v := .int .i64 0) ?hio208 (by kernel_rfl) (by kernel_rfl) (by kernel_rfl) ?hQo208 ?hyo208 q9 ?_
          case hio208 => (simp only [List.getElem?_toArray, List.getElem?_cons_succ, List.getElem?_cons_zero]; rfl)
          case hQo208 => exact fun _ _ _ h => h
          case hyo208 => exact Or.inl ⟨by rfl, fun W hW => by go_simp⟩
          try simp only [Act.put, List.setIfInBounds_toArray, List.set_cons_zero, List.set_cons_succ]
          refine wpAnyH_done (by kernel_rfl) ?_ _
          go_wp2
          go_ret2
          exact ⟨v, rfl, by rw [HHLF.out, HHLL.out]; exact ho9, b9⟩

end Go.Proofs.Ytkokgoodpibboaa
