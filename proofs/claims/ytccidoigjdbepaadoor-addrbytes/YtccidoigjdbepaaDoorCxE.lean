
/- Layer 11. Contracts: Parse of cidr and crawlwayref11. -/
import Derived.Test.YtccidoigjdbepaaDoorCxD
import Derived.Deep.RegionHeld
namespace Go.Proofs.YtccidoigjdbepaaDoor
open Go.RowKit Dec Lin
set_option maxRecDepth 100000
set_option linter.unusedVariables false
set_option linter.unusedSimpArgs false

/-- What stands ahead of a slash, behind it; is there one? -/
noncomputable def slH (l : List UInt8) : List UInt8 := ((parts 47 l).headD [])
def slT (l : List UInt8) : List UInt8 := l.drop ((parts 47 l).headD []).length.succ
theorem sl_no (l : List UInt8) (h : (47 : UInt8) ∉ l) : slH l = l := by unfold slH; rw [parts_no 47 l h]; rfl
theorem sl_yes (a b : List UInt8) (h : (47 : UInt8) ∉ a) : slH (a ++ 47 :: b) = a ∧ slT (a ++ 47 :: b) = b := by
  unfold slH slT
  rw [parts_yes 47 a b h]
  refine ⟨rfl, ?_⟩
  show (a ++ 47 :: b).drop (a.length + 1) = b
  rw [show a ++ 47 :: b = (a ++ [47]) ++ b by simp, show a.length + 1 = (a ++ [47]).length by simp, List.drop_left]
/-- What a text comes to as a prefix: an error, or none. -/
noncomputable def wid (l : List UInt8) : Nat := 8 * sizeA (aV l) (aL l)
noncomputable def rdX (h : List UInt8) (sl : Bool) (t : List UInt8) : Nat × Pfx :=
  if aE h ≠ 0 then (aE h, zP) else if sl = false then (0, whP (aV h) (aL h)) else if nE (wid h) t ≠ 0 then (nE (wid h) t, zP) else (ofE (aV h) (aL h) (nV (wid h) t), ofP (aV h) (aL h) (nV (wid h) t))
noncomputable def cX (l : List UInt8) : Nat × Pfx := if (47 : UInt8) ∈ l then rdX (slH l) true (slT l) else rdX l false []
theorem a_ok (l : List UInt8) (h : aE l = 0) : okA (aV l) (aL l) = true := by
  by_cases h58 : (58 : UInt8) ∈ l
  · have h0 : Cl.pE l = 0 := by unfold aE at h; rw [if_pos h58] at h; exact h
    rw [(a6_ok l h58 h0).2.1]
    exact okA6 _
  · have h0 : Qd.qE l = 0 := by unfold aE at h; rw [if_neg h58] at h; exact h
    rw [(a4_ok l h58 h0).2.1, (a4_ok l h58 h0).2.2, Cl.qB_qb]
    exact ok4 _ _ _ _
theorem wh_ok (v : Int) (l : List UInt8) (h : okA v l = true) : ofE v l (8 * sizeA v l : Int) = 0 := by
  rcases of_case v l (8 * sizeA v l : Int) with ⟨e, _⟩ | ⟨_, e, _⟩ | ⟨_, _, e, _⟩ | ⟨_, _, _, e, _⟩
  · rw [h] at e; cases e
  · omega
  · omega
  · exact e
theorem rdX_len (h : List UInt8) (sl : Bool) (t : List UInt8) : (rdX h sl t).2.l.length = 16 := by
  unfold rdX
  split
  · rfl
  · split
    · exact wlen _ _ (aL_len h)
    · split
      · rfl
      · exact ofP_len _ _ _ (aL_len h)
theorem cX_len (l : List UInt8) : (cX l).2.l.length = 16 := by
  unfold cX
  split <;> exact rdX_len _ _ _
/-- The ways that a text can go. -/
theorem rd_case (h : List UInt8) (sl : Bool) (t : List UInt8) :
    (((aE h : Int) != 0) = true ∧ (rdX h sl t) = (aE h, zP)) ∨
    (aE h = 0 ∧ sl = false ∧ rdX h sl t = (0, whP (aV h) (aL h))) ∨
    (aE h = 0 ∧ sl = true ∧ ((nE (wid h) t : Int) != 0) = true ∧ rdX h sl t = (nE (wid h) t, zP)) ∨
    (aE h = 0 ∧ sl = true ∧ nE (wid h) t = 0 ∧ rdX h sl t = (ofE (aV h) (aL h) (nV (wid h) t), ofP (aV h) (aL h) (nV (wid h) t))) := by
  unfold rdX
  by_cases h0 : aE h = 0
  · right
    rw [if_neg (by omega)]
    cases sl with
    | false => exact .inl ⟨h0, rfl, if_pos rfl⟩
    | true =>
      right
      rw [if_neg (by decide)]
      by_cases h1 : nE (wid h) t = 0
      · exact .inr ⟨h0, rfl, h1, if_neg (by omega)⟩
      · exact .inl ⟨h0, rfl, by rw [bne_iff_ne]; omega, if_pos h1⟩
  · exact .inl ⟨by rw [bne_iff_ne]; omega, if_pos h0⟩

set_option maxHeartbeats 4000000 in
theorem crd_any (l h t : List UInt8) (sl : Bool) (hh : h.length ≤ 1000000) (ht : t.length ≤ 1000000) (w : World) (hm : Cl.HasM w)
    (hC : ∀ W, Calls Tryd.prog 60 #[sv l, .int .u8 47] W fun e w' => e = .returned (.tuple #[sv h, sv t, .bool sl]) ∧ Below W.heap.size W w') :
    Calls Tryd.prog 42 #[sv l] w fun e w' => e = .returned (.tuple #[.agg (pf (rdX h sl t).2), .int .i64 ((rdX h sl t).1 : Int)]) ∧ Below w.heap.size w w' := by
  have HM := Lib.hid hm
  have hpos := hm.pos
  have HC := Lib.hid hC
  have HA := Lib.hid (fun W q => aparse_any h hh W q)
  have hal := aL_len h
  have hs16 := sizeA_le (aV h) (aL h)
  have HW := Lib.hid (fun W => widthA_any (aV h) (aL h) hal W)
  have HWh := Lib.hid (fun W => cwhole_any (aV h) (aL h) hal W)
  have HN := Lib.hid (fun W => readN (wid h) (by unfold wid; omega) t ht W)
  have hnv := nV_le (wid h) t
  have hw128 : wid h ≤ 128 := by unfold wid; omega
  have HO := Lib.hid (fun W => cof_any (aV h) (aL h) (nV (wid h) t : Int) hal (by omega) (by omega) W)
  have hwid : (wid h : Int) = 8 * (sizeA (aV h) (aL h) : Int) := by unfold wid; omega
  have hcase := rd_case h sl t
  have hz := (zero_of_info Tryd.zeroPfx).1
  have hne : ¬ pf zP = #[] := by simp [pf, pfxC]
  have zo := pf_one zP
  have zi : (Tryd.prog.info? 45).map (·.size) = some (pf zP).size := Tryd.infoPfx
  have kr : Blk (w.alloc (.cells (pf zP) 45)) w.heap.size 45 (pf zP) := blk_new _ _ _
  have b0 : Below w.heap.size w (w.alloc (.cells (pf zP) 45)) := (Below.refl _ _).alloc (Nat.le_refl _) _
  have x17 := adv_size (aV h) (aL h) hal
  have xo := adv_one (aV h) (aL h)
  have zx := Adr_size (aV h) (aL h) hal
  have y18 := pf_size (rdX h sl t).2 (rdX_len h sl t)
  have zs : (Tryd.prog.info? 45).map (·.size) = some (pf (rdX h sl t).2).size := by rw [y18]; exact Tryd.infoPfx
  have z18 : (pf zP).size = (pf (rdX h sl t).2).size := by rw [y18]; rfl
  have o1 := pf_one (rdX h sl t).2
  clear hm hC
  generalize adv (aV h) (aL h) = X at *
  rw [← hwid] at HW
  generalize sizeA (aV h) (aL h) = m at *
  clear hwid hs16
  generalize wid h = M at *
  have hwr : IntKind.u64.wrap (M : Int) = (M : Int) := IntWalk.u64_in _ (by omega)
  have hwv : IntKind.i64.wrap (nV M t : Int) = (nV M t : Int) := IntWalk.i64_in _ (by omega)
  unfold sv at HC HA HN ⊢
  generalize ByteArray.mk ⟨l⟩ = s at *
  generalize ByteArray.mk ⟨h⟩ = sh at *
  generalize ByteArray.mk ⟨t⟩ = st at *
  rcases hcase with ⟨hE, hR⟩ | ⟨hE, rfl, hR⟩ | ⟨hE, rfl, hN, hR⟩ | ⟨hE, rfl, hN, hR⟩
  · rw [hR]
    clear hR zs z18 o1 y18
    generalize pf zP = Z at *
    generalize aE h = E at *
    go_enter Tryd.func42, Tryd.ntmps42
    go_wp2_with fail
    refine (HC.out _).mono ?_; rintro e w1 ⟨rfl, hb1⟩
    have k1 := kr.on (by exact hb1)
    have b1 := Below.on b0 b0.size (by exact hb1)
    clear hb1 kr b0
    go_wp2_with fail
    refine (HA.out _ (HM.out.on b1 hpos)).mono ?_; rintro e w2 ⟨rfl, hb2⟩
    have k2 := (k1.on (by exact hb2)).alloc (.cells X 24)
    have j2 : Blk (w2.alloc (.cells X 24)) w2.heap.size 24 X := blk_new _ _ _
    have b2 := Below.on b1 b1.size (by exact hb2)
    have b2 := b2.alloc b2.size (.cells X 24)
    clear hb2 k1 b1
    go_wp2_with (first
      | (refine wpList_allocStore (cs := X) rfl rfl 24 ?ho (.tmp 7) (.tmp 19) ?ho2 Tryd.zeroAddr rfl ?hx ?hy ?hn ?h1 ?_
         case ho => with_reducible rfl
         case ho2 => with_reducible rfl
         case hx => rfl
         case hy => rfl
         case hn => exact x17
         case h1 => exact xo)
      | (refine wpList_storeBlk (g := w.heap.size) (t := 45) (cs := Z) ?hw 45 (.tmp 2) (.tmp 23) ?ho ?hx2 ?hy2 Z k2 ?hi ?hs ?h1 ?_
         case ho => with_reducible rfl
         case hw => rfl
         case hx2 => rfl
         case hy2 => rfl
         case hi => exact zi
         case hs => rfl
         case h1 => exact zo
         intro w9 k9 hg9
         have b9 : Below w.heap.size w w9 := (b2).grown hg9 (b2).size (fun j hj => by injection hj with hj; omega))
      | fail)
    refine bodyPost_blk2 rfl _ rfl k9 Tryd.underlying45 rfl zi rfl ⟨rfl, b9⟩
  · rw [hE] at HA
    rw [hR] at y18 zs z18 o1 ⊢
    clear hR hE
    generalize pf (whP (aV h) (aL h)) = Y at *
    generalize pf zP = Z at *
    go_enter Tryd.func42, Tryd.ntmps42
    go_wp2_with fail
    refine (HC.out _).mono ?_; rintro e w1 ⟨rfl, hb1⟩
    have k1 := kr.on (by exact hb1)
    have b1 := Below.on b0 b0.size (by exact hb1)
    clear hb1 kr b0
    go_wp2_with fail
    refine (HA.out _ (HM.out.on b1 hpos)).mono ?_; rintro e w2 ⟨rfl, hb2⟩
    have k2 := (k1.on (by exact hb2)).alloc (.cells X 24)
    have j2 : Blk (w2.alloc (.cells X 24)) w2.heap.size 24 X := blk_new _ _ _
    have b2 := Below.on b1 b1.size (by exact hb2)
    have b2 := b2.alloc b2.size (.cells X 24)
    clear hb2 k1 b1
    go_wp2_with (first
      | (refine wpList_allocStore (cs := X) rfl rfl 24 ?ho (.tmp 7) (.tmp 19) ?ho2 Tryd.zeroAddr rfl ?hx ?hy ?hn ?h1 ?_
         case ho => with_reducible rfl
         case ho2 => with_reducible rfl
         case hx => rfl
         case hy => rfl
         case hn => exact x17
         case h1 => exact xo)
      | (refine wpList_loadBlk (g := w2.heap.size) (t := 24) (cs := X) ?hw 24 (.tmp 7) ?ho ?hx ?hA _ Tryd.underlying24 rfl ?hi ?_
         case hw => rfl
         case ho => with_reducible rfl
         case hx => rfl
         case hA => exact j2
         case hi => exact zx)
      | fail)
    refine (HWh.out _).mono ?_; rintro e w3 ⟨rfl, hb3⟩
    have k3 := k2.on (by exact hb3)
    have b3 := Below.on b2 b2.size (by exact hb3)
    go_wp2_with (first
      | (refine wpList_storeBlk (g := w.heap.size) (t := 45) (cs := Y) ?hw 45 (.tmp 2) (.tmp 28) ?ho ?hx2 ?hy2 Z k3 ?hi ?hs ?h1 ?_
         case ho => with_reducible rfl
         case hw => rfl
         case hx2 => rfl
         case hy2 => rfl
         case hi => exact zs
         case hs => exact z18
         case h1 => exact o1
         intro w9 k9 hg9
         have b9 : Below w.heap.size w w9 := (b3).grown hg9 (b3).size (fun j hj => by injection hj with hj; omega))
      | fail)
    refine bodyPost_blk2 rfl _ rfl k9 Tryd.underlying45 rfl zs rfl ⟨rfl, b9⟩
  · rw [hE] at HA
    rw [hR]
    clear hR hE zs z18 o1 y18
    generalize pf zP = Z at *
    generalize nE M t = E at *
    go_enter Tryd.func42, Tryd.ntmps42
    go_wp2_with fail
    refine (HC.out _).mono ?_; rintro e w1 ⟨rfl, hb1⟩
    have k1 := kr.on (by exact hb1)
    have b1 := Below.on b0 b0.size (by exact hb1)
    clear hb1 kr b0
    go_wp2_with fail
    refine (HA.out _ (HM.out.on b1 hpos)).mono ?_; rintro e w2 ⟨rfl, hb2⟩
    have k2 := (k1.on (by exact hb2)).alloc (.cells X 24)
    have j2 : Blk (w2.alloc (.cells X 24)) w2.heap.size 24 X := blk_new _ _ _
    have b2 := Below.on b1 b1.size (by exact hb2)
    have b2 := b2.alloc b2.size (.cells X 24)
    clear hb2 k1 b1
    go_wp2_with (first
      | (refine wpList_allocStore (cs := X) rfl rfl 24 ?ho (.tmp 7) (.tmp 19) ?ho2 Tryd.zeroAddr rfl ?hx ?hy ?hn ?h1 ?_
         case ho => with_reducible rfl
         case ho2 => with_reducible rfl
         case hx => rfl
         case hy => rfl
         case hn => exact x17
         case h1 => exact xo)
      | (refine wpList_loadBlk (g := w2.heap.size) (t := 24) (cs := X) ?hw 24 (.tmp 7) ?ho ?hx ?hA _ Tryd.underlying24 rfl ?hi ?_
         case hw => rfl
         case ho => with_reducible rfl
         case hx => rfl
         case hA => exact j2
         case hi => exact zx)
      | fail)
    refine (HW.out _).mono ?_; rintro e w3 ⟨rfl, hb3⟩
    have k3 := k2.on (by exact hb3)
    have j3 := j2.on (by exact hb3)
    have b3 := Below.on b2 b2.size (by exact hb3)
    clear hb3 k2 j2 b2
    go_wp2_with fail
    refine (HN.out _).mono ?_; rintro e w4 ⟨rfl, hb4⟩
    have k4 := k3.on (by exact hb4)
    have j4 := j3.on (by exact hb4)
    have b4 := Below.on b3 b3.size (by exact hb4)
    clear hb4 k3 j3 b3
    go_wp2_with (first
      | (refine wpList_storeBlk (g := w.heap.size) (t := 45) (cs := Z) ?hw 45 (.tmp 2) (.tmp 39) ?ho ?hx2 ?hy2 Z k4 ?hi ?hs ?h1 ?_
         case ho => with_reducible rfl
         case hw => rfl
         case hx2 => rfl
         case hy2 => rfl
         case hi => exact zi
         case hs => rfl
         case h1 => exact zo
         intro w9 k9 hg9
         have b9 : Below w.heap.size w w9 := (b4).grown hg9 (b4).size (fun j hj => by injection hj with hj; omega))
      | fail)
    refine bodyPost_blk2 rfl _ rfl k9 Tryd.underlying45 rfl zi rfl ⟨rfl, b9⟩
  · rw [hE] at HA
    rw [hN] at HN
    rw [hR] at y18 zs z18 o1 ⊢
    clear hR hE hN
    generalize pf (ofP (aV h) (aL h) (nV M t : Int)) = Y at *
    generalize pf zP = Z at *
    generalize nV M t = N at *
    generalize ofE (aV h) (aL h) (N : Int) = E at *
    go_enter Tryd.func42, Tryd.ntmps42
    go_wp2_with fail
    refine (HC.out _).mono ?_; rintro e w1 ⟨rfl, hb1⟩
    have k1 := kr.on (by exact hb1)
    have b1 := Below.on b0 b0.size (by exact hb1)
    clear hb1 kr b0
    go_wp2_with fail
    refine (HA.out _ (HM.out.on b1 hpos)).mono ?_; rintro e w2 ⟨rfl, hb2⟩
    have k2 := (k1.on (by exact hb2)).alloc (.cells X 24)
    have j2 : Blk (w2.alloc (.cells X 24)) w2.heap.size 24 X := blk_new _ _ _
    have b2 := Below.on b1 b1.size (by exact hb2)
    have b2 := b2.alloc b2.size (.cells X 24)
    clear hb2 k1 b1
    go_wp2_with (first
      | (refine wpList_allocStore (cs := X) rfl rfl 24 ?ho (.tmp 7) (.tmp 19) ?ho2 Tryd.zeroAddr rfl ?hx ?hy ?hn ?h1 ?_
         case ho => with_reducible rfl
         case ho2 => with_reducible rfl
         case hx => rfl
         case hy => rfl
         case hn => exact x17
         case h1 => exact xo)
      | (refine wpList_loadBlk (g := w2.heap.size) (t := 24) (cs := X) ?hw 24 (.tmp 7) ?ho ?hx ?hA _ Tryd.underlying24 rfl ?hi ?_
         case hw => rfl
         case ho => with_reducible rfl
         case hx => rfl
         case hA => exact j2
         case hi => exact zx)
      | fail)
    refine (HW.out _).mono ?_; rintro e w3 ⟨rfl, hb3⟩
    have k3 := k2.on (by exact hb3)
    have j3 := j2.on (by exact hb3)
    have b3 := Below.on b2 b2.size (by exact hb3)
    clear hb3 k2 j2 b2
    go_wp2_with fail
    refine (HN.out _).mono ?_; rintro e w4 ⟨rfl, hb4⟩
    have k4 := k3.on (by exact hb4)
    have j4 := j3.on (by exact hb4)
    have b4 := Below.on b3 b3.size (by exact hb4)
    clear hb4 k3 j3 b3
    go_wp2_with (first
      | (refine wpList_loadBlk (g := w2.heap.size) (t := 24) (cs := X) ?hw 24 (.tmp 7) ?ho ?hx ?hA _ Tryd.underlying24 rfl ?hi ?_
         case hw => rfl
         case ho => with_reducible rfl
         case hx => rfl
         case hA => exact j4
         case hi => exact zx)
      | fail)
    refine (HO.out _).mono ?_; rintro e w5 ⟨rfl, hb5⟩
    have k5 := k4.on (by exact hb5)
    have b5 := Below.on b4 b4.size (by exact hb5)
    go_wp2_with (first
      | (refine wpList_storeBlk (g := w.heap.size) (t := 45) (cs := Y) ?hw 45 (.tmp 2) (.tmp 45) ?ho ?hx2 ?hy2 Z k5 ?hi ?hs ?h1 ?_
         case ho => with_reducible rfl
         case hw => rfl
         case hx2 => rfl
         case hy2 => rfl
         case hi => exact zs
         case hs => exact z18
         case h1 => exact o1
         intro w9 k9 hg9
         have b9 : Below w.heap.size w w9 := (b5).grown hg9 (b5).size (fun j hj => by injection hj with hj; omega))
      | fail)
    refine bodyPost_blk2 rfl _ rfl k9 Tryd.underlying45 rfl zs rfl ⟨rfl, b9⟩

theorem cparseP_any (l : List UInt8) (hn : l.length ≤ 1000000) (w : World) (hm : Cl.HasM w) :
    Calls Tryd.prog 42 #[sv l] w fun e w' => e = .returned (.tuple #[.agg (pf (cX l).2), .int .i64 ((cX l).1 : Int)]) ∧ Below w.heap.size w w' := by
  unfold cX
  rcases cut_cases 47 l with h | ⟨a, b, rfl, h⟩
  · rw [if_neg h]
    exact crd_any l l [] false hn (by simp) w hm (fun W => same_world (cut_no l 47 W h))
  · rw [if_pos (by simp), (sl_yes a b h).1, (sl_yes a b h).2]
    exact crd_any _ a b true (by simp at hn; omega) (by simp at hn; omega) w hm (fun W => cut_yes a b 47 W h (by omega))

set_option maxHeartbeats 4000000 in
theorem refcrd_any (l h t : List UInt8) (sl : Bool) (hn : l.length ≤ 1000000) (hh : h.length ≤ 1000000) (ht : t.length ≤ 1000000) (w : World)
    (hP : (parts 47 l)[0]? = some h ∧ ((sl = false ∧ (parts 47 l).length = 1) ∨ (sl = true ∧ 1 < (parts 47 l).length ∧ l.drop (h.length + 1) = t ∧ h.length + 1 ≤ l.length))) :
    Calls Tryd.prog 43 #[sv l] w fun e w' => e = .returned (.tuple #[.agg (pf (rdX h sl t).2), .int .i64 ((rdX h sl t).1 : Int)]) ∧ Below w.heap.size w w' := by
  have HP := Lib.hid (fun W => refParts_any l 47 W hn)
  have HX0 := Lib.hid hP.1
  have hcl := hP.2
  have HA := Lib.hid (fun W => refaparse_any h hh W)
  have hal := aL_len h
  have hs16 := sizeA_le (aV h) (aL h)
  have HW := Lib.hid (fun W => refWidthA_any (aV h) (aL h) hal W)
  have HWh := Lib.hid (fun W => refcof_any (aV h) (aL h) (8 * sizeA (aV h) (aL h) : Int) hal (by omega) (by omega) W)
  have HN := Lib.hid (fun W => refReadN (wid h) (by unfold wid; omega) t ht W)
  have hnv := nV_le (wid h) t
  have hw128 : wid h ≤ 128 := by unfold wid; omega
  have HO := Lib.hid (fun W => refcof_any (aV h) (aL h) (nV (wid h) t : Int) hal (by omega) (by omega) W)
  have hwid : (wid h : Int) = 8 * (sizeA (aV h) (aL h) : Int) := by unfold wid; omega
  have hcase := rd_case h sl t
  have hz := (zero_of_info Tryd.zeroPfx).1
  have hne : ¬ pf zP = #[] := by simp [pf, pfxC]
  have zo := pf_one zP
  have zi : (Tryd.prog.info? 45).map (·.size) = some (pf zP).size := Tryd.infoPfx
  have kr : Blk (w.alloc (.cells (pf zP) 45)) w.heap.size 45 (pf zP) := blk_new _ _ _
  have b0 : Below w.heap.size w (w.alloc (.cells (pf zP) 45)) := (Below.refl _ _).alloc (Nat.le_refl _) _
  have x17 := adv_size (aV h) (aL h) hal
  have xo := adv_one (aV h) (aL h)
  have zx := Adr_size (aV h) (aL h) hal
  have y18 := pf_size (rdX h sl t).2 (rdX_len h sl t)
  have zs : (Tryd.prog.info? 45).map (·.size) = some (pf (rdX h sl t).2).size := by rw [y18]; exact Tryd.infoPfx
  have z18 : (pf zP).size = (pf (rdX h sl t).2).size := by rw [y18]; rfl
  have o1 := pf_one (rdX h sl t).2
  have Hok := Lib.hid (fun e => wh_ok (aV h) (aL h) (a_ok h e))
  have hx1 : sl = true → (ByteArray.mk ⟨l⟩).extract (h.length + 1) l.length = ⟨⟨t⟩⟩ := by
    intro e
    rw [text_cut, List.take_length]
    rcases hcl with ⟨e', _⟩ | ⟨_, _, e', _⟩
    · rw [e] at e'; cases e'
    · rw [e']
  have hsz : (ByteArray.mk ⟨l⟩).size = l.length := rfl
  have hszh : (ByteArray.mk ⟨h⟩).size = h.length := rfl
  obtain ⟨sh, hsh⟩ : ∃ sh, ByteArray.mk ⟨h⟩ = sh := ⟨_, rfl⟩
  have HSh := Lib.hid hsh
  clear hP
  generalize hNp : (parts 47 l).length = N at *
  unfold whP at hcase
  rw [← hwid] at HW HWh hcase Hok
  generalize adv (aV h) (aL h) = X at *
  generalize sizeA (aV h) (aL h) = m at *
  clear hwid hs16
  generalize hM : wid h = M at *
  have hwr : IntKind.u64.wrap (M : Int) = (M : Int) := IntWalk.u64_in _ (by omega)
  have hwv : IntKind.i64.wrap (nV M t : Int) = (nV M t : Int) := IntWalk.i64_in _ (by omega)
  unfold sv at HP HA HN ⊢
  rw [hsh] at HA hszh
  clear hsh
  generalize ByteArray.mk ⟨t⟩ = st at *
  generalize hhl : h.length = hl at *
  generalize hlN : l.length = sN at *
  have hw1 : IntKind.i64.wrap ((hl : Int) + 1) = (hl : Int) + 1 := IntWalk.i64_in _ (by omega)
  generalize ByteArray.mk ⟨l⟩ = s at *
  have hN0 : 0 < N := by rcases hcl with ⟨_, e⟩ | ⟨_, e, _⟩ <;> omega
  clear hNp
  rcases hcase with ⟨hE, hR⟩ | ⟨hE, rfl, hR⟩ | ⟨hE, rfl, hN, hR⟩ | ⟨hE, rfl, hN, hR⟩
  · rw [hR]
    clear hR zs z18 o1 y18 hcl hx1
    generalize pf zP = Z at *
    generalize aE h = E at *
    go_enter Tryd.func43, Tryd.ntmps43
    go_wp2_with fail
    refine (HP.out _).mono ?_; rintro e w1 ⟨⟨v, rfl, ho⟩, hb1⟩
    obtain ⟨A0, c0, rfl, _, _, hS⟩ := GOwn.sh ho
    have k1 := kr.on (by exact hb1)
    have b1 := Below.on b0 b0.size (by exact hb1)
    obtain ⟨pb, po, px, rfl, hpb, hcell, hpx⟩ := hS.elem (show 0 < N by omega)
    rw [HX0.out] at hpx
    injection hpx with hpx
    subst hpx
    unfold sv at hcell
    rw [HSh.out, Nat.add_zero] at hcell
    clear hb1 kr b0 ho
    go_wp2_with fail
    refine (HA.out _).mono ?_; rintro e w2 ⟨rfl, hb2⟩
    have k2 := (k1.on (by exact hb2)).alloc (.cells X 24)
    have j2 : Blk (w2.alloc (.cells X 24)) w2.heap.size 24 X := blk_new _ _ _
    have hcell2 : (w2.alloc (.cells X 24)).cell? ⟨pb, po, none⟩ = some (.string sh) := ((Below.refl _ w2).alloc (Nat.le_refl _) _ |>.cell (by have := hb2.size; show pb < _; omega)).trans ((hb2.cell hpb).trans hcell)
    have hpb2 : pb < (w2.alloc (.cells X 24)).heap.size := by have := hb2.size; simp; omega
    have hgx : w.heap.size < w2.heap.size := (k1.on (by exact hb2)).lt
    have b2 := Below.on b1 b1.size (by exact hb2)
    have b2 := b2.alloc b2.size (.cells X 24)
    clear hb2 k1 b1 hcell
    go_wp2_with (first
      | (refine wpList_allocStore (cs := X) rfl rfl 24 ?ho (.tmp 5) (.tmp 16) ?ho2 Tryd.zeroAddr rfl ?hx ?hy ?hn ?h1 ?_
         case ho => with_reducible rfl
         case ho2 => with_reducible rfl
         case hx => rfl
         case hy => rfl
         case hn => exact x17
         case h1 => exact xo)
      | (refine wpList_storeBlk (g := w.heap.size) (t := 45) (cs := Z) ?hw 45 (.tmp 2) (.tmp 20) ?ho ?hx2 ?hy2 Z k2 ?hi ?hs ?h1 ?_
         case ho => with_reducible rfl
         case hw => rfl
         case hx2 => rfl
         case hy2 => rfl
         case hi => exact zi
         case hs => rfl
         case h1 => exact zo
         intro w9 k9 hg9
         have b9 : Below w.heap.size w w9 := (b2).grown hg9 (b2).size (fun j hj => by injection hj with hj; omega))
      | fail)
    refine bodyPost_blk2 rfl _ rfl k9 Tryd.underlying45 rfl zi rfl ⟨rfl, b9⟩
  · rw [hE] at HA
    have hN1 : N = 1 := by rcases hcl with ⟨_, e⟩ | ⟨e, _⟩; exact e; cases e
    subst hN1
    rw [Hok.out hE] at HWh
    rw [hR] at y18 zs z18 o1 ⊢
    clear hR hE hcl hx1 Hok
    generalize pf (ofP (aV h) (aL h) (M : Int)) = Y at *
    generalize pf zP = Z at *
    have kr_lt := kr.lt
    go_enter Tryd.func43, Tryd.ntmps43
    go_wp2_with fail
    refine (HP.out _).mono ?_; rintro e w1 ⟨⟨v, rfl, ho⟩, hb1⟩
    obtain ⟨A0, c0, rfl, _, _, hS⟩ := GOwn.sh ho
    have k1 := kr.on (by exact hb1)
    have b1 := Below.on b0 b0.size (by exact hb1)
    obtain ⟨pb, po, px, rfl, hpb, hcell, hpx⟩ := hS.elem (show 0 < 1 by omega)
    rw [HX0.out] at hpx
    injection hpx with hpx
    subst hpx
    unfold sv at hcell
    rw [HSh.out, Nat.add_zero] at hcell
    clear hb1 kr b0 ho
    go_wp2_with fail
    refine (HA.out _).mono ?_; rintro e w2 ⟨rfl, hb2⟩
    have k2 := (k1.on (by exact hb2)).alloc (.cells X 24)
    have j2 : Blk (w2.alloc (.cells X 24)) w2.heap.size 24 X := blk_new _ _ _
    have hcell2 : (w2.alloc (.cells X 24)).cell? ⟨pb, po, none⟩ = some (.string sh) := ((Below.refl _ w2).alloc (Nat.le_refl _) _ |>.cell (by have := hb2.size; show pb < _; omega)).trans ((hb2.cell hpb).trans hcell)
    have hpb2 : pb < (w2.alloc (.cells X 24)).heap.size := by have := hb2.size; simp; omega
    have hgx : w.heap.size < w2.heap.size := (k1.on (by exact hb2)).lt
    have b2 := Below.on b1 b1.size (by exact hb2)
    have b2 := b2.alloc b2.size (.cells X 24)
    clear hb2 k1 b1 hcell
    go_wp2_with (first
      | (refine wpList_allocStore (cs := X) rfl rfl 24 ?ho (.tmp 5) (.tmp 16) ?ho2 Tryd.zeroAddr rfl ?hx ?hy ?hn ?h1 ?_
         case ho => with_reducible rfl
         case ho2 => with_reducible rfl
         case hx => rfl
         case hy => rfl
         case hn => exact x17
         case h1 => exact xo)
      | fail)
    generalize hgX : w2.heap.size = gX at *
    generalize w2.alloc (.cells X 24) = w3 at *
    have b3 := b2
    have kr_lt := k2.lt
    have j4 : Blk w3.drew gX 24 X := j2
    have k4 : Blk w3.drew w.heap.size 45 Z := k2
    have b4 : Below w.heap.size w w3.drew := b3.drew
    have hlt := kr_lt
    refine wp_region_held_drew (S := fun W => Blk W gX 24 X) (by kernel_rfl) j4 ?_
    intro hS4
    generalize w3.drew = w4 at *
    refine wpAnyH_take (i := 0) (oi := ?o4) (v := .agg X) ?hio4 (by kernel_rfl) (by kernel_rfl) (by kernel_rfl) ?hQo4 ?hyo4 hS4 ?_
    case hio4 => (simp only [List.getElem?_toArray, List.getElem?_cons_succ, List.getElem?_cons_zero]; rfl)
    case hQo4 => exact fun _ _ _ h => h
    case hyo4 => exact yieldsIf_load_mid (by rfl) 24 (.tmp 5) rfl gX 0 rfl X.toList _ (fun W hW => Blk.range0 hW) Tryd.underlying24 rfl (by simpa using zx)
    try simp only [Act.put, List.setIfInBounds_toArray, List.set_cons_zero, List.set_cons_succ]
    refine wpAnyH_take (i := 1) (oi := ?o5) (v := .agg X) ?hio5 (by kernel_rfl) (by kernel_rfl) (by kernel_rfl) ?hQo5 ?hyo5 hS4 ?_
    case hio5 => (simp only [List.getElem?_toArray, List.getElem?_cons_succ, List.getElem?_cons_zero]; rfl)
    case hQo5 => exact fun _ _ _ h => h
    case hyo5 => exact yieldsIf_load_mid (by rfl) 24 (.tmp 5) rfl gX 0 rfl X.toList _ (fun W hW => Blk.range0 hW) Tryd.underlying24 rfl (by simpa using zx)
    try simp only [Act.put, List.setIfInBounds_toArray, List.set_cons_zero, List.set_cons_succ]
    refine wpAnyH_ready (rs := [2]) (by kernel_rfl) (by simp) ?_
    refine AllReadyH.cons (o := ?o10) ?hoo10 (fun K hK => ?ho10) AllReadyH.nil
    case hoo10 => (simp only [List.getElem?_toArray, List.getElem?_cons_succ, List.getElem?_cons_zero]; rfl)
    case ho10 =>
      go_simp
      go_at_call 20
      with_reducible refine (HW.out _).mono ?_
      rintro e w5 ⟨rfl, hb5⟩
      have j5 := j4.on hb5
      have k5 := k4.on hb5
      have b5 := Below.on b4 b4.size hb5
      refine hK.out _ _ j5 (fun hS5 => ?_)
      clear hK K hb5
      try simp only [Act.put, List.setIfInBounds_toArray, List.set_cons_zero, List.set_cons_succ]
      refine wpAnyH_ready (rs := [3]) (by kernel_rfl) (by simp) ?_
      refine AllReadyH.cons (o := ?o9) ?hoo9 (fun K hK => ?ho9) AllReadyH.nil
      case hoo9 => (simp only [List.getElem?_toArray, List.getElem?_cons_succ, List.getElem?_cons_zero]; rfl)
      case ho9 =>
        go_simp
        go_at_call 29
        with_reducible refine (HWh.out _).mono ?_
        rintro e w6 ⟨rfl, hb6⟩
        have j6 := j5.on hb6
        have k6 := k5.on hb6
        have b6 := Below.on b5 b5.size hb6
        refine hK.out _ _ j6 (fun hS6 => ?_)
        clear hK K hb6
        try simp only [Act.put, List.setIfInBounds_toArray, List.set_cons_zero, List.set_cons_succ]
        refine wpAnyH_take (i := 4) (oi := ?o6) (v := .agg Y) ?hio6 (by kernel_rfl) (by kernel_rfl) (by kernel_rfl) ?hQo6 ?hyo6 hS6 ?_
        case hio6 => (simp only [List.getElem?_toArray, List.getElem?_cons_succ, List.getElem?_cons_zero]; rfl)
        case hQo6 => exact fun _ _ _ h => h
        case hyo6 => exact Or.inl ⟨by rfl, fun W hW => by go_simp⟩
        try simp only [Act.put, List.setIfInBounds_toArray, List.set_cons_zero, List.set_cons_succ]
        refine wpAnyH_take (i := 5) (oi := ?o7) (v := .int .i64 0) ?hio7 (by kernel_rfl) (by kernel_rfl) (by kernel_rfl) ?hQo7 ?hyo7 hS6 ?_
        case hio7 => (simp only [List.getElem?_toArray, List.getElem?_cons_succ, List.getElem?_cons_zero]; rfl)
        case hQo7 => exact fun _ _ _ h => h
        case hyo7 => exact Or.inl ⟨by rfl, fun W hW => by go_simp⟩
        try simp only [Act.put, List.setIfInBounds_toArray, List.set_cons_zero, List.set_cons_succ]
        refine wpAnyH_ready (rs := [6]) (by kernel_rfl) (by simp) ?_
        refine AllReadyH.cons (o := ?o8) ?hoo8 (fun K hK => ?ho8) AllReadyH.nil
        case hoo8 => (simp only [List.getElem?_toArray, List.getElem?_cons_succ, List.getElem?_cons_zero]; rfl)
        case ho8 =>
          refine step_storeBlk (g := w.heap.size) (t := 45) (cs := Y) rfl 45 (.tmp 2) (.tmp 29) rfl rfl rfl Z k6 zs z18 o1 ?_
          intro w7 k7 hg7
          have b7 : Below w.heap.size w w7 := b6.grown hg7 b6.size (fun j hj => by injection hj with hj; omega)
          refine hK.out _ _ (j6.grown hg7 (by omega)) (fun hS7 => ?_)
          clear hK K
          try simp only [Act.put, List.setIfInBounds_toArray, List.set_cons_zero, List.set_cons_succ]
          refine wpAnyH_take (i := 7) (oi := ?o3) (v := .int .i64 0) ?hio3 (by kernel_rfl) (by kernel_rfl) (by kernel_rfl) ?hQo3 ?hyo3 hS7 ?_
          case hio3 => (simp only [List.getElem?_toArray, List.getElem?_cons_succ, List.getElem?_cons_zero]; rfl)
          case hQo3 => exact fun _ _ _ h => h
          case hyo3 => exact Or.inl ⟨by rfl, fun W hW => by go_simp⟩
          try simp only [Act.put, List.setIfInBounds_toArray, List.set_cons_zero, List.set_cons_succ]
          refine wpAnyH_done (by kernel_rfl) ?_ _
          clear hS7
          go_wp2
          refine bodyPost_blk2 rfl _ rfl k7 Tryd.underlying45 rfl zs rfl ⟨rfl, b7⟩
  · rw [hE] at HA
    obtain ⟨hN1, _, hle⟩ : 1 < N ∧ l.drop (hl + 1) = t ∧ hl + 1 ≤ sN := by rcases hcl with ⟨e, _⟩ | ⟨_, e⟩; cases e; exact e
    have hNI : ((N : Int) == 1) = false := by rw [beq_eq_false_iff_ne]; omega
    rw [← hx1 rfl] at HN
    rw [hR]
    clear hR hE zs z18 o1 y18 hcl hx1
    have hleI : (hl : Int) + 1 ≤ (sN : Int) := by omega
    have h0I : (0 : Int) ≤ (hl : Int) + 1 := by omega
    have htI : ((hl : Int) + 1).toNat = hl + 1 := by omega
    generalize pf zP = Z at *
    generalize nE M t = E at *
    generalize nV M t = N2 at *
    go_enter Tryd.func43, Tryd.ntmps43
    go_wp2_with fail
    refine (HP.out _).mono ?_; rintro e w1 ⟨⟨v, rfl, ho⟩, hb1⟩
    obtain ⟨A0, c0, rfl, _, _, hS⟩ := GOwn.sh ho
    have k1 := kr.on (by exact hb1)
    have b1 := Below.on b0 b0.size (by exact hb1)
    obtain ⟨pb, po, px, rfl, hpb, hcell, hpx⟩ := hS.elem (show 0 < N by omega)
    rw [HX0.out] at hpx
    injection hpx with hpx
    subst hpx
    unfold sv at hcell
    rw [HSh.out, Nat.add_zero] at hcell
    clear hb1 kr b0 ho
    go_wp2_with fail
    refine (HA.out _).mono ?_; rintro e w2 ⟨rfl, hb2⟩
    have k2 := (k1.on (by exact hb2)).alloc (.cells X 24)
    have j2 : Blk (w2.alloc (.cells X 24)) w2.heap.size 24 X := blk_new _ _ _
    have hcell2 : (w2.alloc (.cells X 24)).cell? ⟨pb, po, none⟩ = some (.string sh) := ((Below.refl _ w2).alloc (Nat.le_refl _) _ |>.cell (by have := hb2.size; show pb < _; omega)).trans ((hb2.cell hpb).trans hcell)
    have hpb2 : pb < (w2.alloc (.cells X 24)).heap.size := by have := hb2.size; simp; omega
    have hgx : w.heap.size < w2.heap.size := (k1.on (by exact hb2)).lt
    have b2 := Below.on b1 b1.size (by exact hb2)
    have b2 := b2.alloc b2.size (.cells X 24)
    clear hb2 k1 b1 hcell
    go_wp2_with (first
      | (refine wpList_allocStore (cs := X) rfl rfl 24 ?ho (.tmp 5) (.tmp 16) ?ho2 Tryd.zeroAddr rfl ?hx ?hy ?hn ?h1 ?_
         case ho => with_reducible rfl
         case ho2 => with_reducible rfl
         case hx => rfl
         case hy => rfl
         case hn => exact x17
         case h1 => exact xo)
      | fail)
    generalize hgX : w2.heap.size = gX at *
    generalize w2.alloc (.cells X 24) = w3 at *
    have b3 := b2
    have j4 : Blk w3.drew gX 24 X := j2
    have k4 : Blk w3.drew w.heap.size 45 Z := k2
    have b4 : Below w.heap.size w w3.drew := b3.drew
    have q4 : w3.drew.cell? ⟨pb, po, none⟩ = some (.string sh) := hcell2
    have hq4 : pb < w3.drew.heap.size := hpb2
    refine wp_region_held_drew (S := fun W => Blk W gX 24 X ∧ W.cell? ⟨pb, po, none⟩ = some (.string sh)) (by kernel_rfl) ⟨j4, q4⟩ ?_
    intro hS4
    generalize w3.drew = w4 at *
    refine wpAnyH_take (i := 0) (oi := ?o11) (v := .string s) ?hio11 (by kernel_rfl) (by kernel_rfl) (by kernel_rfl) ?hQo11 ?hyo11 hS4 ?_
    case hio11 => (simp only [List.getElem?_toArray, List.getElem?_cons_succ, List.getElem?_cons_zero]; rfl)
    case hQo11 => exact fun _ _ _ h => h
    case hyo11 => exact Or.inl ⟨by rfl, fun W hW => by go_simp⟩
    try simp only [Act.put, List.setIfInBounds_toArray, List.set_cons_zero, List.set_cons_succ]
    refine wpAnyH_take (i := 1) (oi := ?o12) (v := .slice (some ⟨pb, po, none⟩) N c0) ?hio12 (by kernel_rfl) (by kernel_rfl) (by kernel_rfl) ?hQo12 ?hyo12 hS4 ?_
    case hio12 => (simp only [List.getElem?_toArray, List.getElem?_cons_succ, List.getElem?_cons_zero]; rfl)
    case hQo12 => exact fun _ _ _ h => h
    case hyo12 => exact Or.inl ⟨by rfl, fun W hW => by go_simp⟩
    try simp only [Act.put, List.setIfInBounds_toArray, List.set_cons_zero, List.set_cons_succ]
    refine wpAnyH_take (i := 2) (oi := ?o13) (v := .pointer (some ⟨pb, po, none⟩)) ?hio13 (by kernel_rfl) (by kernel_rfl) (by kernel_rfl) ?hQo13 ?hyo13 hS4 ?_
    case hio13 => (simp only [List.getElem?_toArray, List.getElem?_cons_succ, List.getElem?_cons_zero]; rfl)
    case hQo13 => exact fun _ _ _ h => h
    case hyo13 =>
      refine Or.inl ⟨by rfl, ?_⟩
      intro W hW
      go_simp
    try simp only [Act.put, List.setIfInBounds_toArray, List.set_cons_zero, List.set_cons_succ]
    refine wpAnyH_take (i := 3) (oi := ?o14) (v := .string sh) ?hio14 (by kernel_rfl) (by kernel_rfl) (by kernel_rfl) ?hQo14 ?hyo14 hS4 ?_
    case hio14 => (simp only [List.getElem?_toArray, List.getElem?_cons_succ, List.getElem?_cons_zero]; rfl)
    case hQo14 => exact fun _ _ _ h => h
    case hyo14 =>
      refine Or.inl ⟨by rfl, ?_⟩
      intro W hW
      have hc := hW.2
      go_simp
    try simp only [Act.put, List.setIfInBounds_toArray, List.set_cons_zero, List.set_cons_succ]
    refine wpAnyH_take (i := 4) (oi := ?o15) (v := .int .i64 (hl : Int)) ?hio15 (by kernel_rfl) (by kernel_rfl) (by kernel_rfl) ?hQo15 ?hyo15 hS4 ?_
    case hio15 => (simp only [List.getElem?_toArray, List.getElem?_cons_succ, List.getElem?_cons_zero]; rfl)
    case hQo15 => exact fun _ _ _ h => h
    case hyo15 => exact Or.inl ⟨by rfl, fun W hW => by go_simp⟩
    try simp only [Act.put, List.setIfInBounds_toArray, List.set_cons_zero, List.set_cons_succ]
    refine wpAnyH_take (i := 5) (oi := ?o16) (v := .int .i64 ((hl : Int) + 1)) ?hio16 (by kernel_rfl) (by kernel_rfl) (by kernel_rfl) ?hQo16 ?hyo16 hS4 ?_
    case hio16 => (simp only [List.getElem?_toArray, List.getElem?_cons_succ, List.getElem?_cons_zero]; rfl)
    case hQo16 => exact fun _ _ _ h => h
    case hyo16 => exact Or.inl ⟨by rfl, fun W hW => by go_simp⟩
    try simp only [Act.put, List.setIfInBounds_toArray, List.set_cons_zero, List.set_cons_succ]
    refine wpAnyH_take (i := 6) (oi := ?o17) (v := .string (s.extract (hl + 1) sN)) ?hio17 (by kernel_rfl) (by kernel_rfl) (by kernel_rfl) ?hQo17 ?hyo17 hS4 ?_
    case hio17 => (simp only [List.getElem?_toArray, List.getElem?_cons_succ, List.getElem?_cons_zero]; rfl)
    case hQo17 => exact fun _ _ _ h => h
    case hyo17 => exact Or.inl ⟨by rfl, fun W hW => by go_simp⟩
    try simp only [Act.put, List.setIfInBounds_toArray, List.set_cons_zero, List.set_cons_succ]
    refine wpAnyH_take (i := 7) (oi := ?o18) (v := .agg X) ?hio18 (by kernel_rfl) (by kernel_rfl) (by kernel_rfl) ?hQo18 ?hyo18 hS4 ?_
    case hio18 => (simp only [List.getElem?_toArray, List.getElem?_cons_succ, List.getElem?_cons_zero]; rfl)
    case hQo18 => exact fun _ _ _ h => h
    case hyo18 => exact yieldsIf_load_mid (by rfl) 24 (.tmp 5) rfl gX 0 rfl X.toList _ (fun W hW => Blk.range0 hW.1) Tryd.underlying24 rfl (by simpa using zx)
    try simp only [Act.put, List.setIfInBounds_toArray, List.set_cons_zero, List.set_cons_succ]
    refine wpAnyH_ready (rs := [8]) (by kernel_rfl) (by simp) ?_
    refine AllReadyH.cons (o := ?o26) ?hoo26 (fun K hK => ?ho26) AllReadyH.nil
    case hoo26 => (simp only [List.getElem?_toArray, List.getElem?_cons_succ, List.getElem?_cons_zero]; rfl)
    case ho26 =>
      go_simp
      go_at_call 20
      with_reducible refine (HW.out _).mono ?_
      rintro e w5 ⟨rfl, hb5⟩
      have j5 := j4.on hb5
      have k5 := k4.on hb5
      have q5 := (hb5.cell hq4).trans q4
      have hq5 := Nat.lt_of_lt_of_le hq4 hb5.size
      have b5 := Below.on b4 b4.size hb5
      refine hK.out _ _ ⟨j5, q5⟩ (fun hS5 => ?_)
      clear hK K hb5
      try simp only [Act.put, List.setIfInBounds_toArray, List.set_cons_zero, List.set_cons_succ]
      refine wpAnyH_take (i := 9) (oi := ?o19) (v := .int .u64 (M : Int)) ?hio19 (by kernel_rfl) (by kernel_rfl) (by kernel_rfl) ?hQo19 ?hyo19 hS5 ?_
      case hio19 => (simp only [List.getElem?_toArray, List.getElem?_cons_succ, List.getElem?_cons_zero]; rfl)
      case hQo19 => exact fun _ _ _ h => h
      case hyo19 => exact Or.inl ⟨by rfl, fun W hW => by go_simp⟩
      try simp only [Act.put, List.setIfInBounds_toArray, List.set_cons_zero, List.set_cons_succ]
      refine wpAnyH_ready (rs := [10]) (by kernel_rfl) (by simp) ?_
      refine AllReadyH.cons (o := ?o25) ?hoo25 (fun K hK => ?ho25) AllReadyH.nil
      case hoo25 => (simp only [List.getElem?_toArray, List.getElem?_cons_succ, List.getElem?_cons_zero]; rfl)
      case ho25 =>
        go_simp
        go_at_call 73
        with_reducible refine (HN.out _).mono ?_
        rintro e w6 ⟨rfl, hb6⟩
        have j6 : Blk w6 gX 24 X := hb6 ▸ j5
        have k6 : Blk w6 w.heap.size 45 Z := hb6 ▸ k5
        have q6 : w6.cell? ⟨pb, po, none⟩ = some (.string sh) := hb6 ▸ q5
        have b6 : Below w.heap.size w w6 := hb6 ▸ b5
        refine hK.out _ _ ⟨j6, q6⟩ (fun hS6 => ?_)
        clear hK K hb6
        try simp only [Act.put, List.setIfInBounds_toArray, List.set_cons_zero, List.set_cons_succ]
        refine wpAnyH_take (i := 11) (oi := ?o20) (v := .tuple #[.int .u64 (N2 : Int), .int .i64 (E : Int)]) ?hio20 (by kernel_rfl) (by kernel_rfl) (by kernel_rfl) ?hQo20 ?hyo20 hS6 ?_
        case hio20 => (simp only [List.getElem?_toArray, List.getElem?_cons_succ, List.getElem?_cons_zero]; rfl)
        case hQo20 => exact fun _ _ _ h => h
        case hyo20 => exact Or.inl ⟨by rfl, fun W hW => by go_simp⟩
        try simp only [Act.put, List.setIfInBounds_toArray, List.set_cons_zero, List.set_cons_succ]
        refine wpAnyH_take (i := 12) (oi := ?o21) (v := .int .u64 (N2 : Int)) ?hio21 (by kernel_rfl) (by kernel_rfl) (by kernel_rfl) ?hQo21 ?hyo21 hS6 ?_
        case hio21 => (simp only [List.getElem?_toArray, List.getElem?_cons_succ, List.getElem?_cons_zero]; rfl)
        case hQo21 => exact fun _ _ _ h => h
        case hyo21 => exact Or.inl ⟨by rfl, fun W hW => by go_simp⟩
        try simp only [Act.put, List.setIfInBounds_toArray, List.set_cons_zero, List.set_cons_succ]
        refine wpAnyH_take (i := 13) (oi := ?o22) (v := .int .i64 (E : Int)) ?hio22 (by kernel_rfl) (by kernel_rfl) (by kernel_rfl) ?hQo22 ?hyo22 hS6 ?_
        case hio22 => (simp only [List.getElem?_toArray, List.getElem?_cons_succ, List.getElem?_cons_zero]; rfl)
        case hQo22 => exact fun _ _ _ h => h
        case hyo22 => exact Or.inl ⟨by rfl, fun W hW => by go_simp⟩
        try simp only [Act.put, List.setIfInBounds_toArray, List.set_cons_zero, List.set_cons_succ]
        refine wpAnyH_take (i := 14) (oi := ?o23) (v := .int .u64 (N2 : Int)) ?hio23 (by kernel_rfl) (by kernel_rfl) (by kernel_rfl) ?hQo23 ?hyo23 hS6 ?_
        case hio23 => (simp only [List.getElem?_toArray, List.getElem?_cons_succ, List.getElem?_cons_zero]; rfl)
        case hQo23 => exact fun _ _ _ h => h
        case hyo23 => exact Or.inl ⟨by rfl, fun W hW => by go_simp⟩
        try simp only [Act.put, List.setIfInBounds_toArray, List.set_cons_zero, List.set_cons_succ]
        refine wpAnyH_take (i := 15) (oi := ?o24) (v := .int .i64 (E : Int)) ?hio24 (by kernel_rfl) (by kernel_rfl) (by kernel_rfl) ?hQo24 ?hyo24 hS6 ?_
        case hio24 => (simp only [List.getElem?_toArray, List.getElem?_cons_succ, List.getElem?_cons_zero]; rfl)
        case hQo24 => exact fun _ _ _ h => h
        case hyo24 => exact Or.inl ⟨by rfl, fun W hW => by go_simp⟩
        try simp only [Act.put, List.setIfInBounds_toArray, List.set_cons_zero, List.set_cons_succ]
        refine wpAnyH_done (by kernel_rfl) ?_ _
        clear hS6
        go_wp2_with (first
          | (refine wpList_storeBlk (g := w.heap.size) (t := 45) (cs := Z) ?hw 45 (.tmp 2) (.tmp 47) ?ho ?hx2 ?hy2 Z k6 ?hi ?hs ?h1 ?_
             case ho => with_reducible rfl
             case hw => rfl
             case hx2 => rfl
             case hy2 => rfl
             case hi => exact zi
             case hs => rfl
             case h1 => exact zo
             intro w9 k9 hg9
             have b9 : Below w.heap.size w w9 := (b6).grown hg9 (b6).size (fun j hj => by injection hj with hj; omega))
          | fail)
        refine bodyPost_blk2 rfl _ rfl k9 Tryd.underlying45 rfl zi rfl ⟨rfl, b9⟩
  · rw [hE] at HA
    obtain ⟨hN1, _, hle⟩ : 1 < N ∧ l.drop (hl + 1) = t ∧ hl + 1 ≤ sN := by rcases hcl with ⟨e, _⟩ | ⟨_, e⟩; cases e; exact e
    have hNI : ((N : Int) == 1) = false := by rw [beq_eq_false_iff_ne]; omega
    rw [← hx1 rfl] at HN
    rw [hN] at HN
    rw [hR] at y18 zs z18 o1 ⊢
    clear hR hE hN hcl hx1
    have hleI : (hl : Int) + 1 ≤ (sN : Int) := by omega
    have h0I : (0 : Int) ≤ (hl : Int) + 1 := by omega
    have htI : ((hl : Int) + 1).toNat = hl + 1 := by omega
    generalize pf (ofP (aV h) (aL h) (nV M t : Int)) = Y at *
    generalize pf zP = Z at *
    generalize nV M t = N2 at *
    generalize ofE (aV h) (aL h) (N2 : Int) = E at *
    go_enter Tryd.func43, Tryd.ntmps43
    go_wp2_with fail
    refine (HP.out _).mono ?_; rintro e w1 ⟨⟨v, rfl, ho⟩, hb1⟩
    obtain ⟨A0, c0, rfl, _, _, hS⟩ := GOwn.sh ho
    have k1 := kr.on (by exact hb1)
    have b1 := Below.on b0 b0.size (by exact hb1)
    obtain ⟨pb, po, px, rfl, hpb, hcell, hpx⟩ := hS.elem (show 0 < N by omega)
    rw [HX0.out] at hpx
    injection hpx with hpx
    subst hpx
    unfold sv at hcell
    rw [HSh.out, Nat.add_zero] at hcell
    clear hb1 kr b0 ho
    go_wp2_with fail
    refine (HA.out _).mono ?_; rintro e w2 ⟨rfl, hb2⟩
    have k2 := (k1.on (by exact hb2)).alloc (.cells X 24)
    have j2 : Blk (w2.alloc (.cells X 24)) w2.heap.size 24 X := blk_new _ _ _
    have hcell2 : (w2.alloc (.cells X 24)).cell? ⟨pb, po, none⟩ = some (.string sh) := ((Below.refl _ w2).alloc (Nat.le_refl _) _ |>.cell (by have := hb2.size; show pb < _; omega)).trans ((hb2.cell hpb).trans hcell)
    have hpb2 : pb < (w2.alloc (.cells X 24)).heap.size := by have := hb2.size; simp; omega
    have hgx : w.heap.size < w2.heap.size := (k1.on (by exact hb2)).lt
    have b2 := Below.on b1 b1.size (by exact hb2)
    have b2 := b2.alloc b2.size (.cells X 24)
    clear hb2 k1 b1 hcell
    go_wp2_with (first
      | (refine wpList_allocStore (cs := X) rfl rfl 24 ?ho (.tmp 5) (.tmp 16) ?ho2 Tryd.zeroAddr rfl ?hx ?hy ?hn ?h1 ?_
         case ho => with_reducible rfl
         case ho2 => with_reducible rfl
         case hx => rfl
         case hy => rfl
         case hn => exact x17
         case h1 => exact xo)
      | fail)
    generalize hgX : w2.heap.size = gX at *
    generalize w2.alloc (.cells X 24) = w3 at *
    have b3 := b2
    have j4 : Blk w3.drew gX 24 X := j2
    have k4 : Blk w3.drew w.heap.size 45 Z := k2
    have b4 : Below w.heap.size w w3.drew := b3.drew
    have q4 : w3.drew.cell? ⟨pb, po, none⟩ = some (.string sh) := hcell2
    have hq4 : pb < w3.drew.heap.size := hpb2
    refine wp_region_held_drew (S := fun W => Blk W gX 24 X ∧ W.cell? ⟨pb, po, none⟩ = some (.string sh)) (by kernel_rfl) ⟨j4, q4⟩ ?_
    intro hS4
    generalize w3.drew = w4 at *
    refine wpAnyH_take (i := 0) (oi := ?o27) (v := .string s) ?hio27 (by kernel_rfl) (by kernel_rfl) (by kernel_rfl) ?hQo27 ?hyo27 hS4 ?_
    case hio27 => (simp only [List.getElem?_toArray, List.getElem?_cons_succ, List.getElem?_cons_zero]; rfl)
    case hQo27 => exact fun _ _ _ h => h
    case hyo27 => exact Or.inl ⟨by rfl, fun W hW => by go_simp⟩
    try simp only [Act.put, List.setIfInBounds_toArray, List.set_cons_zero, List.set_cons_succ]
    refine wpAnyH_take (i := 1) (oi := ?o28) (v := .slice (some ⟨pb, po, none⟩) N c0) ?hio28 (by kernel_rfl) (by kernel_rfl) (by kernel_rfl) ?hQo28 ?hyo28 hS4 ?_
    case hio28 => (simp only [List.getElem?_toArray, List.getElem?_cons_succ, List.getElem?_cons_zero]; rfl)
    case hQo28 => exact fun _ _ _ h => h
    case hyo28 => exact Or.inl ⟨by rfl, fun W hW => by go_simp⟩
    try simp only [Act.put, List.setIfInBounds_toArray, List.set_cons_zero, List.set_cons_succ]
    refine wpAnyH_take (i := 2) (oi := ?o29) (v := .pointer (some ⟨pb, po, none⟩)) ?hio29 (by kernel_rfl) (by kernel_rfl) (by kernel_rfl) ?hQo29 ?hyo29 hS4 ?_
    case hio29 => (simp only [List.getElem?_toArray, List.getElem?_cons_succ, List.getElem?_cons_zero]; rfl)
    case hQo29 => exact fun _ _ _ h => h
    case hyo29 =>
      refine Or.inl ⟨by rfl, ?_⟩
      intro W hW
      go_simp
    try simp only [Act.put, List.setIfInBounds_toArray, List.set_cons_zero, List.set_cons_succ]
    refine wpAnyH_take (i := 3) (oi := ?o30) (v := .string sh) ?hio30 (by kernel_rfl) (by kernel_rfl) (by kernel_rfl) ?hQo30 ?hyo30 hS4 ?_
    case hio30 => (simp only [List.getElem?_toArray, List.getElem?_cons_succ, List.getElem?_cons_zero]; rfl)
    case hQo30 => exact fun _ _ _ h => h
    case hyo30 =>
      refine Or.inl ⟨by rfl, ?_⟩
      intro W hW
      have hc := hW.2
      go_simp
    try simp only [Act.put, List.setIfInBounds_toArray, List.set_cons_zero, List.set_cons_succ]
    refine wpAnyH_take (i := 4) (oi := ?o31) (v := .int .i64 (hl : Int)) ?hio31 (by kernel_rfl) (by kernel_rfl) (by kernel_rfl) ?hQo31 ?hyo31 hS4 ?_
    case hio31 => (simp only [List.getElem?_toArray, List.getElem?_cons_succ, List.getElem?_cons_zero]; rfl)
    case hQo31 => exact fun _ _ _ h => h
    case hyo31 => exact Or.inl ⟨by rfl, fun W hW => by go_simp⟩
    try simp only [Act.put, List.setIfInBounds_toArray, List.set_cons_zero, List.set_cons_succ]
    refine wpAnyH_take (i := 5) (oi := ?o32) (v := .int .i64 ((hl : Int) + 1)) ?hio32 (by kernel_rfl) (by kernel_rfl) (by kernel_rfl) ?hQo32 ?hyo32 hS4 ?_
    case hio32 => (simp only [List.getElem?_toArray, List.getElem?_cons_succ, List.getElem?_cons_zero]; rfl)
    case hQo32 => exact fun _ _ _ h => h
    case hyo32 => exact Or.inl ⟨by rfl, fun W hW => by go_simp⟩
    try simp only [Act.put, List.setIfInBounds_toArray, List.set_cons_zero, List.set_cons_succ]
    refine wpAnyH_take (i := 6) (oi := ?o33) (v := .string (s.extract (hl + 1) sN)) ?hio33 (by kernel_rfl) (by kernel_rfl) (by kernel_rfl) ?hQo33 ?hyo33 hS4 ?_
    case hio33 => (simp only [List.getElem?_toArray, List.getElem?_cons_succ, List.getElem?_cons_zero]; rfl)
    case hQo33 => exact fun _ _ _ h => h
    case hyo33 => exact Or.inl ⟨by rfl, fun W hW => by go_simp⟩
    try simp only [Act.put, List.setIfInBounds_toArray, List.set_cons_zero, List.set_cons_succ]
    refine wpAnyH_take (i := 7) (oi := ?o34) (v := .agg X) ?hio34 (by kernel_rfl) (by kernel_rfl) (by kernel_rfl) ?hQo34 ?hyo34 hS4 ?_
    case hio34 => (simp only [List.getElem?_toArray, List.getElem?_cons_succ, List.getElem?_cons_zero]; rfl)
    case hQo34 => exact fun _ _ _ h => h
    case hyo34 => exact yieldsIf_load_mid (by rfl) 24 (.tmp 5) rfl gX 0 rfl X.toList _ (fun W hW => Blk.range0 hW.1) Tryd.underlying24 rfl (by simpa using zx)
    try simp only [Act.put, List.setIfInBounds_toArray, List.set_cons_zero, List.set_cons_succ]
    refine wpAnyH_ready (rs := [8]) (by kernel_rfl) (by simp) ?_
    refine AllReadyH.cons (o := ?o42) ?hoo42 (fun K hK => ?ho42) AllReadyH.nil
    case hoo42 => (simp only [List.getElem?_toArray, List.getElem?_cons_succ, List.getElem?_cons_zero]; rfl)
    case ho42 =>
      go_simp
      go_at_call 20
      with_reducible refine (HW.out _).mono ?_
      rintro e w5 ⟨rfl, hb5⟩
      have j5 := j4.on hb5
      have k5 := k4.on hb5
      have q5 := (hb5.cell hq4).trans q4
      have hq5 := Nat.lt_of_lt_of_le hq4 hb5.size
      have b5 := Below.on b4 b4.size hb5
      refine hK.out _ _ ⟨j5, q5⟩ (fun hS5 => ?_)
      clear hK K hb5
      try simp only [Act.put, List.setIfInBounds_toArray, List.set_cons_zero, List.set_cons_succ]
      refine wpAnyH_take (i := 9) (oi := ?o35) (v := .int .u64 (M : Int)) ?hio35 (by kernel_rfl) (by kernel_rfl) (by kernel_rfl) ?hQo35 ?hyo35 hS5 ?_
      case hio35 => (simp only [List.getElem?_toArray, List.getElem?_cons_succ, List.getElem?_cons_zero]; rfl)
      case hQo35 => exact fun _ _ _ h => h
      case hyo35 => exact Or.inl ⟨by rfl, fun W hW => by go_simp⟩
      try simp only [Act.put, List.setIfInBounds_toArray, List.set_cons_zero, List.set_cons_succ]
      refine wpAnyH_ready (rs := [10]) (by kernel_rfl) (by simp) ?_
      refine AllReadyH.cons (o := ?o41) ?hoo41 (fun K hK => ?ho41) AllReadyH.nil
      case hoo41 => (simp only [List.getElem?_toArray, List.getElem?_cons_succ, List.getElem?_cons_zero]; rfl)
      case ho41 =>
        go_simp
        go_at_call 73
        with_reducible refine (HN.out _).mono ?_
        rintro e w6 ⟨rfl, hb6⟩
        have j6 : Blk w6 gX 24 X := hb6 ▸ j5
        have k6 : Blk w6 w.heap.size 45 Z := hb6 ▸ k5
        have q6 : w6.cell? ⟨pb, po, none⟩ = some (.string sh) := hb6 ▸ q5
        have b6 : Below w.heap.size w w6 := hb6 ▸ b5
        refine hK.out _ _ ⟨j6, q6⟩ (fun hS6 => ?_)
        clear hK K hb6
        try simp only [Act.put, List.setIfInBounds_toArray, List.set_cons_zero, List.set_cons_succ]
        refine wpAnyH_take (i := 11) (oi := ?o36) (v := .tuple #[.int .u64 (N2 : Int), .int .i64 (0)]) ?hio36 (by kernel_rfl) (by kernel_rfl) (by kernel_rfl) ?hQo36 ?hyo36 hS6 ?_
        case hio36 => (simp only [List.getElem?_toArray, List.getElem?_cons_succ, List.getElem?_cons_zero]; rfl)
        case hQo36 => exact fun _ _ _ h => h
        case hyo36 => exact Or.inl ⟨by rfl, fun W hW => by go_simp⟩
        try simp only [Act.put, List.setIfInBounds_toArray, List.set_cons_zero, List.set_cons_succ]
        refine wpAnyH_take (i := 12) (oi := ?o37) (v := .int .u64 (N2 : Int)) ?hio37 (by kernel_rfl) (by kernel_rfl) (by kernel_rfl) ?hQo37 ?hyo37 hS6 ?_
        case hio37 => (simp only [List.getElem?_toArray, List.getElem?_cons_succ, List.getElem?_cons_zero]; rfl)
        case hQo37 => exact fun _ _ _ h => h
        case hyo37 => exact Or.inl ⟨by rfl, fun W hW => by go_simp⟩
        try simp only [Act.put, List.setIfInBounds_toArray, List.set_cons_zero, List.set_cons_succ]
        refine wpAnyH_take (i := 13) (oi := ?o38) (v := .int .i64 (0)) ?hio38 (by kernel_rfl) (by kernel_rfl) (by kernel_rfl) ?hQo38 ?hyo38 hS6 ?_
        case hio38 => (simp only [List.getElem?_toArray, List.getElem?_cons_succ, List.getElem?_cons_zero]; rfl)
        case hQo38 => exact fun _ _ _ h => h
        case hyo38 => exact Or.inl ⟨by rfl, fun W hW => by go_simp⟩
        try simp only [Act.put, List.setIfInBounds_toArray, List.set_cons_zero, List.set_cons_succ]
        refine wpAnyH_take (i := 14) (oi := ?o39) (v := .int .u64 (N2 : Int)) ?hio39 (by kernel_rfl) (by kernel_rfl) (by kernel_rfl) ?hQo39 ?hyo39 hS6 ?_
        case hio39 => (simp only [List.getElem?_toArray, List.getElem?_cons_succ, List.getElem?_cons_zero]; rfl)
        case hQo39 => exact fun _ _ _ h => h
        case hyo39 => exact Or.inl ⟨by rfl, fun W hW => by go_simp⟩
        try simp only [Act.put, List.setIfInBounds_toArray, List.set_cons_zero, List.set_cons_succ]
        refine wpAnyH_take (i := 15) (oi := ?o40) (v := .int .i64 (0)) ?hio40 (by kernel_rfl) (by kernel_rfl) (by kernel_rfl) ?hQo40 ?hyo40 hS6 ?_
        case hio40 => (simp only [List.getElem?_toArray, List.getElem?_cons_succ, List.getElem?_cons_zero]; rfl)
        case hQo40 => exact fun _ _ _ h => h
        case hyo40 => exact Or.inl ⟨by rfl, fun W hW => by go_simp⟩
        try simp only [Act.put, List.setIfInBounds_toArray, List.set_cons_zero, List.set_cons_succ]
        refine wpAnyH_done (by kernel_rfl) ?_ _
        clear hS6
        go_wp2_with (first
          | (refine wpList_loadBlk (g := gX) (t := 24) (cs := X) ?hw 24 (.tmp 5) ?ho ?hx ?hA _ Tryd.underlying24 rfl ?hi ?_
             case hw => rfl
             case ho => with_reducible rfl
             case hx => rfl
             case hA => exact j6
             case hi => exact zx)
          | fail)
        refine (HO.out _).mono ?_; rintro e w8 ⟨rfl, hb8⟩
        have k8 := k6.on (by exact hb8)
        have b8 := Below.on b6 b6.size (by exact hb8)
        go_wp2_with (first
          | (refine wpList_storeBlk (g := w.heap.size) (t := 45) (cs := Y) ?hw 45 (.tmp 2) (.tmp 53) ?ho ?hx2 ?hy2 Z k8 ?hi ?hs ?h1 ?_
             case ho => with_reducible rfl
             case hw => rfl
             case hx2 => rfl
             case hy2 => rfl
             case hi => exact zs
             case hs => exact z18
             case h1 => exact o1
             intro w9 k9 hg9
             have b9 : Below w.heap.size w w9 := (b8).grown hg9 (b8).size (fun j hj => by injection hj with hj; omega))
          | fail)
        refine bodyPost_blk2 rfl _ rfl k9 Tryd.underlying45 rfl zs rfl ⟨rfl, b9⟩

theorem refcparseP_any (l : List UInt8) (hn : l.length ≤ 1000000) (w : World) :
    Calls Tryd.prog 43 #[sv l] w fun e w' => e = .returned (.tuple #[.agg (pf (cX l).2), .int .i64 ((cX l).1 : Int)]) ∧ Below w.heap.size w w' := by
  unfold cX
  rcases cut_cases 47 l with h | ⟨a, b, rfl, h⟩
  · rw [if_neg h]
    exact refcrd_any l l [] false hn hn (by simp) w ⟨by rw [parts_no 47 l h]; rfl, .inl ⟨rfl, by rw [parts_no 47 l h]; rfl⟩⟩
  · rw [if_pos (by simp), (sl_yes a b h).1, (sl_yes a b h).2]
    obtain ⟨x, r, e⟩ := parts_ne 47 b
    exact refcrd_any _ a b true hn (by simp at hn; omega) (by simp at hn; omega) w ⟨by rw [parts_yes 47 a b h]; rfl, .inr ⟨rfl, by rw [parts_yes 47 a b h, e]; simp, by rw [show a ++ 47 :: b = (a ++ [47]) ++ b by simp, show a.length + 1 = (a ++ [47]).length by simp, List.drop_left], by simp⟩⟩
end Go.Proofs.YtccidoigjdbepaaDoor
