
/- Layer 12. Contracts: Parse of hostport and crawlwayref12. -/
import Derived.Test.YtccidoigjdbepaaDoorHxB
namespace Go.Proofs.YtccidoigjdbepaaDoor
open Go.RowKit Dec Lin
set_option maxRecDepth 100000
set_option linter.unusedVariables false
set_option linter.unusedSimpArgs false

/-- What the parts of a text come to. -/
noncomputable def rdH (h t : List UInt8) (ok : Bool) : Nat × Pfx :=
  if ok = false then (5, zP) else if aE h ≠ 0 then (aE h, zP) else if nE 65535 t ≠ 0 then (nE 65535 t, zP) else if nV 65535 t = 0 then (6, zP) else (0, ⟨aV h, aL h, (nV 65535 t : Int)⟩)
noncomputable def hX (l : List UInt8) : Nat × Pfx := rdH (spX l).1 (spX l).2.1 (spX l).2.2
theorem rdH_case (h t : List UInt8) :
    (((aE h : Int) != 0) = true ∧ rdH h t true = (aE h, zP)) ∨
    (aE h = 0 ∧ ((nE 65535 t : Int) != 0) = true ∧ rdH h t true = (nE 65535 t, zP)) ∨
    (aE h = 0 ∧ nE 65535 t = 0 ∧ nV 65535 t = 0 ∧ rdH h t true = (6, zP)) ∨
    (aE h = 0 ∧ nE 65535 t = 0 ∧ ((nV 65535 t : Int) == 0) = false ∧ rdH h t true = (0, ⟨aV h, aL h, (nV 65535 t : Int)⟩)) := by
  unfold rdH
  rw [if_neg (by decide)]
  by_cases h0 : aE h = 0
  · right
    rw [if_neg (by omega)]
    by_cases h1 : nE 65535 t = 0
    · right
      rw [if_neg (by omega)]
      by_cases h2 : nV 65535 t = 0
      · exact .inl ⟨h0, h1, h2, if_pos h2⟩
      · exact .inr ⟨h0, h1, by rw [beq_eq_false_iff_ne]; omega, if_neg h2⟩
    · exact .inl ⟨h0, by rw [bne_iff_ne]; omega, if_pos h1⟩
  · exact .inl ⟨by rw [bne_iff_ne]; omega, if_pos h0⟩
theorem rdH_no (h t : List UInt8) : rdH h t false = (5, zP) := if_pos rfl

set_option maxHeartbeats 4000000 in
theorem hrd_any (l h t : List UInt8) (ok : Bool) (hh : h.length ≤ 1000000) (ht : t.length ≤ 1000000) (w : World) (hm : Cl.HasM w)
    (hC : ∀ W, Cl.HasM W → Calls Tryd.prog 74 #[sv l] W fun e w' => e = .returned (.tuple #[sv h, sv t, .bool ok]) ∧ Below W.heap.size W w') :
    Calls Tryd.prog 50 #[sv l] w fun e w' => e = .returned (.tuple #[.agg (pf (rdH h t ok).2), .int .i64 ((rdH h t ok).1 : Int)]) ∧ Below w.heap.size w w' := by
  have HM := Lib.hid hm
  have hpos := hm.pos
  have HC := Lib.hid hC
  have HA := Lib.hid (fun W q => aparse_any h hh W q)
  have HN := Lib.hid (fun W => readN 65535 (by omega) t ht W)
  have hz := (zero_of_info Tryd.zeroEnd).1
  have hne : ¬ pf zP = #[] := by simp [pf, pfxC]
  have zo := pf_one zP
  have zi : (Tryd.prog.info? 60).map (·.size) = some (pf zP).size := Tryd.infoEnd
  have kr : Blk (w.alloc (.cells (pf zP) 60)) w.heap.size 60 (pf zP) := blk_new _ _ _
  have b0 : Below w.heap.size w (w.alloc (.cells (pf zP) 60)) := (Below.refl _ _).alloc (Nat.le_refl _) _
  have hal := aL_len h
  have x17 := adv_size (aV h) (aL h) hal
  have xo := adv_one (aV h) (aL h)
  have zx := Adr_size (aV h) (aL h) hal
  have hnv := nV_le 65535 t
  have y18 := pf_size ⟨aV h, aL h, (nV 65535 t : Int)⟩ hal
  have zs : (Tryd.prog.info? 60).map (·.size) = some (pf ⟨aV h, aL h, (nV 65535 t : Int)⟩).size := by rw [y18]; exact Tryd.infoEnd
  have z18 : (pf zP).size = (pf ⟨aV h, aL h, (nV 65535 t : Int)⟩).size := by rw [y18]; rfl
  have o1 := pf_one ⟨aV h, aL h, (nV 65535 t : Int)⟩
  obtain ⟨b0', b1', b2', b3', b4', b5', b6', b7', b8', b9', b10', b11', b12', b13', b14', b15', e16⟩ := list16 _ hal
  have HX := Lib.hid (show adv (aV h) [b0', b1', b2', b3', b4', b5', b6', b7', b8', b9', b10', b11', b12', b13', b14', b15'] = adv (aV h) (aL h) by rw [e16])
  have HY := Lib.hid (show pf ⟨aV h, [b0', b1', b2', b3', b4', b5', b6', b7', b8', b9', b10', b11', b12', b13', b14', b15'], (nV 65535 t : Int)⟩ = pf ⟨aV h, aL h, (nV 65535 t : Int)⟩ by rw [e16])
  clear e16
  have hcase := rdH_case h t
  have hwv : IntKind.i64.wrap (nV 65535 t : Int) = (nV 65535 t : Int) := IntWalk.i64_in _ (by omega)
  clear hm hC
  unfold sv at HC HA HN ⊢
  generalize ByteArray.mk ⟨l⟩ = s at *
  generalize ByteArray.mk ⟨h⟩ = sh at *
  generalize ByteArray.mk ⟨t⟩ = st at *
  cases ok with
  | false =>
    rw [rdH_no]
    clear hcase zs z18 o1 y18 HY HX HA HN
    generalize pf zP = Z at *
    go_enter Tryd.func50, Tryd.ntmps50
    go_wp2_with fail
    refine (HC.out _ (HM.out.on (by exact b0) hpos)).mono ?_; rintro e w1 ⟨rfl, hb1⟩
    have k1 := kr.on (by exact hb1)
    have b1 := Below.on b0 b0.size (by exact hb1)
    clear hb1 kr b0
    go_wp2_with (first
      | (refine wpList_storeBlk (g := w.heap.size) (t := 60) (cs := Z) ?hw 60 (.tmp 2) (.tmp 18) ?ho ?hx2 ?hy2 Z k1 ?hi ?hs ?h1 ?_
         case ho => with_reducible rfl
         case hw => rfl
         case hx2 => rfl
         case hy2 => rfl
         case hi => exact zi
         case hs => rfl
         case h1 => exact zo
         intro w9 k9 hg9
         have b9 : Below w.heap.size w w9 := (b1).grown hg9 (b1).size (fun j hj => by injection hj with hj; omega))
      | fail)
    refine bodyPost_blk2 rfl _ rfl k9 Tryd.underlying60 rfl zi rfl ⟨rfl, b9⟩
  | true =>
    rcases hcase with ⟨hE, hR⟩ | ⟨hE, hN, hR⟩ | ⟨hE, hN, hV, hR⟩ | ⟨hE, hN, hV, hR⟩
    · rw [hR]
      clear hR zs z18 o1 y18 HY HX hwv hnv
      generalize adv (aV h) (aL h) = X at *
      generalize pf zP = Z at *
      generalize aE h = E at *
      go_enter Tryd.func50, Tryd.ntmps50
      go_wp2_with fail
      refine (HC.out _ (HM.out.on (by exact b0) hpos)).mono ?_; rintro e w1 ⟨rfl, hb1⟩
      have k1 := kr.on (by exact hb1)
      have b1 := Below.on b0 b0.size (by exact hb1)
      clear hb1 kr b0
      go_wp2_with fail
      refine (HA.out _ (HM.out.on b1 hpos)).mono ?_; rintro e w7 ⟨rfl, hb7⟩
      have k7 := (k1.on (by exact hb7)).alloc (.cells X 24)
      have j7 : Blk (w7.alloc (.cells X 24)) w7.heap.size 24 X := blk_new _ _ _
      have b7 := Below.on b1 b1.size (by exact hb7)
      have b7 := b7.alloc b7.size (.cells X 24)
      clear hb7 k1 b1
      go_wp2_with (first
        | (refine wpList_allocStore (cs := X) rfl rfl 24 ?ho (.tmp 7) (.tmp 22) ?ho2 Tryd.zeroAddr rfl ?hx ?hy ?hn ?h1 ?_
           case ho => with_reducible rfl
           case ho2 => with_reducible rfl
           case hx => rfl
           case hy => rfl
           case hn => exact x17
           case h1 => exact xo)
        | (refine wpList_storeBlk (g := w.heap.size) (t := 60) (cs := Z) ?hw 60 (.tmp 2) (.tmp 26) ?ho ?hx2 ?hy2 Z k7 ?hi ?hs ?h1 ?_
           case ho => with_reducible rfl
           case hw => rfl
           case hx2 => rfl
           case hy2 => rfl
           case hi => exact zi
           case hs => rfl
           case h1 => exact zo
           intro w9 k9 hg9
           have b9 : Below w.heap.size w w9 := (b7).grown hg9 (b7).size (fun j hj => by injection hj with hj; omega))
        | fail)
      refine bodyPost_blk2 rfl _ rfl k9 Tryd.underlying60 rfl zi rfl ⟨rfl, b9⟩
    · rw [hR]
      rw [hE] at HA
      clear hR zs z18 o1 y18 HY HX hE
      generalize adv (aV h) (aL h) = X at *
      generalize pf zP = Z at *
      generalize nE 65535 t = E at *
      generalize nV 65535 t = N at *
      go_enter Tryd.func50, Tryd.ntmps50
      go_wp2_with fail
      refine (HC.out _ (HM.out.on (by exact b0) hpos)).mono ?_; rintro e w1 ⟨rfl, hb1⟩
      have k1 := kr.on (by exact hb1)
      have b1 := Below.on b0 b0.size (by exact hb1)
      clear hb1 kr b0
      go_wp2_with fail
      refine (HA.out _ (HM.out.on b1 hpos)).mono ?_; rintro e w7 ⟨rfl, hb7⟩
      have k7 := (k1.on (by exact hb7)).alloc (.cells X 24)
      have j7 : Blk (w7.alloc (.cells X 24)) w7.heap.size 24 X := blk_new _ _ _
      have b7 := Below.on b1 b1.size (by exact hb7)
      have b7 := b7.alloc b7.size (.cells X 24)
      clear hb7 k1 b1
      go_wp2_with (first
        | (refine wpList_allocStore (cs := X) rfl rfl 24 ?ho (.tmp 7) (.tmp 22) ?ho2 Tryd.zeroAddr rfl ?hx ?hy ?hn ?h1 ?_
           case ho => with_reducible rfl
           case ho2 => with_reducible rfl
           case hx => rfl
           case hy => rfl
           case hn => exact x17
           case h1 => exact xo)
        | fail)
      refine (HN.out _).mono ?_; rintro e w8 ⟨rfl, hb8⟩
      have k8 := k7.on (by exact hb8)
      have j8 := j7.on (by exact hb8)
      have b8 := Below.on b7 b7.size (by exact hb8)
      clear hb8 k7 j7 b7
      go_wp2_with (first
        | (refine wpList_storeBlk (g := w.heap.size) (t := 60) (cs := Z) ?hw 60 (.tmp 2) (.tmp 35) ?ho ?hx2 ?hy2 Z k8 ?hi ?hs ?h1 ?_
           case ho => with_reducible rfl
           case hw => rfl
           case hx2 => rfl
           case hy2 => rfl
           case hi => exact zi
           case hs => rfl
           case h1 => exact zo
           intro w9 k9 hg9
           have b9 : Below w.heap.size w w9 := (b8).grown hg9 (b8).size (fun j hj => by injection hj with hj; omega))
        | fail)
      refine bodyPost_blk2 rfl _ rfl k9 Tryd.underlying60 rfl zi rfl ⟨rfl, b9⟩
    · rw [hR]
      rw [hE] at HA
      rw [hN, hV] at HN
      clear hR zs z18 o1 y18 HY HX hE hN
      generalize adv (aV h) (aL h) = X at *
      generalize pf zP = Z at *
      go_enter Tryd.func50, Tryd.ntmps50
      go_wp2_with fail
      refine (HC.out _ (HM.out.on (by exact b0) hpos)).mono ?_; rintro e w1 ⟨rfl, hb1⟩
      have k1 := kr.on (by exact hb1)
      have b1 := Below.on b0 b0.size (by exact hb1)
      clear hb1 kr b0
      go_wp2_with fail
      refine (HA.out _ (HM.out.on b1 hpos)).mono ?_; rintro e w7 ⟨rfl, hb7⟩
      have k7 := (k1.on (by exact hb7)).alloc (.cells X 24)
      have j7 : Blk (w7.alloc (.cells X 24)) w7.heap.size 24 X := blk_new _ _ _
      have b7 := Below.on b1 b1.size (by exact hb7)
      have b7 := b7.alloc b7.size (.cells X 24)
      clear hb7 k1 b1
      go_wp2_with (first
        | (refine wpList_allocStore (cs := X) rfl rfl 24 ?ho (.tmp 7) (.tmp 22) ?ho2 Tryd.zeroAddr rfl ?hx ?hy ?hn ?h1 ?_
           case ho => with_reducible rfl
           case ho2 => with_reducible rfl
           case hx => rfl
           case hy => rfl
           case hn => exact x17
           case h1 => exact xo)
        | fail)
      refine (HN.out _).mono ?_; rintro e w8 ⟨rfl, hb8⟩
      have k8 := k7.on (by exact hb8)
      have j8 := j7.on (by exact hb8)
      have b8 := Below.on b7 b7.size (by exact hb8)
      clear hb8 k7 j7 b7
      go_wp2_with (first
        | (refine wpList_storeBlk (g := w.heap.size) (t := 60) (cs := Z) ?hw 60 (.tmp 2) (.tmp 39) ?ho ?hx2 ?hy2 Z k8 ?hi ?hs ?h1 ?_
           case ho => with_reducible rfl
           case hw => rfl
           case hx2 => rfl
           case hy2 => rfl
           case hi => exact zi
           case hs => rfl
           case h1 => exact zo
           intro w9 k9 hg9
           have b9 : Below w.heap.size w w9 := (b8).grown hg9 (b8).size (fun j hj => by injection hj with hj; omega))
        | fail)
      refine bodyPost_blk2 rfl _ rfl k9 Tryd.underlying60 rfl zi rfl ⟨rfl, b9⟩
    · rw [hR]
      rw [hE] at HA
      rw [hN] at HN
      clear hR hE hN
      generalize pf ⟨aV h, aL h, (nV 65535 t : Int)⟩ = Y at *
      generalize adv (aV h) (aL h) = X at *
      generalize pf zP = Z at *
      generalize nV 65535 t = N at *
      generalize aV h = V at *
      go_enter Tryd.func50, Tryd.ntmps50
      go_wp2_with fail
      refine (HC.out _ (HM.out.on (by exact b0) hpos)).mono ?_; rintro e w1 ⟨rfl, hb1⟩
      have k1 := kr.on (by exact hb1)
      have b1 := Below.on b0 b0.size (by exact hb1)
      clear hb1 kr b0
      go_wp2_with fail
      refine (HA.out _ (HM.out.on b1 hpos)).mono ?_; rintro e w7 ⟨rfl, hb7⟩
      have k7 := (k1.on (by exact hb7)).alloc (.cells X 24)
      have j7 : Blk (w7.alloc (.cells X 24)) w7.heap.size 24 X := blk_new _ _ _
      have b7 := Below.on b1 b1.size (by exact hb7)
      have b7 := b7.alloc b7.size (.cells X 24)
      clear hb7 k1 b1
      go_wp2_with (first
        | (refine wpList_allocStore (cs := X) rfl rfl 24 ?ho (.tmp 7) (.tmp 22) ?ho2 Tryd.zeroAddr rfl ?hx ?hy ?hn ?h1 ?_
           case ho => with_reducible rfl
           case ho2 => with_reducible rfl
           case hx => rfl
           case hy => rfl
           case hn => exact x17
           case h1 => exact xo)
        | fail)
      refine (HN.out _).mono ?_; rintro e w8 ⟨rfl, hb8⟩
      have k8 := k7.on (by exact hb8)
      have j8 := j7.on (by exact hb8)
      have b8 := Below.on b7 b7.size (by exact hb8)
      clear hb8 k7 j7 b7
      go_wp2_with (first
        | (refine wpList_loadBlk (g := w7.heap.size) (t := 24) (cs := X) ?hw 24 (.tmp 7) ?ho ?hx ?hA _ Tryd.underlying24 rfl ?hi ?_
           case hw => rfl
           case ho => with_reducible rfl
           case hx => rfl
           case hA => exact j8
           case hi => exact zx)
        | (refine wpList_build rfl 60 ?fs ?ho (.agg Y) ?hr ?_
           case ho => with_reducible rfl
           case hr =>
             intro W
             have e1 := HX.out
             have e2 := HY.out
             rw [← e1, ← e2]
             change _ = _
             kernel_rfl)
        | (refine wpList_storeBlk (g := w.heap.size) (t := 60) (cs := Y) ?hw 60 (.tmp 2) (.tmp 43) ?ho ?hx2 ?hy2 Z k8 ?hi ?hs ?h1 ?_
           case ho => with_reducible rfl
           case hw => rfl
           case hx2 => rfl
           case hy2 => rfl
           case hi => exact zs
           case hs => exact z18
           case h1 => exact o1
           intro w9 k9 hg9
           have b9 : Below w.heap.size w w9 := (b8).grown hg9 (b8).size (fun j hj => by injection hj with hj; omega))
        | fail)
      refine bodyPost_blk2 rfl _ rfl k9 Tryd.underlying60 rfl zs rfl ⟨rfl, b9⟩
theorem hparse_any (l : List UInt8) (hn : l.length ≤ 1000000) (w : World) (hm : Cl.HasM w) :
    Calls Tryd.prog 50 #[sv l] w fun e w' => e = .returned (.tuple #[.agg (pf (hX l).2), .int .i64 ((hX l).1 : Int)]) ∧ Below w.heap.size w w' := by
  obtain ⟨h, t, hh, ht, hx, hC⟩ := part_any l hn
  have := hrd_any l h t (spX l).2.2 hh ht w hm hC
  have e : rdH h t (spX l).2.2 = hX l := by
    unfold hX
    cases hb : (spX l).2.2 with
    | false => rw [rdH_no, rdH_no]
    | true => rw [(hx hb).1, (hx hb).2]
  rw [e] at this
  exact this

set_option maxHeartbeats 4000000 in
theorem refh6_any (r h t : List UInt8) (K : Bool) (hr : r.length ≤ 1000000) (hk : kR r = (h, t, K)) (hh : h.length ≤ 1000000) (ht : t.length ≤ 1000000) (w : World) :
    Calls Tryd.prog 51 #[sv (91 :: r)] w fun e w' => e = .returned (.tuple #[.agg (pf (rdH h t (K && decide ((58 : UInt8) ∈ h))).2), .int .i64 ((rdH h t (K && decide ((58 : UInt8) ∈ h))).1 : Int)]) ∧ Below w.heap.size w w' := by
  have hsz : (ByteArray.mk ⟨91 :: r⟩).size = r.length + 1 := rfl
  have hx1 : (ByteArray.mk ⟨91 :: r⟩).extract 1 (r.length + 1) = ⟨⟨r⟩⟩ := by
    rw [text_cut, List.take_of_length_le (by simp)]
    rfl
  have Hat := byte_at (ByteArray.mk ⟨91 :: r⟩) 0 91 rfl
  have hc0 := fun W => refhcut_any r W hr
  have h1 : (1 : Int) ≤ ((r.length + 1 : Nat) : Int) := by omega
  have h1' : (0 : Int) < ((r.length + 1 : Nat) : Int) := by omega
  rw [hk] at hc0
  have HP := Lib.hid (fun W => Cl.refParts58 h W hh)
  have HA := Lib.hid (fun W => refaparse_any h hh W)
  have HN := Lib.hid (fun W => same_world (refReadN 65535 (by omega) t ht W))
  have hpt := parts_two h
  have hz := (zero_of_info Tryd.zeroEnd).1
  have hne : ¬ pf zP = #[] := by simp [pf, pfxC]
  have zo := pf_one zP
  have zi : (Tryd.prog.info? 60).map (·.size) = some (pf zP).size := Tryd.infoEnd
  have kr : Blk (w.alloc (.cells (pf zP) 60)) w.heap.size 60 (pf zP) := blk_new _ _ _
  have b0 : Below w.heap.size w (w.alloc (.cells (pf zP) 60)) := (Below.refl _ _).alloc (Nat.le_refl _) _
  have hal := aL_len h
  have x17 := adv_size (aV h) (aL h) hal
  have xo := adv_one (aV h) (aL h)
  have zx := Adr_size (aV h) (aL h) hal
  have hnv := nV_le 65535 t
  have y18 := pf_size ⟨aV h, aL h, (nV 65535 t : Int)⟩ hal
  have zs : (Tryd.prog.info? 60).map (·.size) = some (pf ⟨aV h, aL h, (nV 65535 t : Int)⟩).size := by rw [y18]; exact Tryd.infoEnd
  have z18 : (pf zP).size = (pf ⟨aV h, aL h, (nV 65535 t : Int)⟩).size := by rw [y18]; rfl
  have o1 := pf_one ⟨aV h, aL h, (nV 65535 t : Int)⟩
  obtain ⟨b0', b1', b2', b3', b4', b5', b6', b7', b8', b9', b10', b11', b12', b13', b14', b15', e16⟩ := list16 _ hal
  have HX := Lib.hid (show adv (aV h) [b0', b1', b2', b3', b4', b5', b6', b7', b8', b9', b10', b11', b12', b13', b14', b15'] = adv (aV h) (aL h) by rw [e16])
  have HY := Lib.hid (show pf ⟨aV h, [b0', b1', b2', b3', b4', b5', b6', b7', b8', b9', b10', b11', b12', b13', b14', b15'], (nV 65535 t : Int)⟩ = pf ⟨aV h, aL h, (nV 65535 t : Int)⟩ by rw [e16])
  clear e16
  have hcase := rdH_case h t
  have hwv : IntKind.i64.wrap (nV 65535 t : Int) = (nV 65535 t : Int) := IntWalk.i64_in _ (by omega)
  unfold sv at hc0 HP HA HN ⊢
  rw [← hx1] at hc0
  have HC := Lib.hid hc0
  clear hc0 hx1
  generalize ByteArray.mk ⟨91 :: r⟩ = s at *
  generalize ByteArray.mk ⟨h⟩ = sh at *
  generalize ByteArray.mk ⟨t⟩ = st at *
  generalize r.length + 1 = M at *
  generalize (parts 58 h).length = PN at *
  cases K with
  | false =>
    rw [Bool.false_and, rdH_no]
    clear hcase zs z18 o1 y18 HY HX HA HN HP hpt
    generalize pf zP = Z at *
    go_enter Tryd.func51, Tryd.ntmps51
    go_wp2_with fail
    refine (HC.out _).mono ?_; rintro e w1 ⟨rfl, hb1⟩
    have k1 := kr.on (by exact hb1)
    have b1 := Below.on b0 b0.size (by exact hb1)
    clear hb1 kr b0
    go_wp2_with (first
      | (refine wpList_storeBlk (g := w.heap.size) (t := 60) (cs := Z) ?hw 60 (.tmp 2) (.tmp 55) ?ho ?hx2 ?hy2 Z k1 ?hi ?hs ?h1 ?_
         case ho => with_reducible rfl
         case hw => rfl
         case hx2 => rfl
         case hy2 => rfl
         case hi => exact zi
         case hs => rfl
         case h1 => exact zo
         intro w9 k9 hg9
         have b9 : Below w.heap.size w w9 := (b1).grown hg9 (b1).size (fun j hj => by injection hj with hj; omega))
      | fail)
    refine bodyPost_blk2 rfl _ rfl k9 Tryd.underlying60 rfl zi rfl ⟨rfl, b9⟩
  | true =>
    rw [Bool.true_and]
    rcases hpt with ⟨h58, hPN⟩ | ⟨h58, hPN⟩
    · rw [decide_eq_true h58]
      have hPI : (1 : Int) < (PN : Int) := by omega
      have dPI : decide ((1 : Int) < (PN : Int)) = true := decide_eq_true hPI
      rcases hcase with ⟨hE, hR⟩ | ⟨hE, hN, hR⟩ | ⟨hE, hN, hV, hR⟩ | ⟨hE, hN, hV, hR⟩
      · rw [hR]
        clear hR zs z18 o1 y18 HY HX hwv hnv
        generalize adv (aV h) (aL h) = X at *
        generalize pf zP = Z at *
        generalize aE h = E at *
        go_enter Tryd.func51, Tryd.ntmps51
        go_wp2_with fail
        refine (HC.out _).mono ?_; rintro e w1 ⟨rfl, hb1⟩
        have k1 := kr.on (by exact hb1)
        have b1 := Below.on b0 b0.size (by exact hb1)
        clear hb1 kr b0
        go_wp2_with fail
        refine (HP.out _).mono ?_; rintro e w2 ⟨⟨v, rfl, ho⟩, hb2⟩
        obtain ⟨A0, c0, rfl, _, _, _⟩ := GOwn.sh ho
        have k2 := k1.on (by exact hb2)
        have b2 := Below.on b1 b1.size (by exact hb2)
        clear hb2 k1 b1 ho
        go_wp2_with fail
        refine (HA.out _).mono ?_; rintro e w7 ⟨rfl, hb7⟩
        have k7 := (k2.on (by exact hb7)).alloc (.cells X 24)
        have j7 : Blk (w7.alloc (.cells X 24)) w7.heap.size 24 X := blk_new _ _ _
        have b7 := Below.on b2 b2.size (by exact hb7)
        have b7 := b7.alloc b7.size (.cells X 24)
        clear hb7 k2 b2
        go_wp2_with (first
          | (refine wpList_allocStore (cs := X) rfl rfl 24 ?ho (.tmp 9) (.tmp 59) ?ho2 Tryd.zeroAddr rfl ?hx ?hy ?hn ?h1 ?_
             case ho => with_reducible rfl
             case ho2 => with_reducible rfl
             case hx => rfl
             case hy => rfl
             case hn => exact x17
             case h1 => exact xo)
          | (refine wpList_storeBlk (g := w.heap.size) (t := 60) (cs := Z) ?hw 60 (.tmp 2) (.tmp 63) ?ho ?hx2 ?hy2 Z k7 ?hi ?hs ?h1 ?_
             case ho => with_reducible rfl
             case hw => rfl
             case hx2 => rfl
             case hy2 => rfl
             case hi => exact zi
             case hs => rfl
             case h1 => exact zo
             intro w9 k9 hg9
             have b9 : Below w.heap.size w w9 := (b7).grown hg9 (b7).size (fun j hj => by injection hj with hj; omega))
          | fail)
        refine bodyPost_blk2 rfl _ rfl k9 Tryd.underlying60 rfl zi rfl ⟨rfl, b9⟩
      · rw [hR]
        rw [hE] at HA
        clear hR zs z18 o1 y18 HY HX hE
        generalize adv (aV h) (aL h) = X at *
        generalize pf zP = Z at *
        generalize nE 65535 t = E at *
        generalize nV 65535 t = N at *
        go_enter Tryd.func51, Tryd.ntmps51
        go_wp2_with fail
        refine (HC.out _).mono ?_; rintro e w1 ⟨rfl, hb1⟩
        have k1 := kr.on (by exact hb1)
        have b1 := Below.on b0 b0.size (by exact hb1)
        clear hb1 kr b0
        go_wp2_with fail
        refine (HP.out _).mono ?_; rintro e w2 ⟨⟨v, rfl, ho⟩, hb2⟩
        obtain ⟨A0, c0, rfl, _, _, _⟩ := GOwn.sh ho
        have k2 := k1.on (by exact hb2)
        have b2 := Below.on b1 b1.size (by exact hb2)
        clear hb2 k1 b1 ho
        go_wp2_with fail
        refine (HA.out _).mono ?_; rintro e w7 ⟨rfl, hb7⟩
        have k7 := (k2.on (by exact hb7)).alloc (.cells X 24)
        have j7 : Blk (w7.alloc (.cells X 24)) w7.heap.size 24 X := blk_new _ _ _
        have b7 := Below.on b2 b2.size (by exact hb7)
        have b7 := b7.alloc b7.size (.cells X 24)
        clear hb7 k2 b2
        go_wp2_with (first
          | (refine wpList_allocStore (cs := X) rfl rfl 24 ?ho (.tmp 9) (.tmp 59) ?ho2 Tryd.zeroAddr rfl ?hx ?hy ?hn ?h1 ?_
             case ho => with_reducible rfl
             case ho2 => with_reducible rfl
             case hx => rfl
             case hy => rfl
             case hn => exact x17
             case h1 => exact xo)
          | fail)
        refine (HN.out _).mono ?_; rintro e w8 ⟨rfl, hb8⟩
        have k8 := k7.on (by exact hb8)
        have j8 := j7.on (by exact hb8)
        have b8 := Below.on b7 b7.size (by exact hb8)
        clear hb8 k7 j7 b7
        go_wp2_with (first
          | (refine wpList_storeBlk (g := w.heap.size) (t := 60) (cs := Z) ?hw 60 (.tmp 2) (.tmp 72) ?ho ?hx2 ?hy2 Z k8 ?hi ?hs ?h1 ?_
             case ho => with_reducible rfl
             case hw => rfl
             case hx2 => rfl
             case hy2 => rfl
             case hi => exact zi
             case hs => rfl
             case h1 => exact zo
             intro w9 k9 hg9
             have b9 : Below w.heap.size w w9 := (b8).grown hg9 (b8).size (fun j hj => by injection hj with hj; omega))
          | fail)
        refine bodyPost_blk2 rfl _ rfl k9 Tryd.underlying60 rfl zi rfl ⟨rfl, b9⟩
      · rw [hR]
        rw [hE] at HA
        rw [hN, hV] at HN
        clear hR zs z18 o1 y18 HY HX hE hN
        generalize adv (aV h) (aL h) = X at *
        generalize pf zP = Z at *
        go_enter Tryd.func51, Tryd.ntmps51
        go_wp2_with fail
        refine (HC.out _).mono ?_; rintro e w1 ⟨rfl, hb1⟩
        have k1 := kr.on (by exact hb1)
        have b1 := Below.on b0 b0.size (by exact hb1)
        clear hb1 kr b0
        go_wp2_with fail
        refine (HP.out _).mono ?_; rintro e w2 ⟨⟨v, rfl, ho⟩, hb2⟩
        obtain ⟨A0, c0, rfl, _, _, _⟩ := GOwn.sh ho
        have k2 := k1.on (by exact hb2)
        have b2 := Below.on b1 b1.size (by exact hb2)
        clear hb2 k1 b1 ho
        go_wp2_with fail
        refine (HA.out _).mono ?_; rintro e w7 ⟨rfl, hb7⟩
        have k7 := (k2.on (by exact hb7)).alloc (.cells X 24)
        have j7 : Blk (w7.alloc (.cells X 24)) w7.heap.size 24 X := blk_new _ _ _
        have b7 := Below.on b2 b2.size (by exact hb7)
        have b7 := b7.alloc b7.size (.cells X 24)
        clear hb7 k2 b2
        go_wp2_with (first
          | (refine wpList_allocStore (cs := X) rfl rfl 24 ?ho (.tmp 9) (.tmp 59) ?ho2 Tryd.zeroAddr rfl ?hx ?hy ?hn ?h1 ?_
             case ho => with_reducible rfl
             case ho2 => with_reducible rfl
             case hx => rfl
             case hy => rfl
             case hn => exact x17
             case h1 => exact xo)
          | fail)
        refine (HN.out _).mono ?_; rintro e w8 ⟨rfl, hb8⟩
        have k8 := k7.on (by exact hb8)
        have j8 := j7.on (by exact hb8)
        have b8 := Below.on b7 b7.size (by exact hb8)
        clear hb8 k7 j7 b7
        go_wp2_with (first
          | (refine wpList_storeBlk (g := w.heap.size) (t := 60) (cs := Z) ?hw 60 (.tmp 2) (.tmp 76) ?ho ?hx2 ?hy2 Z k8 ?hi ?hs ?h1 ?_
             case ho => with_reducible rfl
             case hw => rfl
             case hx2 => rfl
             case hy2 => rfl
             case hi => exact zi
             case hs => rfl
             case h1 => exact zo
             intro w9 k9 hg9
             have b9 : Below w.heap.size w w9 := (b8).grown hg9 (b8).size (fun j hj => by injection hj with hj; omega))
          | fail)
        refine bodyPost_blk2 rfl _ rfl k9 Tryd.underlying60 rfl zi rfl ⟨rfl, b9⟩
      · rw [hR]
        rw [hE] at HA
        rw [hN] at HN
        clear hR hE hN
        generalize pf ⟨aV h, aL h, (nV 65535 t : Int)⟩ = Y at *
        generalize adv (aV h) (aL h) = X at *
        generalize pf zP = Z at *
        generalize nV 65535 t = N at *
        generalize aV h = V at *
        go_enter Tryd.func51, Tryd.ntmps51
        go_wp2_with fail
        refine (HC.out _).mono ?_; rintro e w1 ⟨rfl, hb1⟩
        have k1 := kr.on (by exact hb1)
        have b1 := Below.on b0 b0.size (by exact hb1)
        clear hb1 kr b0
        go_wp2_with fail
        refine (HP.out _).mono ?_; rintro e w2 ⟨⟨v, rfl, ho⟩, hb2⟩
        obtain ⟨A0, c0, rfl, _, _, _⟩ := GOwn.sh ho
        have k2 := k1.on (by exact hb2)
        have b2 := Below.on b1 b1.size (by exact hb2)
        clear hb2 k1 b1 ho
        go_wp2_with fail
        refine (HA.out _).mono ?_; rintro e w7 ⟨rfl, hb7⟩
        have k7 := (k2.on (by exact hb7)).alloc (.cells X 24)
        have j7 : Blk (w7.alloc (.cells X 24)) w7.heap.size 24 X := blk_new _ _ _
        have b7 := Below.on b2 b2.size (by exact hb7)
        have b7 := b7.alloc b7.size (.cells X 24)
        clear hb7 k2 b2
        go_wp2_with (first
          | (refine wpList_allocStore (cs := X) rfl rfl 24 ?ho (.tmp 9) (.tmp 59) ?ho2 Tryd.zeroAddr rfl ?hx ?hy ?hn ?h1 ?_
             case ho => with_reducible rfl
             case ho2 => with_reducible rfl
             case hx => rfl
             case hy => rfl
             case hn => exact x17
             case h1 => exact xo)
          | fail)
        refine (HN.out _).mono ?_; rintro e w8 ⟨rfl, hb8⟩
        have k8 := k7.on (by exact hb8)
        have j8 := j7.on (by exact hb8)
        have b8 := Below.on b7 b7.size (by exact hb8)
        clear hb8 k7 j7 b7
        go_wp2_with (first
          | (refine wpList_loadBlk (g := w7.heap.size) (t := 24) (cs := X) ?hw 24 (.tmp 9) ?ho ?hx ?hA _ Tryd.underlying24 rfl ?hi ?_
             case hw => rfl
             case ho => with_reducible rfl
             case hx => rfl
             case hA => exact j8
             case hi => exact zx)
          | (refine wpList_build rfl 60 ?fs ?ho (.agg Y) ?hr ?_
             case ho => with_reducible rfl
             case hr =>
               intro W
               have e1 := HX.out
               have e2 := HY.out
               rw [← e1, ← e2]
               change _ = _
               kernel_rfl)
          | (refine wpList_storeBlk (g := w.heap.size) (t := 60) (cs := Y) ?hw 60 (.tmp 2) (.tmp 80) ?ho ?hx2 ?hy2 Z k8 ?hi ?hs ?h1 ?_
             case ho => with_reducible rfl
             case hw => rfl
             case hx2 => rfl
             case hy2 => rfl
             case hi => exact zs
             case hs => exact z18
             case h1 => exact o1
             intro w9 k9 hg9
             have b9 : Below w.heap.size w w9 := (b8).grown hg9 (b8).size (fun j hj => by injection hj with hj; omega))
          | fail)
        refine bodyPost_blk2 rfl _ rfl k9 Tryd.underlying60 rfl zs rfl ⟨rfl, b9⟩
    · rw [decide_eq_false h58, rdH_no]
      subst hPN
      clear hcase zs z18 o1 y18 HY HX HA HN
      generalize pf zP = Z at *
      go_enter Tryd.func51, Tryd.ntmps51
      go_wp2_with fail
      refine (HC.out _).mono ?_; rintro e w1 ⟨rfl, hb1⟩
      have k1 := kr.on (by exact hb1)
      have b1 := Below.on b0 b0.size (by exact hb1)
      clear hb1 kr b0
      go_wp2_with fail
      refine (HP.out _).mono ?_; rintro e w2 ⟨⟨v, rfl, ho⟩, hb2⟩
      obtain ⟨A0, c0, rfl, _, _, _⟩ := GOwn.sh ho
      have k2 := k1.on (by exact hb2)
      have b2 := Below.on b1 b1.size (by exact hb2)
      clear hb2 k1 b1 ho
      go_wp2_with (first
        | (refine wpList_storeBlk (g := w.heap.size) (t := 60) (cs := Z) ?hw 60 (.tmp 2) (.tmp 55) ?ho ?hx2 ?hy2 Z k2 ?hi ?hs ?h1 ?_
           case ho => with_reducible rfl
           case hw => rfl
           case hx2 => rfl
           case hy2 => rfl
           case hi => exact zi
           case hs => rfl
           case h1 => exact zo
           intro w9 k9 hg9
           have b9 : Below w.heap.size w w9 := (b2).grown hg9 (b2).size (fun j hj => by injection hj with hj; omega))
        | fail)
      refine bodyPost_blk2 rfl _ rfl k9 Tryd.underlying60 rfl zi rfl ⟨rfl, b9⟩

set_option maxHeartbeats 4000000 in
theorem refh0_any (l : List UInt8) (hn : l.length ≤ 1000000) (h0 : l[0]? ≠ some 91) (h58 : (58 : UInt8) ∉ l) (w : World) :
    Calls Tryd.prog 51 #[sv l] w fun e w' => e = .returned (.tuple #[.agg (pf zP), .int .i64 5]) ∧ Below w.heap.size w w' := by
  have HP := Lib.hid (fun W => Cl.refParts58 l W hn)
  have HX0 := Lib.hid (show (parts 58 l)[0]? = some l by rw [parts_no 58 l h58]; rfl)
  have hp1 : (parts 58 l).length = 1 := by rw [parts_no 58 l h58]; rfl
  rw [hp1] at HP
  have hsz : (ByteArray.mk ⟨l⟩).size = l.length := rfl
  have hz := (zero_of_info Tryd.zeroEnd).1
  have hne : ¬ pf zP = #[] := by simp [pf, pfxC]
  have zo := pf_one zP
  have zi : (Tryd.prog.info? 60).map (·.size) = some (pf zP).size := Tryd.infoEnd
  have kr : Blk (w.alloc (.cells (pf zP) 60)) w.heap.size 60 (pf zP) := blk_new _ _ _
  have b0 : Below w.heap.size w (w.alloc (.cells (pf zP) 60)) := (Below.refl _ _).alloc (Nat.le_refl _) _
  have hfirst : l.length = 0 ∨ (0 < l.length ∧ ∃ c : UInt8, c ≠ 91 ∧ l[0]? = some c) := by
    cases l with
    | nil => exact .inl rfl
    | cons c r => exact .inr ⟨by simp, c, fun e => h0 (by rw [e]; rfl), rfl⟩
  have Hat := Lib.hid (fun c => byte_at (ByteArray.mk ⟨l⟩) 0 c)
  obtain ⟨s, hs⟩ : ∃ s, ByteArray.mk ⟨l⟩ = s := ⟨_, rfl⟩
  have HS := Lib.hid hs
  have HL := Lib.hid (show s.data.toList = l by rw [← hs])
  unfold sv at HP ⊢
  rw [hs] at hsz HP Hat ⊢
  clear hs h0 h58 hp1
  generalize pf zP = Z at *
  rcases hfirst with hl0 | ⟨hl0, c, hc, hlc⟩
  · generalize l.length = N at *
    subst hl0
    go_enter Tryd.func51, Tryd.ntmps51
    go_wp2_with fail
    refine (HP.out _).mono ?_; rintro e w1 ⟨⟨v, rfl, ho⟩, hb1⟩
    obtain ⟨A0, c0, rfl, _, _, hS⟩ := GOwn.sh ho
    have k1 := kr.on (by exact hb1)
    have b1 := Below.on b0 b0.size (by exact hb1)
    obtain ⟨pb, po, px, rfl, hpb, hcell, hpx⟩ := hS.elem (show 0 < 1 by omega)
    rw [HX0.out] at hpx
    injection hpx with hpx
    subst hpx
    unfold sv at hcell
    rw [HS.out, Nat.add_zero] at hcell
    clear hb1 kr b0 ho
    go_wp2_with (first
      | (refine wpList_storeBlk (g := w.heap.size) (t := 60) (cs := Z) ?hw 60 (.tmp 2) (.tmp 55) ?ho ?hx2 ?hy2 Z k1 ?hi ?hs ?h1 ?_
         case ho => with_reducible rfl
         case hw => rfl
         case hx2 => rfl
         case hy2 => rfl
         case hi => exact zi
         case hs => rfl
         case h1 => exact zo
         intro w9 k9 hg9
         have b9 : Below w.heap.size w w9 := (b1).grown hg9 (b1).size (fun j hj => by injection hj with hj; omega))
      | fail)
    refine bodyPost_blk2 rfl _ rfl k9 Tryd.underlying60 rfl zi rfl ⟨rfl, b9⟩
  · have ha := Hat.out c (by rw [HL.out]; exact hlc)
    have hne : ((c.toNat : Int) == 91) = false := byte_ne (c := 91) hc
    have hlI : (0 : Int) < (l.length : Int) := by omega
    generalize l.length = N at *
    clear Hat hlc
    go_enter Tryd.func51, Tryd.ntmps51
    go_wp2_with fail
    refine (HP.out _).mono ?_; rintro e w1 ⟨⟨v, rfl, ho⟩, hb1⟩
    obtain ⟨A0, c0, rfl, _, _, hS⟩ := GOwn.sh ho
    have k1 := kr.on (by exact hb1)
    have b1 := Below.on b0 b0.size (by exact hb1)
    obtain ⟨pb, po, px, rfl, hpb, hcell, hpx⟩ := hS.elem (show 0 < 1 by omega)
    rw [HX0.out] at hpx
    injection hpx with hpx
    subst hpx
    unfold sv at hcell
    rw [HS.out, Nat.add_zero] at hcell
    clear hb1 kr b0 ho
    go_wp2_with (first
      | (refine wpList_storeBlk (g := w.heap.size) (t := 60) (cs := Z) ?hw 60 (.tmp 2) (.tmp 55) ?ho ?hx2 ?hy2 Z k1 ?hi ?hs ?h1 ?_
         case ho => with_reducible rfl
         case hw => rfl
         case hx2 => rfl
         case hy2 => rfl
         case hi => exact zi
         case hs => rfl
         case h1 => exact zo
         intro w9 k9 hg9
         have b9 : Below w.heap.size w w9 := (b1).grown hg9 (b1).size (fun j hj => by injection hj with hj; omega))
      | fail)
    refine bodyPost_blk2 rfl _ rfl k9 Tryd.underlying60 rfl zi rfl ⟨rfl, b9⟩

set_option maxHeartbeats 4000000 in
theorem refh4_any (h t : List UInt8) (hn : (h ++ 58 :: t).length ≤ 1000000) (h58 : (58 : UInt8) ∉ h) (h0 : (h ++ 58 :: t)[0]? ≠ some 91) (w : World) :
    Calls Tryd.prog 51 #[sv (h ++ 58 :: t)] w fun e w' => e = .returned (.tuple #[.agg (pf (rdH h t true).2), .int .i64 ((rdH h t true).1 : Int)]) ∧ Below w.heap.size w w' := by
  have hlen : (h ++ 58 :: t).length = h.length + 1 + t.length := by simp; omega
  have hh : h.length ≤ 1000000 := by omega
  have ht : t.length ≤ 1000000 := by omega
  obtain ⟨c, hc, hlc⟩ : ∃ c : UInt8, c ≠ 91 ∧ (h ++ 58 :: t)[0]? = some c := by
    cases hq : (h ++ 58 :: t)[0]? with
    | none => rw [List.getElem?_eq_none_iff] at hq; omega
    | some c => exact ⟨c, fun e => h0 (by rw [hq, e]), rfl⟩
  have HP := Lib.hid (fun W => Cl.refParts58 (h ++ 58 :: t) W hn)
  have HX0 := Lib.hid (show (parts 58 (h ++ 58 :: t))[0]? = some h by rw [parts_yes 58 h t h58]; rfl)
  have hp1 : 1 < (parts 58 (h ++ 58 :: t)).length := by
    rw [parts_yes 58 h t h58]
    obtain ⟨x, r, e⟩ := parts_ne 58 t
    rw [e]; simp
  have hp2 := fun W => Cl.refParts58 h W hh
  rw [show (parts 58 h).length = 1 by rw [parts_no 58 h h58]; rfl] at hp2
  have HP2 := Lib.hid hp2
  have HA := Lib.hid (fun W => refaparse_any h hh W)
  have hn0 := fun W => same_world (refReadN 65535 (by omega) t ht W)
  have ha := byte_at (ByteArray.mk ⟨h ++ 58 :: t⟩) 0 c hlc
  have hne : ((c.toNat : Int) == 91) = false := byte_ne (c := 91) hc
  have hsz : (ByteArray.mk ⟨h ++ 58 :: t⟩).size = (h ++ 58 :: t).length := rfl
  have hszh : (ByteArray.mk ⟨h⟩).size = h.length := rfl
  have hx1 : (ByteArray.mk ⟨h ++ 58 :: t⟩).extract (h.length + 1) (h ++ 58 :: t).length = ⟨⟨t⟩⟩ := by
    rw [text_cut, List.take_length, show h ++ 58 :: t = (h ++ [58]) ++ t by simp, show h.length + 1 = (h ++ [58]).length by simp, List.drop_left]
  have hz := (zero_of_info Tryd.zeroEnd).1
  have hne : ¬ pf zP = #[] := by simp [pf, pfxC]
  have zo := pf_one zP
  have zi : (Tryd.prog.info? 60).map (·.size) = some (pf zP).size := Tryd.infoEnd
  have kr : Blk (w.alloc (.cells (pf zP) 60)) w.heap.size 60 (pf zP) := blk_new _ _ _
  have b0 : Below w.heap.size w (w.alloc (.cells (pf zP) 60)) := (Below.refl _ _).alloc (Nat.le_refl _) _
  have hal := aL_len h
  have x17 := adv_size (aV h) (aL h) hal
  have xo := adv_one (aV h) (aL h)
  have zx := Adr_size (aV h) (aL h) hal
  have hnv := nV_le 65535 t
  have y18 := pf_size ⟨aV h, aL h, (nV 65535 t : Int)⟩ hal
  have zs : (Tryd.prog.info? 60).map (·.size) = some (pf ⟨aV h, aL h, (nV 65535 t : Int)⟩).size := by rw [y18]; exact Tryd.infoEnd
  have z18 : (pf zP).size = (pf ⟨aV h, aL h, (nV 65535 t : Int)⟩).size := by rw [y18]; rfl
  have o1 := pf_one ⟨aV h, aL h, (nV 65535 t : Int)⟩
  obtain ⟨b0', b1', b2', b3', b4', b5', b6', b7', b8', b9', b10', b11', b12', b13', b14', b15', e16⟩ := list16 _ hal
  have HX := Lib.hid (show adv (aV h) [b0', b1', b2', b3', b4', b5', b6', b7', b8', b9', b10', b11', b12', b13', b14', b15'] = adv (aV h) (aL h) by rw [e16])
  have HY := Lib.hid (show pf ⟨aV h, [b0', b1', b2', b3', b4', b5', b6', b7', b8', b9', b10', b11', b12', b13', b14', b15'], (nV 65535 t : Int)⟩ = pf ⟨aV h, aL h, (nV 65535 t : Int)⟩ by rw [e16])
  clear e16
  have hcase := rdH_case h t
  have hwv : IntKind.i64.wrap (nV 65535 t : Int) = (nV 65535 t : Int) := IntWalk.i64_in _ (by omega)
  obtain ⟨sh, hsh⟩ : ∃ sh, ByteArray.mk ⟨h⟩ = sh := ⟨_, rfl⟩
  have HSh := Lib.hid hsh
  unfold sv at HP HP2 HA hn0 ⊢
  rw [← hx1] at hn0
  rw [hsh] at HA HP2 hszh
  have HN := Lib.hid hn0
  clear hn0 hx1 hsh hp2 h0 h58 hlc
  generalize hlq : (h ++ 58 :: t).length = M at *
  generalize ByteArray.mk ⟨h ++ 58 :: t⟩ = s at *
  generalize hPN : (parts 58 (h ++ 58 :: t)).length = PN at *
  generalize hhl : h.length = hl at *
  have hPI : (1 : Int) < (PN : Int) := by omega
  have dPI : decide ((1 : Int) < (PN : Int)) = true := decide_eq_true hPI
  have hM0 : (0 : Int) < (M : Int) := by omega
  have q1 : IntKind.i64.wrap ((hl : Int) + 1) = (hl : Int) + 1 := IntWalk.i64_in _ (by omega)
  have q2 : (hl : Int) + 1 ≤ (M : Int) := by omega
  have q3 : (0 : Int) ≤ (hl : Int) + 1 := by omega
  have q4 : ((hl : Int) + 1).toNat = hl + 1 := by omega
  clear hlen hlq hPN hhl
  rcases hcase with ⟨hE, hR⟩ | ⟨hE, hN, hR⟩ | ⟨hE, hN, hV, hR⟩ | ⟨hE, hN, hV, hR⟩
  · rw [hR]
    clear hR zs z18 o1 y18 HY HX hwv hnv
    generalize adv (aV h) (aL h) = X at *
    generalize pf zP = Z at *
    generalize aE h = E at *
    go_enter Tryd.func51, Tryd.ntmps51
    go_wp2_with fail
    refine (HP.out _).mono ?_; rintro e w1 ⟨⟨v, rfl, ho⟩, hb1⟩
    obtain ⟨A0, c0, rfl, _, _, hS⟩ := GOwn.sh ho
    have k1 := kr.on (by exact hb1)
    have b1 := Below.on b0 b0.size (by exact hb1)
    obtain ⟨pb, po, px, rfl, hpb, hcell, hpx⟩ := hS.elem (show 0 < PN by omega)
    rw [HX0.out] at hpx
    injection hpx with hpx
    subst hpx
    unfold sv at hcell
    rw [HSh.out, Nat.add_zero] at hcell
    clear hb1 kr b0 ho
    go_wp2_with fail
    refine (HP2.out _).mono ?_; rintro e w2 ⟨⟨v, rfl, ho⟩, hb2⟩
    obtain ⟨A2, c2, rfl, _, _, _⟩ := GOwn.sh ho
    have k2 := k1.on (by exact hb2)
    have b2 := Below.on b1 b1.size (by exact hb2)
    clear hb2 k1 b1 ho hcell
    go_wp2_with fail
    refine (HA.out _).mono ?_; rintro e w7 ⟨rfl, hb7⟩
    have k7 := (k2.on (by exact hb7)).alloc (.cells X 24)
    have j7 : Blk (w7.alloc (.cells X 24)) w7.heap.size 24 X := blk_new _ _ _
    have b7 := Below.on b2 b2.size (by exact hb7)
    have b7 := b7.alloc b7.size (.cells X 24)
    clear hb7 k2 b2
    go_wp2_with (first
      | (refine wpList_allocStore (cs := X) rfl rfl 24 ?ho (.tmp 9) (.tmp 59) ?ho2 Tryd.zeroAddr rfl ?hx ?hy ?hn ?h1 ?_
         case ho => with_reducible rfl
         case ho2 => with_reducible rfl
         case hx => rfl
         case hy => rfl
         case hn => exact x17
         case h1 => exact xo)
      | (refine wpList_storeBlk (g := w.heap.size) (t := 60) (cs := Z) ?hw 60 (.tmp 2) (.tmp 63) ?ho ?hx2 ?hy2 Z k7 ?hi ?hs ?h1 ?_
         case ho => with_reducible rfl
         case hw => rfl
         case hx2 => rfl
         case hy2 => rfl
         case hi => exact zi
         case hs => rfl
         case h1 => exact zo
         intro w9 k9 hg9
         have b9 : Below w.heap.size w w9 := (b7).grown hg9 (b7).size (fun j hj => by injection hj with hj; omega))
      | fail)
    refine bodyPost_blk2 rfl _ rfl k9 Tryd.underlying60 rfl zi rfl ⟨rfl, b9⟩
  · rw [hR]
    rw [hE] at HA
    clear hR zs z18 o1 y18 HY HX hE
    generalize adv (aV h) (aL h) = X at *
    generalize pf zP = Z at *
    generalize nE 65535 t = E at *
    generalize nV 65535 t = N at *
    go_enter Tryd.func51, Tryd.ntmps51
    go_wp2_with fail
    refine (HP.out _).mono ?_; rintro e w1 ⟨⟨v, rfl, ho⟩, hb1⟩
    obtain ⟨A0, c0, rfl, _, _, hS⟩ := GOwn.sh ho
    have k1 := kr.on (by exact hb1)
    have b1 := Below.on b0 b0.size (by exact hb1)
    obtain ⟨pb, po, px, rfl, hpb, hcell, hpx⟩ := hS.elem (show 0 < PN by omega)
    rw [HX0.out] at hpx
    injection hpx with hpx
    subst hpx
    unfold sv at hcell
    rw [HSh.out, Nat.add_zero] at hcell
    clear hb1 kr b0 ho
    go_wp2_with fail
    refine (HP2.out _).mono ?_; rintro e w2 ⟨⟨v, rfl, ho⟩, hb2⟩
    obtain ⟨A2, c2, rfl, _, _, _⟩ := GOwn.sh ho
    have k2 := k1.on (by exact hb2)
    have b2 := Below.on b1 b1.size (by exact hb2)
    clear hb2 k1 b1 ho hcell
    go_wp2_with fail
    refine (HA.out _).mono ?_; rintro e w7 ⟨rfl, hb7⟩
    have k7 := (k2.on (by exact hb7)).alloc (.cells X 24)
    have j7 : Blk (w7.alloc (.cells X 24)) w7.heap.size 24 X := blk_new _ _ _
    have b7 := Below.on b2 b2.size (by exact hb7)
    have b7 := b7.alloc b7.size (.cells X 24)
    clear hb7 k2 b2
    go_wp2_with (first
      | (refine wpList_allocStore (cs := X) rfl rfl 24 ?ho (.tmp 9) (.tmp 59) ?ho2 Tryd.zeroAddr rfl ?hx ?hy ?hn ?h1 ?_
         case ho => with_reducible rfl
         case ho2 => with_reducible rfl
         case hx => rfl
         case hy => rfl
         case hn => exact x17
         case h1 => exact xo)
      | fail)
    refine (HN.out _).mono ?_; rintro e w8 ⟨rfl, hb8⟩
    have k8 := k7.on (by exact hb8)
    have j8 := j7.on (by exact hb8)
    have b8 := Below.on b7 b7.size (by exact hb8)
    clear hb8 k7 j7 b7
    go_wp2_with (first
      | (refine wpList_storeBlk (g := w.heap.size) (t := 60) (cs := Z) ?hw 60 (.tmp 2) (.tmp 72) ?ho ?hx2 ?hy2 Z k8 ?hi ?hs ?h1 ?_
         case ho => with_reducible rfl
         case hw => rfl
         case hx2 => rfl
         case hy2 => rfl
         case hi => exact zi
         case hs => rfl
         case h1 => exact zo
         intro w9 k9 hg9
         have b9 : Below w.heap.size w w9 := (b8).grown hg9 (b8).size (fun j hj => by injection hj with hj; omega))
      | fail)
    refine bodyPost_blk2 rfl _ rfl k9 Tryd.underlying60 rfl zi rfl ⟨rfl, b9⟩
  · rw [hR]
    rw [hE] at HA
    rw [hN, hV] at HN
    clear hR zs z18 o1 y18 HY HX hE hN
    generalize adv (aV h) (aL h) = X at *
    generalize pf zP = Z at *
    go_enter Tryd.func51, Tryd.ntmps51
    go_wp2_with fail
    refine (HP.out _).mono ?_; rintro e w1 ⟨⟨v, rfl, ho⟩, hb1⟩
    obtain ⟨A0, c0, rfl, _, _, hS⟩ := GOwn.sh ho
    have k1 := kr.on (by exact hb1)
    have b1 := Below.on b0 b0.size (by exact hb1)
    obtain ⟨pb, po, px, rfl, hpb, hcell, hpx⟩ := hS.elem (show 0 < PN by omega)
    rw [HX0.out] at hpx
    injection hpx with hpx
    subst hpx
    unfold sv at hcell
    rw [HSh.out, Nat.add_zero] at hcell
    clear hb1 kr b0 ho
    go_wp2_with fail
    refine (HP2.out _).mono ?_; rintro e w2 ⟨⟨v, rfl, ho⟩, hb2⟩
    obtain ⟨A2, c2, rfl, _, _, _⟩ := GOwn.sh ho
    have k2 := k1.on (by exact hb2)
    have b2 := Below.on b1 b1.size (by exact hb2)
    clear hb2 k1 b1 ho hcell
    go_wp2_with fail
    refine (HA.out _).mono ?_; rintro e w7 ⟨rfl, hb7⟩
    have k7 := (k2.on (by exact hb7)).alloc (.cells X 24)
    have j7 : Blk (w7.alloc (.cells X 24)) w7.heap.size 24 X := blk_new _ _ _
    have b7 := Below.on b2 b2.size (by exact hb7)
    have b7 := b7.alloc b7.size (.cells X 24)
    clear hb7 k2 b2
    go_wp2_with (first
      | (refine wpList_allocStore (cs := X) rfl rfl 24 ?ho (.tmp 9) (.tmp 59) ?ho2 Tryd.zeroAddr rfl ?hx ?hy ?hn ?h1 ?_
         case ho => with_reducible rfl
         case ho2 => with_reducible rfl
         case hx => rfl
         case hy => rfl
         case hn => exact x17
         case h1 => exact xo)
      | fail)
    refine (HN.out _).mono ?_; rintro e w8 ⟨rfl, hb8⟩
    have k8 := k7.on (by exact hb8)
    have j8 := j7.on (by exact hb8)
    have b8 := Below.on b7 b7.size (by exact hb8)
    clear hb8 k7 j7 b7
    go_wp2_with (first
      | (refine wpList_storeBlk (g := w.heap.size) (t := 60) (cs := Z) ?hw 60 (.tmp 2) (.tmp 76) ?ho ?hx2 ?hy2 Z k8 ?hi ?hs ?h1 ?_
         case ho => with_reducible rfl
         case hw => rfl
         case hx2 => rfl
         case hy2 => rfl
         case hi => exact zi
         case hs => rfl
         case h1 => exact zo
         intro w9 k9 hg9
         have b9 : Below w.heap.size w w9 := (b8).grown hg9 (b8).size (fun j hj => by injection hj with hj; omega))
      | fail)
    refine bodyPost_blk2 rfl _ rfl k9 Tryd.underlying60 rfl zi rfl ⟨rfl, b9⟩
  · rw [hR]
    rw [hE] at HA
    rw [hN] at HN
    clear hR hE hN
    generalize pf ⟨aV h, aL h, (nV 65535 t : Int)⟩ = Y at *
    generalize adv (aV h) (aL h) = X at *
    generalize pf zP = Z at *
    generalize nV 65535 t = N at *
    generalize aV h = V at *
    go_enter Tryd.func51, Tryd.ntmps51
    go_wp2_with fail
    refine (HP.out _).mono ?_; rintro e w1 ⟨⟨v, rfl, ho⟩, hb1⟩
    obtain ⟨A0, c0, rfl, _, _, hS⟩ := GOwn.sh ho
    have k1 := kr.on (by exact hb1)
    have b1 := Below.on b0 b0.size (by exact hb1)
    obtain ⟨pb, po, px, rfl, hpb, hcell, hpx⟩ := hS.elem (show 0 < PN by omega)
    rw [HX0.out] at hpx
    injection hpx with hpx
    subst hpx
    unfold sv at hcell
    rw [HSh.out, Nat.add_zero] at hcell
    clear hb1 kr b0 ho
    go_wp2_with fail
    refine (HP2.out _).mono ?_; rintro e w2 ⟨⟨v, rfl, ho⟩, hb2⟩
    obtain ⟨A2, c2, rfl, _, _, _⟩ := GOwn.sh ho
    have k2 := k1.on (by exact hb2)
    have b2 := Below.on b1 b1.size (by exact hb2)
    clear hb2 k1 b1 ho hcell
    go_wp2_with fail
    refine (HA.out _).mono ?_; rintro e w7 ⟨rfl, hb7⟩
    have k7 := (k2.on (by exact hb7)).alloc (.cells X 24)
    have j7 : Blk (w7.alloc (.cells X 24)) w7.heap.size 24 X := blk_new _ _ _
    have b7 := Below.on b2 b2.size (by exact hb7)
    have b7 := b7.alloc b7.size (.cells X 24)
    clear hb7 k2 b2
    go_wp2_with (first
      | (refine wpList_allocStore (cs := X) rfl rfl 24 ?ho (.tmp 9) (.tmp 59) ?ho2 Tryd.zeroAddr rfl ?hx ?hy ?hn ?h1 ?_
         case ho => with_reducible rfl
         case ho2 => with_reducible rfl
         case hx => rfl
         case hy => rfl
         case hn => exact x17
         case h1 => exact xo)
      | fail)
    refine (HN.out _).mono ?_; rintro e w8 ⟨rfl, hb8⟩
    have k8 := k7.on (by exact hb8)
    have j8 := j7.on (by exact hb8)
    have b8 := Below.on b7 b7.size (by exact hb8)
    clear hb8 k7 j7 b7
    go_wp2_with (first
      | (refine wpList_loadBlk (g := w7.heap.size) (t := 24) (cs := X) ?hw 24 (.tmp 9) ?ho ?hx ?hA _ Tryd.underlying24 rfl ?hi ?_
         case hw => rfl
         case ho => with_reducible rfl
         case hx => rfl
         case hA => exact j8
         case hi => exact zx)
      | (refine wpList_build rfl 60 ?fs ?ho (.agg Y) ?hr ?_
         case ho => with_reducible rfl
         case hr =>
           intro W
           have e1 := HX.out
           have e2 := HY.out
           rw [← e1, ← e2]
           change _ = _
           kernel_rfl)
      | (refine wpList_storeBlk (g := w.heap.size) (t := 60) (cs := Y) ?hw 60 (.tmp 2) (.tmp 80) ?ho ?hx2 ?hy2 Z k8 ?hi ?hs ?h1 ?_
         case ho => with_reducible rfl
         case hw => rfl
         case hx2 => rfl
         case hy2 => rfl
         case hi => exact zs
         case hs => exact z18
         case h1 => exact o1
         intro w9 k9 hg9
         have b9 : Below w.heap.size w w9 := (b8).grown hg9 (b8).size (fun j hj => by injection hj with hj; omega))
      | fail)
    refine bodyPost_blk2 rfl _ rfl k9 Tryd.underlying60 rfl zs rfl ⟨rfl, b9⟩
theorem kR_len (l : List UInt8) : (kR l).1.length ≤ l.length ∧ (kR l).2.1.length ≤ l.length := by
  unfold kR
  split
  · exact kC_len l
  · simp
theorem refhparse_any (l : List UInt8) (hn : l.length ≤ 1000000) (w : World) :
    Calls Tryd.prog 51 #[sv l] w fun e w' => e = .returned (.tuple #[.agg (pf (hX l).2), .int .i64 ((hX l).1 : Int)]) ∧ Below w.heap.size w w' := by
  unfold hX
  by_cases h0 : l[0]? = some 91
  · obtain ⟨r, rfl⟩ : ∃ r, l = 91 :: r := by
      cases l with
      | nil => cases h0
      | cons c r => injection h0 with h0; subst h0; exact ⟨r, rfl⟩
    rw [spX_6]
    have hr : r.length ≤ 1000000 := by simp at hn; omega
    have h := refh6_any r (kR r).1 (kR r).2.1 (kR r).2.2 hr rfl (Nat.le_trans (kR_len r).1 hr) (Nat.le_trans (kR_len r).2 hr) w
    cases hK : (kC r).2.2 with
    | false =>
      have e : kR r = ([], [], false) := by unfold kR; rw [hK]; rfl
      rw [e] at h
      simp only [Bool.false_and, rdH_no] at h ⊢
      exact h
    | true =>
      have e : kR r = kC r := by unfold kR; rw [hK]; rfl
      rw [e, hK] at h
      exact h
  · rcases cut_cases 58 l with h58 | ⟨a, b, rfl, h58⟩
    · rw [spX_no l h58 h0, rdH_no]
      exact refh0_any l hn h0 h58 w
    · rw [spX_4 a b h58 h0]
      exact refh4_any a b hn h58 h0 w
end Go.Proofs.YtccidoigjdbepaaDoor
