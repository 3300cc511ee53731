
/- Layer 11. Mathematics: a prefix's text is parsed as it; the chapter's examples. -/
import Derived.Test.YtccidoigjdbepaaDoorCxE
import Derived.Test.YtccidoigjdbepaaDoorZAx
namespace Go.Proofs.YtccidoigjdbepaaDoor
open Go.RowKit Dec Lin Qd
set_option maxRecDepth 100000
set_option linter.unusedVariables false
set_option linter.unusedSimpArgs false

theorem okA_mask (v : Int) (l : List UInt8) (n : Nat) (hl : l.length = 16) (h : okA v l = true) : okA v (mL n l) = true := by
  rcases okA_v v l h with rfl | rfl
  · have hd : l.drop 4 = zb 12 := by
      unfold okA at h
      simpa using h
    have : (mL n l).drop 4 = zb 12 := by
      apply List.ext_getElem?
      intro j
      rw [List.getElem?_drop]
      by_cases hj : j < 12
      · have hb : l[4 + j]? = some 0 := by
          have h1 : (l.drop 4)[j]? = (zb 12)[j]? := by rw [hd]
          rw [List.getElem?_drop] at h1
          rw [h1, zb, List.getElem?_replicate, if_pos hj]
        rw [mL_at n (4 + j) l 0 hb, mB_z _ (kpt_le _ _), zb, List.getElem?_replicate, if_pos hj]
      · rw [List.getElem?_eq_none (by rw [mL_len]; omega), List.getElem?_eq_none (by simp [zb]; omega)]
    unfold okA
    rw [this]
    rfl
  · unfold okA; rfl

theorem row_chars (c : UInt8) (hc : c ≠ 58) (hb : ∀ n, c ∉ Cl.hx n) (gs : List Nat) : c ∉ Cl.row gs := by
  induction gs with
  | nil => simp [Cl.row_nil]
  | cons n r ih =>
    cases r with
    | nil => rw [Cl.row_one]; exact hb n
    | cons m s =>
      rw [Cl.row_cons]
      intro h
      rcases List.mem_append.1 h with h | h
      · exact hb n h
      · rcases List.mem_cons.1 h with h | h
        · exact hc h
        · exact ih h
theorem hx_chars (c : UInt8) (hc : Hex.hg c < 0) (n : Nat) : c ∉ Cl.hx n := by
  intro h
  obtain ⟨j, hj⟩ := List.getElem?_of_mem h
  have := Cl.gd_good n (Cl.nd n) j c hj
  omega
theorem cT_chars (c : UInt8) (hc : c ≠ 58) (hg : Hex.hg c < 0) (l : List UInt8) : c ∉ Cl.cT l := by
  have hr := row_chars c hc (hx_chars c hg)
  by_cases h : (Cl.lz (Cl.zsOf (Cl.gOf l)) 8).2.1 - (Cl.lz (Cl.zsOf (Cl.gOf l)) 8).1 < 2
  · rw [Cl.cT_few l h]; exact hr _
  · rw [Cl.cT_many l h]
    intro hm
    rcases List.mem_append.1 hm with hm | hm
    · rcases List.mem_append.1 hm with hm | hm
      · exact hr _ hm
      · simp at hm; exact hc hm
    · exact hr _ hm
theorem cT_colon (l : List UInt8) (hl : l.length = 16) : (58 : UInt8) ∈ Cl.cT l := by
  have hgl := Cl.gOf_len l 8 hl
  by_cases h : (Cl.lz (Cl.zsOf (Cl.gOf l)) 8).2.1 - (Cl.lz (Cl.zsOf (Cl.gOf l)) 8).1 < 2
  · rw [Cl.cT_few l h]
    match hq : Cl.gOf l, hgl with
    | a :: b :: r, _ => rw [Cl.row_cons]; simp
  · rw [Cl.cT_many l h]; simp
theorem ds_chars (c : UInt8) (hc : isD c = false) (x : UInt8) : c ∉ ds x := by
  intro h
  have := (dec_props x.toNat).1.2.1 c h
  rw [hc] at this
  cases this
theorem qT_chars (c : UInt8) (hc : isD c = false) (h46 : c ≠ 46) (x y z u : UInt8) : c ∉ qT x y z u := by
  intro h
  unfold qT at h
  simp only [List.mem_append, List.mem_singleton] at h
  have := ds_chars c hc
  rcases h with (((((h | h) | h) | h) | h) | h) | h
  · exact this _ h
  · exact h46 h
  · exact this _ h
  · exact h46 h
  · exact this _ h
  · exact h46 h
  · exact this _ h
/-- An address's text is parsed as it. -/
theorem a_back (v : Int) (l : List UInt8) (hl : l.length = 16) (h : okA v l = true) : aE (txA v l) = 0 ∧ aV (txA v l) = v ∧ aL (txA v l) = l := by
  rcases okA_v v l h with rfl | rfl
  · obtain ⟨a, b, c, d, rfl⟩ := four_form l hl h
    rw [txA_4]
    obtain ⟨h1, h2⟩ := q_back a b c d
    have := a4_ok (qT a b c d) (qT_chars 58 (by decide) (by decide) a b c d) h1
    rw [h2] at this
    exact this
  · rw [txA_6]
    obtain ⟨h1, h2⟩ := Cl.pB_cT l hl
    have := a6_ok (Cl.cT l) (cT_colon l hl) h2
    rw [h1] at this
    exact this
theorem txA_slash (v : Int) (l : List UInt8) (hl : l.length = 16) : (47 : UInt8) ∉ txA v l := by
  cases h : okA v l with
  | false => rw [txA_no v l h]; simp
  | true =>
    rcases okA_v v l h with rfl | rfl
    · obtain ⟨a, b, c, d, rfl⟩ := four_form l hl h
      rw [txA_4]
      exact qT_chars 47 (by decide) (by decide) a b c d
    · rw [txA_6]
      exact cT_chars 47 (by decide) (by decide) l
/-- A prefix's text is parsed as it. -/
theorem p_back (p : Pfx) (hp : p.l.length = 16) (hr : rightP p = true) : cX (txP p) = (0, p) := by
  obtain ⟨f1, f2, f3, f4⟩ := right_facts p hr
  obtain ⟨e1, e2, e3⟩ := a_back p.v p.l hp f1
  have hs := sizeA_le p.v p.l
  have hw : wid (txA p.v p.l) = 8 * sizeA p.v p.l := by unfold wid; rw [e2, e3]
  obtain ⟨n1, n2⟩ := n_back (wid (txA p.v p.l)) p.bits.toNat (by rw [hw]; omega)
  have ht : txP p = txA p.v p.l ++ 47 :: Lib.decDigits p.bits.toNat := by unfold txP; rw [if_pos hr]; simp
  have h47 := txA_slash p.v p.l hp
  unfold cX
  rw [ht, if_pos (by simp), (sl_yes _ _ h47).1, (sl_yes _ _ h47).2]
  unfold rdX
  rw [if_neg (by omega), if_neg (by decide), if_neg (by omega), n2, e2, e3]
  have hb : ((p.bits.toNat : Nat) : Int) = p.bits := by omega
  rw [hb]
  rcases of_case p.v p.l p.bits with ⟨h, _⟩ | ⟨_, h, _⟩ | ⟨_, _, h, _⟩ | ⟨_, _, _, h5, h6⟩
  · rw [f1] at h; cases h
  · omega
  · omega
  · rw [h5, h6, f4]
/-- What is parsed may be. -/
theorem of_right (v : Int) (l : List UInt8) (n : Int) (hl : l.length = 16) (h : ofE v l n = 0) : rightP (ofP v l n) = true := by
  rcases of_case v l n with ⟨_, e, _⟩ | ⟨_, _, e, _⟩ | ⟨_, _, _, e, _⟩ | ⟨h1, h2, h3, _, e⟩
  · omega
  · omega
  · omega
  · rw [e]
    have hok := okA_mask v l n.toNat hl h1
    unfold rightP
    show (decide (ofE v (mL n.toNat l) n = 0) && (mL n.toNat l == mL n.toNat (mL n.toNat l))) = true
    rw [mL_twice]
    rcases of_case v (mL n.toNat l) n with ⟨e, _⟩ | ⟨_, e, _⟩ | ⟨_, _, e, _⟩ | ⟨_, _, _, e, _⟩
    · rw [hok] at e; cases e
    · omega
    · rw [sizeA_ok v _ l hok h1] at e; omega
    · rw [e]; simp
theorem cX_right (l : List UInt8) (h : (cX l).1 = 0) : rightP (cX l).2 = true := by
  have key : ∀ (hd : List UInt8) (sl : Bool) (t : List UInt8), (rdX hd sl t).1 = 0 → rightP (rdX hd sl t).2 = true := by
    intro hd sl t h
    rcases rd_case hd sl t with ⟨h1, e⟩ | ⟨h1, _, e⟩ | ⟨h1, _, h2, e⟩ | ⟨h1, _, h2, e⟩
    · rw [e] at h
      have h : aE hd = 0 := h
      rw [h] at h1; exact absurd h1 (by decide)
    · rw [e]
      exact of_right _ _ _ (aL_len hd) (wh_ok _ _ (a_ok hd h1))
    · rw [e] at h
      have h : nE (wid hd) t = 0 := h
      rw [h] at h2; exact absurd h2 (by decide)
    · rw [e] at h ⊢
      exact of_right _ _ _ (aL_len hd) h
  unfold cX at h ⊢
  split
  · next h47 => rw [if_pos h47] at h; exact key _ _ _ h
  · next h47 => rw [if_neg h47] at h; exact key _ _ _ h
theorem rdX_ok (hd : List UInt8) (sl : Bool) (t : List UInt8) : pfxOk (rdX hd sl t).2 := by
  have hv : in64 (aV hd) := by unfold aV in64; split <;> (try split) <;> omega
  have hz : pfxOk zP := ⟨(by unfold in64; omega : in64 0), rfl, (by unfold in64; omega : in64 0)⟩
  rcases rd_case hd sl t with ⟨_, e⟩ | ⟨_, _, e⟩ | ⟨_, _, _, e⟩ | ⟨_, _, _, e⟩
  · rw [e]; exact hz
  · rw [e]; exact whP_ok _ _ hv (aL_len hd)
  · rw [e]; exact hz
  · rw [e]
    have hn := nV_le (wid hd) t
    have hs := sizeA_le (aV hd) (aL hd)
    have hw : wid hd ≤ 128 := by unfold wid; omega
    show pfxOk (ofP (aV hd) (aL hd) (nV (wid hd) t : Int))
    rcases of_case (aV hd) (aL hd) (nV (wid hd) t : Int) with ⟨_, _, e⟩ | ⟨_, _, _, e⟩ | ⟨_, _, _, _, e⟩ | ⟨_, _, _, _, e⟩
    · rw [e]; exact hz
    · rw [e]; exact hz
    · rw [e]; exact hz
    · rw [e]; exact ⟨hv, by show (mL _ _).length = 16; rw [mL_len, aL_len], (by unfold in64; omega : in64 (nV (wid hd) t : Int))⟩
theorem cX_ok (l : List UInt8) : pfxOk (cX l).2 := by
  unfold cX
  split <;> exact rdX_ok _ _ _
theorem txP_len (p : Pfx) (hp : p.l.length = 16) : (txP p).length ≤ 200 := by
  unfold txP
  split
  · next h =>
    obtain ⟨_, _, f3, _⟩ := right_facts p h
    have h1 := txA_len p.v p.l hp
    have hs := sizeA_le p.v p.l
    have h2 := nn_len p.bits.toNat (by omega)
    simp
    omega
  · simp

/-! The chapter's examples. -/
def ex1 : Pfx := ⟨4, [10, 0, 0, 0] ++ zb 12, 8⟩
def ex2 : Pfx := ⟨6, [0, 0, 0, 0, 0, 0, 0, 0, 0, 0, 0, 0, 0, 0, 0, 1], 128⟩
theorem mask8 : mL 8 ([10, 1, 2, 3] ++ zb 12) = [10, 0, 0, 0] ++ zb 12 := by decide
theorem dg8 : Lib.decDigits 8 = [56] := dec_small 8 (by omega)
theorem dg128 : Lib.decDigits 128 = [49, 50, 56] := by
  rw [dec_step 128 (by omega), show 128 / 10 = 12 from rfl, dec_step 12 (by omega), show 12 / 10 = 1 from rfl, dec_small 1 (by omega)]
  rfl
theorem q_ex : qT 10 1 2 3 = [49, 48, 46, 49, 46, 50, 46, 51] := by rw [qT, ds10, ds1, ds2, ds3]; rfl
theorem q_ex0 : qT 10 0 0 0 = [49, 48, 46, 48, 46, 48, 46, 48] := by rw [qT, ds10, ds0]; rfl
theorem cX_1 : cX [49, 48, 46, 49, 46, 50, 46, 51, 47, 56] = (0, ex1) := by
  have e : ([49, 48, 46, 49, 46, 50, 46, 51, 47, 56] : List UInt8) = qT 10 1 2 3 ++ 47 :: [56] := by rw [q_ex]; rfl
  have h47 : (47 : UInt8) ∉ qT 10 1 2 3 := qT_chars 47 (by decide) (by decide) _ _ _ _
  have hb := a_back 4 ([10, 1, 2, 3] ++ zb 12) rfl (ok4 10 1 2 3)
  rw [txA_4] at hb
  obtain ⟨e1, e2, e3⟩ := hb
  have hw : wid (qT 10 1 2 3) = 32 := by
    unfold wid
    rw [e2, e3]
    decide
  have hn := n_back 32 8 (by omega)
  rw [dg8] at hn
  unfold cX
  rw [e, if_pos (by simp), (sl_yes _ _ h47).1, (sl_yes _ _ h47).2]
  unfold rdX
  rw [if_neg (by omega), if_neg (by decide), hw, if_neg (by omega), hn.2, e2, e3]
  have h0 : ofE 4 ([10, 1, 2, 3] ++ zb 12) ((8 : Nat) : Int) = 0 := by
    unfold ofE
    rw [if_pos (ok4 10 1 2 3), if_neg (by rw [show sizeA 4 ([10, 1, 2, 3] ++ zb 12) = 4 by decide]; omega)]
  unfold ofP
  rw [h0, if_pos rfl, show ((8 : Nat) : Int).toNat = 8 from rfl, mask8]
  rfl
theorem cX_2 : cX [58, 58, 49] = (0, ex2) := by
  have hr : Cl.row [1] = [49] := by decide +kernel
  have hg := Cl.pG_rows [] (Cl.row [1]) (fun n hn => (List.not_mem_nil hn).elim)
  rw [Cl.rdS_row true [1] (by simp), hr] at hg
  have hg : Cl.pG [58, 58, 49] = some [0, 0, 0, 0, 0, 0, 0, 1] := hg
  have hB : Cl.pB [58, 58, 49] = ex2.l := by unfold Cl.pB; rw [hg]; decide +kernel
  have hE : Cl.pE [58, 58, 49] = 0 := by unfold Cl.pE; rw [hg]
  obtain ⟨e1, e2, e3⟩ := a6_ok [58, 58, 49] (by decide) hE
  rw [hB] at e3
  unfold cX
  rw [if_neg (by decide)]
  unfold rdX
  rw [if_neg (by omega), if_pos rfl, e2, e3]
  unfold whP
  rw [sizeA6]
  have h0 : ofE 6 ex2.l (8 * ((16 : Nat) : Int)) = 0 := by
    unfold ofE
    rw [if_pos (okA6 _), if_neg (by rw [sizeA6]; omega)]
  unfold ofP
  rw [h0, if_pos rfl, show (8 * ((16 : Nat) : Int)).toNat = 128 from rfl, mL_full ex2.l rfl]
  rfl
theorem tx_1 : txP ex1 = [49, 48, 46, 48, 46, 48, 46, 48, 47, 56] := by
  have hr : rightP ex1 = true := by
    have := cX_right _ (by rw [cX_1])
    rwa [cX_1] at this
  unfold txP
  rw [if_pos hr]
  show txA 4 ([10, 0, 0, 0] ++ zb 12) ++ [47] ++ Lib.decDigits 8 = _
  rw [txA_4, q_ex0, dg8]
  rfl
theorem tx_2 : txP ex2 = [58, 58, 49, 47, 49, 50, 56] := by
  have hr : rightP ex2 = true := by
    have := cX_right _ (by rw [cX_2])
    rwa [cX_2] at this
  unfold txP
  rw [if_pos hr]
  show txA 6 ex2.l ++ [47] ++ Lib.decDigits 128 = _
  rw [txA_6, dg128, show Cl.cT ex2.l = [58, 58, 49] from by decide +kernel]
  rfl
theorem ex1_ok : pfxOk ex1 := ⟨(by unfold in64; omega : in64 4), rfl, (by unfold in64; omega : in64 8)⟩
theorem ex2_ok : pfxOk ex2 := ⟨(by unfold in64; omega : in64 6), rfl, (by unfold in64; omega : in64 128)⟩
theorem lit_p1 (w : World) (hm : Cl.HasM w) : Calls Tryd.prog 42 #[.string ⟨#[49, 48, 46, 49, 46, 50, 46, 51, 47, 56]⟩] w fun e w' => e = .returned (.tuple #[.agg (pf ex1), .int .i64 0]) ∧ Below w.heap.size w w' := by
  have h := cparseP_any [49, 48, 46, 49, 46, 50, 46, 51, 47, 56] (by decide) w hm
  rw [cX_1] at h
  exact h
theorem lit_p2 (w : World) (hm : Cl.HasM w) : Calls Tryd.prog 42 #[.string ⟨#[58, 58, 49]⟩] w fun e w' => e = .returned (.tuple #[.agg (pf ex2), .int .i64 0]) ∧ Below w.heap.size w w' := by
  have h := cparseP_any [58, 58, 49] (by decide) w hm
  rw [cX_2] at h
  exact h
theorem lit_t1 (w : World) (htab : Tab w) : Calls Tryd.prog 40 #[.agg (pf ex1)] w fun e w' => e = .returned (.string ⟨#[49, 48, 46, 48, 46, 48, 46, 48, 47, 56]⟩) ∧ Below w.heap.size w w' := by
  have h := ctextP_any ex1 ex1_ok w htab
  rw [tx_1] at h
  exact h
theorem lit_t2 (w : World) (htab : Tab w) : Calls Tryd.prog 40 #[.agg (pf ex2)] w fun e w' => e = .returned (.string ⟨#[58, 58, 49, 47, 49, 50, 56]⟩) ∧ Below w.heap.size w w' := by
  have h := ctextP_any ex2 ex2_ok w htab
  rw [tx_2] at h
  exact h

set_option maxHeartbeats 2000000 in
theorem alive11 (w : World) (htab : Tab w) (hm : Cl.HasM w) : Calls Tryd.prog 32 #[] w fun e w' => e = .returned (.bool true) ∧ Below w.heap.size w w' := by
  have HM := Lib.hid hm
  have Htab := Lib.hid htab
  have hpos := hm.pos
  have H1 := Lib.hid (fun W h => lit_p1 W h)
  have H2 := Lib.hid (fun W h => lit_p2 W h)
  have H3 := Lib.hid (fun W h => lit_t1 W h)
  have H4 := Lib.hid (fun W h => lit_t2 W h)
  have x1 := pf_size ex1 rfl
  have x2 := pf_size ex2 rfl
  have o1 := pf_one ex1
  have o2 := pf_one ex2
  have z1 : (Tryd.prog.info? 45).map (·.size) = some (pf ex1).size := by rw [x1]; exact Tryd.infoPfx
  have z2 : (Tryd.prog.info? 45).map (·.size) = some (pf ex2).size := by rw [x2]; exact Tryd.infoPfx
  clear hm htab
  generalize pf ex1 = P at *
  generalize pf ex2 = Q at *
  go_enter Tryd.func32, Tryd.ntmps32
  go_wp2_with fail
  refine (H1.out _ HM.out).mono ?_; rintro e w1 ⟨rfl, hb1⟩
  have k1 : Blk (w1.alloc (.cells P 45)) w1.heap.size 45 P := blk_new _ _ _
  have b1 := hb1.alloc hb1.size (.cells P 45)
  clear hb1
  go_wp2_with (first
    | (refine wpList_allocStore (cs := P) rfl rfl 45 ?ho (.tmp 1) (.tmp 7) ?ho2 Tryd.zeroPfx rfl ?hx ?hy ?hn ?h1 ?_
       case ho => with_reducible rfl
       case ho2 => with_reducible rfl
       case hx => rfl
       case hy => rfl
       case hn => exact x1
       case h1 => exact o1)
    | fail)
  refine (H2.out _ (HM.out.on b1 hpos)).mono ?_; rintro e w3 ⟨rfl, hb3⟩
  have k3 := (k1.on (by exact hb3)).alloc (.cells Q 45)
  have j3 : Blk (w3.alloc (.cells Q 45)) w3.heap.size 45 Q := blk_new _ _ _
  have b3 := Below.on b1 b1.size (by exact hb3)
  have b3 := b3.alloc b3.size (.cells Q 45)
  clear hb3 k1 b1
  go_wp2_with (first
    | (refine wpList_allocStore (cs := Q) rfl rfl 45 ?ho (.tmp 3) (.tmp 11) ?ho2 Tryd.zeroPfx rfl ?hx ?hy ?hn ?h1 ?_
       case ho => with_reducible rfl
       case ho2 => with_reducible rfl
       case hx => rfl
       case hy => rfl
       case hn => exact x2
       case h1 => exact o2)
    | (refine wpList_loadBlk (g := w1.heap.size) (t := 45) (cs := P) ?hw 45 (.tmp 1) ?ho ?hx ?hA _ Tryd.underlying45 rfl ?hi ?_
       case hw => rfl
       case ho => with_reducible rfl
       case hx => rfl
       case hA => exact k3
       case hi => exact z1)
    | fail)
  refine (H3.out _ (Htab.out.on b3)).mono ?_; rintro e w5 ⟨rfl, hb5⟩
  have j5 := j3.on (by exact hb5)
  have b5 := Below.on b3 b3.size (by exact hb5)
  clear hb5 j3 k3 b3
  go_wp2_with (first
    | (refine wpList_loadBlk (g := w3.heap.size) (t := 45) (cs := Q) ?hw 45 (.tmp 3) ?ho ?hx ?hA _ Tryd.underlying45 rfl ?hi ?_
       case hw => rfl
       case ho => with_reducible rfl
       case hx => rfl
       case hA => exact j5
       case hi => exact z2)
    | fail)
  refine (H4.out _ (Htab.out.on b5)).mono ?_; rintro e w7 ⟨rfl, hb7⟩
  have b7 := Below.on b5 b5.size (by exact hb7)
  go_wp2
  go_ret
  exact ⟨rfl, b7⟩
end Go.Proofs.YtccidoigjdbepaaDoor
