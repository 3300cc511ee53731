
/- Out of the texts ClP, ClR. -/
import Derived.Test.YtccidoigjdbepaaDoorZClb
/- ClP -/
namespace Go.Proofs.YtccidoigjdbepaaDoor.Cl
open Go.RowKit Lin
set_option maxRecDepth 100000
set_option linter.unusedVariables false

theorem hg_hexd (q : Nat) (h : q < 16) : Hex.hg (Hex.hexd q) = (q : Int) := by
  have : ∀ q : Fin 16, Hex.hg (Hex.hexd q.val) = ((q.val : Nat) : Int) := by decide +kernel
  exact this ⟨q, h⟩
theorem gd_good (n d : Nat) : Hex.AllGood (Hex.gd n d d) := by
  intro j c hc
  have hc := List.mem_of_getElem? hc
  unfold Hex.gd at hc
  obtain ⟨t, _, rfl⟩ := List.mem_map.1 hc
  rw [hg_hexd _ (by omega)]
  omega
theorem gd_val : ∀ (d n : Nat), n < 16 ^ d → 1 ≤ d → Hex.grpVal (Hex.gd n d d) = n := by
  intro d
  induction d with
  | zero => intro n _ h; omega
  | succ e ih =>
    intro n hn _
    by_cases he : e = 0
    · subst he
      have hn16 : n < 16 := by simpa using hn
      have : Hex.gd n 1 1 = [Hex.hexd n] := by simp [Hex.gd]; congr 1; omega
      rw [this]
      simp [Hex.grpVal, hg_hexd n hn16]
    · rw [Hex.gd_step n (e + 1) (by omega), show e + 1 - 1 = e by omega]
      have h1 := ih (n / 16) (by rw [Nat.div_lt_iff_lt_mul (by omega), ← Nat.pow_succ]; exact hn) (by omega)
      unfold Hex.grpVal at *
      rw [List.foldl_append, h1]
      simp only [List.foldl_cons, List.foldl_nil]
      rw [hg_hexd _ (by omega)]
      omega
theorem hx_nd (n : Nat) : (hx n).length = nd n := Hex.gd_len n (nd n) (nd n)
theorem nd_pos (n : Nat) : 1 ≤ nd n := by unfold nd; repeat (split <;> try omega)
/-- A group's text is read as the group. -/
theorem gV_hx (n : Nat) (h : n < 65536) : gV (hx n) = some n := by
  have h1 := nd_pos n
  have h4 := nd_le n
  have hg : Hex.AllGood (hx n) := gd_good n (nd n)
  have hD := nd_digs n h
  unfold gV
  rw [if_pos ⟨by rw [hx_nd]; exact h1, by rw [hx_nd]; exact h4, hg⟩]
  exact congrArg some (gd_val (nd n) n hD.2.1 hD.1)
theorem hx_no (n : Nat) : (58 : UInt8) ∉ hx n := by
  intro h
  obtain ⟨j, hj⟩ := List.getElem?_of_mem h
  have := gd_good n (nd n) j 58 hj
  revert this
  decide
theorem hx_ne (n : Nat) : hx n ≠ [] := by
  intro h
  have := hx_nd n
  have := nd_pos n
  rw [h] at *
  simp at *
  omega
theorem row_nil : row [] = [] := rfl
theorem row_one (n : Nat) : row [n] = hx n := Lib.join_one _ _
theorem row_cons (n m : Nat) (r : List Nat) : row (n :: m :: r) = hx n ++ 58 :: row (m :: r) := by
  unfold row
  rw [List.map_cons, Lib.join_cons, List.map_cons, Lib.join_cons]
  simp [Lib.joinTail]
theorem row_ne (n : Nat) (r : List Nat) : ∃ c t, row (n :: r) = c :: t ∧ c ≠ 58 := by
  have h : ∃ u, row (n :: r) = hx n ++ u := by
    cases r with
    | nil => exact ⟨[], by rw [row_one, List.append_nil]⟩
    | cons m s => exact ⟨_, row_cons n m s⟩
  obtain ⟨u, hu⟩ := h
  obtain ⟨c, t, hc⟩ : ∃ c t, hx n = c :: t := by
    cases hq : hx n with
    | nil => exact absurd hq (hx_ne n)
    | cons c t => exact ⟨c, t, rfl⟩
  refine ⟨c, t ++ u, by rw [hu, hc]; rfl, ?_⟩
  rintro rfl
  exact hx_no n (by rw [hc]; simp)
theorem parts_row (n : Nat) (r : List Nat) : parts 58 (row (n :: r)) = (n :: r).map hx := by
  induction r generalizing n with
  | nil => rw [row_one, parts_no 58 _ (hx_no n)]; rfl
  | cons m s ih => rw [row_cons, parts_yes 58 _ _ (hx_no n), ih m]; rfl
theorem rdRow_hx (q : Bool) (gs : List Nat) (h : ∀ n ∈ gs, n < 65536) : rdRow q (gs.map hx) = some gs := by
  induction gs with
  | nil => rfl
  | cons n r ih =>
    rw [List.map_cons, rdRow, gV_hx n (h n (by simp))]
    simp only [ih (fun m hm => h m (by simp [hm])), Option.map_some]
theorem rdS_row (q : Bool) (gs : List Nat) (h : ∀ n ∈ gs, n < 65536) : rdS q (row gs) = some gs := by
  cases gs with
  | nil => exact if_pos rfl
  | cons n r =>
    obtain ⟨c, t, e, _⟩ := row_ne n r
    unfold rdS
    rw [if_neg (by rw [e]; simp), parts_row, rdRow_hx q _ h]

/-- The first gap: ahead of it no colon stands beside another one. -/
theorem idx_skip (x t : List UInt8) (h : (58 : UInt8) ∉ x) : Lib.index (x ++ t) [58, 58] = if Lib.index t [58, 58] = -1 then -1 else Lib.index t [58, 58] + x.length := by
  induction x with
  | nil => have := Lib.index_ge t [58, 58]; simp <;> omega
  | cons c u ih =>
    have hc : c ≠ 58 := fun e => h (by rw [e]; simp)
    have hp : List.isPrefixOf [58, 58] (c :: (u ++ t)) = false := by simp [List.isPrefixOf]; exact fun e => absurd e.symm hc
    have hi := ih (fun e => h (by simp [e]))
    have hge := Lib.index_ge t [58, 58]
    rw [List.cons_append, Lib.index, hp, hi]
    by_cases h0 : Lib.index t [58, 58] = -1
    · simp [h0]
    · rw [if_neg h0, if_neg h0]
      have : ¬ (Lib.index t [58, 58] + (u.length : Int) = -1) := by omega
      simp [this]
      omega
theorem idx_colon (c : UInt8) (t : List UInt8) (h : c ≠ 58) : Lib.index (58 :: c :: t) [58, 58] = if Lib.index (c :: t) [58, 58] = -1 then -1 else Lib.index (c :: t) [58, 58] + 1 := by
  have hp : List.isPrefixOf [58, 58] (58 :: c :: t) = false := by simp [List.isPrefixOf]; exact fun e => absurd e.symm h
  rw [Lib.index, hp]
  simp
theorem idx_gap (t : List UInt8) : Lib.index (58 :: 58 :: t) [58, 58] = 0 := by
  rw [Lib.index]
  simp [List.isPrefixOf]
theorem idx_nil : Lib.index [] [58, 58] = -1 := rfl
theorem gp_row (gs : List Nat) : gp (row gs) = -1 := by
  unfold gp
  induction gs with
  | nil => rfl
  | cons n r ih =>
    cases r with
    | nil => have := idx_skip (hx n) [] (hx_no n); rw [List.append_nil, idx_nil] at this; rw [row_one, this]; rfl
    | cons m s =>
      obtain ⟨c, t, e, hc⟩ := row_ne m s
      rw [row_cons, idx_skip _ _ (hx_no n), e, idx_colon c t hc, ← e, ih]
      simp
theorem gp_rows (gs : List Nat) (t : List UInt8) : gp (row gs ++ [58, 58] ++ t) = ((row gs).length : Int) := by
  unfold gp
  induction gs with
  | nil => exact idx_gap t
  | cons n r ih =>
    cases r with
    | nil =>
      have := idx_skip (hx n) (58 :: 58 :: t) (hx_no n)
      rw [idx_gap] at this
      rw [row_one, List.append_assoc]
      simpa using this
    | cons m s =>
      obtain ⟨c, u, e, hc⟩ := row_ne m s
      rw [row_cons, List.append_assoc, List.append_assoc, idx_skip _ _ (hx_no n)]
      have e2 : (58 :: row (m :: s)) ++ ([58, 58] ++ t) = 58 :: c :: (u ++ ([58, 58] ++ t)) := by rw [e]; rfl
      have e3 : c :: (u ++ ([58, 58] ++ t)) = row (m :: s) ++ [58, 58] ++ t := by rw [e]; simp
      rw [e2, idx_colon c _ hc, e3, ih]
      have h1 : ¬ (((row (m :: s)).length : Int) = -1) := by omega
      rw [if_neg h1, if_neg (by omega)]
      simp
      omega

/-- The longest run: all in it are zeros, and no run is longer. -/
theorem lz_zero (a b c d e f g h : Bool) : let zs := [a, b, c, d, e, f, g, h]
    ∀ i : Fin 8, (lz zs 8).1 ≤ i.val → i.val < (lz zs 8).2.1 → zs.getD i.val false = true := by
  revert a b c d e f g h; decide +kernel
theorem lz_most (a b c d e f g h : Bool) : let zs := [a, b, c, d, e, f, g, h]
    ∀ i : Fin 9, ∀ r : Fin 9, i.val + r.val ≤ 8 → (∀ j : Fin 8, j.val < r.val → zs.getD (i.val + j.val) false = true) → r.val ≤ (lz zs 8).2.1 - (lz zs 8).1 := by
  revert a b c d e f g h; decide +kernel

/-- Zeros in a list of groups. -/
theorem zz_at (g : List Nat) (i : Nat) (h : (zsOf g).getD i false = true) : g[i]? = some 0 := by
  unfold zsOf at h
  rw [List.getD_eq_getElem?_getD, List.getElem?_map] at h
  cases hq : g[i]? with
  | none => rw [hq] at h; simp at h
  | some x => rw [hq] at h; simp at h; rw [h]
theorem at_zs (g : List Nat) (i : Nat) (h : g[i]? = some 0) : (zsOf g).getD i false = true := by
  unfold zsOf
  rw [List.getD_eq_getElem?_getD, List.getElem?_map, h]
  rfl
theorem lz_all (g : List Nat) (hl : g.length = 8) : (lz (zsOf g) 8).1 ≤ (lz (zsOf g) 8).2.1 ∧ (lz (zsOf g) 8).2.1 ≤ 8 ∧
    (∀ i, (lz (zsOf g) 8).1 ≤ i → i < (lz (zsOf g) 8).2.1 → g[i]? = some 0) ∧
    (∀ i r, i + r ≤ 8 → (∀ j, j < r → g[i + j]? = some 0) → r ≤ (lz (zsOf g) 8).2.1 - (lz (zsOf g) 8).1) := by
  obtain ⟨a, b, c, d, e, f, x, y, hgs⟩ := list_eight _ hl
  have hzs : zsOf g = [decide (a = 0), decide (b = 0), decide (c = 0), decide (d = 0), decide (e = 0), decide (f = 0), decide (x = 0), decide (y = 0)] := by rw [hgs]; rfl
  have h1 := lz_rz (decide (a = 0)) (decide (b = 0)) (decide (c = 0)) (decide (d = 0)) (decide (e = 0)) (decide (f = 0)) (decide (x = 0)) (decide (y = 0))
  have h2 := lz_zero (decide (a = 0)) (decide (b = 0)) (decide (c = 0)) (decide (d = 0)) (decide (e = 0)) (decide (f = 0)) (decide (x = 0)) (decide (y = 0))
  have h3 := lz_most (decide (a = 0)) (decide (b = 0)) (decide (c = 0)) (decide (d = 0)) (decide (e = 0)) (decide (f = 0)) (decide (x = 0)) (decide (y = 0))
  simp only at h1 h2 h3
  rw [← hzs] at h1 h2 h3
  refine ⟨h1.2.2.1, h1.2.2.2.1, fun i hi hj => zz_at g i (h2 ⟨i, by have := h1.2.2.2.1; omega⟩ hi hj), fun i r hir hz => ?_⟩
  exact h3 ⟨i, by omega⟩ ⟨r, by omega⟩ hir (fun j hj => at_zs g _ (hz j.val hj))
theorem mid_back (g : List Nat) (hl : g.length = 8) (f t : Nat) (hft : f ≤ t) (ht : t ≤ 8) (hz : ∀ i, f ≤ i → i < t → g[i]? = some 0) : gMid (g.take f) (g.drop t) = g := by
  unfold gMid
  rw [List.length_take, List.length_drop, hl, show 8 - min f 8 - (8 - t) = t - f by omega]
  apply List.ext_getElem?
  intro i
  by_cases h1 : i < f
  · rw [List.append_assoc, List.getElem?_append_left (by rw [List.length_take]; omega), List.getElem?_take_of_lt h1]
  · by_cases h2 : i < t
    · rw [List.append_assoc, List.getElem?_append_right (by rw [List.length_take]; omega), List.getElem?_append_left (by rw [List.length_take, List.length_replicate]; omega),
        List.getElem?_replicate, if_pos (by rw [List.length_take]; omega), hz i (by omega) h2]
    · rw [List.getElem?_append_right (by rw [List.length_append, List.length_take, List.length_replicate]; omega), List.length_append, List.length_take, List.length_replicate, List.getElem?_drop]
      congr 1
      omega
theorem cT_few (b : List UInt8) (h : (lz (zsOf (gOf b)) 8).2.1 - (lz (zsOf (gOf b)) 8).1 < 2) : cT b = row (gOf b) := if_pos h
theorem cT_many (b : List UInt8) (h : ¬ (lz (zsOf (gOf b)) 8).2.1 - (lz (zsOf (gOf b)) 8).1 < 2) : cT b = row ((gOf b).take (lz (zsOf (gOf b)) 8).1) ++ [58, 58] ++ row ((gOf b).drop (lz (zsOf (gOf b)) 8).2.1) := if_neg h
/-- The text of bytes is read as their groups. -/
theorem pG_cT (b : List UInt8) (hl : b.length = 16) : pG (cT b) = some (gOf b) := by
  have hgl := gOf_len b 8 hl
  have hlt := gOf_lt b
  obtain ⟨h1, h2, h3, _⟩ := lz_all (gOf b) hgl
  by_cases h : (lz (zsOf (gOf b)) 8).2.1 - (lz (zsOf (gOf b)) 8).1 < 2
  · rw [cT_few b h]
    unfold pG
    have hg := gp_row (gOf b)
    unfold gp at hg
    have hc : Lib.cut (row (gOf b)) [58, 58] = (row (gOf b), [], false) := by unfold Lib.cut; rw [if_neg (by omega)]
    rw [hc]
    simp only [rdS_row _ _ hlt, show rdS true [] = some [] from if_pos rfl]
    simp [gFits, gMid, hgl]
  · rw [cT_many b h]
    unfold pG
    have hg := gp_rows ((gOf b).take (lz (zsOf (gOf b)) 8).1) (row ((gOf b).drop (lz (zsOf (gOf b)) 8).2.1))
    unfold gp at hg
    have hc : Lib.cut (row ((gOf b).take (lz (zsOf (gOf b)) 8).1) ++ [58, 58] ++ row ((gOf b).drop (lz (zsOf (gOf b)) 8).2.1)) [58, 58] =
        (row ((gOf b).take (lz (zsOf (gOf b)) 8).1), row ((gOf b).drop (lz (zsOf (gOf b)) 8).2.1), true) := by
      unfold Lib.cut
      rw [if_pos (by omega), hg]
      rw [Int.toNat_natCast, show ([58, 58] : List UInt8).length = 2 from rfl]
      rw [List.append_assoc, List.take_left' rfl]
      rw [← List.append_assoc, List.drop_left' (by simp)]
    rw [hc]
    simp only [rdS_row _ _ (fun n hn => hlt n (List.mem_of_mem_take hn)), rdS_row _ _ (fun n hn => hlt n (List.mem_of_mem_drop hn))]
    have hf : gFits true ((gOf b).take (lz (zsOf (gOf b)) 8).1) ((gOf b).drop (lz (zsOf (gOf b)) 8).2.1) = true := by
      unfold gFits
      simp [hgl]
      omega
    rw [if_pos hf, mid_back _ hgl _ _ h1 h2 h3]
theorem bOf_gOf : ∀ (n : Nat) (b : List UInt8), b.length = 2 * n → bOf (gOf b) = b := by
  intro n
  induction n with
  | zero => intro b h; obtain rfl : b = [] := List.eq_nil_of_length_eq_zero (by omega); rfl
  | succ k ih =>
    intro b h
    match b, h with
    | x :: y :: t, h =>
      have ht := ih t (by simp at h; omega)
      have hx := x.toNat_lt
      have hy := y.toNat_lt
      have e1 : (256 * x.toNat + y.toNat) / 256 = x.toNat := by omega
      have e2 : (256 * x.toNat + y.toNat) % 256 = y.toNat := by omega
      unfold bOf at *
      rw [gOf, List.flatMap_cons, ht, e1, e2]
      simp
    | [x], h => simp at h; omega
    | [], h => simp at h
theorem gOf_bOf (g : List Nat) (h : ∀ n ∈ g, n < 65536) : gOf (bOf g) = g := by
  induction g with
  | nil => rfl
  | cons n r ih =>
    have hn := h n (by simp)
    have := ih (fun m hm => h m (by simp [hm]))
    unfold bOf at *
    rw [List.flatMap_cons]
    simp only [List.cons_append, List.nil_append, gOf, this]
    congr 1
    simp
    omega
theorem pB_cT (b : List UInt8) (hl : b.length = 16) : pB (cT b) = b ∧ pE (cT b) = 0 := by
  have h := pG_cT b hl
  have e := bOf_gOf 8 b hl
  refine ⟨?_, ?_⟩
  · unfold pB; rw [h]; exact e
  · unfold pE; rw [h]
theorem pB_len (l : List UInt8) : (pB l).length = 16 := by
  unfold pB
  cases h : pG l with
  | none => rfl
  | some G =>
    have hG : G.length = 8 := by
      unfold pG at h
      split at h
      · split at h
        · next hf => injection h with h; subst h; exact gMid_len _ _ (gFits_le _ _ _ hf)
        · cases h
      · cases h
    show (bOf G).length = 16
    rw [bOf_len, hG]
/-- The text, by both. -/
theorem ctext (l : List UInt8) (hl : l.length = 16) : (cT l).length ≤ 100 ∧
    (∀ w : World, Calls Tryd.prog 55 #[av l] w fun e w' => e = .returned (sv (cT l)) ∧ Below w.heap.size w w') ∧
    (∀ w : World, Calls Tryd.prog 56 #[av l] w fun e w' => e = .returned (sv (cT l)) ∧ Below w.heap.size w w') := by
  have hgl := gOf_len l 8 hl
  obtain ⟨a, b, c, d, e, f, g, i, hgs⟩ := list_eight _ hgl
  have hlr := lz_rz (decide (a = 0)) (decide (b = 0)) (decide (c = 0)) (decide (d = 0)) (decide (e = 0)) (decide (f = 0)) (decide (g = 0)) (decide (i = 0))
  have hzs : zsOf (gOf l) = [decide (a = 0), decide (b = 0), decide (c = 0), decide (d = 0), decide (e = 0), decide (f = 0), decide (g = 0), decide (i = 0)] := by rw [hgs]; rfl
  simp only at hlr
  rw [← hzs] at hlr
  obtain ⟨q1, q2, q3, q4, q5⟩ := hlr
  have r0 := row_len (gOf l)
  have r1 := row_len ((gOf l).take (lz (zsOf (gOf l)) 8).1)
  have r2 := row_len ((gOf l).drop (lz (zsOf (gOf l)) 8).2.1)
  rw [List.length_take] at r1
  rw [List.length_drop] at r2
  rw [hgl] at r0 r1 r2
  by_cases h : (rz (zsOf (gOf l)) 8).2 < 2
  · rw [cT_few l (q1.2 h)]
    refine ⟨by omega, fun w => ctext_few l hl w (q1.2 h), fun w => ?_⟩
    have := refctext l hl w
    rwa [if_pos h] at this
  · have h2 := q2 (by omega)
    rw [cT_many l (fun h' => h (q1.1 h'))]
    refine ⟨by simp; omega, fun w => ctext_many l hl w (by
      have := fun h' => h (q1.1 h')
      omega), fun w => ?_⟩
    have := refctext l hl w
    rw [if_neg h, ← h2.1] at this
    rw [h2.2, h2.1]
    rw [h2.1] at this
    exact this
end Go.Proofs.YtccidoigjdbepaaDoor.Cl

/- ClR -/
namespace Go.Proofs.YtccidoigjdbepaaDoor.Cl
open Go.RowKit Lin Qd Dec
set_option maxRecDepth 100000
set_option linter.unusedVariables false

theorem pG_rows (gs : List Nat) (t : List UInt8) (h : ∀ n ∈ gs, n < 65536) : pG (row gs ++ [58, 58] ++ t) = match rdS true t with | some B => if gFits true gs B = true then some (gMid gs B) else none | none => none := by
  have hg := gp_rows gs t
  unfold gp at hg
  have hc : Lib.cut (row gs ++ [58, 58] ++ t) [58, 58] = (row gs, t, true) := by
    unfold Lib.cut
    rw [if_pos (by omega), hg, Int.toNat_natCast, show ([58, 58] : List UInt8).length = 2 from rfl]
    rw [List.append_assoc, List.take_left' rfl, ← List.append_assoc, List.drop_left' (by simp)]
  unfold pG
  rw [hc]
  simp only [rdS_row _ _ h]
  cases rdS true t <;> rfl
theorem ds_lit : qT 1 2 3 4 = [49, 46, 50, 46, 51, 46, 52] := by
  rw [qT, show ds 1 = [49] from dec_small 1 (by omega), show ds 2 = [50] from dec_small 2 (by omega), show ds 3 = [51] from dec_small 3 (by omega), show ds 4 = [52] from dec_small 4 (by omega)]
  rfl
theorem rd_lit1 : rdS true [102, 102, 102, 102, 58, 49, 46, 50, 46, 51, 46, 52] = some [65535, 258, 772] := by
  have hq := q_back 1 2 3 4
  rw [ds_lit] at hq
  have h1 : gV [102, 102, 102, 102] = some 65535 := by
    have := gV_hx 65535 (by omega)
    rwa [show hx 65535 = [102, 102, 102, 102] from by decide +kernel] at this
  have h2 : gV [49, 46, 50, 46, 51, 46, 52] = none := if_neg (by simp)
  have h3 : qs [49, 46, 50, 46, 51, 46, 52] = [258, 772] := by
    unfold qs qb
    rw [hq.2]
    rfl
  unfold rdS
  rw [if_neg (by simp), show parts 58 [102, 102, 102, 102, 58, 49, 46, 50, 46, 51, 46, 52] = [[102, 102, 102, 102], [49, 46, 50, 46, 51, 46, 52]] from rfl]
  rw [rdRow, h1]
  simp only
  rw [rdRow, h2]
  simp only
  rw [if_pos (by simp [hq.1]), h3]
  rfl
theorem rd_lit2 : rdS true [50, 58, 58, 51] = none := by
  have h1 : gV [50] = some 2 := by
    have := gV_hx 2 (by omega)
    rwa [show hx 2 = [50] from by decide +kernel] at this
  have h2 : gV [] = none := if_neg (by simp)
  have h3 : Qd.qE [] = 5 := (q_not [] (by decide)).1
  unfold rdS
  rw [if_neg (by simp), show parts 58 [50, 58, 58, 51] = [[50], [], [51]] from rfl]
  rw [rdRow, h1]
  simp only
  rw [rdRow, h2]
  simp [h3]
/-- The bytes of the first example. -/
def exB : List UInt8 := [0, 0, 0, 0, 0, 0, 0, 0, 0, 0, 255, 255, 1, 2, 3, 4]
theorem p_lit1 : pB [58, 58, 102, 102, 102, 102, 58, 49, 46, 50, 46, 51, 46, 52] = exB ∧ pE [58, 58, 102, 102, 102, 102, 58, 49, 46, 50, 46, 51, 46, 52] = 0 := by
  have h := pG_rows [] [102, 102, 102, 102, 58, 49, 46, 50, 46, 51, 46, 52] (fun n hn => (List.not_mem_nil hn).elim)
  rw [rd_lit1] at h
  have h : pG [58, 58, 102, 102, 102, 102, 58, 49, 46, 50, 46, 51, 46, 52] = some [0, 0, 0, 0, 0, 65535, 258, 772] := h
  refine ⟨?_, ?_⟩
  · unfold pB; rw [h]; decide +kernel
  · unfold pE; rw [h]
theorem p_lit2 : pE [49, 58, 58, 50, 58, 58, 51] = 5 ∧ pB [49, 58, 58, 50, 58, 58, 51] = List.replicate 16 0 := by
  have h := pG_rows [1] [50, 58, 58, 51] (by simp)
  rw [rd_lit2, show row [1] = [49] from by decide +kernel] at h
  have h : pG [49, 58, 58, 50, 58, 58, 51] = none := h
  refine ⟨?_, ?_⟩
  · unfold pE; rw [h]
  · unfold pB; rw [h]
theorem cT_lit : cT exB = [58, 58, 102, 102, 102, 102, 58, 49, 48, 50, 58, 51, 48, 52] := by decide +kernel
theorem lit_one (w : World) (hm : HasM w) : Calls Tryd.prog 61 #[.string ⟨#[58, 58, 102, 102, 102, 102, 58, 49, 46, 50, 46, 51, 46, 52]⟩] w fun e w' => e = .returned (.tuple #[av exB, .int .i64 0]) ∧ Below w.heap.size w w' := by
  have h := cparse_any [58, 58, 102, 102, 102, 102, 58, 49, 46, 50, 46, 51, 46, 52] (by decide) w hm
  rw [p_lit1.1, p_lit1.2] at h
  exact h
theorem lit_two (w : World) (hm : HasM w) : Calls Tryd.prog 61 #[.string ⟨#[49, 58, 58, 50, 58, 58, 51]⟩] w fun e w' => e = .returned (.tuple #[av (List.replicate 16 0), .int .i64 5]) ∧ Below w.heap.size w w' := by
  have h := cparse_any [49, 58, 58, 50, 58, 58, 51] (by decide) w hm
  rw [p_lit2.1, p_lit2.2] at h
  exact h
theorem lit_text (w : World) : Calls Tryd.prog 55 #[av exB] w fun e w' => e = .returned (.string ⟨#[58, 58, 102, 102, 102, 102, 58, 49, 48, 50, 58, 51, 48, 52]⟩) ∧ Below w.heap.size w w' := by
  have h := (ctext exB rfl).2.1 w
  rw [cT_lit] at h
  exact h
theorem Tryd.zero16 : (Tryd.prog.info? 22).map (fun i => (i.zero, i.size)) = some (some (.agg (List.replicate 16 (Value.int .u8 0)).toArray), 16) := by kernel_rfl
theorem Tryd.plain16 : Tryd.prog.eqGuardType Tryd.prog.depth 22 = false := by kernel_rfl

end Go.Proofs.YtccidoigjdbepaaDoor.Cl
