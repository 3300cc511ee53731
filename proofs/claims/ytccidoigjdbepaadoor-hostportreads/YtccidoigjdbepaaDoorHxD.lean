
/- Layer 12. Mathematics: an endpoint's text is parsed as it; the chapter's examples. -/
import Derived.Test.YtccidoigjdbepaaDoorHxC
import Derived.Test.YtccidoigjdbepaaDoorCxF
namespace Go.Proofs.YtccidoigjdbepaaDoor
open Go.RowKit Dec Lin Qd
set_option maxRecDepth 100000
set_option linter.unusedVariables false
set_option linter.unusedSimpArgs false

theorem kC_at (a b : List UInt8) (h : (93 : UInt8) ∉ a) : kC (a ++ [93, 58] ++ b) = (a, b, true) := by
  have hi : Lib.index (a ++ [93, 58] ++ b) [93, 58] = (a.length : Int) := by
    refine Lib.index_first (by simp) ?_ ?_
    · rw [occ_ab, List.append_assoc, List.getElem?_append_right (Nat.le_refl _), List.getElem?_append_right (Nat.le_succ _), show a.length - a.length = 0 by omega, show a.length + 1 - a.length = 1 by omega]
      rfl
    · intro j hj
      rw [occ_ab, List.append_assoc, List.getElem?_append_left hj]
      have : a[j]? ≠ some 93 := fun e => h (List.mem_of_getElem? e)
      have h2 : (a[j]? == some 93) = false := by rw [beq_eq_false_iff_ne]; exact this
      rw [h2]
      rfl
  unfold kC Lib.cut
  rw [if_pos (by omega), hi, Int.toNat_natCast, show ([93, 58] : List UInt8).length = 2 from rfl]
  rw [List.append_assoc, List.take_left' rfl, ← List.append_assoc, List.drop_left' (by simp)]
theorem ds_ne (x : UInt8) : ds x ≠ [] := (dec_props x.toNat).1.1
theorem qT_first (a b c d : UInt8) (r : List UInt8) : (qT a b c d ++ 58 :: r)[0]? ≠ some 91 := by
  intro h
  have hn := qT_chars 91 (by decide) (by decide) a b c d
  cases hq : qT a b c d with
  | nil => rw [hq] at h; simp at h
  | cons x y =>
    rw [hq] at h hn
    simp at h
    subst h
    exact hn (by simp)
/-- An endpoint's text is parsed as it. -/
theorem h_back (p : Pfx) (hp : p.l.length = 16) (hr : rightH p = true) : hX (txH p) = (0, p) := by
  obtain ⟨f1, f2, f3⟩ := rightH_facts p hr
  obtain ⟨e1, e2, e3⟩ := a_back p.v p.l hp f1
  obtain ⟨n1, n2⟩ := n_back 65535 p.bits.toNat (by omega)
  have hb : ((p.bits.toNat : Nat) : Int) = p.bits := by omega
  have key : rdH (txA p.v p.l) (Lib.decDigits p.bits.toNat) true = (0, p) := by
    unfold rdH
    rw [if_neg (by decide), if_neg (by omega), if_neg (by omega), n2, if_neg (by omega), e2, e3, hb]
  have hs : spX (txH p) = (txA p.v p.l, Lib.decDigits p.bits.toNat, true) := by
    unfold txH
    rw [if_pos hr]
    rcases okA_v p.v p.l f1 with hv | hv
    · rw [if_neg (by omega)]
      rw [hv] at f1 ⊢
      obtain ⟨a, b, c, d, hl⟩ := four_form p.l hp f1
      rw [hl, txA_4]
      exact spX_4 _ _ (qT_chars 58 (by decide) (by decide) a b c d) (qT_first a b c d _)
    · rw [if_pos hv, hv, txA_6]
      have e : [91] ++ Cl.cT p.l ++ [93] ++ ([58] ++ Lib.decDigits p.bits.toNat) = 91 :: (Cl.cT p.l ++ [93, 58] ++ Lib.decDigits p.bits.toNat) := by simp
      rw [e, spX_6, kC_at _ _ (cT_chars 93 (by decide) (by decide) p.l), decide_eq_true (cT_colon p.l hp)]
      rfl
  unfold hX
  rw [hs]
  exact key
theorem rdH_ok (h t : List UInt8) (ok : Bool) : pfxOk (rdH h t ok).2 ∧ ((rdH h t ok).1 = 0 → rightH (rdH h t ok).2 = true) := by
  have hz : pfxOk zP := ⟨(by unfold in64; omega : in64 0), rfl, (by unfold in64; omega : in64 0)⟩
  have hv : in64 (aV h) := by unfold aV in64; split <;> (try split) <;> omega
  have hn := nV_le 65535 t
  cases ok with
  | false => rw [rdH_no]; exact ⟨hz, fun e => by cases e⟩
  | true =>
    rcases rdH_case h t with ⟨h1, e⟩ | ⟨h1, h2, e⟩ | ⟨h1, h2, h3, e⟩ | ⟨h1, h2, h3, e⟩
    · rw [e]; exact ⟨hz, fun e => by have e : aE h = 0 := e; rw [e] at h1; exact absurd h1 (by decide)⟩
    · rw [e]; exact ⟨hz, fun e => by have e : nE 65535 t = 0 := e; rw [e] at h2; exact absurd h2 (by decide)⟩
    · rw [e]; exact ⟨hz, fun e => by cases e⟩
    · rw [e]
      have hne : nV 65535 t ≠ 0 := by rw [beq_eq_false_iff_ne] at h3; omega
      refine ⟨⟨hv, aL_len h, (by unfold in64; omega : in64 (nV 65535 t : Int))⟩, fun _ => ?_⟩
      unfold rightH
      show (okA (aV h) (aL h) && (decide (1 ≤ (nV 65535 t : Int)) && decide ((nV 65535 t : Int) ≤ 65535))) = true
      rw [a_ok h h1, decide_eq_true (by omega), decide_eq_true (by omega)]
      rfl
theorem hX_ok (l : List UInt8) : pfxOk (hX l).2 ∧ ((hX l).1 = 0 → rightH (hX l).2 = true) := rdH_ok _ _ _
theorem txH_len (p : Pfx) (hp : p.l.length = 16) : (txH p).length ≤ 200 := by
  unfold txH
  split
  · next h =>
    obtain ⟨_, f2, f3⟩ := rightH_facts p h
    have h1 := txA_len p.v p.l hp
    have h2 := nn_len p.bits.toNat (by omega)
    split <;> simp <;> omega
  · simp

/-! The chapter's examples. -/
def ex3 : Pfx := ⟨6, [0, 0, 0, 0, 0, 0, 0, 0, 0, 0, 0, 0, 0, 0, 0, 1], 51820⟩
theorem ex3_ok : pfxOk ex3 := ⟨(by unfold in64; omega : in64 6), rfl, (by unfold in64; omega : in64 51820)⟩
theorem ex3_r : rightH ex3 = true := by
  unfold rightH
  show (okA 6 ex3.l && (decide ((1 : Int) ≤ 51820) && decide ((51820 : Int) ≤ 65535))) = true
  rw [okA6]
  rfl
theorem dg51820 : Lib.decDigits 51820 = [53, 49, 56, 50, 48] := by
  rw [dec_step 51820 (by omega), show 51820 / 10 = 5182 from rfl, dec_step 5182 (by omega), show 5182 / 10 = 518 from rfl, dec_step 518 (by omega), show 518 / 10 = 51 from rfl, dec_step 51 (by omega), show 51 / 10 = 5 from rfl, dec_small 5 (by omega)]
  rfl
theorem tx_3 : txH ex3 = [91, 58, 58, 49, 93, 58, 53, 49, 56, 50, 48] := by
  unfold txH
  rw [if_pos ex3_r, if_pos (show ex3.v = 6 from rfl)]
  show [91] ++ txA 6 ex3.l ++ [93] ++ ([58] ++ Lib.decDigits 51820) = _
  rw [txA_6, dg51820, show Cl.cT ex3.l = [58, 58, 49] from by decide +kernel]
  rfl
theorem hX_3 : hX [91, 58, 58, 49, 93, 58, 53, 49, 56, 50, 48] = (0, ex3) := by
  rw [← tx_3]
  exact h_back ex3 rfl ex3_r
theorem hX_4 : hX [58, 58, 49, 58, 53, 49, 56, 50, 48] = (5, zP) := by
  have hs : spX [58, 58, 49, 58, 53, 49, 56, 50, 48] = ([], [58, 49, 58, 53, 49, 56, 50, 48], true) := spX_4 [] [58, 49, 58, 53, 49, 56, 50, 48] (by simp) (by decide)
  have he : aE [] = 5 := by
    unfold aE
    rw [if_neg (by simp)]
    exact (q_not [] (by decide)).1
  unfold hX
  rw [hs]
  show rdH [] _ true = _
  unfold rdH
  rw [if_neg (by decide), if_pos (by rw [he]; decide), he]
theorem lit_h1 (w : World) (hm : Cl.HasM w) : Calls Tryd.prog 50 #[.string ⟨#[91, 58, 58, 49, 93, 58, 53, 49, 56, 50, 48]⟩] w fun e w' => e = .returned (.tuple #[.agg (pf ex3), .int .i64 0]) ∧ Below w.heap.size w w' := by
  have h := hparse_any [91, 58, 58, 49, 93, 58, 53, 49, 56, 50, 48] (by decide) w hm
  rw [hX_3] at h
  exact h
theorem lit_h2 (w : World) (hm : Cl.HasM w) : Calls Tryd.prog 50 #[.string ⟨#[58, 58, 49, 58, 53, 49, 56, 50, 48]⟩] w fun e w' => e = .returned (.tuple #[.agg (pf zP), .int .i64 5]) ∧ Below w.heap.size w w' := by
  have h := hparse_any [58, 58, 49, 58, 53, 49, 56, 50, 48] (by decide) w hm
  rw [hX_4] at h
  exact h
theorem lit_h3 (w : World) (htab : Tab w) : Calls Tryd.prog 44 #[.agg (pf ex3)] w fun e w' => e = .returned (.string ⟨#[91, 58, 58, 49, 93, 58, 53, 49, 56, 50, 48]⟩) ∧ Below w.heap.size w w' := by
  have h := htext_any ex3 ex3_ok w htab
  rw [tx_3] at h
  exact h
theorem lit_h4 (w : World) : Calls Tryd.prog 48 #[.agg (pf zP)] w fun e w' => e = .returned (.bool true) ∧ Below w.heap.size w w' := by
  have h := hnone_any zP rfl w
  rw [pfxEq_self] at h
  exact h

set_option maxHeartbeats 2000000 in
theorem alive12 (w : World) (htab : Tab w) (hm : Cl.HasM w) : Calls Tryd.prog 49 #[] w fun e w' => e = .returned (.bool true) ∧ Below w.heap.size w w' := by
  have HM := Lib.hid hm
  have Htab := Lib.hid htab
  have hpos := hm.pos
  have H1 := Lib.hid (fun W h => lit_h1 W h)
  have H2 := Lib.hid (fun W h => lit_h2 W h)
  have H3 := Lib.hid (fun W h => lit_h3 W h)
  have H4 := Lib.hid (fun W => lit_h4 W)
  have x1 := pf_size ex3 rfl
  have x2 := pf_size zP rfl
  have o1 := pf_one ex3
  have o2 := pf_one zP
  have z1 : (Tryd.prog.info? 60).map (·.size) = some (pf ex3).size := by rw [x1]; exact Tryd.infoEnd
  have hz := (zero_of_info Tryd.zeroEnd).1
  have hne : ¬ pf zP = #[] := by simp [pf, pfxC]
  clear hm htab
  generalize pf ex3 = P at *
  generalize pf zP = Q at *
  go_enter Tryd.func49, Tryd.ntmps49
  go_wp2_with fail
  refine (H1.out _ HM.out).mono ?_; rintro e w1 ⟨rfl, hb1⟩
  have k1 : Blk (w1.alloc (.cells P 60)) w1.heap.size 60 P := blk_new _ _ _
  have b1 := hb1.alloc hb1.size (.cells P 60)
  clear hb1
  go_wp2_with (first
    | (refine wpList_allocStore (cs := P) rfl rfl 60 ?ho (.tmp 1) (.tmp 7) ?ho2 Tryd.zeroEnd rfl ?hx ?hy ?hn ?h1 ?_
       case ho => with_reducible rfl
       case ho2 => with_reducible rfl
       case hx => rfl
       case hy => rfl
       case hn => exact x1
       case h1 => exact o1)
    | fail)
  refine (H2.out _ (HM.out.on b1 hpos)).mono ?_; rintro e w3 ⟨rfl, hb3⟩
  have k3 := (k1.on (by exact hb3)).alloc (.cells Q 60)
  have b3 := Below.on b1 b1.size (by exact hb3)
  have b3 := b3.alloc b3.size (.cells Q 60)
  clear hb3 k1 b1
  go_wp2_with (first
    | (refine wpList_allocStore (cs := Q) rfl rfl 60 ?ho (.tmp 3) (.tmp 11) ?ho2 Tryd.zeroEnd rfl ?hx ?hy ?hn ?h1 ?_
       case ho => with_reducible rfl
       case ho2 => with_reducible rfl
       case hx => rfl
       case hy => rfl
       case hn => exact x2
       case h1 => exact o2)
    | (refine wpList_loadBlk (g := w1.heap.size) (t := 60) (cs := P) ?hw 60 (.tmp 1) ?ho ?hx ?hA _ Tryd.underlying60 rfl ?hi ?_
       case hw => rfl
       case ho => with_reducible rfl
       case hx => rfl
       case hA => exact k3
       case hi => exact z1)
    | fail)
  refine (H3.out _ (Htab.out.on b3)).mono ?_; rintro e w5 ⟨rfl, hb5⟩
  have b5 := Below.on b3 b3.size (by exact hb5)
  clear hb5 k3 b3
  go_wp2_with fail
  refine (H4.out _).mono ?_; rintro e w7 ⟨rfl, hb7⟩
  have b7 := Below.on b5 b5.size (by exact hb7)
  go_wp2
  go_ret
  exact ⟨rfl, b7⟩
end Go.Proofs.YtccidoigjdbepaaDoor
