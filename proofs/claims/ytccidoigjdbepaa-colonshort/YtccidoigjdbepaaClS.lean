
/- Layer 9. Mathematics: no text without a quad is shorter than the one that is written by more than one byte. -/
import Derived.Test.YtccidoigjdbepaaClR
import Derived.Test.YtccidoigjdbepaaClO
namespace Go.Proofs.Ytccidoigjdbepaa.Cl
open Go.RowKit Lin Qd
set_option maxRecDepth 100000
set_option linter.unusedVariables false

theorem no_dot (c : UInt8) (l : List UInt8) (h : (parts c l).length ≤ 1) : c ∉ l := by
  rcases cut_cases c l with h1 | ⟨a, b, rfl, h1⟩
  · exact h1
  · rw [parts_yes c a b h1] at h
    obtain ⟨x, r, e⟩ := parts_ne c b
    rw [e] at h
    simp at h
theorem part_mem (s : UInt8) : ∀ l : List UInt8, ∀ x ∈ parts s l, ∀ c ∈ x, c ∈ l := by
  intro l
  induction l with
  | nil => intro x hx; simp [parts] at hx; subst hx; intro c hc; cases hc
  | cons a t ih =>
    intro x hx c hc
    unfold parts at hx
    split at hx
    · rcases List.mem_cons.1 hx with h | h
      · subst h; cases hc
      · exact List.mem_cons_of_mem _ (ih x h c hc)
    · obtain ⟨p, q, e⟩ := parts_ne s t
      rw [e] at hx
      simp only at hx
      rcases List.mem_cons.1 hx with h | h
      · subst h
        rcases List.mem_cons.1 hc with rfl | hc
        · simp
        · exact List.mem_cons_of_mem _ (ih p (by rw [e]; simp) c hc)
      · exact List.mem_cons_of_mem _ (ih x (by rw [e]; simp [h]) c hc)
theorem q_dot (x : List UInt8) (h : (46 : UInt8) ∉ x) : Qd.qE x ≠ 0 := by
  rw [(q_not x (by rw [parts_no 46 x h]; simp)).1]
  decide
def cost (g : List Nat) : Nat := (g.map fun n => nd n + 1).sum
theorem cost_nil : cost [] = 0 := rfl
theorem cost_cons (n : Nat) (g : List Nat) : cost (n :: g) = nd n + 1 + cost g := rfl
theorem cost_app (g h : List Nat) : cost (g ++ h) = cost g + cost h := by unfold cost; rw [List.map_append, List.sum_append]
theorem cost_zero (r : Nat) : cost (List.replicate r 0) = 2 * r := by
  induction r with
  | zero => rfl
  | succ k ih => rw [List.replicate_succ, cost_cons, ih, show nd 0 = 1 from rfl]; omega
theorem row_cost (g : List Nat) : (g = [] ∧ (row g).length = 0 ∧ cost g = 0) ∨ (g ≠ [] ∧ (row g).length + 1 = cost g) := by
  induction g with
  | nil => exact .inl ⟨rfl, rfl, rfl⟩
  | cons n r ih =>
    refine .inr ⟨by simp, ?_⟩
    cases r with
    | nil => rw [row_one, hx_nd, cost_cons, cost_nil]
    | cons m s =>
      rcases ih with ⟨h, _⟩ | ⟨_, h⟩
      · cases h
      · rw [row_cons, cost_cons, List.length_append, List.length_cons, hx_nd]; omega
theorem nd_len (x : List UInt8) (n : Nat) (h : gV x = some n) : nd n ≤ x.length := by
  obtain ⟨h1, h4, _, h2, _⟩ := gV_some x n h
  have := Hex.grpVal_lt x x.length (Nat.le_refl _)
  rw [List.take_length, ← h2] at this
  have e1 : x.length = 1 ∨ x.length = 2 ∨ x.length = 3 ∨ x.length = 4 := by omega
  have h4' := nd_le n
  rcases e1 with e | e | e | e
  · rw [e] at this ⊢; unfold nd; rw [if_pos (by omega)]; omega
  · rw [e] at this ⊢; unfold nd; repeat (split <;> try omega)
  · rw [e] at this ⊢; unfold nd; repeat (split <;> try omega)
  · omega
theorem rdRow_cost (q : Bool) (P : List (List UInt8)) (L : List Nat) (hq : ∀ x ∈ P, Qd.qE x ≠ 0) (h : rdRow q P = some L) : cost L ≤ (P.map fun x => x.length + 1).sum ∧ L.length = P.length := by
  induction P generalizing L with
  | nil => rw [rdRow] at h; injection h with h; subst h; exact ⟨Nat.le_refl _, rfl⟩
  | cons p ps ih =>
    rw [rdRow] at h
    split at h
    · next n hn =>
      match hr : rdRow q ps, h with
      | some L', h =>
        simp only [Option.map_some, Option.some.injEq] at h
        subst h
        obtain ⟨i1, i2⟩ := ih L' (fun x hx => hq x (by simp [hx])) hr
        have := nd_len p n hn
        refine ⟨?_, by simp [i2]⟩
        rw [cost_cons, List.map_cons, List.sum_cons]
        omega
      | none, h => simp at h
    · split at h
      · next hc => exact absurd hc.1 (hq p (by simp))
      · cases h
theorem parts_sum (s : UInt8) : ∀ l : List UInt8, ((parts s l).map fun x => x.length + 1).sum = l.length + 1 := by
  intro l
  induction l with
  | nil => rfl
  | cons a t ih =>
    unfold parts
    split
    · rw [List.map_cons, List.sum_cons, ih]; simp; omega
    · obtain ⟨p, q, e⟩ := parts_ne s t
      rw [e] at ih ⊢
      simp only [List.map_cons, List.sum_cons, List.length_cons] at ih ⊢
      omega
theorem rdS_cost (q : Bool) (l : List UInt8) (L : List Nat) (h46 : (46 : UInt8) ∉ l) (h : rdS q l = some L) : (L = [] ∧ cost L = 0) ∨ (1 ≤ L.length ∧ cost L ≤ l.length + 1) := by
  unfold rdS at h
  split at h
  · injection h with h; subst h; exact .inl ⟨rfl, rfl⟩
  · obtain ⟨h1, h2⟩ := rdRow_cost q _ L (fun x hx => q_dot x (fun hm => h46 (part_mem 58 l x hx 46 hm))) h
    rw [parts_sum] at h1
    obtain ⟨x, r, e⟩ := parts_ne 58 l
    exact .inr ⟨by rw [h2, e]; simp, h1⟩
theorem take_drop_cost (G : List Nat) (hl : G.length = 8) (f t : Nat) (hft : f ≤ t) (ht : t ≤ 8) (hz : ∀ i, f ≤ i → i < t → G[i]? = some 0) : cost G = cost (G.take f) + 2 * (t - f) + cost (G.drop t) := by
  have h := mid_back G hl f t hft ht hz
  have e : 8 - (G.take f).length - (G.drop t).length = t - f := by rw [List.length_take, List.length_drop, hl]; omega
  unfold gMid at h
  rw [e] at h
  have h2 := congrArg cost h
  rw [cost_app, cost_app, cost_zero] at h2
  omega
theorem short (l : List UInt8) (G : List Nat) (h46 : (46 : UInt8) ∉ l) (hG : pG l = some G) : (cT (bOf G)).length ≤ l.length + 1 := by
  have hall : G.length = 8 ∧ ∀ n ∈ G, n < 65536 := by
    unfold pG at hG
    split at hG
    · next F B hF hB =>
      split at hG
      · next hf => injection hG with hG; subst hG; exact ⟨gMid_len _ _ (gFits_le _ _ _ hf), gMid_lt _ _ (rdS_lt _ _ _ hF) (rdS_lt _ _ _ hB)⟩
      · cases hG
    · cases hG
  obtain ⟨hl, h16⟩ := hall
  have hgb := gOf_bOf G h16
  obtain ⟨a1, a2, a3, a4⟩ := lz_all G hl
  have hc := take_drop_cost G hl _ _ a1 a2 a3
  have r1 := row_cost (G.take (lz (zsOf G) 8).1)
  have r2 := row_cost (G.drop (lz (zsOf G) 8).2.1)
  have r0 := row_cost G
  have t1 : (G.take (lz (zsOf G) 8).1).length = (lz (zsOf G) 8).1 := by rw [List.length_take]; omega
  have t2 : (G.drop (lz (zsOf G) 8).2.1).length = 8 - (lz (zsOf G) 8).2.1 := by rw [List.length_drop, hl]
  have hcT : ((lz (zsOf G) 8).2.1 - (lz (zsOf G) 8).1 < 2 ∧ (cT (bOf G)).length = (row G).length) ∨ (2 ≤ (lz (zsOf G) 8).2.1 - (lz (zsOf G) 8).1 ∧ (cT (bOf G)).length = (row (G.take (lz (zsOf G) 8).1)).length + 2 + (row (G.drop (lz (zsOf G) 8).2.1)).length) := by
    by_cases h : (lz (zsOf G) 8).2.1 - (lz (zsOf G) 8).1 < 2
    · left
      refine ⟨h, ?_⟩
      rw [cT_few _ (by rw [hgb]; exact h), hgb]
    · right
      refine ⟨by omega, ?_⟩
      rw [cT_many _ (by rw [hgb]; exact h), hgb]
      simp
      omega
  have hr0 : (row G).length + 1 = cost G := by
    rcases r0 with ⟨h, _⟩ | ⟨_, h⟩
    · rw [h] at hl; cases hl
    · exact h
  generalize (lz (zsOf G) 8).1 = f at *
  generalize (lz (zsOf G) 8).2.1 = t at *
  have q1 : (f = 0 ∧ (row (G.take f)).length = 0 ∧ cost (G.take f) = 0) ∨ (0 < f ∧ (row (G.take f)).length + 1 = cost (G.take f)) := by
    rcases r1 with ⟨h, h'⟩ | ⟨h, h'⟩
    · rw [h] at t1; exact .inl ⟨t1.symm, h'⟩
    · refine .inr ⟨?_, h'⟩
      rcases Nat.eq_zero_or_pos f with h0 | h0
      · exact absurd (List.eq_nil_of_length_eq_zero (t1.trans h0)) h
      · exact h0
  have q2 : (t = 8 ∧ (row (G.drop t)).length = 0 ∧ cost (G.drop t) = 0) ∨ (t < 8 ∧ (row (G.drop t)).length + 1 = cost (G.drop t)) := by
    rcases r2 with ⟨h, h'⟩ | ⟨h, h'⟩
    · rw [h] at t2; simp at t2; exact .inl ⟨by omega, h'⟩
    · refine .inr ⟨?_, h'⟩
      rcases Nat.lt_or_ge t 8 with h0 | h0
      · exact h0
      · exact absurd (List.eq_nil_of_length_eq_zero (by omega)) h
  clear r0 r1 r2 t1 t2
  rcases gp_cases l with hgp | ⟨k, hgp, hkl⟩
  · rw [pG_no l hgp] at hG
    cases hR : rdS true l with
    | none => rw [hR] at hG; cases hG
    | some F =>
      rw [hR] at hG
      simp only at hG
      split at hG
      · injection hG with hG
        subst hG
        have := rdS_cost true l F h46 hR
        rcases this with ⟨h, _⟩ | ⟨_, h⟩
        · rw [h] at hl; cases hl
        · omega
      · cases hG
  · rw [pG_yes l k hgp] at hG
    cases hF : rdS false (l.take k) with
    | none => rw [hF] at hG; cases hG
    | some F =>
      cases hB : rdS true (l.drop (k + 2)) with
      | none => rw [hF, hB] at hG; cases hG
      | some B =>
        rw [hF, hB] at hG
        simp only at hG
        split at hG
        · next h7 =>
          injection hG with hG
          have c1 := rdS_cost false _ F (fun hm => h46 (List.mem_of_mem_take hm)) hF
          have c2 := rdS_cost true _ B (fun hm => h46 (List.mem_of_mem_drop hm)) hB
          rw [List.length_take] at c1
          rw [List.length_drop] at c2
          have hz : 8 - F.length - B.length ≤ t - f := by
            refine a4 F.length (8 - F.length - B.length) (by omega) (fun j hj => ?_)
            rw [← hG]
            unfold gMid
            rw [List.append_assoc, List.getElem?_append_right (by omega), List.getElem?_append_left (by rw [List.length_replicate]; omega), List.getElem?_replicate, if_pos (by omega)]
          have hcc : cost G = cost F + 2 * (8 - F.length - B.length) + cost B := by
            rw [← hG]
            unfold gMid
            rw [cost_app, cost_app, cost_zero]
          have c1' : (F.length = 0 ∧ cost F = 0) ∨ (1 ≤ F.length ∧ cost F ≤ k + 1) := by
            rcases c1 with ⟨h, h'⟩ | ⟨h, h'⟩
            · exact .inl ⟨by rw [h]; rfl, h'⟩
            · exact .inr ⟨h, by omega⟩
          have c2' : (B.length = 0 ∧ cost B = 0) ∨ (1 ≤ B.length ∧ cost B ≤ l.length - (k + 2) + 1) := by
            rcases c2 with ⟨h, h'⟩ | ⟨h, h'⟩
            · exact .inl ⟨by rw [h]; rfl, h'⟩
            · exact .inr ⟨h, by omega⟩
          clear c1 c2 a3 a4 hG
          omega
        · cases hG
end Go.Proofs.Ytccidoigjdbepaa.Cl
