
/- Layer 36, mathematics: lines of a key and a value, blocks of them. -/
import Derived.Test.YtdiibbokdfmcbaaLinE
namespace Go.Proofs.Ytdiibbokdfmcbaa.Pln
open Lin

/-- The error of a pair as a line, and the line. -/
def tE (k v : List UInt8) : Nat := if k = [] ∨ 61 ∈ k ∨ 10 ∈ k ∨ 10 ∈ v then 5 else if 512 < k.length + 1 + v.length then 4 else 0
def tL (k v : List UInt8) : List UInt8 := if tE k v = 0 then k ++ 61 :: v else []

/-- The error of a line, and its pair. -/
def pE (l : List UInt8) : Nat := if 512 < l.length then 4 else if 61 ∉ l ∨ l.head? = some 61 ∨ 10 ∈ l then 5 else 0
def pK (l : List UInt8) : List UInt8 := if pE l = 0 then l.takeWhile (fun c => decide (c ≠ 61)) else []
def pV (l : List UInt8) : List UInt8 := if pE l = 0 then (l.dropWhile (fun c => decide (c ≠ 61))).drop 1 else []

theorem take_cut (a b : List UInt8) (h : (61 : UInt8) ∉ a) : (a ++ 61 :: b).takeWhile (fun c => decide (c ≠ 61)) = a ∧ (a ++ 61 :: b).dropWhile (fun c => decide (c ≠ 61)) = 61 :: b := by
  induction a with
  | nil => simp
  | cons x t ih =>
    have hx : x ≠ 61 := fun e => h (by simp [e])
    have := ih (fun e => h (by simp [e]))
    simp only [List.cons_append]
    rw [List.takeWhile_cons, List.dropWhile_cons]
    simp only [hx, ne_eq, not_false_eq_true, decide_true, if_true]
    exact ⟨congrArg _ this.1, this.2⟩

theorem pE_long (l : List UInt8) (h : 512 < l.length) : pE l = 4 := by simp [pE, h]
theorem pE_no (l : List UInt8) (h : l.length ≤ 512) (h1 : (61 : UInt8) ∉ l) : pE l = 5 := by
  rw [pE, if_neg (by omega), if_pos (.inl h1)]
theorem head_cut (a b : List UInt8) (h : (61 : UInt8) ∉ a) : (a ++ 61 :: b).head? = some 61 ↔ a = [] := by
  cases a with
  | nil => simp
  | cons x t => simp; intro e; exact h (by simp [e])
theorem pE_cut (a b : List UInt8) (h : (61 : UInt8) ∉ a) (hl : (a ++ 61 :: b).length ≤ 512) : pE (a ++ 61 :: b) = if a = [] ∨ 10 ∈ (a ++ 61 :: b) then 5 else 0 := by
  have h2 := head_cut a b h
  have h3 : ¬ (61 : UInt8) ∉ a ++ 61 :: b := by simp
  rw [pE, if_neg (by omega)]
  by_cases h4 : a = [] ∨ (10 : UInt8) ∈ a ++ 61 :: b
  · rw [if_pos h4, if_pos]
    rcases h4 with h4 | h4
    · exact .inr (.inl (h2.2 h4))
    · exact .inr (.inr h4)
  · rw [if_neg h4, if_neg]
    rintro (h5 | h5 | h5)
    · exact h3 h5
    · exact h4 (.inl (h2.1 h5))
    · exact h4 (.inr h5)
theorem p_cut (a b : List UInt8) (h : (61 : UInt8) ∉ a) (h0 : pE (a ++ 61 :: b) = 0) : pK (a ++ 61 :: b) = a ∧ pV (a ++ 61 :: b) = b := by
  obtain ⟨h1, h2⟩ := take_cut a b h
  rw [pK, pV, if_pos h0, if_pos h0, h1, h2]
  exact ⟨rfl, rfl⟩
theorem p_bad (l : List UInt8) (h : pE l ≠ 0) : pK l = [] ∧ pV l = [] := by simp [pK, pV, h]
/-- What a good line is. -/
theorem pE_ok (l : List UInt8) (h : pE l = 0) : ∃ a b, l = a ++ 61 :: b ∧ (61 : UInt8) ∉ a ∧ a ≠ [] ∧ (10 : UInt8) ∉ l ∧ l.length ≤ 512 ∧ pK l = a ∧ pV l = b := by
  have h1 : l.length ≤ 512 := by
    false_or_by_contra
    rw [pE_long l (by omega)] at h
    cases h
  rcases cut_cases 61 l with h2 | ⟨a, b, rfl, h2⟩
  · rw [pE_no l h1 h2] at h; cases h
  · have h3 := p_cut a b h2 h
    rw [pE_cut a b h2 h1] at h
    split at h
    · cases h
    · next h4 =>
      rw [not_or] at h4
      exact ⟨a, b, rfl, h2, h4.1, h4.2, h1, h3.1, h3.2⟩
theorem tE_ok (k v : List UInt8) (h : tE k v = 0) : k ≠ [] ∧ (61 : UInt8) ∉ k ∧ (10 : UInt8) ∉ k ∧ (10 : UInt8) ∉ v ∧ k.length + 1 + v.length ≤ 512 ∧ tL k v = k ++ 61 :: v := by
  have h0 := h
  unfold tE at h
  split at h
  · cases h
  · next h1 =>
    simp only [not_or] at h1
    split at h
    · cases h
    · exact ⟨h1.1, h1.2.1, h1.2.2.1, h1.2.2.2, by omega, by rw [tL, if_pos h0]⟩
theorem tE_mk (k v : List UInt8) (h1 : k ≠ []) (h2 : (61 : UInt8) ∉ k) (h3 : (10 : UInt8) ∉ k) (h4 : (10 : UInt8) ∉ v) (h5 : k.length + 1 + v.length ≤ 512) : tE k v = 0 := by
  rw [tE, if_neg (by simp [h1, h2, h3, h4]), if_neg (by omega)]
/-- What is parsed has just that line. -/
theorem t_p (l : List UInt8) (h : pE l = 0) : tE (pK l) (pV l) = 0 ∧ tL (pK l) (pV l) = l := by
  obtain ⟨a, b, rfl, h1, h2, h3, h4, h5, h6⟩ := pE_ok l h
  rw [h5, h6]
  have h7 : tE a b = 0 := tE_mk a b h2 h1 (fun e => h3 (by simp [e])) (fun e => h3 (by simp [e])) (by simp at h4; omega)
  exact ⟨h7, by rw [tL, if_pos h7]⟩
/-- Each line is parsed as its pair. -/
theorem p_t (k v : List UInt8) (h : tE k v = 0) : pE (tL k v) = 0 ∧ pK (tL k v) = k ∧ pV (tL k v) = v := by
  obtain ⟨h1, h2, h3, h4, h5, h6⟩ := tE_ok k v h
  rw [h6]
  have h7 : pE (k ++ 61 :: v) = 0 := by
    rw [pE_cut k v h2 (by simp; omega), if_neg]
    simp [h1, h3, h4]
  exact ⟨h7, p_cut k v h2 h7⟩
theorem tL_ok (k v : List UInt8) (h : tE k v = 0) : tL k v ≠ [] ∧ (10 : UInt8) ∉ tL k v := by
  obtain ⟨h1, h2, h3, h4, h5, h6⟩ := tE_ok k v h
  rw [h6]
  exact ⟨by simp, by simp [h3, h4]⟩
theorem pE_le (l : List UInt8) : pE l = 0 ∨ pE l = 4 ∨ pE l = 5 := by
  unfold pE; split
  · simp
  · split <;> simp
theorem tE_le (k v : List UInt8) : tE k v = 0 ∨ tE k v = 4 ∨ tE k v = 5 := by
  unfold tE; split
  · simp
  · split <;> simp
theorem tL_len (k v : List UInt8) : (tL k v).length ≤ 512 := by
  by_cases h : tE k v = 0
  · obtain ⟨h1, h2, h3, h4, h5, h6⟩ := tE_ok k v h
    rw [h6]; simp; omega
  · simp [tL, h]

/-- The first error of some. -/
def fstE (es : List Nat) : Nat := (es.find? (fun e => decide (e ≠ 0))).getD 0
theorem fstE_ok (es : List Nat) : fstE es = 0 ↔ ∀ e ∈ es, e = 0 := by
  induction es with
  | nil => simp [fstE]
  | cons x t ih =>
    unfold fstE at *
    rw [List.find?_cons]
    by_cases hx : x = 0
    · subst hx; simpa using ih
    · simp [hx]
theorem fstE_at (es : List Nat) (k : Nat) (e : Nat) (hk : es[k]? = some e) (he : e ≠ 0) (h : ∀ j < k, es[j]? = some 0) : fstE es = e := by
  induction es generalizing k with
  | nil => simp at hk
  | cons x t ih =>
    unfold fstE at *
    rw [List.find?_cons]
    cases k with
    | zero => simp at hk; subst hk; simp [he]
    | succ k =>
      have h0 := h 0 (by omega)
      simp at h0
      subst h0
      simp only [ne_eq, not_true_eq_false, decide_false]
      exact ih k (by simpa using hk) (fun j hj => by have := h (j + 1) (by omega); simpa using this)

abbrev Pr := List UInt8 × List UInt8
/-- The error of pairs as a block, and the block. -/
def bE (ps : List Pr) : Nat := if 400 < ps.length then 4 else fstE (ps.map fun p => tE p.1 p.2)
def bT (ps : List Pr) : List UInt8 := if bE ps = 0 then joinL (ps.map fun p => tL p.1 p.2) ++ [10] else []
/-- The lines of a block. -/
def IsBlk (l : List UInt8) (Q : List (List UInt8)) : Prop := parts 10 l = Q ++ [[], []] ∧ [] ∉ Q

theorem blk_cases (l : List UInt8) : (∃ Q, IsBlk l Q) ∨ ¬ ∃ Q, IsBlk l Q := Classical.em _
theorem IsBlk.one {l : List UInt8} {Q R : List (List UInt8)} (h : IsBlk l Q) (g : IsBlk l R) : Q = R := by
  have := h.1.symm.trans g.1
  exact List.append_cancel_right this
open Classical in
noncomputable def rE (l : List UInt8) : Nat := if h : ∃ Q, IsBlk l Q then (if 400 < h.choose.length then 4 else fstE (h.choose.map pE)) else 5
open Classical in
noncomputable def rP (l : List UInt8) : List Pr := if h : ∃ Q, IsBlk l Q then (if rE l = 0 then h.choose.map fun x => (pK x, pV x) else []) else []
theorem rE_no (l : List UInt8) (h : ¬ ∃ Q, IsBlk l Q) : rE l = 5 ∧ rP l = [] := by
  rw [rE, rP, dif_neg h, dif_neg h]; exact ⟨rfl, rfl⟩
theorem rE_yes (l : List UInt8) (Q : List (List UInt8)) (h : IsBlk l Q) : rE l = (if 400 < Q.length then 4 else fstE (Q.map pE)) ∧ rP l = if rE l = 0 then Q.map (fun x => (pK x, pV x)) else [] := by
  have hx : ∃ Q, IsBlk l Q := ⟨Q, h⟩
  have e := hx.choose_spec.one h
  constructor
  · rw [rE, dif_pos hx, e]
  · rw [rP, dif_pos hx, e]
theorem rP_bad (l : List UInt8) (h : rE l ≠ 0) : rP l = [] := by
  rcases blk_cases l with ⟨Q, hQ⟩ | hn
  · rw [(rE_yes l Q hQ).2, if_neg h]
  · exact (rE_no l hn).2

theorem parts_joinL (ls : List (List UInt8)) (h : ∀ x ∈ ls, (10 : UInt8) ∉ x) (m : List UInt8) : parts 10 (joinL ls ++ m) = ls ++ parts 10 m := by
  induction ls with
  | nil => rfl
  | cons x t ih =>
    have e : joinL (x :: t) ++ m = x ++ 10 :: (joinL t ++ m) := by simp [joinL]
    rw [e, parts_yes 10 x _ (h x (by simp)), ih (fun y hy => h y (by simp [hy]))]
    rfl

/-- Each block is read as its pairs. -/
theorem r_b (ps : List Pr) (h : bE ps = 0) : rE (bT ps) = 0 ∧ rP (bT ps) = ps := by
  have h0 := h
  unfold bE at h
  split at h
  · cases h
  · next h4 =>
    have h1 := (fstE_ok _).1 h
    have h2 : ∀ p ∈ ps, tE p.1 p.2 = 0 := fun p hp => h1 _ (List.mem_map.2 ⟨p, hp, rfl⟩)
    have hB : IsBlk (bT ps) (ps.map fun p => tL p.1 p.2) := by
      rw [bT, if_pos h0]
      refine ⟨?_, ?_⟩
      · rw [parts_joinL]
        · rfl
        · intro x hx
          obtain ⟨p, hp, rfl⟩ := List.mem_map.1 hx
          exact (tL_ok _ _ (h2 p hp)).2
      · intro hx
        obtain ⟨p, hp, e⟩ := List.mem_map.1 hx
        exact (tL_ok _ _ (h2 p hp)).1 e
    obtain ⟨g1, g2⟩ := rE_yes _ _ hB
    have g3 : rE (bT ps) = 0 := by
      rw [g1, if_neg (by simpa using h4), fstE_ok]
      intro e he
      simp only [List.map_map, List.mem_map] at he
      obtain ⟨p, hp, rfl⟩ := he
      exact (p_t _ _ (h2 p hp)).1
    refine ⟨g3, ?_⟩
    rw [g2, if_pos g3, List.map_map]
    conv => rhs; rw [← List.map_id ps]
    refine List.map_congr_left fun p hp => ?_
    have := p_t _ _ (h2 p hp)
    show (pK (tL p.1 p.2), pV (tL p.1 p.2)) = p
    rw [this.2.1, this.2.2]
/-- What is read has just that block. -/
theorem b_r (l : List UInt8) (h : rE l = 0) : bE (rP l) = 0 ∧ bT (rP l) = l := by
  rcases blk_cases l with ⟨Q, hQ⟩ | hn
  · obtain ⟨g1, g2⟩ := rE_yes l Q hQ
    rw [if_pos h] at g2
    rw [h] at g1
    split at g1
    · cases g1
    · next h4 =>
      have h2 : ∀ x ∈ Q, pE x = 0 := fun x hx => (fstE_ok _).1 g1.symm _ (List.mem_map.2 ⟨x, hx, rfl⟩)
      have h5 : bE (rP l) = 0 := by
        rw [g2, bE, if_neg (by simpa using h4), fstE_ok]
        intro e he
        simp only [List.map_map, List.mem_map] at he
        obtain ⟨x, hx, rfl⟩ := he
        exact (t_p x (h2 x hx)).1
      refine ⟨h5, ?_⟩
      rw [bT, if_pos h5, g2, List.map_map]
      have e1 : Q.map ((fun p : Pr => tL p.1 p.2) ∘ fun x => (pK x, pV x)) = Q := by
        conv => rhs; rw [← List.map_id Q]
        exact List.map_congr_left fun x hx => (t_p x (h2 x hx)).2
      rw [e1]
      have e2 := joinL_parts l
      rw [hQ.1] at e2
      have e3 : joinL (Q ++ [[], []]) = (joinL Q ++ [10]) ++ [10] := by simp [joinL]
      rw [e3] at e2
      exact List.append_cancel_right e2
  · rw [(rE_no l hn).1] at h; cases h

end Go.Proofs.Ytdiibbokdfmcbaa.Pln
