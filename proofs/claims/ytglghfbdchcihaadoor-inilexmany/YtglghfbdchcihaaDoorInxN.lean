
/- What lines of a file say, as plain functions of lists of bytes (layer 42). -/
import Derived.Test.YtglghfbdchcihaaDoorTrmN
import Derived.Test.YtglghfbdchcihaaDoorLinC
namespace Go.Proofs.YtglghfbdchcihaaDoor.Inx
open Go.Proofs.YtglghfbdchcihaaDoor.Lin

def ahead (c : UInt8) (l : List UInt8) : List UInt8 := l.takeWhile (fun x => decide (x ≠ c))
def behind (c : UInt8) (l : List UInt8) : List UInt8 := (l.dropWhile (fun x => decide (x ≠ c))).drop 1

theorem cut_no' (c : UInt8) : ∀ (l : List UInt8), c ∉ l → l.takeWhile (fun x => decide (x ≠ c)) = l ∧ l.dropWhile (fun x => decide (x ≠ c)) = []
  | [], _ => ⟨rfl, rfl⟩
  | x :: t, h => by
    have hx : x ≠ c := fun e => h (by simp [e])
    have ih := cut_no' c t (fun h' => h (List.mem_cons_of_mem _ h'))
    simp only [List.takeWhile_cons, List.dropWhile_cons, ne_eq, hx, not_false_eq_true, decide_true, ite_true]
    exact ⟨by rw [show (List.takeWhile (fun x => decide ¬x = c) t) = t from ih.1], ih.2⟩
theorem cut_yes' (c : UInt8) (b : List UInt8) : ∀ (a : List UInt8), c ∉ a → (a ++ c :: b).takeWhile (fun x => decide (x ≠ c)) = a ∧ (a ++ c :: b).dropWhile (fun x => decide (x ≠ c)) = c :: b
  | [], _ => by simp
  | x :: t, h => by
    have hx : x ≠ c := fun e => h (by simp [e])
    have ih := cut_yes' c b t (fun h' => h (List.mem_cons_of_mem _ h'))
    simp only [List.cons_append, List.takeWhile_cons, List.dropWhile_cons, ne_eq, hx, not_false_eq_true, decide_true, ite_true]
    exact ⟨by rw [show (List.takeWhile (fun x => decide ¬x = c) (t ++ c :: b)) = t from ih.1], ih.2⟩
theorem ahead_no (c : UInt8) (l : List UInt8) (h : c ∉ l) : ahead c l = l ∧ behind c l = [] := by
  obtain ⟨h1, h2⟩ := cut_no' c l h
  exact ⟨h1, by unfold behind; rw [h2]; rfl⟩
theorem ahead_yes (c : UInt8) (a b : List UInt8) (h : c ∉ a) : ahead c (a ++ c :: b) = a ∧ behind c (a ++ c :: b) = b := by
  obtain ⟨h1, h2⟩ := cut_yes' c b a h
  exact ⟨h1, by unfold behind; rw [h2]; rfl⟩
theorem ahead_le (c : UInt8) (l : List UInt8) : (ahead c l).length ≤ l.length := (List.takeWhile_sublist _).length_le
theorem behind_le (c : UInt8) (l : List UInt8) : (behind c l).length ≤ l.length := by
  unfold behind
  rw [List.length_drop]
  have := (List.dropWhile_sublist (l := l) (fun x => decide (x ≠ c))).length_le
  omega

/-- What a line says. -/
def saidL (l : List UInt8) : List UInt8 := trim (ahead 35 l)
theorem said_le (l : List UInt8) : (saidL l).length ≤ l.length := Nat.le_trans (trim_le _) (ahead_le _ _)

/-- The section's name, and the pair's, not yet folded. -/
def secN (t : List UInt8) : List UInt8 := trim (t.drop 1).dropLast
def prN (t : List UInt8) : List UInt8 := trim (ahead 61 t)
/-- Is it a section, or a pair? -/
def isSec (t : List UInt8) : Bool := decide (t.head? = some 91)
abbrev okSec (t : List UInt8) : Prop := (t.drop 1).getLast? = some 93 ∧ secN t ≠ []
abbrev okPr (t : List UInt8) : Prop := (61 : UInt8) ∈ t ∧ prN t ≠ []
def oneE (t : List UInt8) : Nat := if isSec t = true then (if okSec t then 0 else 5) else if okPr t then 0 else 5
def oneN (t : List UInt8) : List UInt8 := if isSec t = true then fold (secN t) else fold (prN t)
def oneV (t : List UInt8) : List UInt8 := if isSec t = true then [] else trim (behind 61 t)

theorem fold_ne (l : List UInt8) (h : l ≠ []) : fold l ≠ [] := by
  unfold fold
  simpa using h
theorem oneN_ne (t : List UInt8) (h : oneE t = 0) : oneN t ≠ [] := by
  unfold oneE at h
  unfold oneN
  split
  · rename_i h1
    rw [if_pos h1] at h
    split at h
    · rename_i h2; exact fold_ne _ h2.2
    · omega
  · rename_i h1
    rw [if_neg h1] at h
    split at h
    · rename_i h2; exact fold_ne _ h2.2
    · omega

/-- What is told of a line: an error, or an item, if it says something. -/
def lineE (l : List UInt8) : Nat := if 512 < l.length then 4 else if saidL l = [] then 0 else oneE (saidL l)

structure It where
  s : Bool
  n : List UInt8
  v : List UInt8
  k : Nat

/-- The items of a line, of lines. -/
def itL (k : Nat) (l : List UInt8) : List It := if saidL l = [] then [] else [⟨isSec (saidL l), oneN (saidL l), oneV (saidL l), k + 1⟩]
def its : Nat → List (List UInt8) → List It
  | _, [] => []
  | k, l :: r => itL k l ++ its (k + 1) r
theorem its_snoc (x : List UInt8) : ∀ (a : List (List UInt8)) (k : Nat), its k (a ++ [x]) = its k a ++ itL (k + a.length) x
  | [], k => by simp [its]
  | y :: a, k => by
    simp only [List.cons_append, its, its_snoc x a (k + 1), List.append_assoc, List.length_cons]
    rw [show k + 1 + a.length = k + (a.length + 1) by omega]
theorem its_take (ls : List (List UInt8)) (k : Nat) (x : List UInt8) (h : ls[k]? = some x) : its 0 (ls.take (k + 1)) = its 0 (ls.take k) ++ itL k x := by
  obtain ⟨hk, rfl⟩ := List.getElem?_eq_some_iff.1 h
  rw [List.take_succ_eq_append_getElem hk, its_snoc, List.length_take, Nat.min_eq_left (Nat.le_of_lt hk), Nat.zero_add]
theorem itL_len (k : Nat) (l : List UInt8) : (itL k l).length ≤ 1 := by
  unfold itL; split <;> simp
theorem its_len : ∀ (ls : List (List UInt8)) (k : Nat), (its k ls).length ≤ ls.length
  | [], _ => by simp [its]
  | l :: r, k => by
    have h1 := itL_len k l
    have h2 := its_len r (k + 1)
    simp only [its, List.length_append, List.length_cons]
    omega

/-- The first k lines are right. -/
def Good (ls : List (List UInt8)) (k : Nat) : Prop := ∀ j < k, ∀ x, ls[j]? = some x → lineE x = 0
theorem Good.start (ls : List (List UInt8)) : Good ls 0 := fun j hj => absurd hj (by omega)
theorem Good.next {ls : List (List UInt8)} {k : Nat} {x : List UInt8} (h : Good ls k) (hx : ls[k]? = some x) (h0 : lineE x = 0) : Good ls (k + 1) := by
  intro j hj y hy
  rcases Nat.lt_or_ge j k with h1 | h1
  · exact h j h1 y hy
  · obtain rfl : j = k := by omega
    rw [hx] at hy
    injection hy with hy
    rw [← hy]; exact h0

/-- What is told of lines: the error, the line's number, the items. -/
def Lexes (ls : List (List UInt8)) (E at' : Nat) (I : List It) : Prop :=
  (∃ k x, k < 400 ∧ ls[k]? = some x ∧ Good ls k ∧ lineE x ≠ 0 ∧ E = lineE x ∧ at' = k + 1 ∧ I = []) ∨
  (400 < ls.length ∧ Good ls 400 ∧ E = 4 ∧ at' = 401 ∧ I = []) ∨
  (ls.length ≤ 400 ∧ Good ls ls.length ∧ E = 0 ∧ at' = 0 ∧ I = its 0 ls)
theorem Lexes.bad {ls : List (List UInt8)} {k : Nat} {x : List UInt8} (hk : k < 400) (hx : ls[k]? = some x) (hg : Good ls k) (h0 : lineE x ≠ 0) : Lexes ls (lineE x) (k + 1) [] := .inl ⟨k, x, hk, hx, hg, h0, rfl, rfl, rfl⟩
theorem Lexes.one {ls : List (List UInt8)} {E E' a a' : Nat} {I I' : List It} (h : Lexes ls E a I) (h' : Lexes ls E' a' I') : E = E' ∧ a = a' ∧ I = I' := by
  have key : ∀ {k x k' x'}, ls[k]? = some x → Good ls k → lineE x ≠ 0 → ls[k']? = some x' → Good ls k' → lineE x' ≠ 0 → k = k' ∧ x = x' := by
    intro k x k' x' h1 h2 h3 h4 h5 h6
    have e : k = k' := by
      rcases Nat.lt_trichotomy k k' with g | g | g
      · exact absurd (h5 k g x h1) h3
      · exact g
      · exact absurd (h2 k' g x' h4) h6
    subst e
    rw [h1] at h4
    injection h4 with h4
    exact ⟨rfl, h4⟩
  have lt : ∀ {k : Nat} {x : List UInt8}, ls[k]? = some x → k < ls.length := fun h => (List.getElem?_eq_some_iff.1 h).1
  rcases h with ⟨k, x, h1, h2, h3, h4, rfl, rfl, rfl⟩ | ⟨h1, h2, rfl, rfl, rfl⟩ | ⟨h1, h2, rfl, rfl, rfl⟩ <;>
  rcases h' with ⟨k', x', g1, g2, g3, g4, rfl, rfl, rfl⟩ | ⟨g1, g2, rfl, rfl, rfl⟩ | ⟨g1, g2, rfl, rfl, rfl⟩
  · obtain ⟨rfl, rfl⟩ := key h2 h3 h4 g2 g3 g4
    exact ⟨rfl, rfl, rfl⟩
  · exact absurd (g2 k h1 x h2) h4
  · exact absurd (g2 k (lt h2) x h2) h4
  · exact absurd (h2 k' g1 x' g2) g4
  · exact ⟨rfl, rfl, rfl⟩
  · omega
  · exact absurd (h2 k' (lt g2) x' g2) g4
  · omega
  · exact ⟨rfl, rfl, rfl⟩

end Go.Proofs.YtglghfbdchcihaaDoor.Inx
