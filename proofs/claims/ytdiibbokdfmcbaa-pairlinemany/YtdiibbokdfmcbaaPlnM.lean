
/- Layer 36, mathematics: which texts are blocks. -/
import Derived.Test.YtdiibbokdfmcbaaPlnE
namespace Go.Proofs.Ytdiibbokdfmcbaa.Pln
open Lin

theorem first_empty (ls : List (List UInt8)) : [] ∉ ls ∨ ∃ Q R, ls = Q ++ [] :: R ∧ [] ∉ Q := by
  induction ls with
  | nil => left; simp
  | cons x t ih =>
    by_cases hx : x = []
    · exact .inr ⟨[], t, by rw [hx]; rfl, by simp⟩
    · rcases ih with h | ⟨Q, R, e, h⟩
      · left
        intro h1
        rcases List.mem_cons.1 h1 with h2 | h2
        · exact hx h2.symm
        · exact h h2
      · refine .inr ⟨x :: Q, R, by rw [e]; rfl, ?_⟩
        intro h1
        rcases List.mem_cons.1 h1 with h2 | h2
        · exact hx h2.symm
        · exact h h2

theorem snoc_inj {α : Type} {a b : List α} {x y : α} (h : a ++ [x] = b ++ [y]) : a = b ∧ x = y := by
  have := List.append_inj' h rfl
  exact ⟨this.1, by simpa using this.2⟩

/-- What the parts may be. -/
theorem ref_cases (l : List UInt8) :
    ((∃ x, parts 10 l = [x]) ∧ ¬ ∃ Q, IsBlk l Q) ∨ ((∃ D y x, parts 10 l = D ++ [y, x] ∧ x ≠ []) ∧ ¬ ∃ Q, IsBlk l Q) ∨ ((∃ D y, parts 10 l = D ++ [y, []] ∧ y ≠ []) ∧ ¬ ∃ Q, IsBlk l Q) ∨
    ((∃ Q R, parts 10 l = (Q ++ [] :: R) ++ [[], []] ∧ [] ∉ Q) ∧ ¬ ∃ Q, IsBlk l Q) ∨ ∃ Q, IsBlk l Q := by
  obtain ⟨h0, r0, e0⟩ := parts_ne 10 l
  have hne : parts 10 l ≠ [] := by rw [e0]; simp
  obtain ⟨D1, x, e1⟩ : ∃ D1 x, parts 10 l = D1 ++ [x] := by
    rcases List.eq_nil_or_concat (parts 10 l) with h | ⟨m, c, h⟩
    · exact absurd h hne
    · exact ⟨m, c, by rw [h, List.concat_eq_append]⟩
  rcases List.eq_nil_or_concat D1 with h | ⟨D, y, h⟩
  · subst h
    refine .inl ⟨⟨x, e1⟩, ?_⟩
    rintro ⟨Q, hQ, _⟩
    have := congrArg List.length (e1.symm.trans hQ)
    simp at this
  · rw [List.concat_eq_append] at h
    subst h
    have e2 : parts 10 l = D ++ [y, x] := by rw [e1]; simp
    have key : ∀ Q, IsBlk l Q → D = Q ∧ y = [] ∧ x = [] := by
      intro Q hQ
      have h1 : (D ++ [y]) ++ [x] = (Q ++ [[]]) ++ [[]] := by
        have := e1.symm.trans hQ.1
        rw [this]; simp
      obtain ⟨h2, h3⟩ := snoc_inj h1
      obtain ⟨h4, h5⟩ := snoc_inj h2
      exact ⟨h4, h5, h3⟩
    by_cases hx : x = []
    · by_cases hy : y = []
      · subst hx hy
        rcases first_empty D with h | ⟨Q, R, e, h⟩
        · exact .inr (.inr (.inr (.inr ⟨D, e2, h⟩)))
        · refine .inr (.inr (.inr (.inl ⟨⟨Q, R, by rw [← e]; exact e2, h⟩, ?_⟩)))
          rintro ⟨Q', hQ'⟩
          have h5 := (key Q' hQ').1
          exact hQ'.2 (by rw [← h5, e]; simp)
      · subst hx
        exact .inr (.inr (.inl ⟨⟨D, y, e2, hy⟩, fun ⟨Q, hQ⟩ => hy (key Q hQ).2.1⟩))
    · exact .inr (.inl ⟨⟨D, y, x, e2, hx⟩, fun ⟨Q, hQ⟩ => hx (key Q hQ).2.2⟩)

/-- What the lines may be, of a text with an end. -/
theorem line_cases (m : List UInt8) :
    ([] ∉ parts 10 m ∧ 1 ≤ (parts 10 m).length ∧ ¬ ∃ Q, IsBlk (m ++ [10]) Q) ∨ ((∃ Q z R, parts 10 m = Q ++ [] :: z :: R ∧ [] ∉ Q) ∧ ¬ ∃ Q, IsBlk (m ++ [10]) Q) ∨ ∃ Q, parts 10 m = Q ++ [[]] ∧ [] ∉ Q ∧ IsBlk (m ++ [10]) Q := by
  have hp := parts_end 10 m
  have key : ∀ Q, IsBlk (m ++ [10]) Q → parts 10 m = Q ++ [[]] := by
    intro Q hQ
    have h1 : parts 10 m ++ [[]] = (Q ++ [[]]) ++ [[]] := by
      have := hp.symm.trans hQ.1
      rw [this]; simp
    exact (snoc_inj h1).1
  rcases first_empty (parts 10 m) with h | ⟨Q, R, e, h⟩
  · refine .inl ⟨h, ?_, ?_⟩
    · obtain ⟨a, b, e⟩ := parts_ne 10 m
      rw [e]; simp
    · rintro ⟨Q, hQ⟩
      exact h (by rw [key Q hQ]; simp)
  · cases R with
    | nil => exact .inr (.inr ⟨Q, e, h, by rw [hp, e]; simp, h⟩)
    | cons z R =>
      refine .inr (.inl ⟨⟨Q, z, R, e, h⟩, ?_⟩)
      rintro ⟨Q', hQ'⟩
      have h1 := key Q' hQ'
      rw [e] at h1
      rcases List.eq_nil_or_concat (z :: R) with h2 | ⟨R', z', h2⟩
      · cases h2
      · rw [h2, List.concat_eq_append] at h1
        have h3 : (Q ++ [] :: R') ++ [z'] = Q' ++ [[]] := by rw [← h1]; simp
        have h4 := (snoc_inj h3).1
        exact hQ'.2 (by rw [← h4]; simp)

theorem rE_len (l : List UInt8) (Q : List (List UInt8)) (h : IsBlk l Q) : Q.length ≤ l.length := by
  have h1 := parts_len 10 l
  rw [h.1] at h1
  simp at h1
  omega

theorem part_le (sep : UInt8) (l : List UInt8) : ∀ x ∈ parts sep l, x.length ≤ l.length := by
  induction l with
  | nil => intro x hx; simp [parts] at hx; subst hx; simp
  | cons c t ih =>
    intro x hx
    unfold parts at hx
    split at hx
    · rcases List.mem_cons.1 hx with h | h
      · subst h; simp
      · have := ih x h; simp; omega
    · obtain ⟨a, b, e⟩ := parts_ne sep t
      rw [e] at hx
      simp only at hx
      rcases List.mem_cons.1 hx with h | h
      · subst h
        have := ih a (by rw [e]; simp)
        simp; omega
      · have := ih x (by rw [e]; simp [h]); simp; omega

/-- Pairs and an error. -/
def GivesP (E : Nat) (ps : List Pr) (w : Go.World) (e : Go.Ending) (w' : Go.World) : Prop :=
  (∃ A c, e = .returned (.tuple #[.slice A ps.length c, .int .i64 (E : Int)]) ∧ ps.length ≤ c ∧ c ≤ Go.maxLen ∧ ShP w' w'.heap.size A ps.length ps) ∧ Go.RowKit.Below w.heap.size w w'
theorem ba_ne {x : List UInt8} (h : x ≠ []) : ByteArray.mk ⟨x⟩ ≠ ByteArray.mk #[] := by
  intro e
  injection e with e
  injection e with e
  exact h e

end Go.Proofs.Ytdiibbokdfmcbaa.Pln
