
/- Layer 8. Mathematics: what four bytes a text says; numbers up to 255 are read. -/
import Derived.Test.YtccidoigjdbepaaDoorQdB
namespace Go.Proofs.YtccidoigjdbepaaDoor.Qd
open Go.RowKit Dec Lin
set_option maxRecDepth 100000

open Classical in
/-- The error of a part, and its number. -/
noncomputable def dE (x : List UInt8) : Nat := if Formed x then (if 255 < dval x then 6 else 0) else 5
open Classical in
noncomputable def dV (x : List UInt8) : Nat := if dE x = 0 then dval x else 0
theorem dV_le (x : List UInt8) : dV x ≤ 255 := by
  by_cases h : Formed x
  · by_cases h2 : 255 < dval x
    · have e : dE x = 6 := by rw [dE, if_pos h, if_pos h2]
      rw [dV, e]; simp
    · have e : dE x = 0 := by rw [dE, if_pos h, if_neg h2]
      rw [dV, if_pos e]; omega
  · have e : dE x = 5 := by rw [dE, if_neg h]
    rw [dV, e]; simp
theorem dE_le (x : List UInt8) : dE x = 0 ∨ dE x = 5 ∨ dE x = 6 := by
  unfold dE
  split
  · split <;> simp
  · simp
theorem read8 (x : List UInt8) (hx : x.length ≤ 1000000) (w : World) :
    Calls Tryd.prog 72 #[sv x, .int .u64 255] w fun e w' => e = .returned (.tuple #[.int .u64 (dV x : Int), .int .i64 (dE x : Int)]) ∧ Below w.heap.size w w' := by
  by_cases h : Formed x
  · by_cases h2 : 255 < dval x
    · have e : dE x = 6 := by rw [dE, if_pos h, if_pos h2]
      have e' : dV x = 0 := by rw [dV, e]; rfl
      rw [e, e']
      exact read_walk ⟨⟨x⟩⟩ x rfl 255 _ w h (fun W => formed_yes _ W (by omega) h) (.inr ⟨.inr h2, rfl⟩)
    · have e : dE x = 0 := by rw [dE, if_pos h, if_neg h2]
      have e' : dV x = dval x := by rw [dV, if_pos e]
      rw [e, e']
      exact read_walk ⟨⟨x⟩⟩ x rfl 255 _ w h (fun W => formed_yes _ W (by omega) h) (.inl ⟨by omega, by omega, rfl⟩)
  · have e : dE x = 5 := by rw [dE, if_neg h]
    have e' : dV x = 0 := by rw [dV, e]; rfl
    rw [e, e']
    exact read_form x 255 w (by omega) h
theorem refRead8 (x : List UInt8) (hx : x.length ≤ 1000000) (w : World) :
    Calls Tryd.prog 73 #[sv x, .int .u64 255] w fun e w' => e = .returned (.tuple #[.int .u64 (dV x : Int), .int .i64 (dE x : Int)]) ∧ w = w' := by
  by_cases h : Formed x
  · by_cases h2 : 255 < dval x
    · have e : dE x = 6 := by rw [dE, if_pos h, if_pos h2]
      have e' : dV x = 0 := by rw [dV, e]; rfl
      rw [e, e']
      exact refRead_walk ⟨⟨x⟩⟩ x rfl 255 _ w (by show x.length ≤ _; omega) h (by omega) (.inr ⟨h2, rfl⟩)
    · have e : dE x = 0 := by rw [dE, if_pos h, if_neg h2]
      have e' : dV x = dval x := by rw [dV, if_pos e]
      rw [e, e']
      exact refRead_walk ⟨⟨x⟩⟩ x rfl 255 _ w (by show x.length ≤ _; omega) h (by omega) (.inl ⟨by omega, rfl⟩)
  · have e : dE x = 5 := by rw [dE, if_neg h]
    have e' : dV x = 0 := by rw [dV, e]; rfl
    rw [e, e']
    exact refRead_form x 255 w (by omega) h

/-- A byte of a part. -/
noncomputable def bO (x : List UInt8) : UInt8 := UInt8.ofNat (dV x)
theorem bO_nat (x : List UInt8) : ((bO x).toNat : Int) = (dV x : Int) := by
  have := dV_le x
  simp [bO]
  omega

/-- The error of a text, and its bytes. -/
noncomputable def qE (l : List UInt8) : Nat :=
  match parts 46 l with
  | [x, y, z, u] => if dE x ≠ 0 then dE x else if dE y ≠ 0 then dE y else if dE z ≠ 0 then dE z else dE u
  | _ => 5
noncomputable def qB (l : List UInt8) : List UInt8 :=
  match parts 46 l with
  | [x, y, z, u] => if qE l = 0 then [bO x, bO y, bO z, bO u] else [0, 0, 0, 0]
  | _ => [0, 0, 0, 0]

theorem q_not (l : List UInt8) (h : (parts 46 l).length ≠ 4) : qE l = 5 ∧ qB l = [0, 0, 0, 0] := by
  unfold qE qB
  match hp : parts 46 l with
  | [] => exact ⟨rfl, rfl⟩
  | [_] => exact ⟨rfl, rfl⟩
  | [_, _] => exact ⟨rfl, rfl⟩
  | [_, _, _] => exact ⟨rfl, rfl⟩
  | [_, _, _, _] => rw [hp] at h; exact absurd rfl h
  | _ :: _ :: _ :: _ :: _ :: _ => exact ⟨rfl, rfl⟩
theorem q_four (l x y z u : List UInt8) (h : parts 46 l = [x, y, z, u]) :
    qE l = (if dE x ≠ 0 then dE x else if dE y ≠ 0 then dE y else if dE z ≠ 0 then dE z else dE u) ∧ qB l = if qE l = 0 then [bO x, bO y, bO z, bO u] else [0, 0, 0, 0] := by
  constructor
  · unfold qE; rw [h]
  · unfold qB; rw [h]
theorem q_bad (l : List UInt8) (h : qE l ≠ 0) : qB l = [0, 0, 0, 0] := by
  by_cases h4 : (parts 46 l).length = 4
  · match hp : parts 46 l, h4 with
    | [x, y, z, u], _ => rw [(q_four l x y z u hp).2, if_neg h]
  · exact (q_not l h4).2
theorem isD_46 : isD 46 = false := by decide
theorem ds_no (c : UInt8) : (46 : UInt8) ∉ ds c := by
  intro h
  have := (dec_props c.toNat).1.2.1 46 h
  rw [isD_46] at this
  cases this
theorem parts_qT (a b c d : UInt8) : parts 46 (qT a b c d) = [ds a, ds b, ds c, ds d] := by
  have e : qT a b c d = ds a ++ 46 :: (ds b ++ 46 :: (ds c ++ 46 :: ds d)) := by simp [qT]
  rw [e, parts_yes 46 _ _ (ds_no a), parts_yes 46 _ _ (ds_no b), parts_yes 46 _ _ (ds_no c), parts_no 46 _ (ds_no d)]
theorem dE_ds (c : UInt8) : dE (ds c) = 0 ∧ bO (ds c) = c := by
  obtain ⟨h1, h2, _⟩ := dec_props c.toNat
  have hc := c.toNat_lt
  have h1' : Formed (ds c) := h1
  have h2' : dval (ds c) = c.toNat := h2
  have e : dE (ds c) = 0 := by
    rw [dE, if_pos h1', if_neg]
    rw [h2']; omega
  refine ⟨e, ?_⟩
  have e2 : dV (ds c) = c.toNat := by
    rw [dV, if_pos e]; exact h2
  rw [bO, e2]
  simp
/-- The text of four bytes is parsed as these. -/
theorem q_back (a b c d : UInt8) : qE (qT a b c d) = 0 ∧ qB (qT a b c d) = [a, b, c, d] := by
  obtain ⟨h1, h2⟩ := q_four _ _ _ _ _ (parts_qT a b c d)
  have e : qE (qT a b c d) = 0 := by
    rw [h1, (dE_ds a).1, (dE_ds b).1, (dE_ds c).1, (dE_ds d).1]; rfl
  refine ⟨e, ?_⟩
  rw [h2, if_pos e, (dE_ds a).2, (dE_ds b).2, (dE_ds c).2, (dE_ds d).2]
theorem ds_dE (x : List UInt8) (h : dE x = 0) : ds (bO x) = x := by
  have hv := dV_le x
  have h1 : Formed x := by
    false_or_by_contra
    next hn => rw [dE, if_neg hn] at h; cases h
  have e2 : dV x = dval x := by rw [dV, if_pos h]
  have e3 : (bO x).toNat = dval x := by rw [← e2, bO]; simp; omega
  show Lib.decDigits (bO x).toNat = x
  rw [e3]
  exact dec_back x.length x rfl h1
theorem joined (l x y z u : List UInt8) (h : parts 46 l = [x, y, z, u]) : l = x ++ [46] ++ y ++ [46] ++ z ++ [46] ++ u := by
  have step : ∀ (l : List UInt8) (x : List UInt8) (r : List (List UInt8)), parts 46 l = x :: r → r ≠ [] → ∃ m, l = x ++ 46 :: m ∧ parts 46 m = r := by
    intro l x r hp hr
    rcases cut_cases 46 l with h | ⟨a, b, rfl, h⟩
    · rw [parts_no 46 l h] at hp
      injection hp with _ h2
      exact absurd h2.symm hr
    · rw [parts_yes 46 a b h] at hp
      injection hp with h1 h2
      exact ⟨b, by rw [h1], h2⟩
  obtain ⟨m1, e1, p1⟩ := step l x _ h (by simp)
  obtain ⟨m2, e2, p2⟩ := step m1 y _ p1 (by simp)
  obtain ⟨m3, e3, p3⟩ := step m2 z _ p2 (by simp)
  have e4 : m3 = u := by
    rcases cut_cases 46 m3 with h | ⟨a, b, e, h⟩
    · rw [parts_no 46 m3 h] at p3; injection p3
    · rw [e, parts_yes 46 a b h] at p3
      injection p3 with _ h2
      obtain ⟨q, r, e5⟩ := parts_ne 46 b
      rw [e5] at h2; cases h2
  rw [e1, e2, e3, e4]; simp
/-- What is parsed has just that text. -/
theorem q_text (l : List UInt8) (h : qE l = 0) : ∃ a b c d, qB l = [a, b, c, d] ∧ qT a b c d = l := by
  by_cases h4 : (parts 46 l).length = 4
  · match hp : parts 46 l, h4 with
    | [x, y, z, u], _ =>
      obtain ⟨h1, h2⟩ := q_four l x y z u hp
      rw [if_pos h] at h2
      rw [h] at h1
      have h1 := h1.symm
      have d1 : dE x = 0 := by
        false_or_by_contra; next hn => rw [if_pos hn] at h1; exact hn h1
      have d2 : dE y = 0 := by
        false_or_by_contra; next hn => rw [if_neg (by simpa using d1), if_pos hn] at h1; exact hn h1
      have d3 : dE z = 0 := by
        false_or_by_contra; next hn => rw [if_neg (by simpa using d1), if_neg (by simpa using d2), if_pos hn] at h1; exact hn h1
      have d4 : dE u = 0 := by rw [if_neg (by simpa using d1), if_neg (by simpa using d2), if_neg (by simpa using d3)] at h1; exact h1
      refine ⟨_, _, _, _, h2, ?_⟩
      rw [qT, ds_dE x d1, ds_dE y d2, ds_dE z d3, ds_dE u d4]
      exact (joined l x y z u hp).symm
  · rw [(q_not l h4).1] at h; cases h
theorem q_four' (l : List UInt8) : ∃ a b c d, qB l = [a, b, c, d] := by
  by_cases h : qE l = 0
  · obtain ⟨a, b, c, d, h1, _⟩ := q_text l h
    exact ⟨a, b, c, d, h1⟩
  · exact ⟨0, 0, 0, 0, q_bad l h⟩

end Go.Proofs.YtccidoigjdbepaaDoor.Qd
