
/- Contracts: lines.Loose, ref06.Loose, lines.Split; law06's alive. -/
import Derived.Test.YtglghfbdchcihaaDoorZLin
namespace Go.Proofs.YtglghfbdchcihaaDoor.Lin
open Go.RowKit
set_option maxRecDepth 100000

theorem parts_end (sep : UInt8) (m : List UInt8) : parts sep (m ++ [sep]) = parts sep m ++ [[]] := by
  induction m with
  | nil => simp [parts]
  | cons c t ih =>
    rw [List.cons_append, parts, parts]
    split
    · rw [ih]; rfl
    · rw [ih]
      obtain ⟨h, r, e⟩ := parts_ne sep t
      rw [e]
      rfl

theorem parts_open (sep : UInt8) (m : List UInt8) (c : UInt8) (h : c ≠ sep) : ∃ d x, parts sep (m ++ [c]) = d ++ [x] ∧ x ≠ [] := by
  induction m with
  | nil => exact ⟨[], [c], by simp [parts, h], by simp⟩
  | cons a t ih =>
    obtain ⟨d, x, e, hx⟩ := ih
    rw [List.cons_append, parts, e]
    split
    · exact ⟨[] :: d, x, rfl, hx⟩
    · cases d with
      | nil => exact ⟨[], a :: x, rfl, by simp⟩
      | cons y d => exact ⟨(a :: y) :: d, x, rfl, hx⟩

/-- The lines of a text. -/
def loose (l : List UInt8) : List (List UInt8) :=
  match l.getLast? with
  | none => []
  | some c => if c = 10 then parts 10 l.dropLast else parts 10 l

theorem loose_nil : loose [] = [] := rfl
theorem loose_end (m : List UInt8) : loose (m ++ [10]) = parts 10 m := by simp [loose]
theorem loose_open (m : List UInt8) (c : UInt8) (h : c ≠ 10) : loose (m ++ [c]) = parts 10 (m ++ [c]) := by simp [loose, h]

theorem text_cases (l : List UInt8) : l = [] ∨ (∃ m, l = m ++ [10]) ∨ ∃ m c, l = m ++ [c] ∧ c ≠ 10 := by
  rcases List.eq_nil_or_concat l with h | ⟨m, c, h⟩
  · exact .inl h
  · rw [List.concat_eq_append] at h
    by_cases hc : c = 10
    · exact .inr (.inl ⟨m, by rw [h, hc]⟩)
    · exact .inr (.inr ⟨m, c, h, hc⟩)

theorem loose_len (l : List UInt8) : (loose l).length ≤ l.length + 1 := by
  rcases text_cases l with rfl | ⟨m, rfl⟩ | ⟨m, c, rfl, h⟩
  · simp [loose_nil]
  · rw [loose_end]; have := parts_len 10 m; simp; omega
  · rw [loose_open m c h]; exact parts_len 10 _

/-- A slice that shows these texts, out of new memory. -/
def GivesS (L : List (List UInt8)) (w : World) (e : Ending) (w' : World) : Prop :=
  (∃ A c, e = .returned (.slice A L.length c) ∧ L.length ≤ c ∧ c ≤ maxLen ∧ Sh sv w' w'.heap.size A L.length L) ∧ Below w.heap.size w w'

theorem last_at (m : List UInt8) (c : UInt8) : ∀ h : m.length < (ByteArray.mk ⟨m ++ [c]⟩).size, (ByteArray.mk ⟨m ++ [c]⟩)[m.length]'h = c :=
  byte_at _ _ _ (by simp)

theorem parts10 (l : List UInt8) (w : World) (hn : l.length ≤ 1000000) :
    Calls Tryd.prog 23 #[sv l, .int .u8 10] w fun e w' => (∃ v, e = .returned v ∧ OwnS w' w.heap.size v (parts 10 l).length (parts 10 l)) ∧ Below w.heap.size w w' := parts_any l 10 w hn
theorem refParts10 (l : List UInt8) (w : World) (hn : l.length ≤ 1000000) :
    Calls Tryd.prog 28 #[sv l, .int .u8 10] w fun e w' => (∃ v, e = .returned v ∧ OwnS w' w.heap.size v (parts 10 l).length (parts 10 l)) ∧ Below w.heap.size w w' := refParts_any l 10 w hn

theorem linesLoose_any (l : List UInt8) (w : World) (hn : l.length ≤ 1000000) : Calls Tryd.prog 13 #[sv l] w (GivesS (loose l) w) := by
  rcases text_cases l with rfl | ⟨m, rfl⟩ | ⟨m, c, rfl, h⟩
  · go_enter Tryd.func13, Tryd.ntmps13
    go_wp2
    go_ret
    exact ⟨⟨none, 0, rfl, by simp [loose_nil], by simp [maxLen], Sh.none_⟩, Below.refl _ _⟩
  · have hl := last_at m 10
    have He := Lib.hid (show (ByteArray.mk ⟨m ++ [10]⟩).extract 0 m.length = ⟨⟨m⟩⟩ by rw [text_cut]; simp)
    have hsz : (ByteArray.mk ⟨m ++ [10]⟩).size = m.length + 1 := by show (m ++ [10]).length = _; simp
    have hne : ((ByteArray.mk ⟨m ++ [10]⟩).toList.isEmpty) = false := by simp
    have HL := Lib.hid (loose_end m)
    have hn' : m.length ≤ 1000000 := by simp at hn; omega
    unfold sv
    rw [HL.out]
    generalize ByteArray.mk ⟨m ++ [10]⟩ = s at *
    go_enter Tryd.func13, Tryd.ntmps13
    go_wp2_with fail
    rw [He.out]
    refine (parts10 m _ hn').mono ?_; rintro e w1 ⟨⟨v, rfl, hown⟩, hb⟩
    obtain ⟨A, c, rfl, h1, h2, hs⟩ := hown.sh
    go_wp2
    go_ret
    exact ⟨⟨A, c, rfl, h1, h2, hs⟩, hb⟩
  · have hl := last_at m c
    have hsz : (ByteArray.mk ⟨m ++ [c]⟩).size = m.length + 1 := by show (m ++ [c]).length = _; simp
    have hne : ((ByteArray.mk ⟨m ++ [c]⟩).toList.isEmpty) = false := by simp
    have HL := Lib.hid (loose_open m c h)
    have HC := Lib.hid (fun W => parts10 (m ++ [c]) W hn)
    have hn' : m.length ≤ 1000000 := by simp at hn; omega
    have hc10 : ((c.toNat : Int) == 10) = false := by
      have := byte_ne h
      exact this
    unfold sv at *
    rw [HL.out]
    clear hn
    generalize ByteArray.mk ⟨m ++ [c]⟩ = s at *
    go_enter Tryd.func13, Tryd.ntmps13
    go_wp2_with fail
    refine (HC.out _).mono ?_; rintro e w1 ⟨⟨v, rfl, hown⟩, hb⟩
    obtain ⟨A, cc, rfl, h1, h2, hs⟩ := hown.sh
    go_wp2
    go_ret
    exact ⟨⟨A, cc, rfl, h1, h2, hs⟩, hb⟩

theorem refLoose_any (l : List UInt8) (w : World) (hn : l.length ≤ 1000000) : Calls Tryd.prog 15 #[sv l] w (GivesS (loose l) w) := by
  have HC := Lib.hid (fun W => refParts10 l W hn)
  have hpl := parts_len 10 l
  -- the parts, but for the last one, and whether that is empty
  have hcase : (∃ d, parts 10 l = d ++ [[]] ∧ loose l = d) ∨ ∃ d x, parts 10 l = d ++ [x] ∧ x ≠ [] ∧ loose l = parts 10 l := by
    rcases text_cases l with rfl | ⟨m, rfl⟩ | ⟨m, c, rfl, h⟩
    · exact .inl ⟨[], rfl, rfl⟩
    · exact .inl ⟨parts 10 m, parts_end 10 m, loose_end m⟩
    · obtain ⟨d, x, e, hx⟩ := parts_open 10 m c h
      exact .inr ⟨d, x, e, hx, loose_open m c h⟩
  rcases hcase with ⟨d, e1, e2⟩ | ⟨d, x, e1, hx, e2⟩
  · rw [e2]
    rw [e1] at HC hpl
    have hdl : d.length ≤ 1000001 := by simp at hpl; omega
    have hll : (d ++ [[]] : List (List UInt8)).length = d.length + 1 := by simp
    rw [hll] at HC
    clear e1 e2 hpl hll
    go_enter Tryd.func15, Tryd.ntmps15
    go_wp2_with fail
    refine (HC.out _).mono ?_; rintro e w1 ⟨⟨v, rfl, hown⟩, hb⟩
    obtain ⟨A, c, rfl, h1, h2, hs⟩ := hown.sh
    have hm := h2
    unfold maxLen at hm
    have hf := hs.front (k := d.length) (by omega)
    obtain ⟨b, off, y, rfl, hbb, hcell, hy⟩ := hs.elem (k := d.length) (by omega)
    obtain rfl : y = [] := by simpa using hy.symm
    rw [List.take_left] at hf
    clear hown hy hs
    go_wp2
    go_ret
    exact ⟨⟨_, c, rfl, by omega, h2, hf⟩, hb⟩
  · rw [e2]
    have HE := Lib.hid e1
    have hdl : (parts 10 l).length = d.length + 1 := by rw [e1]; simp
    have hd1 : d.length ≤ 1000001 := by omega
    have hxe : x.isEmpty = false := by simp; exact hx
    rw [hdl] at HC
    clear e1 e2 hpl
    go_enter Tryd.func15, Tryd.ntmps15
    go_wp2_with fail
    refine (HC.out _).mono ?_; rintro e w1 ⟨⟨v, rfl, hown⟩, hb⟩
    obtain ⟨A, c, rfl, h1, h2, hs⟩ := hown.sh
    have hm := h2
    unfold maxLen at hm
    obtain ⟨b, off, y, rfl, hbb, hcell, hy⟩ := hs.elem (k := d.length) (by omega)
    obtain rfl : y = x := by rw [HE.out] at hy; simpa using hy.symm
    have Hdl := Lib.hid hdl
    clear hown hy hdl
    go_wp2
    go_ret
    exact ⟨⟨_, c, by rw [Hdl.out]; rfl, by rw [Hdl.out]; exact h1, h2, by rw [Hdl.out]; exact hs⟩, hb⟩

end Go.Proofs.YtglghfbdchcihaaDoor.Lin
