
/- Contracts: strings.CutSuffix at one letter; inilex.section, pair, read. -/
import Derived.Test.YtglghfbdchcihaaDoorInxR
import Derived.Test.YtglghfbdchcihaaDoorTrmB
namespace Go.Proofs.YtglghfbdchcihaaDoor.Inx
open Go.RowKit Lin
set_option maxRecDepth 100000

theorem cells_four {w : World} {g : Nat} {t : TypeId} {x y z u : Value} (h : Blk w g t #[x, y, z, u]) : w.cell? ⟨g, 0, none⟩ = some x ∧ w.cell? ⟨g, 1, none⟩ = some y ∧ w.cell? ⟨g, 2, none⟩ = some z ∧ w.cell? ⟨g, 3, none⟩ = some u := by
  refine ⟨?_, ?_, ?_, ?_⟩ <;> (rw [Lib.cell_of_heap h]; rfl)
theorem frozen_four {w : World} {g : Nat} {t : TypeId} {x y z u : Value} (h : Blk w g t #[x, y, z, u]) : w.frozen? ⟨g, 0, none⟩ = false ∧ w.frozen? ⟨g, 1, none⟩ = false ∧ w.frozen? ⟨g, 2, none⟩ = false ∧ w.frozen? ⟨g, 3, none⟩ = false :=
  ⟨Lib.frozen_of_heap h 0, Lib.frozen_of_heap h 1, Lib.frozen_of_heap h 2, Lib.frozen_of_heap h 3⟩
theorem blk_four {w : World} {g : Nat} {t : TypeId} {x y z u x' y' z' u' : Value} (h : Blk w g t #[x, y, z, u]) : Blk ((((w.setCell ⟨g, 0, none⟩ x').setCell ⟨g, 1, none⟩ y').setCell ⟨g, 2, none⟩ z').setCell ⟨g, 3, none⟩ u') g t #[x', y', z', u'] := (((h.setCell 0 x').setCell 1 y').setCell 2 z').setCell 3 u'
theorem below_four {w W : World} {B : Nat} (h : Below B w W) (g : Nat) (hg : B ≤ g) (x' y' z' u' : Value) : Below B w ((((W.setCell ⟨g, 0, none⟩ x').setCell ⟨g, 1, none⟩ y').setCell ⟨g, 2, none⟩ z').setCell ⟨g, 3, none⟩ u') :=
  (((h.setCell (p := ⟨g, 0, none⟩) hg x').setCell (p := ⟨g, 1, none⟩) hg y').setCell (p := ⟨g, 2, none⟩) hg z').setCell (p := ⟨g, 3, none⟩) hg u'

theorem eq_one' (c : UInt8) : ((ByteArray.mk ⟨[c]⟩).toList == [93]) = (c == 93) := by
  simp
theorem suf_snoc (m : List UInt8) (c : UInt8) (w : World) (hn : m.length ≤ 1000000) :
    Calls Tryd.prog 76 #[sv (m ++ [c]), .string ⟨#[93]⟩] w fun e w' => e = .returned (.bool (c == 93)) ∧ w = w' := by
  have hx : (ByteArray.mk ⟨m ++ [c]⟩).extract m.length (m.length + 1) = ⟨⟨[c]⟩⟩ := by
    rw [text_cut, List.take_of_length_le (by simp), List.drop_left]
  have he : (((ByteArray.mk ⟨m ++ [c]⟩).extract m.length (m.length + 1)).toList == [93]) = (c == 93) := by rw [hx]; exact eq_one' c
  have hsz : (ByteArray.mk ⟨m ++ [c]⟩).size = m.length + 1 := by show (m ++ [c]).length = _; simp
  have h1 : (1 : Int) ≤ (m.length : Int) + 1 := by omega
  have h2 : ((m.length : Int) + 1 - 1) = (m.length : Int) := by omega
  have hw : IntKind.i64.wrap (m.length : Int) = (m.length : Int) := IntWalk.i64_in _ (by omega)
  have h0 : (0 : Int) ≤ (m.length : Int) := by omega
  have h3 : (m.length : Int) ≤ (m.length : Int) + 1 := by omega
  clear hx
  unfold sv
  generalize ByteArray.mk ⟨m ++ [c]⟩ = s at *
  generalize (c == 93) = B at *
  generalize m.length = N at *
  go_enter Tryd.func76, Tryd.ntmps76
  go_wp2
  go_ret
  exact ⟨rfl, rfl⟩
theorem suf_nil (w : World) :
    Calls Tryd.prog 76 #[sv [], .string ⟨#[93]⟩] w fun e w' => e = .returned (.bool false) ∧ w = w' := by
  go_enter Tryd.func76, Tryd.ntmps76
  go_wp2
  go_ret
  exact ⟨rfl, rfl⟩
theorem csuf_yes (m : List UInt8) (w : World) (hn : m.length ≤ 1000000) :
    Calls Tryd.prog 36 #[sv (m ++ [93]), .string ⟨#[93]⟩] w fun e w' => e = .returned (.tuple #[sv m, .bool true]) ∧ Below w.heap.size w w' := by
  have HP := Lib.hid (fun W => suf_snoc m 93 W hn)
  have hx : (ByteArray.mk ⟨m ++ [93]⟩).extract 0 m.length = ⟨⟨m⟩⟩ := by
    rw [text_cut, List.take_left]
    rfl
  have HX := Lib.hid hx
  have hsz : (ByteArray.mk ⟨m ++ [93]⟩).size = m.length + 1 := by show (m ++ [93]).length = _; simp
  have h2 : ((m.length : Int) + 1 - 1) = (m.length : Int) := by omega
  have hw : IntKind.i64.wrap (m.length : Int) = (m.length : Int) := IntWalk.i64_in _ (by omega)
  have h0 : (0 : Int) ≤ (m.length : Int) := by omega
  have h3 : (m.length : Int) ≤ (m.length : Int) + 1 := by omega
  have hb : ((93 : UInt8) == 93) = true := rfl
  rw [hb] at HP
  clear hx hb
  unfold sv at HP ⊢
  generalize ByteArray.mk ⟨m ++ [93]⟩ = s at *
  generalize m.length = N at *
  have HL : ∀ W : World, Calls Tryd.prog 61 #[.string s, .string ⟨#[93]⟩] W fun e w' => e = .returned (.tuple #[.string (s.extract 0 N), .bool true]) ∧ Below W.heap.size W w' := by
    intro W
    go_enter Tryd.func61, Tryd.ntmps61
    go_wp2_with fail
    refine (HP.out _).mono ?_; rintro e w1 ⟨rfl, hw1⟩
    subst hw1
    go_wp2
    go_ret2
    exact ⟨rfl, Below.refl _ _⟩
  go_enter Tryd.func36, Tryd.ntmps36
  go_wp2_with fail
  refine (HL _).mono ?_; rintro e w1 ⟨rfl, hb1⟩
  go_wp2
  go_ret2
  exact ⟨by rw [HX.out]; rfl, hb1⟩
theorem csuf_no (l : List UInt8) (w : World) (hn : l.length ≤ 1000000) (h : l.getLast? ≠ some 93) :
    Calls Tryd.prog 36 #[sv l, .string ⟨#[93]⟩] w fun e w' => e = .returned (.tuple #[sv l, .bool false]) ∧ Below w.heap.size w w' := by
  have HP : Hid (∀ W : World, Calls Tryd.prog 76 #[sv l, .string ⟨#[93]⟩] W fun e w' => e = .returned (.bool false) ∧ W = w') := Lib.hid (fun W => by
    rcases List.eq_nil_or_concat l with rfl | ⟨m, c, rfl⟩
    · exact suf_nil W
    · rw [List.concat_eq_append] at *
      have hc : (c == 93) = false := by rw [beq_eq_false_iff_ne]; intro e; exact h (by rw [e]; simp)
      have := suf_snoc m c W (by simp at hn; omega)
      rw [hc] at this
      exact this)
  unfold sv at HP ⊢
  generalize ByteArray.mk ⟨l⟩ = s at *
  have HL : ∀ W : World, Calls Tryd.prog 61 #[.string s, .string ⟨#[93]⟩] W fun e w' => e = .returned (.tuple #[.string s, .bool false]) ∧ W = w' := by
    intro W
    go_enter Tryd.func61, Tryd.ntmps61
    go_wp2_with fail
    refine (HP.out _).mono ?_; rintro e w1 ⟨rfl, hw1⟩
    subst hw1
    go_wp2
    go_ret2
    exact ⟨rfl, rfl⟩
  go_enter Tryd.func36, Tryd.ntmps36
  go_wp2_with fail
  refine (HL _).mono ?_; rintro e w1 ⟨rfl, hw1⟩
  subst hw1
  go_wp2
  go_ret2
  exact ⟨rfl, Below.refl _ _⟩

end Go.Proofs.YtglghfbdchcihaaDoor.Inx
