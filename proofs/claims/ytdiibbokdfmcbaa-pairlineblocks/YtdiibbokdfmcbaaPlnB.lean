
/- Contracts: Text of pairline and of its reference. -/
import Derived.Test.YtdiibbokdfmcbaaPlnA
import Derived.Test.YtdiibbokdfmcbaaArrA
namespace Go.Proofs.Ytdiibbokdfmcbaa.Pln
open Go.RowKit Lin
set_option maxRecDepth 100000

theorem cat3 (k v : List UInt8) : (ByteArray.mk ⟨k⟩ ++ ByteArray.mk #[61] ++ ByteArray.mk ⟨v⟩) = ByteArray.mk ⟨k ++ 61 :: v⟩ := by
  rw [str_add k [61], str_add, List.append_assoc]; rfl
theorem has61 (l : List UInt8) (b : Bool) (h : decide ((61 : UInt8) ∈ l) = b) (w : World) : Calls Try.prog 17 #[sv l, .int .u8 61] w fun e w' => e = .returned (.bool b) ∧ w = w' := h ▸ has_any l 61 w
theorem has10 (l : List UInt8) (b : Bool) (h : decide ((10 : UInt8) ∈ l) = b) (w : World) : Calls Try.prog 17 #[sv l, .int .u8 10] w fun e w' => e = .returned (.bool b) ∧ w = w' := h ▸ has_any l 10 w
theorem refHas61 (l : List UInt8) (b : Bool) (h : decide ((61 : UInt8) ∈ l) = b) (w : World) (hn : l.length ≤ 1000000) : Calls Try.prog 18 #[sv l, .int .u8 61] w fun e w' => e = .returned (.bool b) ∧ Below w.heap.size w w' := h ▸ refHas_any l 61 w hn
theorem refHas10 (l : List UInt8) (b : Bool) (h : decide ((10 : UInt8) ∈ l) = b) (w : World) (hn : l.length ≤ 1000000) : Calls Try.prog 18 #[sv l, .int .u8 10] w fun e w' => e = .returned (.bool b) ∧ Below w.heap.size w w' := h ▸ refHas_any l 10 w hn
theorem cells_two {w : World} {g : Nat} {t : TypeId} {x y : Value} (h : Blk w g t #[x, y]) : w.cell? ⟨g, 0, none⟩ = some x ∧ w.cell? ⟨g, 1, none⟩ = some y := by
  constructor <;> (rw [Lib.cell_of_heap h]; rfl)
theorem frozen_two {w : World} {g : Nat} {t : TypeId} {x y : Value} (h : Blk w g t #[x, y]) : w.frozen? ⟨g, 0, none⟩ = false ∧ w.frozen? ⟨g, 1, none⟩ = false := ⟨Lib.frozen_of_heap h 0, Lib.frozen_of_heap h 1⟩
theorem blk_two {w : World} {g : Nat} {t : TypeId} {x y x' y' : Value} (h : Blk w g t #[x, y]) : Blk ((w.setCell ⟨g, 0, none⟩ x').setCell ⟨g, 1, none⟩ y') g t #[x', y'] := (h.setCell 0 x').setCell 1 y'
theorem below_two {w W : World} {B : Nat} (h : Below B w W) (g : Nat) (hg : B ≤ g) (x' y' : Value) : Below B w ((W.setCell ⟨g, 0, none⟩ x').setCell ⟨g, 1, none⟩ y') := (h.setCell (p := ⟨g, 0, none⟩) hg x').setCell (p := ⟨g, 1, none⟩) hg y'
theorem mem_line (k v : List UInt8) : (10 : UInt8) ∈ k ++ 61 :: v ↔ (10 : UInt8) ∈ k ∨ (10 : UInt8) ∈ v := by simp

theorem text_any (k v : List UInt8) (w : World) (hk : k.length ≤ 100000) (hv : v.length ≤ 100000) :
    Calls Try.prog 8 #[.agg #[sv k, sv v]] w fun e w' => e = .returned (.tuple #[sv (tL k v), .int .i64 (tE k v : Int)]) ∧ Below w.heap.size w w' := by
  have hL := cat3 k v
  have hsz : (ByteArray.mk ⟨k ++ 61 :: v⟩).size = k.length + 1 + v.length := by show (k ++ 61 :: v).length = _; simp; omega
  have hksz : (ByteArray.mk ⟨k⟩).size = k.length := rfl
  have hvsz : (ByteArray.mk ⟨v⟩).size = v.length := rfl
  by_cases c0 : k = []
  · subst c0
    have e1 : tE [] v = 5 := by simp [tE]
    have e2 : tL [] v = [] := by simp [tL, e1]
    rw [e1, e2]
    clear e1 e2
    go_enter Try.func8, Try.ntmps8
    go_wp2
    go_ret2
    exact ⟨rfl, (Below.refl _ _).alloc (Nat.le_refl _) _⟩
  have hke : (ByteArray.mk ⟨k⟩).toList.isEmpty = false := by simp; exact c0
  by_cases c1 : (61 : UInt8) ∈ k
  · have e1 : tE k v = 5 := by simp [tE, c1]
    have e2 : tL k v = [] := by simp [tL, e1]
    have H1 := Lib.hid (has61 k true (by simp [c1]))
    rw [e1, e2]
    clear e1 e2 c0 c1
    unfold sv at *
    generalize ByteArray.mk ⟨k ++ 61 :: v⟩ = L at *
    generalize ByteArray.mk ⟨k⟩ = K at *
    generalize ByteArray.mk ⟨v⟩ = V at *
    go_enter Try.func8, Try.ntmps8
    go_wp2_with fail
    refine (H1.out _).mono ?_; rintro e w1 ⟨rfl, rfl⟩
    go_wp2
    go_ret2
    exact ⟨rfl, (Below.refl _ _).alloc (Nat.le_refl _) _⟩
  have H1 := Lib.hid (has61 k false (by simp [c1]))
  by_cases c2 : (10 : UInt8) ∈ k ++ 61 :: v
  · have e1 : tE k v = 5 := by
      rw [tE, if_pos]
      rcases (mem_line k v).1 c2 with h | h
      · exact .inr (.inr (.inl h))
      · exact .inr (.inr (.inr h))
    have e2 : tL k v = [] := by simp [tL, e1]
    have H2 := Lib.hid (has10 (k ++ 61 :: v) true (by rw [decide_eq_true c2]))
    rw [e1, e2]
    clear e1 e2 c0 c1 c2
    unfold sv at *
    generalize ByteArray.mk ⟨k ++ 61 :: v⟩ = L at *
    generalize ByteArray.mk ⟨k⟩ = K at *
    generalize ByteArray.mk ⟨v⟩ = V at *
    go_enter Try.func8, Try.ntmps8
    go_wp2_with fail
    refine (H1.out _).mono ?_; rintro e w1 ⟨rfl, rfl⟩
    go_wp2_with fail
    refine (H2.out _).mono ?_; rintro e w1 ⟨rfl, rfl⟩
    go_wp2
    go_ret2
    exact ⟨rfl, (Below.refl _ _).alloc (Nat.le_refl _) _⟩
  have H2 := Lib.hid (has10 (k ++ 61 :: v) false (by rw [decide_eq_false c2]))
  have c3 : ¬ (k = [] ∨ (61 : UInt8) ∈ k ∨ (10 : UInt8) ∈ k ∨ (10 : UInt8) ∈ v) := by
    rw [mem_line] at c2
    rintro (h | h | h | h)
    · exact c0 h
    · exact c1 h
    · exact c2 (.inl h)
    · exact c2 (.inr h)
  by_cases c4 : 512 < k.length + 1 + v.length
  · have e1 : tE k v = 4 := by rw [tE, if_neg c3, if_pos c4]
    have e2 : tL k v = [] := by simp [tL, e1]
    rw [e1, e2]
    clear e1 e2 c0 c1 c2 c3
    rw [← hsz] at c4
    unfold sv at *
    generalize ByteArray.mk ⟨k ++ 61 :: v⟩ = L at *
    generalize ByteArray.mk ⟨k⟩ = K at *
    generalize ByteArray.mk ⟨v⟩ = V at *
    go_enter Try.func8, Try.ntmps8
    go_wp2_with fail
    refine (H1.out _).mono ?_; rintro e w1 ⟨rfl, rfl⟩
    go_wp2_with fail
    refine (H2.out _).mono ?_; rintro e w1 ⟨rfl, rfl⟩
    go_wp2
    go_ret2
    exact ⟨rfl, (Below.refl _ _).alloc (Nat.le_refl _) _⟩
  · have e1 : tE k v = 0 := by rw [tE, if_neg c3, if_neg c4]
    have e2 : tL k v = k ++ 61 :: v := by simp [tL, e1]
    rw [e1, e2]
    clear e1 e2 c0 c1 c2 c3
    rw [← hsz] at c4
    unfold sv at *
    generalize ByteArray.mk ⟨k ++ 61 :: v⟩ = L at *
    generalize ByteArray.mk ⟨k⟩ = K at *
    generalize ByteArray.mk ⟨v⟩ = V at *
    go_enter Try.func8, Try.ntmps8
    go_wp2_with fail
    refine (H1.out _).mono ?_; rintro e w1 ⟨rfl, rfl⟩
    go_wp2_with fail
    refine (H2.out _).mono ?_; rintro e w1 ⟨rfl, rfl⟩
    go_wp2
    go_ret2
    exact ⟨rfl, (Below.refl _ _).alloc (Nat.le_refl _) _⟩

theorem refText_any (k v : List UInt8) (w : World) (hk : k.length ≤ 100000) (hv : v.length ≤ 100000) :
    Calls Try.prog 9 #[.agg #[sv k, sv v]] w fun e w' => e = .returned (.tuple #[sv (tL k v), .int .i64 (tE k v : Int)]) ∧ Below w.heap.size w w' := by
  have hL := cat3 k v
  have hsz : (ByteArray.mk ⟨k ++ 61 :: v⟩).size = k.length + 1 + v.length := by show (k ++ 61 :: v).length = _; simp; omega
  have hksz : (ByteArray.mk ⟨k⟩).size = k.length := rfl
  have hvsz : (ByteArray.mk ⟨v⟩).size = v.length := rfl
  by_cases c0 : k = []
  · subst c0
    have e1 : tE [] v = 5 := by simp [tE]
    have e2 : tL [] v = [] := by simp [tL, e1]
    rw [e1, e2]
    clear e1 e2
    go_enter Try.func9, Try.ntmps9
    go_wp2
    go_ret2
    exact ⟨rfl, (Below.refl _ _).alloc (Nat.le_refl _) _⟩
  have hke : (ByteArray.mk ⟨k⟩).toList.isEmpty = false := by simp; exact c0
  have b0 : Below w.heap.size w (w.alloc (.cells #[sv k, sv v] 30)) := (Below.refl _ _).alloc (Nat.le_refl _) _
  have k0 : Blk (w.alloc (.cells #[sv k, sv v] 30)) w.heap.size 30 #[sv k, sv v] := blk_new _ _ _
  by_cases c1 : (61 : UInt8) ∈ k
  · have e1 : tE k v = 5 := by simp [tE, c1]
    have e2 : tL k v = [] := by simp [tL, e1]
    have H1 := Lib.hid (fun W => refHas61 k true (by simp [c1]) W (by omega))
    rw [e1, e2]
    clear e1 e2 c0 c1
    unfold sv at *
    generalize ByteArray.mk ⟨k ++ 61 :: v⟩ = L at *
    generalize ByteArray.mk ⟨k⟩ = K at *
    generalize ByteArray.mk ⟨v⟩ = V at *
    go_enter Try.func9, Try.ntmps9
    go_wp2_with fail
    refine (H1.out _).mono ?_; rintro e w1 ⟨rfl, hb1⟩
    have k1 := k0.on (by exact hb1)
    have b1 := Below.on b0 b0.size (by exact hb1)
    obtain ⟨c10, c11⟩ := cells_two k1
    go_wp2
    go_ret2
    exact ⟨rfl, b1⟩
  have H1 := Lib.hid (fun W => refHas61 k false (by simp [c1]) W (by omega))
  by_cases c2 : (10 : UInt8) ∈ k
  · have e1 : tE k v = 5 := by simp [tE, c2]
    have e2 : tL k v = [] := by simp [tL, e1]
    have H2 := Lib.hid (fun W => refHas10 k true (by simp [c2]) W (by omega))
    rw [e1, e2]
    clear e1 e2 c0 c1 c2
    unfold sv at *
    generalize ByteArray.mk ⟨k ++ 61 :: v⟩ = L at *
    generalize ByteArray.mk ⟨k⟩ = K at *
    generalize ByteArray.mk ⟨v⟩ = V at *
    go_enter Try.func9, Try.ntmps9
    go_wp2_with fail
    refine (H1.out _).mono ?_; rintro e w1 ⟨rfl, hb1⟩
    have k1 := k0.on (by exact hb1)
    have b1 := Below.on b0 b0.size (by exact hb1)
    obtain ⟨c10, c11⟩ := cells_two k1
    go_wp2_with fail
    refine (H2.out _).mono ?_; rintro e w2 ⟨rfl, hb2⟩
    have k2 := k1.on (by exact hb2)
    have b2 := Below.on b1 b1.size (by exact hb2)
    obtain ⟨c20, c21⟩ := cells_two k2
    go_wp2
    go_ret2
    exact ⟨rfl, b2⟩
  have H2 := Lib.hid (fun W => refHas10 k false (by simp [c2]) W (by omega))
  by_cases c3 : (10 : UInt8) ∈ v
  · have e1 : tE k v = 5 := by simp [tE, c3]
    have e2 : tL k v = [] := by simp [tL, e1]
    have H3 := Lib.hid (fun W => refHas10 v true (by simp [c3]) W (by omega))
    rw [e1, e2]
    clear e1 e2 c0 c1 c2 c3
    unfold sv at *
    generalize ByteArray.mk ⟨k ++ 61 :: v⟩ = L at *
    generalize ByteArray.mk ⟨k⟩ = K at *
    generalize ByteArray.mk ⟨v⟩ = V at *
    go_enter Try.func9, Try.ntmps9
    go_wp2_with fail
    refine (H1.out _).mono ?_; rintro e w1 ⟨rfl, hb1⟩
    have k1 := k0.on (by exact hb1)
    have b1 := Below.on b0 b0.size (by exact hb1)
    obtain ⟨c10, c11⟩ := cells_two k1
    go_wp2_with fail
    refine (H2.out _).mono ?_; rintro e w2 ⟨rfl, hb2⟩
    have k2 := k1.on (by exact hb2)
    have b2 := Below.on b1 b1.size (by exact hb2)
    obtain ⟨c20, c21⟩ := cells_two k2
    go_wp2_with fail
    refine (H3.out _).mono ?_; rintro e w3 ⟨rfl, hb3⟩
    have k3 := k2.on (by exact hb3)
    have b3 := Below.on b2 b2.size (by exact hb3)
    obtain ⟨c30, c31⟩ := cells_two k3
    go_wp2
    go_ret2
    exact ⟨rfl, b3⟩
  have H3 := Lib.hid (fun W => refHas10 v false (by simp [c3]) W (by omega))
  by_cases c4 : 512 < k.length + 1 + v.length
  · have e1 : tE k v = 4 := by rw [tE, if_neg (by simp [c0, c1, c2, c3]), if_pos c4]
    have e2 : tL k v = [] := by simp [tL, e1]
    rw [e1, e2]
    rw [← hsz] at c4
    clear e1 e2 c0 c1 c2 c3
    unfold sv at *
    generalize ByteArray.mk ⟨k ++ 61 :: v⟩ = L at *
    generalize ByteArray.mk ⟨k⟩ = K at *
    generalize ByteArray.mk ⟨v⟩ = V at *
    go_enter Try.func9, Try.ntmps9
    go_wp2_with fail
    refine (H1.out _).mono ?_; rintro e w1 ⟨rfl, hb1⟩
    have k1 := k0.on (by exact hb1)
    have b1 := Below.on b0 b0.size (by exact hb1)
    obtain ⟨c10, c11⟩ := cells_two k1
    go_wp2_with fail
    refine (H2.out _).mono ?_; rintro e w2 ⟨rfl, hb2⟩
    have k2 := k1.on (by exact hb2)
    have b2 := Below.on b1 b1.size (by exact hb2)
    obtain ⟨c20, c21⟩ := cells_two k2
    go_wp2_with fail
    refine (H3.out _).mono ?_; rintro e w3 ⟨rfl, hb3⟩
    have k3 := k2.on (by exact hb3)
    have b3 := Below.on b2 b2.size (by exact hb3)
    obtain ⟨c30, c31⟩ := cells_two k3
    go_wp2
    go_ret2
    exact ⟨rfl, b3⟩
  · have e1 : tE k v = 0 := by rw [tE, if_neg (by simp [c0, c1, c2, c3]), if_neg c4]
    have e2 : tL k v = k ++ 61 :: v := by simp [tL, e1]
    rw [e1, e2]
    rw [← hsz] at c4
    clear e1 e2 c0 c1 c2 c3
    unfold sv at *
    generalize ByteArray.mk ⟨k ++ 61 :: v⟩ = L at *
    generalize ByteArray.mk ⟨k⟩ = K at *
    generalize ByteArray.mk ⟨v⟩ = V at *
    go_enter Try.func9, Try.ntmps9
    go_wp2_with fail
    refine (H1.out _).mono ?_; rintro e w1 ⟨rfl, hb1⟩
    have k1 := k0.on (by exact hb1)
    have b1 := Below.on b0 b0.size (by exact hb1)
    obtain ⟨c10, c11⟩ := cells_two k1
    go_wp2_with fail
    refine (H2.out _).mono ?_; rintro e w2 ⟨rfl, hb2⟩
    have k2 := k1.on (by exact hb2)
    have b2 := Below.on b1 b1.size (by exact hb2)
    obtain ⟨c20, c21⟩ := cells_two k2
    go_wp2_with fail
    refine (H3.out _).mono ?_; rintro e w3 ⟨rfl, hb3⟩
    have k3 := k2.on (by exact hb3)
    have b3 := Below.on b2 b2.size (by exact hb3)
    obtain ⟨c30, c31⟩ := cells_two k3
    go_wp2
    go_ret2
    exact ⟨rfl, b3⟩

end Go.Proofs.Ytdiibbokdfmcbaa.Pln
