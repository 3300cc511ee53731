
/- Layer 8. Contract: ref08.Text; numbers up to 255. -/
import Derived.Test.YtccidoigjdbepaaDoorQdA
namespace Go.Proofs.YtccidoigjdbepaaDoor.Qd
open Go.RowKit Dec
set_option maxRecDepth 100000

/-- The text of the first k of four bytes. -/
def preAt (a b c d : UInt8) : Nat → List UInt8
  | 0 => []
  | 1 => ds a
  | 2 => ds a ++ [46] ++ ds b
  | 3 => ds a ++ [46] ++ ds b ++ [46] ++ ds c
  | _ => qT a b c d

theorem cells_four {w : World} {g : Nat} {t : TypeId} {p q r s : Value} (h : Blk w g t #[p, q, r, s]) : w.cell? ⟨g, 0, none⟩ = some p ∧ w.cell? ⟨g, 1, none⟩ = some q ∧ w.cell? ⟨g, 2, none⟩ = some r ∧ w.cell? ⟨g, 3, none⟩ = some s := by
  refine ⟨?_, ?_, ?_, ?_⟩ <;> (rw [Lib.cell_of_heap h]; rfl)
theorem frozen_four {w : World} {g : Nat} {t : TypeId} {p q r s : Value} (h : Blk w g t #[p, q, r, s]) : w.frozen? ⟨g, 0, none⟩ = false ∧ w.frozen? ⟨g, 1, none⟩ = false ∧ w.frozen? ⟨g, 2, none⟩ = false ∧ w.frozen? ⟨g, 3, none⟩ = false :=
  ⟨Lib.frozen_of_heap h 0, Lib.frozen_of_heap h 1, Lib.frozen_of_heap h 2, Lib.frozen_of_heap h 3⟩
def set4 (w : World) (g : Nat) (p q r s : Value) : World := (((w.setCell ⟨g, 0, none⟩ p).setCell ⟨g, 1, none⟩ q).setCell ⟨g, 2, none⟩ r).setCell ⟨g, 3, none⟩ s
theorem blk_four {w : World} {g : Nat} {t : TypeId} {p q r s p' q' r' s' : Value} (h : Blk w g t #[p, q, r, s]) : Blk (set4 w g p' q' r' s') g t #[p', q', r', s'] := (((h.setCell 0 p').setCell 1 q').setCell 2 r').setCell 3 s'
theorem below_four {w W : World} {B : Nat} (h : Below B w W) (g : Nat) (hg : B ≤ g) (p' q' r' s' : Value) : Below B w (set4 W g p' q' r' s') :=
  (((h.setCell (p := ⟨g, 0, none⟩) hg p').setCell (p := ⟨g, 1, none⟩) hg q').setCell (p := ⟨g, 2, none⟩) hg r').setCell (p := ⟨g, 3, none⟩) hg s'

set_option maxHeartbeats 1000000 in
theorem refqtext_any (a b c d : UInt8) (w : World) :
    Calls Tryd.prog 57 #[av [a, b, c, d]] w fun e w' => e = .returned (sv (qT a b c d)) ∧ Below w.heap.size w w' := by
  have hA := Lib.hid (fun W => refText8 a W)
  have hB := Lib.hid (fun W => refText8 b W)
  have hC := Lib.hid (fun W => refText8 c W)
  have hD := Lib.hid (fun W => refText8 d W)
  have la := a.toNat_lt
  have lb := b.toNat_lt
  have lc := c.toNat_lt
  have ld := d.toNat_lt
  have ha := ds_len a
  have hb := ds_len b
  have hc := ds_len c
  have hd := ds_len d
  have b0 : Below w.heap.size w (w.alloc (.cells #[bv a, bv b, bv c, bv d] 37)) := (Below.refl _ _).alloc (Nat.le_refl _) _
  have k0 : Blk (w.alloc (.cells #[bv a, bv b, bv c, bv d] 37)) w.heap.size 37 #[bv a, bv b, bv c, bv d] := blk_new _ _ _
  go_enter Tryd.func57, Tryd.ntmps57
  go_wp2_with fail
  refine (hA.out _).mono ?_; rintro e w1 ⟨rfl, hb1⟩
  have k1 := k0.on (by exact hb1)
  have b1 := Below.on b0 b0.size (by exact hb1)
  clear k0 b0 hb1
  go_wp2
  go_loopw [3, 4] (fun v i wr => ∃ k : Nat, 1 ≤ k ∧ k ≤ 4 ∧ i = .int .i64 k ∧ v = sv (preAt a b c d k) ∧ Blk wr w.heap.size 37 #[bv a, bv b, bv c, bv d] ∧ Below w.heap.size w wr) (fun _ i _ => 4 - (intOf i).toNat)
  case atStart => exact ⟨1, by omega, by omega, rfl, rfl, k1, b1⟩
  case round =>
    obtain ⟨k, hk1, hk, rfl, rfl, hblk, hbel⟩ := hrel
    have hbs := hbel.size
    obtain ⟨c0, c1, c2, c3⟩ := cells_four hblk
    have hc : k = 4 ∨ k = 1 ∨ k = 2 ∨ k = 3 := by omega
    rcases hc with rfl | rfl | rfl | rfl
    · go_wp2
      go_ret
      exact ⟨rfl, hbel⟩
    · have HP := Lib.hid (show preAt a b c d 2 = preAt a b c d 1 ++ [46] ++ ds b from rfl)
      have hlen : (preAt a b c d 1).length ≤ 66 := by simp [preAt]; omega
      have hs1 := str_add (preAt a b c d 1) [46]
      generalize preAt a b c d 1 = PR at *
      generalize ds b = DX at *
      go_wp2_with fail
      refine (hB.out _).mono ?_; rintro e w2 ⟨rfl, hb2⟩
      have b2 := Below.on hbel hbs hb2
      have k2 := hblk.on hb2
      go_wp2
      go_roundw
      case rel => exact ⟨2, by omega, by omega, rfl, congrArg Value.string (by rw [HP.out, str_add]), k2, b2⟩
      case measure => simp [intOf]
    · have HP := Lib.hid (show preAt a b c d 3 = preAt a b c d 2 ++ [46] ++ ds c from rfl)
      have hlen : (preAt a b c d 2).length ≤ 66 := by simp [preAt]; omega
      have hs1 := str_add (preAt a b c d 2) [46]
      generalize preAt a b c d 2 = PR at *
      generalize ds c = DX at *
      go_wp2_with fail
      refine (hC.out _).mono ?_; rintro e w2 ⟨rfl, hb2⟩
      have b2 := Below.on hbel hbs hb2
      have k2 := hblk.on hb2
      go_wp2
      go_roundw
      case rel => exact ⟨3, by omega, by omega, rfl, congrArg Value.string (by rw [HP.out, str_add]), k2, b2⟩
      case measure => simp [intOf]
    · have HP := Lib.hid (show preAt a b c d 4 = preAt a b c d 3 ++ [46] ++ ds d from rfl)
      have hlen : (preAt a b c d 3).length ≤ 66 := by simp [preAt]; omega
      have hs1 := str_add (preAt a b c d 3) [46]
      generalize preAt a b c d 3 = PR at *
      generalize ds d = DX at *
      go_wp2_with fail
      refine (hD.out _).mono ?_; rintro e w2 ⟨rfl, hb2⟩
      have b2 := Below.on hbel hbs hb2
      have k2 := hblk.on hb2
      go_wp2
      go_roundw
      case rel => exact ⟨4, by omega, by omega, rfl, congrArg Value.string (by rw [HP.out, str_add]), k2, b2⟩
      case measure => simp [intOf]
end Go.Proofs.YtccidoigjdbepaaDoor.Qd
