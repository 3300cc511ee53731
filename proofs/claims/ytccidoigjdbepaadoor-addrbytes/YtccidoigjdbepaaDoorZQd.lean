
/- Out of the texts QdA, QdB, QdC, QdD, QdE. -/
import Derived.Test.YtccidoigjdbepaaDoorZDec
import Derived.Test.YtccidoigjdbepaaDoorZLin
import Derived.Test.YtccidoigjdbepaaDoorArrA
/- QdA -/
namespace Go.Proofs.YtccidoigjdbepaaDoor.Qd
open Go.RowKit Dec
set_option maxRecDepth 100000

/-- The digits of a byte; the text of four bytes. -/
def ds (c : UInt8) : List UInt8 := Lib.decDigits c.toNat
def qT (a b c d : UInt8) : List UInt8 := ds a ++ [46] ++ ds b ++ [46] ++ ds c ++ [46] ++ ds d
def cellsAt (a b c d : UInt8) (k : Nat) : Array Value := ([sv (ds a), sv (ds b), sv (ds c), sv (ds d)].take k ++ List.replicate (4 - k) (sv [])).toArray

theorem ds_len (c : UInt8) : (ds c).length ≤ 20 := dec_len c.toNat (by have := c.toNat_lt; omega)
theorem text8 (c : UInt8) (w : World) (htab : Tab w) : Calls Tryd.prog 70 #[.int .u64 (c.toNat : Int)] w fun e w' => e = .returned (sv (ds c)) ∧ Below w.heap.size w w' :=
  text_any c.toNat w (by have := c.toNat_lt; omega) htab
theorem refText8 (c : UInt8) (w : World) : Calls Tryd.prog 71 #[.int .u64 (c.toNat : Int)] w fun e w' => e = .returned (sv (ds c)) ∧ Below w.heap.size w w' :=
  refText_any 20 c.toNat w (by have := c.toNat_lt; omega) (by have := c.toNat_lt; omega)

theorem join4 (A : Nat) (a b c d : UInt8) (w : World) (h : Blk w A 92 (cellsAt a b c d 4)) :
    Calls Tryd.prog 76 #[.slice (some ⟨A, 0, none⟩) 4 4, .string ⟨#[46]⟩] w fun e w' => e = .returned (sv (qT a b c d)) ∧ Below w.heap.size w w' := by
  have hla := ds_len a
  have hlb := ds_len b
  have hlc := ds_len c
  have hld := ds_len d
  have hj : Lib.join (([ds a, ds b, ds c, ds d].map fun x => ByteArray.mk ⟨x⟩).map (·.data.toList)) [46] = qT a b c d := by
    simp [Lib.join, qT]
  have := Tryd.strings_Join A 0 4 ([ds a, ds b, ds c, ds d].map fun x => ByteArray.mk ⟨x⟩) ⟨#[46]⟩ w (fun j x hj => by
    rw [Nat.zero_add, Lib.cell_of_heap h]
    match j, hj with
    | 0, hj => injection hj with hj; subst hj; rfl
    | 1, hj => injection hj with hj; subst hj; rfl
    | 2, hj => injection hj with hj; subst hj; rfl
    | 3, hj => injection hj with hj; subst hj; rfl) h.lt (by simp) (by simp) (by
      show (Lib.join _ [46]).length ≤ _
      rw [hj]; simp [qT]; omega)
  refine this.mono fun e w' ⟨he, hb⟩ => ⟨he.trans ?_, hb⟩
  show Ending.returned (.string ⟨(Lib.join _ [46]).toArray⟩) = _
  rw [hj]

set_option maxHeartbeats 1000000 in
theorem qtext_any (a b c d : UInt8) (w : World) (htab : Tab w) :
    Calls Tryd.prog 54 #[av [a, b, c, d]] w fun e w' => e = .returned (sv (qT a b c d)) ∧ Below w.heap.size w w' := by
  have Htab := Lib.hid htab
  clear htab
  have hA := Lib.hid (fun W h => text8 a W h)
  have hB := Lib.hid (fun W h => text8 b W h)
  have hC := Lib.hid (fun W h => text8 c W h)
  have hD := Lib.hid (fun W h => text8 d W h)
  have HJ := Lib.hid (fun W h => join4 (w.heap.size + 1) a b c d W h)
  have la := a.toNat_lt
  have lb := b.toNat_lt
  have lc := c.toNat_lt
  have ld := d.toNat_lt
  have i0 : ∀ w, (Instr.index 37 (.agg #[bv a, bv b, bv c, bv d]) (.int .i64 0)).run Tryd.prog w = .ok (bv a) w := fun _ => by kernel_rfl
  have i1 : ∀ w, (Instr.index 37 (.agg #[bv a, bv b, bv c, bv d]) (.int .i64 1)).run Tryd.prog w = .ok (bv b) w := fun _ => by kernel_rfl
  have i2 : ∀ w, (Instr.index 37 (.agg #[bv a, bv b, bv c, bv d]) (.int .i64 2)).run Tryd.prog w = .ok (bv c) w := fun _ => by kernel_rfl
  have i3 : ∀ w, (Instr.index 37 (.agg #[bv a, bv b, bv c, bv d]) (.int .i64 3)).run Tryd.prog w = .ok (bv d) w := fun _ => by kernel_rfl
  go_enter Tryd.func54, Tryd.ntmps54
  go_wp2
  go_loopw [7] (fun i wr => ∃ k : Nat, k ≤ 4 ∧ i = .int .i64 k ∧ Blk wr (w.heap.size + 1) 92 (cellsAt a b c d k) ∧ Below w.heap.size w wr) (fun i _ => 4 - (intOf i).toNat)
  case atStart => exact ⟨0, Nat.zero_le _, rfl, blk_new' _ _ _ _ (by simp), ((Below.refl _ _).alloc (Nat.le_refl _) _).alloc (by simp) _⟩
  case round =>
    obtain ⟨k, hk, rfl, hblk, hbel⟩ := hrel
    have hbs := hbel.size
    by_cases h4 : k = 4
    · subst h4
      go_wp2_with fail
      refine (HJ.out _ hblk).mono ?_; rintro e w1 ⟨rfl, hb1⟩
      have b1 := Below.on hbel hbs hb1
      go_wp2
      go_ret
      exact ⟨rfl, b1⟩
    · have hc : k = 0 ∨ k = 1 ∨ k = 2 ∨ k = 3 := by omega
      rcases hc with rfl | rfl | rfl | rfl
      · go_wp2_with fail
        refine (hA.out _ (Htab.out.on hbel)).mono ?_; rintro e w1 ⟨rfl, hb1⟩
        have b1 := Below.on hbel hbs hb1
        have k1 := hblk.on hb1
        have f1 := Lib.frozen_of_heap k1 0
        have c1 := Lib.cell_of_heap k1 0
        have HK := Lib.hid (show Blk (w1.setCell ⟨w.heap.size + 1, 0, none⟩ (sv (ds a))) (w.heap.size + 1) 92 (cellsAt a b c d 1) from k1.setCell 0 _)
        have HB := Lib.hid (b1.setCell (p := ⟨w.heap.size + 1, 0, none⟩) (Nat.le_succ _) (sv (ds a)))
        clear k1 hblk hbel hb1 b1
        go_wp2
        go_roundw
        case rel => exact ⟨1, by omega, rfl, HK.out, HB.out⟩
        case measure => simp [intOf]
      · go_wp2_with fail
        refine (hB.out _ (Htab.out.on hbel)).mono ?_; rintro e w1 ⟨rfl, hb1⟩
        have b1 := Below.on hbel hbs hb1
        have k1 := hblk.on hb1
        have f1 := Lib.frozen_of_heap k1 1
        have c1 := Lib.cell_of_heap k1 1
        have HK := Lib.hid (show Blk (w1.setCell ⟨w.heap.size + 1, 1, none⟩ (sv (ds b))) (w.heap.size + 1) 92 (cellsAt a b c d 2) from k1.setCell 1 _)
        have HB := Lib.hid (b1.setCell (p := ⟨w.heap.size + 1, 1, none⟩) (Nat.le_succ _) (sv (ds b)))
        clear k1 hblk hbel hb1 b1
        go_wp2
        go_roundw
        case rel => exact ⟨2, by omega, rfl, HK.out, HB.out⟩
        case measure => simp [intOf]
      · go_wp2_with fail
        refine (hC.out _ (Htab.out.on hbel)).mono ?_; rintro e w1 ⟨rfl, hb1⟩
        have b1 := Below.on hbel hbs hb1
        have k1 := hblk.on hb1
        have f1 := Lib.frozen_of_heap k1 2
        have c1 := Lib.cell_of_heap k1 2
        have HK := Lib.hid (show Blk (w1.setCell ⟨w.heap.size + 1, 2, none⟩ (sv (ds c))) (w.heap.size + 1) 92 (cellsAt a b c d 3) from k1.setCell 2 _)
        have HB := Lib.hid (b1.setCell (p := ⟨w.heap.size + 1, 2, none⟩) (Nat.le_succ _) (sv (ds c)))
        clear k1 hblk hbel hb1 b1
        go_wp2
        go_roundw
        case rel => exact ⟨3, by omega, rfl, HK.out, HB.out⟩
        case measure => simp [intOf]
      · go_wp2_with fail
        refine (hD.out _ (Htab.out.on hbel)).mono ?_; rintro e w1 ⟨rfl, hb1⟩
        have b1 := Below.on hbel hbs hb1
        have k1 := hblk.on hb1
        have f1 := Lib.frozen_of_heap k1 3
        have c1 := Lib.cell_of_heap k1 3
        have HK := Lib.hid (show Blk (w1.setCell ⟨w.heap.size + 1, 3, none⟩ (sv (ds d))) (w.heap.size + 1) 92 (cellsAt a b c d 4) from k1.setCell 3 _)
        have HB := Lib.hid (b1.setCell (p := ⟨w.heap.size + 1, 3, none⟩) (Nat.le_succ _) (sv (ds d)))
        clear k1 hblk hbel hb1 b1
        go_wp2
        go_roundw
        case rel => exact ⟨4, by omega, rfl, HK.out, HB.out⟩
        case measure => simp [intOf]

end Go.Proofs.YtccidoigjdbepaaDoor.Qd

/- QdB -/
namespace Go.Proofs.YtccidoigjdbepaaDoor.Qd
open Go.RowKit Dec
set_option maxRecDepth 100000

/-- The text of the first k of four bytes. -/
def preAt (a b c d : UInt8) : Nat → List UInt8
  | 0 => []
  | 1 => ds a
  | 2 => ds a ++ [46] ++ ds b
  | 3 => ds a ++ [46] ++ ds b ++ [46] ++ ds c
  | _ => qT a b c d

theorem cells_four {w : World} {g : Nat} {t : TypeId} {p q r s : Value} (h : Blk w g t #[p, q, r, s]) : w.cell? ⟨g, 0, none⟩ = some p ∧ w.cell? ⟨g, 1, none⟩ = some q ∧ w.cell? ⟨g, 2, none⟩ = some r ∧ w.cell? ⟨g, 3, none⟩ = some s := by
  refine ⟨?_, ?_, ?_, ?_⟩ <;> (rw [Lib.cell_of_heap h]; rfl)
theorem frozen_four {w : World} {g : Nat} {t : TypeId} {p q r s : Value} (h : Blk w g t #[p, q, r, s]) : w.frozen? ⟨g, 0, none⟩ = false ∧ w.frozen? ⟨g, 1, none⟩ = false ∧ w.frozen? ⟨g, 2, none⟩ = false ∧ w.frozen? ⟨g, 3, none⟩ = false :=
  ⟨Lib.frozen_of_heap h 0, Lib.frozen_of_heap h 1, Lib.frozen_of_heap h 2, Lib.frozen_of_heap h 3⟩
def set4 (w : World) (g : Nat) (p q r s : Value) : World := (((w.setCell ⟨g, 0, none⟩ p).setCell ⟨g, 1, none⟩ q).setCell ⟨g, 2, none⟩ r).setCell ⟨g, 3, none⟩ s
theorem blk_four {w : World} {g : Nat} {t : TypeId} {p q r s p' q' r' s' : Value} (h : Blk w g t #[p, q, r, s]) : Blk (set4 w g p' q' r' s') g t #[p', q', r', s'] := (((h.setCell 0 p').setCell 1 q').setCell 2 r').setCell 3 s'
theorem below_four {w W : World} {B : Nat} (h : Below B w W) (g : Nat) (hg : B ≤ g) (p' q' r' s' : Value) : Below B w (set4 W g p' q' r' s') :=
  (((h.setCell (p := ⟨g, 0, none⟩) hg p').setCell (p := ⟨g, 1, none⟩) hg q').setCell (p := ⟨g, 2, none⟩) hg r').setCell (p := ⟨g, 3, none⟩) hg s'

set_option maxHeartbeats 1000000 in
theorem refqtext_any (a b c d : UInt8) (w : World) :
    Calls Tryd.prog 57 #[av [a, b, c, d]] w fun e w' => e = .returned (sv (qT a b c d)) ∧ Below w.heap.size w w' := by
  have hA := Lib.hid (fun W => refText8 a W)
  have hB := Lib.hid (fun W => refText8 b W)
  have hC := Lib.hid (fun W => refText8 c W)
  have hD := Lib.hid (fun W => refText8 d W)
  have la := a.toNat_lt
  have lb := b.toNat_lt
  have lc := c.toNat_lt
  have ld := d.toNat_lt
  have ha := ds_len a
  have hb := ds_len b
  have hc := ds_len c
  have hd := ds_len d
  have b0 : Below w.heap.size w (w.alloc (.cells #[bv a, bv b, bv c, bv d] 37)) := (Below.refl _ _).alloc (Nat.le_refl _) _
  have k0 : Blk (w.alloc (.cells #[bv a, bv b, bv c, bv d] 37)) w.heap.size 37 #[bv a, bv b, bv c, bv d] := blk_new _ _ _
  go_enter Tryd.func57, Tryd.ntmps57
  go_wp2_with fail
  refine (hA.out _).mono ?_; rintro e w1 ⟨rfl, hb1⟩
  have k1 := k0.on (by exact hb1)
  have b1 := Below.on b0 b0.size (by exact hb1)
  clear k0 b0 hb1
  go_wp2
  go_loopw [3, 4] (fun v i wr => ∃ k : Nat, 1 ≤ k ∧ k ≤ 4 ∧ i = .int .i64 k ∧ v = sv (preAt a b c d k) ∧ Blk wr w.heap.size 37 #[bv a, bv b, bv c, bv d] ∧ Below w.heap.size w wr) (fun _ i _ => 4 - (intOf i).toNat)
  case atStart => exact ⟨1, by omega, by omega, rfl, rfl, k1, b1⟩
  case round =>
    obtain ⟨k, hk1, hk, rfl, rfl, hblk, hbel⟩ := hrel
    have hbs := hbel.size
    obtain ⟨c0, c1, c2, c3⟩ := cells_four hblk
    have hc : k = 4 ∨ k = 1 ∨ k = 2 ∨ k = 3 := by omega
    rcases hc with rfl | rfl | rfl | rfl
    · go_wp2
      go_ret
      exact ⟨rfl, hbel⟩
    · have HP := Lib.hid (show preAt a b c d 2 = preAt a b c d 1 ++ [46] ++ ds b from rfl)
      have hlen : (preAt a b c d 1).length ≤ 66 := by simp [preAt]; omega
      have hs1 := str_add (preAt a b c d 1) [46]
      generalize preAt a b c d 1 = PR at *
      generalize ds b = DX at *
      go_wp2_with fail
      refine (hB.out _).mono ?_; rintro e w2 ⟨rfl, hb2⟩
      have b2 := Below.on hbel hbs hb2
      have k2 := hblk.on hb2
      go_wp2
      go_roundw
      case rel => exact ⟨2, by omega, by omega, rfl, congrArg Value.string (by rw [HP.out, str_add]), k2, b2⟩
      case measure => simp [intOf]
    · have HP := Lib.hid (show preAt a b c d 3 = preAt a b c d 2 ++ [46] ++ ds c from rfl)
      have hlen : (preAt a b c d 2).length ≤ 66 := by simp [preAt]; omega
      have hs1 := str_add (preAt a b c d 2) [46]
      generalize preAt a b c d 2 = PR at *
      generalize ds c = DX at *
      go_wp2_with fail
      refine (hC.out _).mono ?_; rintro e w2 ⟨rfl, hb2⟩
      have b2 := Below.on hbel hbs hb2
      have k2 := hblk.on hb2
      go_wp2
      go_roundw
      case rel => exact ⟨3, by omega, by omega, rfl, congrArg Value.string (by rw [HP.out, str_add]), k2, b2⟩
      case measure => simp [intOf]
    · have HP := Lib.hid (show preAt a b c d 4 = preAt a b c d 3 ++ [46] ++ ds d from rfl)
      have hlen : (preAt a b c d 3).length ≤ 66 := by simp [preAt]; omega
      have hs1 := str_add (preAt a b c d 3) [46]
      generalize preAt a b c d 3 = PR at *
      generalize ds d = DX at *
      go_wp2_with fail
      refine (hD.out _).mono ?_; rintro e w2 ⟨rfl, hb2⟩
      have b2 := Below.on hbel hbs hb2
      have k2 := hblk.on hb2
      go_wp2
      go_roundw
      case rel => exact ⟨4, by omega, by omega, rfl, congrArg Value.string (by rw [HP.out, str_add]), k2, b2⟩
      case measure => simp [intOf]
end Go.Proofs.YtccidoigjdbepaaDoor.Qd

/- QdC -/
namespace Go.Proofs.YtccidoigjdbepaaDoor.Qd
open Go.RowKit Dec Lin
set_option maxRecDepth 100000

open Classical in
/-- The error of a part, and its number. -/
noncomputable def dE (x : List UInt8) : Nat := if Formed x then (if 255 < dval x then 6 else 0) else 5
open Classical in
noncomputable def dV (x : List UInt8) : Nat := if dE x = 0 then dval x else 0
theorem dV_le (x : List UInt8) : dV x ≤ 255 := by
  by_cases h : Formed x
  · by_cases h2 : 255 < dval x
    · have e : dE x = 6 := by rw [dE, if_pos h, if_pos h2]
      rw [dV, e]; simp
    · have e : dE x = 0 := by rw [dE, if_pos h, if_neg h2]
      rw [dV, if_pos e]; omega
  · have e : dE x = 5 := by rw [dE, if_neg h]
    rw [dV, e]; simp
theorem dE_le (x : List UInt8) : dE x = 0 ∨ dE x = 5 ∨ dE x = 6 := by
  unfold dE
  split
  · split <;> simp
  · simp
theorem read8 (x : List UInt8) (hx : x.length ≤ 1000000) (w : World) :
    Calls Tryd.prog 72 #[sv x, .int .u64 255] w fun e w' => e = .returned (.tuple #[.int .u64 (dV x : Int), .int .i64 (dE x : Int)]) ∧ Below w.heap.size w w' := by
  by_cases h : Formed x
  · by_cases h2 : 255 < dval x
    · have e : dE x = 6 := by rw [dE, if_pos h, if_pos h2]
      have e' : dV x = 0 := by rw [dV, e]; rfl
      rw [e, e']
      exact read_walk ⟨⟨x⟩⟩ x rfl 255 _ w h (fun W => formed_yes _ W (by omega) h) (.inr ⟨.inr h2, rfl⟩)
    · have e : dE x = 0 := by rw [dE, if_pos h, if_neg h2]
      have e' : dV x = dval x := by rw [dV, if_pos e]
      rw [e, e']
      exact read_walk ⟨⟨x⟩⟩ x rfl 255 _ w h (fun W => formed_yes _ W (by omega) h) (.inl ⟨by omega, by omega, rfl⟩)
  · have e : dE x = 5 := by rw [dE, if_neg h]
    have e' : dV x = 0 := by rw [dV, e]; rfl
    rw [e, e']
    exact read_form x 255 w (by omega) h
theorem refRead8 (x : List UInt8) (hx : x.length ≤ 1000000) (w : World) :
    Calls Tryd.prog 73 #[sv x, .int .u64 255] w fun e w' => e = .returned (.tuple #[.int .u64 (dV x : Int), .int .i64 (dE x : Int)]) ∧ w = w' := by
  by_cases h : Formed x
  · by_cases h2 : 255 < dval x
    · have e : dE x = 6 := by rw [dE, if_pos h, if_pos h2]
      have e' : dV x = 0 := by rw [dV, e]; rfl
      rw [e, e']
      exact refRead_walk ⟨⟨x⟩⟩ x rfl 255 _ w (by show x.length ≤ _; omega) h (by omega) (.inr ⟨h2, rfl⟩)
    · have e : dE x = 0 := by rw [dE, if_pos h, if_neg h2]
      have e' : dV x = dval x := by rw [dV, if_pos e]
      rw [e, e']
      exact refRead_walk ⟨⟨x⟩⟩ x rfl 255 _ w (by show x.length ≤ _; omega) h (by omega) (.inl ⟨by omega, rfl⟩)
  · have e : dE x = 5 := by rw [dE, if_neg h]
    have e' : dV x = 0 := by rw [dV, e]; rfl
    rw [e, e']
    exact refRead_form x 255 w (by omega) h

/-- A byte of a part. -/
noncomputable def bO (x : List UInt8) : UInt8 := UInt8.ofNat (dV x)
theorem bO_nat (x : List UInt8) : ((bO x).toNat : Int) = (dV x : Int) := by
  have := dV_le x
  simp [bO]
  omega

/-- The error of a text, and its bytes. -/
noncomputable def qE (l : List UInt8) : Nat :=
  match parts 46 l with
  | [x, y, z, u] => if dE x ≠ 0 then dE x else if dE y ≠ 0 then dE y else if dE z ≠ 0 then dE z else dE u
  | _ => 5
noncomputable def qB (l : List UInt8) : List UInt8 :=
  match parts 46 l with
  | [x, y, z, u] => if qE l = 0 then [bO x, bO y, bO z, bO u] else [0, 0, 0, 0]
  | _ => [0, 0, 0, 0]

theorem q_not (l : List UInt8) (h : (parts 46 l).length ≠ 4) : qE l = 5 ∧ qB l = [0, 0, 0, 0] := by
  unfold qE qB
  match hp : parts 46 l with
  | [] => exact ⟨rfl, rfl⟩
  | [_] => exact ⟨rfl, rfl⟩
  | [_, _] => exact ⟨rfl, rfl⟩
  | [_, _, _] => exact ⟨rfl, rfl⟩
  | [_, _, _, _] => rw [hp] at h; exact absurd rfl h
  | _ :: _ :: _ :: _ :: _ :: _ => exact ⟨rfl, rfl⟩
theorem q_four (l x y z u : List UInt8) (h : parts 46 l = [x, y, z, u]) :
    qE l = (if dE x ≠ 0 then dE x else if dE y ≠ 0 then dE y else if dE z ≠ 0 then dE z else dE u) ∧ qB l = if qE l = 0 then [bO x, bO y, bO z, bO u] else [0, 0, 0, 0] := by
  constructor
  · unfold qE; rw [h]
  · unfold qB; rw [h]
theorem q_bad (l : List UInt8) (h : qE l ≠ 0) : qB l = [0, 0, 0, 0] := by
  by_cases h4 : (parts 46 l).length = 4
  · match hp : parts 46 l, h4 with
    | [x, y, z, u], _ => rw [(q_four l x y z u hp).2, if_neg h]
  · exact (q_not l h4).2
theorem isD_46 : isD 46 = false := by decide
theorem ds_no (c : UInt8) : (46 : UInt8) ∉ ds c := by
  intro h
  have := (dec_props c.toNat).1.2.1 46 h
  rw [isD_46] at this
  cases this
theorem parts_qT (a b c d : UInt8) : parts 46 (qT a b c d) = [ds a, ds b, ds c, ds d] := by
  have e : qT a b c d = ds a ++ 46 :: (ds b ++ 46 :: (ds c ++ 46 :: ds d)) := by simp [qT]
  rw [e, parts_yes 46 _ _ (ds_no a), parts_yes 46 _ _ (ds_no b), parts_yes 46 _ _ (ds_no c), parts_no 46 _ (ds_no d)]
theorem dE_ds (c : UInt8) : dE (ds c) = 0 ∧ bO (ds c) = c := by
  obtain ⟨h1, h2, _⟩ := dec_props c.toNat
  have hc := c.toNat_lt
  have h1' : Formed (ds c) := h1
  have h2' : dval (ds c) = c.toNat := h2
  have e : dE (ds c) = 0 := by
    rw [dE, if_pos h1', if_neg]
    rw [h2']; omega
  refine ⟨e, ?_⟩
  have e2 : dV (ds c) = c.toNat := by
    rw [dV, if_pos e]; exact h2
  rw [bO, e2]
  simp
/-- The text of four bytes is parsed as these. -/
theorem q_back (a b c d : UInt8) : qE (qT a b c d) = 0 ∧ qB (qT a b c d) = [a, b, c, d] := by
  obtain ⟨h1, h2⟩ := q_four _ _ _ _ _ (parts_qT a b c d)
  have e : qE (qT a b c d) = 0 := by
    rw [h1, (dE_ds a).1, (dE_ds b).1, (dE_ds c).1, (dE_ds d).1]; rfl
  refine ⟨e, ?_⟩
  rw [h2, if_pos e, (dE_ds a).2, (dE_ds b).2, (dE_ds c).2, (dE_ds d).2]
theorem ds_dE (x : List UInt8) (h : dE x = 0) : ds (bO x) = x := by
  have hv := dV_le x
  have h1 : Formed x := by
    false_or_by_contra
    next hn => rw [dE, if_neg hn] at h; cases h
  have e2 : dV x = dval x := by rw [dV, if_pos h]
  have e3 : (bO x).toNat = dval x := by rw [← e2, bO]; simp; omega
  show Lib.decDigits (bO x).toNat = x
  rw [e3]
  exact dec_back x.length x rfl h1
theorem joined (l x y z u : List UInt8) (h : parts 46 l = [x, y, z, u]) : l = x ++ [46] ++ y ++ [46] ++ z ++ [46] ++ u := by
  have step : ∀ (l : List UInt8) (x : List UInt8) (r : List (List UInt8)), parts 46 l = x :: r → r ≠ [] → ∃ m, l = x ++ 46 :: m ∧ parts 46 m = r := by
    intro l x r hp hr
    rcases cut_cases 46 l with h | ⟨a, b, rfl, h⟩
    · rw [parts_no 46 l h] at hp
      injection hp with _ h2
      exact absurd h2.symm hr
    · rw [parts_yes 46 a b h] at hp
      injection hp with h1 h2
      exact ⟨b, by rw [h1], h2⟩
  obtain ⟨m1, e1, p1⟩ := step l x _ h (by simp)
  obtain ⟨m2, e2, p2⟩ := step m1 y _ p1 (by simp)
  obtain ⟨m3, e3, p3⟩ := step m2 z _ p2 (by simp)
  have e4 : m3 = u := by
    rcases cut_cases 46 m3 with h | ⟨a, b, e, h⟩
    · rw [parts_no 46 m3 h] at p3; injection p3
    · rw [e, parts_yes 46 a b h] at p3
      injection p3 with _ h2
      obtain ⟨q, r, e5⟩ := parts_ne 46 b
      rw [e5] at h2; cases h2
  rw [e1, e2, e3, e4]; simp
/-- What is parsed has just that text. -/
theorem q_text (l : List UInt8) (h : qE l = 0) : ∃ a b c d, qB l = [a, b, c, d] ∧ qT a b c d = l := by
  by_cases h4 : (parts 46 l).length = 4
  · match hp : parts 46 l, h4 with
    | [x, y, z, u], _ =>
      obtain ⟨h1, h2⟩ := q_four l x y z u hp
      rw [if_pos h] at h2
      rw [h] at h1
      have h1 := h1.symm
      have d1 : dE x = 0 := by
        false_or_by_contra; next hn => rw [if_pos hn] at h1; exact hn h1
      have d2 : dE y = 0 := by
        false_or_by_contra; next hn => rw [if_neg (by simpa using d1), if_pos hn] at h1; exact hn h1
      have d3 : dE z = 0 := by
        false_or_by_contra; next hn => rw [if_neg (by simpa using d1), if_neg (by simpa using d2), if_pos hn] at h1; exact hn h1
      have d4 : dE u = 0 := by rw [if_neg (by simpa using d1), if_neg (by simpa using d2), if_neg (by simpa using d3)] at h1; exact h1
      refine ⟨_, _, _, _, h2, ?_⟩
      rw [qT, ds_dE x d1, ds_dE y d2, ds_dE z d3, ds_dE u d4]
      exact (joined l x y z u hp).symm
  · rw [(q_not l h4).1] at h; cases h
theorem q_four' (l : List UInt8) : ∃ a b c d, qB l = [a, b, c, d] := by
  by_cases h : qE l = 0
  · obtain ⟨a, b, c, d, h1, _⟩ := q_text l h
    exact ⟨a, b, c, d, h1⟩
  · exact ⟨0, 0, 0, 0, q_bad l h⟩

end Go.Proofs.YtccidoigjdbepaaDoor.Qd

/- QdD -/
namespace Go.Proofs.YtccidoigjdbepaaDoor.Qd
open Go.RowKit Dec Lin
set_option maxRecDepth 100000

theorem GOwn_elem {α : Type} {f : α → Value} {e : TypeId} {w : World} {base n c : Nat} {A : Option Addr} {l : List α} (h : GOwn f e w base (.slice A n c) n l) {k : Nat} (hk : k < n) :
    ∃ (b off : Nat) (x : α), A = some ⟨b, off, none⟩ ∧ w.cell? ⟨b, off + k, none⟩ = some (f x) ∧ l[k]? = some x := by
  obtain ⟨A2, c2, e1, _, _, hs⟩ := h.sh
  injection e1 with e1
  subst e1
  obtain ⟨b, off, x, e2, _, hc, hx⟩ := hs.elem hk
  exact ⟨b, off, x, e2, hc, hx⟩
theorem parts46 (l : List UInt8) (w : World) (hn : l.length ≤ 1000000) :
    Calls Tryd.prog 88 #[sv l, .int .u8 46] w fun e w' => (∃ v, e = .returned v ∧ OwnS w' w.heap.size v (parts 46 l).length (parts 46 l)) ∧ Below w.heap.size w w' := parts_any l 46 w hn
theorem refParts46 (l : List UInt8) (w : World) (hn : l.length ≤ 1000000) :
    Calls Tryd.prog 63 #[sv l, .int .u8 46] w fun e w' => (∃ v, e = .returned v ∧ OwnS w' w.heap.size v (parts 46 l).length (parts 46 l)) ∧ Below w.heap.size w w' := refParts_any l 46 w hn
/-- Four bytes, the first k of them there. -/
noncomputable def bAt (x y z u : List UInt8) (k : Nat) : Array Value := ([bv (bO x), bv (bO y), bv (bO z), bv (bO u)].take k ++ List.replicate (4 - k) (bv 0)).toArray
theorem infoQ : (Tryd.prog.info? 37).map (·.size) = some 4 := by kernel_rfl
theorem own_over {w : World} {base g : Nat} {e : TypeId} {size : Nat} {v : Value} {n : Nat} {xs : List Value} (h : w.ownsRow base e size v n xs) (hg : g < base) (p q r s : Value) : (set4 w g p q r s).ownsRow base e size v n xs :=
  ownsRow_setCell_below (ownsRow_setCell_below (ownsRow_setCell_below (ownsRow_setCell_below h (a := ⟨g, 0, none⟩) hg p) (a := ⟨g, 1, none⟩) hg q) (a := ⟨g, 2, none⟩) hg r) (a := ⟨g, 3, none⟩) hg s
theorem own_below {w w' : World} {base : Nat} {e : TypeId} {size : Nat} {v : Value} {n : Nat} {xs : List Value} (h : w.ownsRow base e size v n xs) (hb : Below w.heap.size w w') : w'.ownsRow base e size v n xs := by
  have h3 : w.grownBy w' none := ⟨hb.os, hb.tape, hb.output, hb.size, fun k hk _ => hb.block k hk⟩
  exact h.kept h3 (by cases hv : v.ownBlock <;> simp)
theorem part_len (l : List UInt8) (N : Nat) (hn : l.length ≤ N) : ∀ x ∈ parts 46 l, x.length ≤ N := by
  have h : ∀ l : List UInt8, ∀ x ∈ parts 46 l, x.length ≤ l.length := by
    intro l
    induction l with
    | nil => intro x hx; simp [parts] at hx; subst hx; simp
    | cons c t ih =>
      intro x hx
      unfold parts at hx
      split at hx
      · rcases List.mem_cons.1 hx with h | h
        · subst h; simp
        · have := ih x h; simp; omega
      · obtain ⟨a, b, e⟩ := parts_ne 46 t
        rw [e] at hx
        simp only at hx
        rcases List.mem_cons.1 hx with h | h
        · subst h
          have := ih a (by rw [e]; simp)
          simp; omega
        · have := ih x (by rw [e]; simp [h]); simp; omega
  intro x hx
  exact Nat.le_trans (h l x hx) hn
theorem len_four {α : Type} (L : List α) (h : L.length = 4) : ∃ x y z u, L = [x, y, z, u] := by
  match L, h with
  | [x, y, z, u], _ => exact ⟨x, y, z, u, rfl⟩

theorem qparse_not (l : List UInt8) (w : World) (hn : l.length ≤ 1000000) (h4 : (parts 46 l).length ≠ 4) :
    Calls Tryd.prog 62 #[sv l] w fun e w' => e = .returned (.tuple #[av [0, 0, 0, 0], .int .i64 5]) ∧ Below w.heap.size w w' := by
  have HP := Lib.hid (fun W => parts46 l W hn)
  have hne : (((parts 46 l).length : Int) != 4) = true := by rw [bne_iff_ne]; omega
  have k0 : Blk (w.alloc (.cells #[bv 0, bv 0, bv 0, bv 0] 37)) w.heap.size 37 #[bv 0, bv 0, bv 0, bv 0] := blk_new _ _ _
  have k0' := k0.alloc (.cells #[bv 0, bv 0, bv 0, bv 0] 37)
  have b0 : Below w.heap.size w ((w.alloc (.cells #[bv 0, bv 0, bv 0, bv 0] 37)).alloc (.cells #[bv 0, bv 0, bv 0, bv 0] 37)) := ((Below.refl _ _).alloc (Nat.le_refl _) _).alloc (by simp) _
  clear h4
  generalize parts 46 l = P at *
  go_enter Tryd.func62, Tryd.ntmps62
  go_wp2_with fail
  refine (HP.out _).mono ?_; rintro e w1 ⟨⟨v, rfl, ho⟩, hb1⟩
  have k1 := k0'.on (by exact hb1)
  have b1 := Below.on b0 b0.size (by exact hb1)
  obtain ⟨A1, c1, rfl, _, _, _⟩ := GOwn.sh ho
  obtain ⟨p0, p1, p2, p3⟩ := cells_four k1
  obtain ⟨f0, f1, f2, f3⟩ := frozen_four k1
  clear ho
  go_wp2
  refine bodyPost_blk2 rfl _ rfl (blk_four k1) Tryd.underlying37 rfl infoQ rfl ⟨rfl, ?_⟩
  exact below_four b1 _ (Nat.le_refl _) _ _ _ _

set_option maxHeartbeats 4000000 in
theorem qparse_four (l x y z u : List UInt8) (w : World) (hn : l.length ≤ 1000000) (h4 : parts 46 l = [x, y, z, u]) :
    Calls Tryd.prog 62 #[sv l] w fun e w' => e = .returned (.tuple #[av (qB l), .int .i64 (qE l : Int)]) ∧ Below w.heap.size w w' := by
  have HP := Lib.hid (fun W => parts46 l W hn)
  obtain ⟨q1, q2⟩ := q_four l x y z u h4
  have hq3 := q_bad l
  rw [h4] at HP
  have hl := part_len l _ hn
  rw [h4] at hl
  have HX := Lib.hid (fun W => read8 x (hl x (by simp)) W)
  have HY := Lib.hid (fun W => read8 y (hl y (by simp)) W)
  have HZ := Lib.hid (fun W => read8 z (hl z (by simp)) W)
  have HU := Lib.hid (fun W => read8 u (hl u (by simp)) W)
  have vx := dV_le x
  have vy := dV_le y
  have vz := dV_le z
  have vu := dV_le u
  have ox := bO_nat x
  have oy := bO_nat y
  have oz := bO_nat z
  have ou := bO_nat u
  have OX := Lib.hid ox
  have OY := Lib.hid oy
  have OZ := Lib.hid oz
  have OU := Lib.hid ou
  clear ox oy oz ou
  have Q1 := Lib.hid q1
  have Q2 := Lib.hid q2
  have Q3 := Lib.hid hq3
  clear q1 q2 hq3 hl h4
  have BA := Lib.hid (show ∀ k, bAt x y z u k = ([bv (bO x), bv (bO y), bv (bO z), bv (bO u)].take k ++ List.replicate (4 - k) (bv 0)).toArray from fun _ => rfl)
  generalize qE l = E at *
  generalize qB l = B at *
  generalize dE x = ex at *
  generalize dE y = ey at *
  generalize dE z = ez at *
  generalize dE u = eu at *
  generalize dV x = nx at *
  generalize dV y = ny at *
  generalize dV z = nz at *
  generalize dV u = nu at *
  have k0 : Blk (w.alloc (.cells #[bv 0, bv 0, bv 0, bv 0] 37)) w.heap.size 37 #[bv 0, bv 0, bv 0, bv 0] := blk_new _ _ _
  have k0' := k0.alloc (.cells #[bv 0, bv 0, bv 0, bv 0] 37)
  have j0 : Blk ((w.alloc (.cells #[bv 0, bv 0, bv 0, bv 0] 37)).alloc (.cells #[bv 0, bv 0, bv 0, bv 0] 37)) (w.heap.size + 1) 37 #[bv 0, bv 0, bv 0, bv 0] := blk_new' _ _ _ _ (by simp)
  have b0 : Below w.heap.size w ((w.alloc (.cells #[bv 0, bv 0, bv 0, bv 0] 37)).alloc (.cells #[bv 0, bv 0, bv 0, bv 0] 37)) := ((Below.refl _ _).alloc (Nat.le_refl _) _).alloc (by simp) _
  have hsz0 : ((w.alloc (.cells #[bv 0, bv 0, bv 0, bv 0] 37)).alloc (.cells #[bv 0, bv 0, bv 0, bv 0] 37)).heap.size = w.heap.size + 2 := by simp
  go_enter Tryd.func62, Tryd.ntmps62
  go_wp2_with fail
  refine (HP.out _).mono ?_; rintro e w1 ⟨⟨v, rfl, ho⟩, hb1⟩
  have k1 := k0'.on (by exact hb1)
  have j1 := j0.on (by exact hb1)
  have b1 := Below.on b0 b0.size (by exact hb1)
  have ho1 : OwnS w1 (w.heap.size + 2) v 4 [x, y, z, u] := by rw [← hsz0]; exact ho
  obtain ⟨A1, c1, rfl, hc1, _, _⟩ := GOwn.sh ho1
  clear ho hb1 k0 k0' j0 b0
  go_wp2
  go_loopw [18] (fun i wr => ∃ k : Nat, k ≤ 4 ∧ i = .int .i64 k ∧ Hid ((0 < k → ex = 0) ∧ (1 < k → ey = 0) ∧ (2 < k → ez = 0) ∧ (3 < k → eu = 0)) ∧ Blk wr (w.heap.size + 1) 37 (bAt x y z u k) ∧ Blk wr w.heap.size 37 #[bv 0, bv 0, bv 0, bv 0] ∧ OwnS wr (w.heap.size + 2) (.slice A1 4 c1) 4 [x, y, z, u] ∧ Below w.heap.size w wr) (fun i _ => 4 - (intOf i).toNat)
  case atStart => exact ⟨0, Nat.zero_le _, rfl, Lib.hid ⟨fun h => absurd h (by omega), fun h => absurd h (by omega), fun h => absurd h (by omega), fun h => absurd h (by omega)⟩, j1, k1, ho1, b1⟩
  case round =>
    clear j1 k1 ho1 b1
    obtain ⟨k, hk, rfl, hz, hj, hkb, hown, hbel⟩ := hrel
    have hbs := hbel.size
    by_cases h4 : k = 4
    · subst h4
      obtain ⟨z1, z2, z3, z4⟩ := hz.out
      have hE : E = 0 := by rw [Q1.out]; rw [if_neg (by simp; exact z1 (by omega)), if_neg (by simp; exact z2 (by omega)), if_neg (by simp; exact z3 (by omega))]; exact z4 (by omega)
      have hB := Q2.out
      rw [if_pos hE] at hB
      subst hE hB
      clear z1 z2 z3 z4 hz Q1 Q2 Q3
      have hj' : Blk wr (w.heap.size + 1) 37 #[bv (bO x), bv (bO y), bv (bO z), bv (bO u)] := hj
      obtain ⟨j0, j1, j2, j3⟩ := cells_four hj'
      obtain ⟨p0, p1, p2, p3⟩ := cells_four hkb
      obtain ⟨f0, f1, f2, f3⟩ := frozen_four hkb
      go_wp2
      refine bodyPost_blk2 rfl _ rfl (blk_four hkb) Tryd.underlying37 rfl infoQ rfl ⟨rfl, ?_⟩
      exact below_four hbel _ (Nat.le_refl _) _ _ _ _
    · have hc : k = 0 ∨ k = 1 ∨ k = 2 ∨ k = 3 := by omega
      rcases hc with rfl | rfl | rfl | rfl
      · obtain ⟨b, off, xx, rfl, hcell, hxx⟩ := GOwn_elem hown (k := 0) (by omega)
        obtain rfl : x = xx := by simpa using hxx
        clear hxx
        try rw [Nat.add_zero] at hcell
        go_wp2_with fail
        refine (HX.out _).mono ?_; rintro e w2 ⟨rfl, hb2⟩
        have b2 := Below.on hbel hbs hb2
        have k2 := hkb.on hb2
        have j2 := hj.on hb2
        have o2 := own_below hown hb2
        clear hbel hkb hj hown hb2 hcell
        by_cases he : ex = 0
        · have hm : (nx : Int) % 256 = (nx : Int) := by omega
          have hm2 : IntKind.u8.wrap (nx : Int) = (nx : Int) := by show (nx : Int) % 256 = _; omega
          have f2 := Lib.frozen_of_heap j2 0
          have cc2 := Lib.cell_of_heap j2 0
          have HK := Lib.hid (show Blk (w2.setCell ⟨w.heap.size + 1, 0, none⟩ (bv (bO x))) (w.heap.size + 1) 37 (bAt x y z u 1) from j2.setCell 0 _)
          have HB := Lib.hid (b2.setCell (p := ⟨w.heap.size + 1, 0, none⟩) (Nat.le_succ _) (bv (bO x)))
          have HK2 := Lib.hid (k2.other ⟨w.heap.size + 1, 0, none⟩ (bv (bO x)) (Nat.ne_of_lt (Nat.lt_succ_self _)))
          have HO := Lib.hid (ownsRow_setCell_below o2 (a := ⟨w.heap.size + 1, 0, none⟩) (Nat.lt_succ_self _) (bv (bO x)))
          unfold bv at HK HB HK2 HO
          rw [OX.out] at HK HB HK2 HO
          subst he
          clear j2 k2 o2 b2
          go_wp2
          go_roundw
          case rel => exact ⟨1, by omega, rfl, Lib.hid ⟨by simp, fun h => absurd h (by omega), fun h => absurd h (by omega), fun h => absurd h (by omega)⟩, HK.out, HK2.out, HO.out, HB.out⟩
          case measure => simp [intOf]
        · have hne : ((ex : Int) != 0) = true := by rw [bne_iff_ne]; omega
          have hE : E = ex := by rw [Q1.out]; exact if_pos he
          have hB := Q3.out (by rw [hE]; exact he)
          subst hE hB
          obtain ⟨p0, p1, p2, p3⟩ := cells_four k2
          obtain ⟨f0, f1, f2, f3⟩ := frozen_four k2
          clear Q1 Q2 Q3 hz
          go_wp2
          refine bodyPost_blk2 rfl _ rfl (blk_four k2) Tryd.underlying37 rfl infoQ rfl ⟨rfl, ?_⟩
          exact below_four b2 _ (Nat.le_refl _) _ _ _ _
      · obtain ⟨b, off, xx, rfl, hcell, hxx⟩ := GOwn_elem hown (k := 1) (by omega)
        obtain rfl : y = xx := by simpa using hxx
        clear hxx
        try rw [Nat.add_zero] at hcell
        go_wp2_with fail
        refine (HY.out _).mono ?_; rintro e w2 ⟨rfl, hb2⟩
        have b2 := Below.on hbel hbs hb2
        have k2 := hkb.on hb2
        have j2 := hj.on hb2
        have o2 := own_below hown hb2
        clear hbel hkb hj hown hb2 hcell
        by_cases he : ey = 0
        · have hm : (ny : Int) % 256 = (ny : Int) := by omega
          have hm2 : IntKind.u8.wrap (ny : Int) = (ny : Int) := by show (ny : Int) % 256 = _; omega
          have f2 := Lib.frozen_of_heap j2 1
          have cc2 := Lib.cell_of_heap j2 1
          have HK := Lib.hid (show Blk (w2.setCell ⟨w.heap.size + 1, 1, none⟩ (bv (bO y))) (w.heap.size + 1) 37 (bAt x y z u 2) from j2.setCell 1 _)
          have HB := Lib.hid (b2.setCell (p := ⟨w.heap.size + 1, 1, none⟩) (Nat.le_succ _) (bv (bO y)))
          have HK2 := Lib.hid (k2.other ⟨w.heap.size + 1, 1, none⟩ (bv (bO y)) (Nat.ne_of_lt (Nat.lt_succ_self _)))
          have HO := Lib.hid (ownsRow_setCell_below o2 (a := ⟨w.heap.size + 1, 1, none⟩) (Nat.lt_succ_self _) (bv (bO y)))
          unfold bv at HK HB HK2 HO
          rw [OY.out] at HK HB HK2 HO
          subst he
          clear j2 k2 o2 b2
          go_wp2
          go_roundw
          case rel => exact ⟨2, by omega, rfl, Lib.hid ⟨fun _ => hz.out.1 (by omega), by simp, fun h => absurd h (by omega), fun h => absurd h (by omega)⟩, HK.out, HK2.out, HO.out, HB.out⟩
          case measure => simp [intOf]
        · have hne : ((ey : Int) != 0) = true := by rw [bne_iff_ne]; omega
          have hE : E = ey := by rw [Q1.out]; rw [if_neg (by simp; exact hz.out.1 (by omega))]; exact if_pos he
          have hB := Q3.out (by rw [hE]; exact he)
          subst hE hB
          obtain ⟨p0, p1, p2, p3⟩ := cells_four k2
          obtain ⟨f0, f1, f2, f3⟩ := frozen_four k2
          clear Q1 Q2 Q3 hz
          go_wp2
          refine bodyPost_blk2 rfl _ rfl (blk_four k2) Tryd.underlying37 rfl infoQ rfl ⟨rfl, ?_⟩
          exact below_four b2 _ (Nat.le_refl _) _ _ _ _
      · obtain ⟨b, off, xx, rfl, hcell, hxx⟩ := GOwn_elem hown (k := 2) (by omega)
        obtain rfl : z = xx := by simpa using hxx
        clear hxx
        try rw [Nat.add_zero] at hcell
        go_wp2_with fail
        refine (HZ.out _).mono ?_; rintro e w2 ⟨rfl, hb2⟩
        have b2 := Below.on hbel hbs hb2
        have k2 := hkb.on hb2
        have j2 := hj.on hb2
        have o2 := own_below hown hb2
        clear hbel hkb hj hown hb2 hcell
        by_cases he : ez = 0
        · have hm : (nz : Int) % 256 = (nz : Int) := by omega
          have hm2 : IntKind.u8.wrap (nz : Int) = (nz : Int) := by show (nz : Int) % 256 = _; omega
          have f2 := Lib.frozen_of_heap j2 2
          have cc2 := Lib.cell_of_heap j2 2
          have HK := Lib.hid (show Blk (w2.setCell ⟨w.heap.size + 1, 2, none⟩ (bv (bO z))) (w.heap.size + 1) 37 (bAt x y z u 3) from j2.setCell 2 _)
          have HB := Lib.hid (b2.setCell (p := ⟨w.heap.size + 1, 2, none⟩) (Nat.le_succ _) (bv (bO z)))
          have HK2 := Lib.hid (k2.other ⟨w.heap.size + 1, 2, none⟩ (bv (bO z)) (Nat.ne_of_lt (Nat.lt_succ_self _)))
          have HO := Lib.hid (ownsRow_setCell_below o2 (a := ⟨w.heap.size + 1, 2, none⟩) (Nat.lt_succ_self _) (bv (bO z)))
          unfold bv at HK HB HK2 HO
          rw [OZ.out] at HK HB HK2 HO
          subst he
          clear j2 k2 o2 b2
          go_wp2
          go_roundw
          case rel => exact ⟨3, by omega, rfl, Lib.hid ⟨fun _ => hz.out.1 (by omega), fun _ => hz.out.2.1 (by omega), by simp, fun h => absurd h (by omega)⟩, HK.out, HK2.out, HO.out, HB.out⟩
          case measure => simp [intOf]
        · have hne : ((ez : Int) != 0) = true := by rw [bne_iff_ne]; omega
          have hE : E = ez := by rw [Q1.out]; rw [if_neg (by simp; exact hz.out.1 (by omega))]; rw [if_neg (by simp; exact hz.out.2.1 (by omega))]; exact if_pos he
          have hB := Q3.out (by rw [hE]; exact he)
          subst hE hB
          obtain ⟨p0, p1, p2, p3⟩ := cells_four k2
          obtain ⟨f0, f1, f2, f3⟩ := frozen_four k2
          clear Q1 Q2 Q3 hz
          go_wp2
          refine bodyPost_blk2 rfl _ rfl (blk_four k2) Tryd.underlying37 rfl infoQ rfl ⟨rfl, ?_⟩
          exact below_four b2 _ (Nat.le_refl _) _ _ _ _
      · obtain ⟨b, off, xx, rfl, hcell, hxx⟩ := GOwn_elem hown (k := 3) (by omega)
        obtain rfl : u = xx := by simpa using hxx
        clear hxx
        try rw [Nat.add_zero] at hcell
        go_wp2_with fail
        refine (HU.out _).mono ?_; rintro e w2 ⟨rfl, hb2⟩
        have b2 := Below.on hbel hbs hb2
        have k2 := hkb.on hb2
        have j2 := hj.on hb2
        have o2 := own_below hown hb2
        clear hbel hkb hj hown hb2 hcell
        by_cases he : eu = 0
        · have hm : (nu : Int) % 256 = (nu : Int) := by omega
          have hm2 : IntKind.u8.wrap (nu : Int) = (nu : Int) := by show (nu : Int) % 256 = _; omega
          have f2 := Lib.frozen_of_heap j2 3
          have cc2 := Lib.cell_of_heap j2 3
          have HK := Lib.hid (show Blk (w2.setCell ⟨w.heap.size + 1, 3, none⟩ (bv (bO u))) (w.heap.size + 1) 37 (bAt x y z u 4) from j2.setCell 3 _)
          have HB := Lib.hid (b2.setCell (p := ⟨w.heap.size + 1, 3, none⟩) (Nat.le_succ _) (bv (bO u)))
          have HK2 := Lib.hid (k2.other ⟨w.heap.size + 1, 3, none⟩ (bv (bO u)) (Nat.ne_of_lt (Nat.lt_succ_self _)))
          have HO := Lib.hid (ownsRow_setCell_below o2 (a := ⟨w.heap.size + 1, 3, none⟩) (Nat.lt_succ_self _) (bv (bO u)))
          unfold bv at HK HB HK2 HO
          rw [OU.out] at HK HB HK2 HO
          subst he
          clear j2 k2 o2 b2
          go_wp2
          go_roundw
          case rel => exact ⟨4, by omega, rfl, Lib.hid ⟨fun _ => hz.out.1 (by omega), fun _ => hz.out.2.1 (by omega), fun _ => hz.out.2.2.1 (by omega), by simp⟩, HK.out, HK2.out, HO.out, HB.out⟩
          case measure => simp [intOf]
        · have hne : ((eu : Int) != 0) = true := by rw [bne_iff_ne]; omega
          have hE : E = eu := by rw [Q1.out]; rw [if_neg (by simp; exact hz.out.1 (by omega))]; rw [if_neg (by simp; exact hz.out.2.1 (by omega))]; rw [if_neg (by simp; exact hz.out.2.2.1 (by omega))]
          have hB := Q3.out (by rw [hE]; exact he)
          subst hE hB
          obtain ⟨p0, p1, p2, p3⟩ := cells_four k2
          obtain ⟨f0, f1, f2, f3⟩ := frozen_four k2
          clear Q1 Q2 Q3 hz
          go_wp2
          refine bodyPost_blk2 rfl _ rfl (blk_four k2) Tryd.underlying37 rfl infoQ rfl ⟨rfl, ?_⟩
          exact below_four b2 _ (Nat.le_refl _) _ _ _ _

theorem qparse_any (l : List UInt8) (w : World) (hn : l.length ≤ 1000000) :
    Calls Tryd.prog 62 #[sv l] w fun e w' => e = .returned (.tuple #[av (qB l), .int .i64 (qE l : Int)]) ∧ Below w.heap.size w w' := by
  by_cases h4 : (parts 46 l).length = 4
  · obtain ⟨x, y, z, u, h⟩ := len_four _ h4
    exact qparse_four l x y z u w hn h
  · rw [(q_not l h4).1, (q_not l h4).2]
    exact qparse_not l w hn h4

theorem refqparse_not (l : List UInt8) (w : World) (hn : l.length ≤ 1000000) (h4 : (parts 46 l).length ≠ 4) :
    Calls Tryd.prog 65 #[sv l] w fun e w' => e = .returned (.tuple #[av [0, 0, 0, 0], .int .i64 5]) ∧ Below w.heap.size w w' := by
  have HP := Lib.hid (fun W => refParts46 l W hn)
  have hne : (((parts 46 l).length : Int) != 4) = true := by rw [bne_iff_ne]; omega
  have k0 : Blk (w.alloc (.cells #[bv 0, bv 0, bv 0, bv 0] 37)) w.heap.size 37 #[bv 0, bv 0, bv 0, bv 0] := blk_new _ _ _
  have k0' := k0.alloc (.cells #[bv 0, bv 0, bv 0, bv 0] 37)
  have b0 : Below w.heap.size w ((w.alloc (.cells #[bv 0, bv 0, bv 0, bv 0] 37)).alloc (.cells #[bv 0, bv 0, bv 0, bv 0] 37)) := ((Below.refl _ _).alloc (Nat.le_refl _) _).alloc (by simp) _
  clear h4
  generalize parts 46 l = P at *
  go_enter Tryd.func65, Tryd.ntmps65
  go_wp2_with fail
  refine (HP.out _).mono ?_; rintro e w1 ⟨⟨v, rfl, ho⟩, hb1⟩
  have k1 := k0'.on (by exact hb1)
  have b1 := Below.on b0 b0.size (by exact hb1)
  obtain ⟨A1, c1, rfl, _, _, _⟩ := GOwn.sh ho
  obtain ⟨p0, p1, p2, p3⟩ := cells_four k1
  obtain ⟨f0, f1, f2, f3⟩ := frozen_four k1
  clear ho
  go_wp2
  refine bodyPost_blk2 rfl _ rfl (blk_four k1) Tryd.underlying37 rfl infoQ rfl ⟨rfl, ?_⟩
  exact below_four b1 _ (Nat.le_refl _) _ _ _ _

set_option maxHeartbeats 4000000 in
theorem refqparse_four (l x y z u : List UInt8) (w : World) (hn : l.length ≤ 1000000) (h4 : parts 46 l = [x, y, z, u]) :
    Calls Tryd.prog 65 #[sv l] w fun e w' => e = .returned (.tuple #[av (qB l), .int .i64 (qE l : Int)]) ∧ Below w.heap.size w w' := by
  have HP := Lib.hid (fun W => refParts46 l W hn)
  obtain ⟨q1, q2⟩ := q_four l x y z u h4
  have hq3 := q_bad l
  rw [h4] at HP
  have hl := part_len l _ hn
  rw [h4] at hl
  have HX := Lib.hid (fun W => refRead8 x (hl x (by simp)) W)
  have HY := Lib.hid (fun W => refRead8 y (hl y (by simp)) W)
  have HZ := Lib.hid (fun W => refRead8 z (hl z (by simp)) W)
  have HU := Lib.hid (fun W => refRead8 u (hl u (by simp)) W)
  have vx := dV_le x
  have vy := dV_le y
  have vz := dV_le z
  have vu := dV_le u
  have ox := bO_nat x
  have oy := bO_nat y
  have oz := bO_nat z
  have ou := bO_nat u
  have OX := Lib.hid ox
  have OY := Lib.hid oy
  have OZ := Lib.hid oz
  have OU := Lib.hid ou
  clear ox oy oz ou
  have Q1 := Lib.hid q1
  have Q2 := Lib.hid q2
  have Q3 := Lib.hid hq3
  clear q1 q2 hq3 hl h4
  have BA := Lib.hid (show ∀ k, bAt x y z u k = ([bv (bO x), bv (bO y), bv (bO z), bv (bO u)].take k ++ List.replicate (4 - k) (bv 0)).toArray from fun _ => rfl)
  generalize qE l = E at *
  generalize qB l = B at *
  generalize dE x = ex at *
  generalize dE y = ey at *
  generalize dE z = ez at *
  generalize dE u = eu at *
  generalize dV x = nx at *
  generalize dV y = ny at *
  generalize dV z = nz at *
  generalize dV u = nu at *
  have k0 : Blk (w.alloc (.cells #[bv 0, bv 0, bv 0, bv 0] 37)) w.heap.size 37 #[bv 0, bv 0, bv 0, bv 0] := blk_new _ _ _
  have k0' := k0.alloc (.cells #[bv 0, bv 0, bv 0, bv 0] 37)
  have j0 : Blk ((w.alloc (.cells #[bv 0, bv 0, bv 0, bv 0] 37)).alloc (.cells #[bv 0, bv 0, bv 0, bv 0] 37)) (w.heap.size + 1) 37 #[bv 0, bv 0, bv 0, bv 0] := blk_new' _ _ _ _ (by simp)
  have b0 : Below w.heap.size w ((w.alloc (.cells #[bv 0, bv 0, bv 0, bv 0] 37)).alloc (.cells #[bv 0, bv 0, bv 0, bv 0] 37)) := ((Below.refl _ _).alloc (Nat.le_refl _) _).alloc (by simp) _
  have hsz0 : ((w.alloc (.cells #[bv 0, bv 0, bv 0, bv 0] 37)).alloc (.cells #[bv 0, bv 0, bv 0, bv 0] 37)).heap.size = w.heap.size + 2 := by simp
  go_enter Tryd.func65, Tryd.ntmps65
  go_wp2_with fail
  refine (HP.out _).mono ?_; rintro e w1 ⟨⟨v, rfl, ho⟩, hb1⟩
  have k1 := k0'.on (by exact hb1)
  have j1 := j0.on (by exact hb1)
  have b1 := Below.on b0 b0.size (by exact hb1)
  have ho1 : OwnS w1 (w.heap.size + 2) v 4 [x, y, z, u] := by rw [← hsz0]; exact ho
  obtain ⟨A1, c1, rfl, hc1, _, _⟩ := GOwn.sh ho1
  clear ho hb1 k0 k0' j0 b0
  go_wp2
  go_loopw [6] (fun i wr => ∃ k : Nat, k ≤ 4 ∧ i = .int .i64 k ∧ Hid ((0 < k → ex = 0) ∧ (1 < k → ey = 0) ∧ (2 < k → ez = 0) ∧ (3 < k → eu = 0)) ∧ Blk wr (w.heap.size + 1) 37 (bAt x y z u k) ∧ Blk wr w.heap.size 37 #[bv 0, bv 0, bv 0, bv 0] ∧ OwnS wr (w.heap.size + 2) (.slice A1 4 c1) 4 [x, y, z, u] ∧ Below w.heap.size w wr) (fun i _ => 4 - (intOf i).toNat)
  case atStart => exact ⟨0, Nat.zero_le _, rfl, Lib.hid ⟨fun h => absurd h (by omega), fun h => absurd h (by omega), fun h => absurd h (by omega), fun h => absurd h (by omega)⟩, j1, k1, ho1, b1⟩
  case round =>
    clear j1 k1 ho1 b1
    obtain ⟨k, hk, rfl, hz, hj, hkb, hown, hbel⟩ := hrel
    have hbs := hbel.size
    by_cases h4 : k = 4
    · subst h4
      obtain ⟨z1, z2, z3, z4⟩ := hz.out
      have hE : E = 0 := by rw [Q1.out]; rw [if_neg (by simp; exact z1 (by omega)), if_neg (by simp; exact z2 (by omega)), if_neg (by simp; exact z3 (by omega))]; exact z4 (by omega)
      have hB := Q2.out
      rw [if_pos hE] at hB
      subst hE hB
      clear z1 z2 z3 z4 hz Q1 Q2 Q3
      have hj' : Blk wr (w.heap.size + 1) 37 #[bv (bO x), bv (bO y), bv (bO z), bv (bO u)] := hj
      obtain ⟨j0, j1, j2, j3⟩ := cells_four hj'
      obtain ⟨p0, p1, p2, p3⟩ := cells_four hkb
      obtain ⟨f0, f1, f2, f3⟩ := frozen_four hkb
      go_wp2
      refine bodyPost_blk2 rfl _ rfl (blk_four hkb) Tryd.underlying37 rfl infoQ rfl ⟨rfl, ?_⟩
      exact below_four hbel _ (Nat.le_refl _) _ _ _ _
    · have hc : k = 0 ∨ k = 1 ∨ k = 2 ∨ k = 3 := by omega
      rcases hc with rfl | rfl | rfl | rfl
      · obtain ⟨b, off, xx, rfl, hcell, hxx⟩ := GOwn_elem hown (k := 0) (by omega)
        obtain rfl : x = xx := by simpa using hxx
        clear hxx
        try rw [Nat.add_zero] at hcell
        go_wp2_with fail
        refine (HX.out _).mono ?_; rintro e w2 ⟨rfl, hw2⟩
        subst hw2
        have b2 := hbel
        have k2 := hkb
        have j2 := hj
        have o2 := hown
        clear hbel hkb hj hown hcell
        by_cases he : ex = 0
        · have hm : (nx : Int) % 256 = (nx : Int) := by omega
          have hm2 : IntKind.u8.wrap (nx : Int) = (nx : Int) := by show (nx : Int) % 256 = _; omega
          have f2 := Lib.frozen_of_heap j2 0
          have cc2 := Lib.cell_of_heap j2 0
          have HK := Lib.hid (show Blk (wr.setCell ⟨w.heap.size + 1, 0, none⟩ (bv (bO x))) (w.heap.size + 1) 37 (bAt x y z u 1) from j2.setCell 0 _)
          have HB := Lib.hid (b2.setCell (p := ⟨w.heap.size + 1, 0, none⟩) (Nat.le_succ _) (bv (bO x)))
          have HK2 := Lib.hid (k2.other ⟨w.heap.size + 1, 0, none⟩ (bv (bO x)) (Nat.ne_of_lt (Nat.lt_succ_self _)))
          have HO := Lib.hid (ownsRow_setCell_below o2 (a := ⟨w.heap.size + 1, 0, none⟩) (Nat.lt_succ_self _) (bv (bO x)))
          unfold bv at HK HB HK2 HO
          rw [OX.out] at HK HB HK2 HO
          subst he
          clear j2 k2 o2 b2
          go_wp2
          go_roundw
          case rel => exact ⟨1, by omega, rfl, Lib.hid ⟨by simp, fun h => absurd h (by omega), fun h => absurd h (by omega), fun h => absurd h (by omega)⟩, HK.out, HK2.out, HO.out, HB.out⟩
          case measure => simp [intOf]
        · have hne : ((ex : Int) != 0) = true := by rw [bne_iff_ne]; omega
          have hE : E = ex := by rw [Q1.out]; exact if_pos he
          have hB := Q3.out (by rw [hE]; exact he)
          subst hE hB
          obtain ⟨p0, p1, p2, p3⟩ := cells_four k2
          obtain ⟨f0, f1, f2, f3⟩ := frozen_four k2
          clear Q1 Q2 Q3 hz
          go_wp2
          refine bodyPost_blk2 rfl _ rfl (blk_four k2) Tryd.underlying37 rfl infoQ rfl ⟨rfl, ?_⟩
          exact below_four b2 _ (Nat.le_refl _) _ _ _ _
      · obtain ⟨b, off, xx, rfl, hcell, hxx⟩ := GOwn_elem hown (k := 1) (by omega)
        obtain rfl : y = xx := by simpa using hxx
        clear hxx
        try rw [Nat.add_zero] at hcell
        go_wp2_with fail
        refine (HY.out _).mono ?_; rintro e w2 ⟨rfl, hw2⟩
        subst hw2
        have b2 := hbel
        have k2 := hkb
        have j2 := hj
        have o2 := hown
        clear hbel hkb hj hown hcell
        by_cases he : ey = 0
        · have hm : (ny : Int) % 256 = (ny : Int) := by omega
          have hm2 : IntKind.u8.wrap (ny : Int) = (ny : Int) := by show (ny : Int) % 256 = _; omega
          have f2 := Lib.frozen_of_heap j2 1
          have cc2 := Lib.cell_of_heap j2 1
          have HK := Lib.hid (show Blk (wr.setCell ⟨w.heap.size + 1, 1, none⟩ (bv (bO y))) (w.heap.size + 1) 37 (bAt x y z u 2) from j2.setCell 1 _)
          have HB := Lib.hid (b2.setCell (p := ⟨w.heap.size + 1, 1, none⟩) (Nat.le_succ _) (bv (bO y)))
          have HK2 := Lib.hid (k2.other ⟨w.heap.size + 1, 1, none⟩ (bv (bO y)) (Nat.ne_of_lt (Nat.lt_succ_self _)))
          have HO := Lib.hid (ownsRow_setCell_below o2 (a := ⟨w.heap.size + 1, 1, none⟩) (Nat.lt_succ_self _) (bv (bO y)))
          unfold bv at HK HB HK2 HO
          rw [OY.out] at HK HB HK2 HO
          subst he
          clear j2 k2 o2 b2
          go_wp2
          go_roundw
          case rel => exact ⟨2, by omega, rfl, Lib.hid ⟨fun _ => hz.out.1 (by omega), by simp, fun h => absurd h (by omega), fun h => absurd h (by omega)⟩, HK.out, HK2.out, HO.out, HB.out⟩
          case measure => simp [intOf]
        · have hne : ((ey : Int) != 0) = true := by rw [bne_iff_ne]; omega
          have hE : E = ey := by rw [Q1.out]; rw [if_neg (by simp; exact hz.out.1 (by omega))]; exact if_pos he
          have hB := Q3.out (by rw [hE]; exact he)
          subst hE hB
          obtain ⟨p0, p1, p2, p3⟩ := cells_four k2
          obtain ⟨f0, f1, f2, f3⟩ := frozen_four k2
          clear Q1 Q2 Q3 hz
          go_wp2
          refine bodyPost_blk2 rfl _ rfl (blk_four k2) Tryd.underlying37 rfl infoQ rfl ⟨rfl, ?_⟩
          exact below_four b2 _ (Nat.le_refl _) _ _ _ _
      · obtain ⟨b, off, xx, rfl, hcell, hxx⟩ := GOwn_elem hown (k := 2) (by omega)
        obtain rfl : z = xx := by simpa using hxx
        clear hxx
        try rw [Nat.add_zero] at hcell
        go_wp2_with fail
        refine (HZ.out _).mono ?_; rintro e w2 ⟨rfl, hw2⟩
        subst hw2
        have b2 := hbel
        have k2 := hkb
        have j2 := hj
        have o2 := hown
        clear hbel hkb hj hown hcell
        by_cases he : ez = 0
        · have hm : (nz : Int) % 256 = (nz : Int) := by omega
          have hm2 : IntKind.u8.wrap (nz : Int) = (nz : Int) := by show (nz : Int) % 256 = _; omega
          have f2 := Lib.frozen_of_heap j2 2
          have cc2 := Lib.cell_of_heap j2 2
          have HK := Lib.hid (show Blk (wr.setCell ⟨w.heap.size + 1, 2, none⟩ (bv (bO z))) (w.heap.size + 1) 37 (bAt x y z u 3) from j2.setCell 2 _)
          have HB := Lib.hid (b2.setCell (p := ⟨w.heap.size + 1, 2, none⟩) (Nat.le_succ _) (bv (bO z)))
          have HK2 := Lib.hid (k2.other ⟨w.heap.size + 1, 2, none⟩ (bv (bO z)) (Nat.ne_of_lt (Nat.lt_succ_self _)))
          have HO := Lib.hid (ownsRow_setCell_below o2 (a := ⟨w.heap.size + 1, 2, none⟩) (Nat.lt_succ_self _) (bv (bO z)))
          unfold bv at HK HB HK2 HO
          rw [OZ.out] at HK HB HK2 HO
          subst he
          clear j2 k2 o2 b2
          go_wp2
          go_roundw
          case rel => exact ⟨3, by omega, rfl, Lib.hid ⟨fun _ => hz.out.1 (by omega), fun _ => hz.out.2.1 (by omega), by simp, fun h => absurd h (by omega)⟩, HK.out, HK2.out, HO.out, HB.out⟩
          case measure => simp [intOf]
        · have hne : ((ez : Int) != 0) = true := by rw [bne_iff_ne]; omega
          have hE : E = ez := by rw [Q1.out]; rw [if_neg (by simp; exact hz.out.1 (by omega))]; rw [if_neg (by simp; exact hz.out.2.1 (by omega))]; exact if_pos he
          have hB := Q3.out (by rw [hE]; exact he)
          subst hE hB
          obtain ⟨p0, p1, p2, p3⟩ := cells_four k2
          obtain ⟨f0, f1, f2, f3⟩ := frozen_four k2
          clear Q1 Q2 Q3 hz
          go_wp2
          refine bodyPost_blk2 rfl _ rfl (blk_four k2) Tryd.underlying37 rfl infoQ rfl ⟨rfl, ?_⟩
          exact below_four b2 _ (Nat.le_refl _) _ _ _ _
      · obtain ⟨b, off, xx, rfl, hcell, hxx⟩ := GOwn_elem hown (k := 3) (by omega)
        obtain rfl : u = xx := by simpa using hxx
        clear hxx
        try rw [Nat.add_zero] at hcell
        go_wp2_with fail
        refine (HU.out _).mono ?_; rintro e w2 ⟨rfl, hw2⟩
        subst hw2
        have b2 := hbel
        have k2 := hkb
        have j2 := hj
        have o2 := hown
        clear hbel hkb hj hown hcell
        by_cases he : eu = 0
        · have hm : (nu : Int) % 256 = (nu : Int) := by omega
          have hm2 : IntKind.u8.wrap (nu : Int) = (nu : Int) := by show (nu : Int) % 256 = _; omega
          have f2 := Lib.frozen_of_heap j2 3
          have cc2 := Lib.cell_of_heap j2 3
          have HK := Lib.hid (show Blk (wr.setCell ⟨w.heap.size + 1, 3, none⟩ (bv (bO u))) (w.heap.size + 1) 37 (bAt x y z u 4) from j2.setCell 3 _)
          have HB := Lib.hid (b2.setCell (p := ⟨w.heap.size + 1, 3, none⟩) (Nat.le_succ _) (bv (bO u)))
          have HK2 := Lib.hid (k2.other ⟨w.heap.size + 1, 3, none⟩ (bv (bO u)) (Nat.ne_of_lt (Nat.lt_succ_self _)))
          have HO := Lib.hid (ownsRow_setCell_below o2 (a := ⟨w.heap.size + 1, 3, none⟩) (Nat.lt_succ_self _) (bv (bO u)))
          unfold bv at HK HB HK2 HO
          rw [OU.out] at HK HB HK2 HO
          subst he
          clear j2 k2 o2 b2
          go_wp2
          go_roundw
          case rel => exact ⟨4, by omega, rfl, Lib.hid ⟨fun _ => hz.out.1 (by omega), fun _ => hz.out.2.1 (by omega), fun _ => hz.out.2.2.1 (by omega), by simp⟩, HK.out, HK2.out, HO.out, HB.out⟩
          case measure => simp [intOf]
        · have hne : ((eu : Int) != 0) = true := by rw [bne_iff_ne]; omega
          have hE : E = eu := by rw [Q1.out]; rw [if_neg (by simp; exact hz.out.1 (by omega))]; rw [if_neg (by simp; exact hz.out.2.1 (by omega))]; rw [if_neg (by simp; exact hz.out.2.2.1 (by omega))]
          have hB := Q3.out (by rw [hE]; exact he)
          subst hE hB
          obtain ⟨p0, p1, p2, p3⟩ := cells_four k2
          obtain ⟨f0, f1, f2, f3⟩ := frozen_four k2
          clear Q1 Q2 Q3 hz
          go_wp2
          refine bodyPost_blk2 rfl _ rfl (blk_four k2) Tryd.underlying37 rfl infoQ rfl ⟨rfl, ?_⟩
          exact below_four b2 _ (Nat.le_refl _) _ _ _ _

theorem refqparse_any (l : List UInt8) (w : World) (hn : l.length ≤ 1000000) :
    Calls Tryd.prog 65 #[sv l] w fun e w' => e = .returned (.tuple #[av (qB l), .int .i64 (qE l : Int)]) ∧ Below w.heap.size w w' := by
  by_cases h4 : (parts 46 l).length = 4
  · obtain ⟨x, y, z, u, h⟩ := len_four _ h4
    exact refqparse_four l x y z u w hn h
  · rw [(q_not l h4).1, (q_not l h4).2]
    exact refqparse_not l w hn h4

end Go.Proofs.YtccidoigjdbepaaDoor.Qd

/- QdE -/
namespace Go.Proofs.YtccidoigjdbepaaDoor.Qd
open Go.RowKit Dec Lin
set_option maxRecDepth 100000

theorem Tryd.plainQ : Tryd.prog.eqGuardType Tryd.prog.depth 37 = false := by kernel_rfl
theorem eq4 (l l' : List UInt8) (hl : l.length = 4) (hl' : l'.length = 4) (w : World) : (Op.equalIn 10000 37 (.agg (l.map bv).toArray) (.agg (l'.map bv).toArray)).run Tryd.prog w = .ok (l == l') w :=
  run_equalIn_bytes (P := Tryd.prog) w 9998 37 5 4 Tryd.underlying37 Tryd.underlying5 (fun w => by
    have h := Tryd.sizeU8
    cases hq : Tryd.prog.info? 5 with
    | none => simp [hq] at h
    | some i => simp [sizeOf, typeInfo, hq] at *; exact h) l l' hl hl'
theorem eq4_self (a b c d : UInt8) (w : World) : (Op.equalIn 10000 37 (.agg #[bv a, bv b, bv c, bv d]) (.agg #[bv a, bv b, bv c, bv d])).run Tryd.prog w = .ok true w := by
  have h := eq4 [a, b, c, d] [a, b, c, d] rfl rfl w
  rw [show ([a, b, c, d] == [a, b, c, d]) = true by simp] at h
  exact h
theorem ds0 : ds 0 = [48] := dec_small 0 (by omega)
theorem ds1 : ds 1 = [49] := dec_small 1 (by omega)
theorem ds10 : ds 10 = [49, 48] := by
  show Lib.decDigits 10 = _
  rw [dec_step 10 (by omega), dec_small (10 / 10) (by omega)]; rfl
theorem dE10 : dE [49, 48] = 0 := ds10 ▸ (dE_ds 10).1
theorem dE0 : dE [48] = 0 := ds0 ▸ (dE_ds 0).1
theorem dE256 : dE [50, 53, 54] = 6 := by
  rw [dE, if_pos ⟨by simp, by decide, .inr (by decide)⟩, if_pos (by decide)]
theorem dE01 : dE [48, 49] = 5 := by
  rw [dE, if_neg]
  rintro ⟨_, _, h | h⟩
  · simp at h
  · simp at h

theorem lit_range (w : World) : Calls Tryd.prog 62 #[.string ⟨#[49, 48, 46, 48, 46, 48, 46, 50, 53, 54]⟩] w fun e w' => e = .returned (.tuple #[av [0, 0, 0, 0], .int .i64 6]) ∧ Below w.heap.size w w' := by
  have h := qparse_any [49, 48, 46, 48, 46, 48, 46, 50, 53, 54] w (by decide)
  have e : qE [49, 48, 46, 48, 46, 48, 46, 50, 53, 54] = 6 := by
    rw [(q_four _ [49, 48] [48] [48] [50, 53, 54] (by decide)).1, dE10, dE0, dE256]; rfl
  rw [q_bad _ (by omega), e] at h
  exact h
theorem lit_form (w : World) : Calls Tryd.prog 62 #[.string ⟨#[49, 48, 46, 48, 46, 48, 46, 48, 49]⟩] w fun e w' => e = .returned (.tuple #[av [0, 0, 0, 0], .int .i64 5]) ∧ Below w.heap.size w w' := by
  have h := qparse_any [49, 48, 46, 48, 46, 48, 46, 48, 49] w (by decide)
  have e : qE [49, 48, 46, 48, 46, 48, 46, 48, 49] = 5 := by
    rw [(q_four _ [49, 48] [48] [48] [48, 49] (by decide)).1, dE10, dE0, dE01]; rfl
  rw [q_bad _ (by omega), e] at h
  exact h
theorem qT_lit : qT 10 0 0 1 = [49, 48, 46, 48, 46, 48, 46, 49] := by rw [qT, ds10, ds0, ds1]; rfl
theorem lit_text (w : World) (htab : Tab w) : Calls Tryd.prog 54 #[.agg #[.int .u8 10, .int .u8 0, .int .u8 0, .int .u8 1]] w fun e w' => e = .returned (.string ⟨#[49, 48, 46, 48, 46, 48, 46, 49]⟩) ∧ Below w.heap.size w w' := by
  have h := qtext_any 10 0 0 1 w htab
  rw [qT_lit] at h
  exact h

end Go.Proofs.YtccidoigjdbepaaDoor.Qd
