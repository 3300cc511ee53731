
/- Layer 8. Contracts: quad.Text and its reference. -/
import Derived.Test.YtccidoigjdbepaaDoorDecD
import Derived.Test.YtccidoigjdbepaaDoorLinB
import Derived.Test.YtccidoigjdbepaaDoorArrA
namespace Go.Proofs.YtccidoigjdbepaaDoor.Qd
open Go.RowKit Dec
set_option maxRecDepth 100000

/-- The digits of a byte; the text of four bytes. -/
def ds (c : UInt8) : List UInt8 := Lib.decDigits c.toNat
def qT (a b c d : UInt8) : List UInt8 := ds a ++ [46] ++ ds b ++ [46] ++ ds c ++ [46] ++ ds d
def cellsAt (a b c d : UInt8) (k : Nat) : Array Value := ([sv (ds a), sv (ds b), sv (ds c), sv (ds d)].take k ++ List.replicate (4 - k) (sv [])).toArray

theorem ds_len (c : UInt8) : (ds c).length ≤ 20 := dec_len c.toNat (by have := c.toNat_lt; omega)
theorem text8 (c : UInt8) (w : World) (htab : Tab w) : Calls Tryd.prog 70 #[.int .u64 (c.toNat : Int)] w fun e w' => e = .returned (sv (ds c)) ∧ Below w.heap.size w w' :=
  text_any c.toNat w (by have := c.toNat_lt; omega) htab
theorem refText8 (c : UInt8) (w : World) : Calls Tryd.prog 71 #[.int .u64 (c.toNat : Int)] w fun e w' => e = .returned (sv (ds c)) ∧ Below w.heap.size w w' :=
  refText_any 20 c.toNat w (by have := c.toNat_lt; omega) (by have := c.toNat_lt; omega)

theorem join4 (A : Nat) (a b c d : UInt8) (w : World) (h : Blk w A 92 (cellsAt a b c d 4)) :
    Calls Tryd.prog 76 #[.slice (some ⟨A, 0, none⟩) 4 4, .string ⟨#[46]⟩] w fun e w' => e = .returned (sv (qT a b c d)) ∧ Below w.heap.size w w' := by
  have hla := ds_len a
  have hlb := ds_len b
  have hlc := ds_len c
  have hld := ds_len d
  have hj : Lib.join (([ds a, ds b, ds c, ds d].map fun x => ByteArray.mk ⟨x⟩).map (·.data.toList)) [46] = qT a b c d := by
    simp [Lib.join, qT]
  have := Tryd.strings_Join A 0 4 ([ds a, ds b, ds c, ds d].map fun x => ByteArray.mk ⟨x⟩) ⟨#[46]⟩ w (fun j x hj => by
    rw [Nat.zero_add, Lib.cell_of_heap h]
    match j, hj with
    | 0, hj => injection hj with hj; subst hj; rfl
    | 1, hj => injection hj with hj; subst hj; rfl
    | 2, hj => injection hj with hj; subst hj; rfl
    | 3, hj => injection hj with hj; subst hj; rfl) h.lt (by simp) (by simp) (by
      show (Lib.join _ [46]).length ≤ _
      rw [hj]; simp [qT]; omega)
  refine this.mono fun e w' ⟨he, hb⟩ => ⟨he.trans ?_, hb⟩
  show Ending.returned (.string ⟨(Lib.join _ [46]).toArray⟩) = _
  rw [hj]

set_option maxHeartbeats 1000000 in
theorem qtext_any (a b c d : UInt8) (w : World) (htab : Tab w) :
    Calls Tryd.prog 54 #[av [a, b, c, d]] w fun e w' => e = .returned (sv (qT a b c d)) ∧ Below w.heap.size w w' := by
  have Htab := Lib.hid htab
  clear htab
  have hA := Lib.hid (fun W h => text8 a W h)
  have hB := Lib.hid (fun W h => text8 b W h)
  have hC := Lib.hid (fun W h => text8 c W h)
  have hD := Lib.hid (fun W h => text8 d W h)
  have HJ := Lib.hid (fun W h => join4 (w.heap.size + 1) a b c d W h)
  have la := a.toNat_lt
  have lb := b.toNat_lt
  have lc := c.toNat_lt
  have ld := d.toNat_lt
  have i0 : ∀ w, (Instr.index 37 (.agg #[bv a, bv b, bv c, bv d]) (.int .i64 0)).run Tryd.prog w = .ok (bv a) w := fun _ => by kernel_rfl
  have i1 : ∀ w, (Instr.index 37 (.agg #[bv a, bv b, bv c, bv d]) (.int .i64 1)).run Tryd.prog w = .ok (bv b) w := fun _ => by kernel_rfl
  have i2 : ∀ w, (Instr.index 37 (.agg #[bv a, bv b, bv c, bv d]) (.int .i64 2)).run Tryd.prog w = .ok (bv c) w := fun _ => by kernel_rfl
  have i3 : ∀ w, (Instr.index 37 (.agg #[bv a, bv b, bv c, bv d]) (.int .i64 3)).run Tryd.prog w = .ok (bv d) w := fun _ => by kernel_rfl
  go_enter Tryd.func54, Tryd.ntmps54
  go_wp2
  go_loopw [7] (fun i wr => ∃ k : Nat, k ≤ 4 ∧ i = .int .i64 k ∧ Blk wr (w.heap.size + 1) 92 (cellsAt a b c d k) ∧ Below w.heap.size w wr) (fun i _ => 4 - (intOf i).toNat)
  case atStart => exact ⟨0, Nat.zero_le _, rfl, blk_new' _ _ _ _ (by simp), ((Below.refl _ _).alloc (Nat.le_refl _) _).alloc (by simp) _⟩
  case round =>
    obtain ⟨k, hk, rfl, hblk, hbel⟩ := hrel
    have hbs := hbel.size
    by_cases h4 : k = 4
    · subst h4
      go_wp2_with fail
      refine (HJ.out _ hblk).mono ?_; rintro e w1 ⟨rfl, hb1⟩
      have b1 := Below.on hbel hbs hb1
      go_wp2
      go_ret
      exact ⟨rfl, b1⟩
    · have hc : k = 0 ∨ k = 1 ∨ k = 2 ∨ k = 3 := by omega
      rcases hc with rfl | rfl | rfl | rfl
      · go_wp2_with fail
        refine (hA.out _ (Htab.out.on hbel)).mono ?_; rintro e w1 ⟨rfl, hb1⟩
        have b1 := Below.on hbel hbs hb1
        have k1 := hblk.on hb1
        have f1 := Lib.frozen_of_heap k1 0
        have c1 := Lib.cell_of_heap k1 0
        have HK := Lib.hid (show Blk (w1.setCell ⟨w.heap.size + 1, 0, none⟩ (sv (ds a))) (w.heap.size + 1) 92 (cellsAt a b c d 1) from k1.setCell 0 _)
        have HB := Lib.hid (b1.setCell (p := ⟨w.heap.size + 1, 0, none⟩) (Nat.le_succ _) (sv (ds a)))
        clear k1 hblk hbel hb1 b1
        go_wp2
        go_roundw
        case rel => exact ⟨1, by omega, rfl, HK.out, HB.out⟩
        case measure => simp [intOf]
      · go_wp2_with fail
        refine (hB.out _ (Htab.out.on hbel)).mono ?_; rintro e w1 ⟨rfl, hb1⟩
        have b1 := Below.on hbel hbs hb1
        have k1 := hblk.on hb1
        have f1 := Lib.frozen_of_heap k1 1
        have c1 := Lib.cell_of_heap k1 1
        have HK := Lib.hid (show Blk (w1.setCell ⟨w.heap.size + 1, 1, none⟩ (sv (ds b))) (w.heap.size + 1) 92 (cellsAt a b c d 2) from k1.setCell 1 _)
        have HB := Lib.hid (b1.setCell (p := ⟨w.heap.size + 1, 1, none⟩) (Nat.le_succ _) (sv (ds b)))
        clear k1 hblk hbel hb1 b1
        go_wp2
        go_roundw
        case rel => exact ⟨2, by omega, rfl, HK.out, HB.out⟩
        case measure => simp [intOf]
      · go_wp2_with fail
        refine (hC.out _ (Htab.out.on hbel)).mono ?_; rintro e w1 ⟨rfl, hb1⟩
        have b1 := Below.on hbel hbs hb1
        have k1 := hblk.on hb1
        have f1 := Lib.frozen_of_heap k1 2
        have c1 := Lib.cell_of_heap k1 2
        have HK := Lib.hid (show Blk (w1.setCell ⟨w.heap.size + 1, 2, none⟩ (sv (ds c))) (w.heap.size + 1) 92 (cellsAt a b c d 3) from k1.setCell 2 _)
        have HB := Lib.hid (b1.setCell (p := ⟨w.heap.size + 1, 2, none⟩) (Nat.le_succ _) (sv (ds c)))
        clear k1 hblk hbel hb1 b1
        go_wp2
        go_roundw
        case rel => exact ⟨3, by omega, rfl, HK.out, HB.out⟩
        case measure => simp [intOf]
      · go_wp2_with fail
        refine (hD.out _ (Htab.out.on hbel)).mono ?_; rintro e w1 ⟨rfl, hb1⟩
        have b1 := Below.on hbel hbs hb1
        have k1 := hblk.on hb1
        have f1 := Lib.frozen_of_heap k1 3
        have c1 := Lib.cell_of_heap k1 3
        have HK := Lib.hid (show Blk (w1.setCell ⟨w.heap.size + 1, 3, none⟩ (sv (ds d))) (w.heap.size + 1) 92 (cellsAt a b c d 4) from k1.setCell 3 _)
        have HB := Lib.hid (b1.setCell (p := ⟨w.heap.size + 1, 3, none⟩) (Nat.le_succ _) (sv (ds d)))
        clear k1 hblk hbel hb1 b1
        go_wp2
        go_roundw
        case rel => exact ⟨4, by omega, rfl, HK.out, HB.out⟩
        case measure => simp [intOf]

end Go.Proofs.YtccidoigjdbepaaDoor.Qd
