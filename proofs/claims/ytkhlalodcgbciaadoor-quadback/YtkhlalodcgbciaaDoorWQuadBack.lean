
/- The walk of law08.QuadBack. -/
import Derived.Test.YtkhlalodcgbciaaDoorQdE
namespace Go.Proofs.YtkhlalodcgbciaaDoor
open Go.RowKit Dec Lin Qd
set_option maxRecDepth 100000

set_option maxHeartbeats 1000000 in
theorem walk_QuadBack (l : List UInt8) (hl : l.length = 4) (w : World) (htab : Tab w) :
    Calls Tryd.prog 3 #[av l] w fun e w' => e = .returned (.bool true) ∧ Below w.heap.size w w' := by
  obtain ⟨a, b, c, d, rfl⟩ := len_four l hl
  have Htab := Lib.hid htab
  have H1 := Lib.hid (fun W h => qtext_any a b c d W h)
  have h2 := fun W => qparse_any (qT a b c d) W (by have := ds_len a; have := ds_len b; have := ds_len c; have := ds_len d; simp [qT]; omega)
  rw [(q_back a b c d).1, (q_back a b c d).2] at h2
  have H2 := Lib.hid h2
  have H3 := Lib.hid (fun W => refqtext_any a b c d W)
  clear htab h2 hl
  have b0 : Below w.heap.size w (w.alloc (.cells #[bv a, bv b, bv c, bv d] 22)) := (Below.refl _ _).alloc (Nat.le_refl _) _
  have k0 : Blk (w.alloc (.cells #[bv a, bv b, bv c, bv d] 22)) w.heap.size 22 #[bv a, bv b, bv c, bv d] := blk_new _ _ _
  generalize qT a b c d = T at *
  go_enter Tryd.func3, Tryd.ntmps3
  go_wp2_with fail
  refine (H1.out _ (Htab.out.on (by exact b0))).mono ?_; rintro e w1 ⟨rfl, hb1⟩
  have b1 := Below.on b0 b0.size (by exact hb1)
  have k1 := k0.on (by exact hb1)
  go_wp2_with fail
  refine (H2.out _).mono ?_; rintro e w2 ⟨rfl, hb2⟩
  have b2 := (Below.on b1 b1.size hb2).alloc (Below.on b1 b1.size hb2).size (.cells #[bv a, bv b, bv c, bv d] 22)
  have k2 := (k1.on hb2).alloc (.cells #[bv a, bv b, bv c, bv d] 22)
  have j2 : Blk (w2.alloc (.cells #[bv a, bv b, bv c, bv d] 22)) w2.heap.size 22 #[bv a, bv b, bv c, bv d] := blk_new _ _ _
  obtain ⟨p0, p1, p2, p3⟩ := cells_four k2
  go_wp2_with fail
  refine (H3.out _).mono ?_; rintro e w3 ⟨rfl, hb3⟩
  have b3 := Below.on b2 b2.size (by exact hb3)
  have k3 := k2.on (by exact hb3)
  have j3 := j2.on (by exact hb3)
  clear p0 p1 p2 p3 k2 j2 b2 hb3
  obtain ⟨p0, p1, p2, p3⟩ := cells_four k3
  obtain ⟨q0, q1, q2, q3⟩ := cells_four j3
  have heq := eq4_self a b c d
  go_wp2_with fail
  refine (alive8 _ (Htab.out.on b3)).mono ?_; rintro e w4 ⟨rfl, hb4⟩
  have b4 := Below.on b3 b3.size hb4
  go_wp2
  go_ret
  exact ⟨rfl, b4⟩

end Go.Proofs.YtkhlalodcgbciaaDoor
