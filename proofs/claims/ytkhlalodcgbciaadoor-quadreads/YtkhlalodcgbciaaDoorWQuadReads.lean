
/- The walk of law08.QuadReads. -/
import Derived.Test.YtkhlalodcgbciaaDoorQdE
namespace Go.Proofs.YtkhlalodcgbciaaDoor
open Go.RowKit Dec Lin Qd
set_option maxRecDepth 100000

set_option maxHeartbeats 1000000 in
theorem walk_QuadReads (S : ByteArray) (w : World) (w0 : S.size ≤ maxLen) (htab : Tab w) :
    Calls Tryd.prog 4 #[.string S] w fun e w' => e = .returned (.bool true) ∧ Below w.heap.size w w' := by
  unfold maxLen at w0
  have Htab := Lib.hid htab
  clear htab
  by_cases hlong : 100 < S.size
  · go_enter Tryd.func4, Tryd.ntmps4
    go_wp2_with fail
    refine (alive8 _ Htab.out).mono ?_; rintro e w3 ⟨rfl, hb3⟩
    go_wp2
    go_ret
    exact ⟨rfl, hb3⟩
  · obtain ⟨l, rfl⟩ : ∃ l, S = ⟨⟨l⟩⟩ := ⟨S.data.toList, by cases S with | mk d => cases d with | mk t => rfl⟩
    have hs : (ByteArray.mk ⟨l⟩).size = l.length := rfl
    have H1 := Lib.hid (fun W => qparse_any l W (by omega))
    have H2 := Lib.hid (fun W => refqparse_any l W (by omega))
    obtain ⟨a, b, c, d, hq⟩ := q_four' l
    have hback : qE l = 0 → qT a b c d = l := fun h => by
      obtain ⟨a', b', c', d', h1, h2⟩ := q_text l h
      rw [hq] at h1
      injection h1 with h1 h3
      injection h3 with h3 h4
      injection h4 with h4 h5
      injection h5 with h5
      rw [h1, h3, h4, h5]; exact h2
    have H3 := Lib.hid (fun W h => qtext_any a b c d W h)
    rw [hq] at H1 H2
    clear hq
    by_cases hE : qE l = 0
    · rw [hback hE] at H3
      rw [hE] at H1 H2
      clear hback hE
      unfold sv at *
      generalize ByteArray.mk ⟨l⟩ = L at *
      go_enter Tryd.func4, Tryd.ntmps4
      go_wp2_with fail
      refine (H1.out _).mono ?_; rintro e w1 ⟨rfl, hb1⟩
      have k1 := (blk_new w1 22 #[bv a, bv b, bv c, bv d])
      have b1 := hb1.alloc hb1.size (.cells #[bv a, bv b, bv c, bv d] 22)
      go_wp2_with fail
      refine (H2.out _).mono ?_; rintro e w2 ⟨rfl, hb2⟩
      have k2 := (k1.on (by exact hb2)).alloc (.cells #[bv a, bv b, bv c, bv d] 22)
      have b2 := (Below.on b1 b1.size (by exact hb2)).alloc (Below.on b1 b1.size (by exact hb2)).size (.cells #[bv a, bv b, bv c, bv d] 22)
      have j2 : Blk (w2.alloc (.cells #[bv a, bv b, bv c, bv d] 22)) w2.heap.size 22 #[bv a, bv b, bv c, bv d] := blk_new _ _ _
      obtain ⟨p0, p1, p2, p3⟩ := cells_four k2
      obtain ⟨q0, q1, q2, q3⟩ := cells_four j2
      have heq := eq4_self a b c d
      go_wp2_with fail
      refine (H3.out _ (Htab.out.on (by exact b2))).mono ?_; rintro e w3 ⟨rfl, hb3⟩
      have b3 := Below.on b2 b2.size (by exact hb3)
      clear p0 p1 p2 p3 q0 q1 q2 q3 j2 k2
      go_wp2_with fail
      refine (alive8 _ (Htab.out.on b3)).mono ?_; rintro e w4 ⟨rfl, hb4⟩
      have b4 := Below.on b3 b3.size hb4
      go_wp2
      go_ret
      exact ⟨rfl, b4⟩
    · have hne : ((qE l : Int) != 0) = true := by rw [bne_iff_ne]; omega
      clear hback hE
      unfold sv at *
      generalize ByteArray.mk ⟨l⟩ = L at *
      generalize qE l = E at *
      go_enter Tryd.func4, Tryd.ntmps4
      go_wp2_with fail
      refine (H1.out _).mono ?_; rintro e w1 ⟨rfl, hb1⟩
      have k1 := (blk_new w1 22 #[bv a, bv b, bv c, bv d])
      have b1 := hb1.alloc hb1.size (.cells #[bv a, bv b, bv c, bv d] 22)
      go_wp2_with fail
      refine (H2.out _).mono ?_; rintro e w2 ⟨rfl, hb2⟩
      have k2 := (k1.on (by exact hb2)).alloc (.cells #[bv a, bv b, bv c, bv d] 22)
      have b2 := (Below.on b1 b1.size (by exact hb2)).alloc (Below.on b1 b1.size (by exact hb2)).size (.cells #[bv a, bv b, bv c, bv d] 22)
      have j2 : Blk (w2.alloc (.cells #[bv a, bv b, bv c, bv d] 22)) w2.heap.size 22 #[bv a, bv b, bv c, bv d] := blk_new _ _ _
      obtain ⟨p0, p1, p2, p3⟩ := cells_four k2
      obtain ⟨q0, q1, q2, q3⟩ := cells_four j2
      have heq := eq4_self a b c d
      go_wp2_with fail
      refine (alive8 _ (Htab.out.on (by exact b2))).mono ?_; rintro e w4 ⟨rfl, hb4⟩
      have b4 := Below.on b2 b2.size (by exact hb4)
      go_wp2
      go_ret
      exact ⟨rfl, b4⟩

end Go.Proofs.YtkhlalodcgbciaaDoor
