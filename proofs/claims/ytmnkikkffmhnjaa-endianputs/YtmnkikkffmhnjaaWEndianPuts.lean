/- The walk of law01.EndianPuts. -/
import Derived.Test.YtmnkikkffmhnjaaEndG
namespace Go.Proofs.Ytmnkikkffmhnjaa
open Go.RowKit

theorem shows_none (w : World) (B : Nat) : Shows w B none 0 [] := ⟨rfl, fun h => absurd h (by omega)⟩

theorem reversed_nil (w : World) : Calls Try.prog 17 #[.slice none 0 0] w fun e w' => e = .returned (.slice none 0 0) ∧ w = w' := by
  go_enter Try.func17, Try.ntmps17
  go_wp2
  go_loop [3, 4] (fun v i => v = .slice none 0 0 ∧ i = .int .i64 (-1)) (fun _ i => 0)
  case atStart => exact ⟨rfl, rfl⟩
  case round =>
    obtain ⟨rfl, rfl⟩ := hrel
    go_wp2
    go_ret
    exact ⟨rfl, rfl⟩

theorem walk_EndianPuts (n size : Int) (w0 : (Lit.int .u64 n).wf = true) (_w1 : (Lit.int .i64 size).wf = true) (w : World) :
    Calls Try.prog 3 #[.int .u64 n, .int .i64 size] w fun e w' => e = .returned (.bool true) ∧ Below w.heap.size w w' := by
  obtain ⟨hn0, hn1⟩ := bounds_u64 w0
  clear w0
  by_cases hs : size < 1 ∨ 8 < size
  · go_enter Try.func3, Try.ntmps3
    go_wp2_with fail
    refine (little_arg _ _ _ hs).mono ?_; rintro e w1 ⟨rfl, rfl⟩
    go_wp2_with fail
    refine (big_arg _ _ _ hs).mono ?_; rintro e w1 ⟨rfl, rfl⟩
    go_wp2_with fail
    refine (put_arg _ _ _ hs).mono ?_; rintro e w1 ⟨rfl, rfl⟩
    go_wp2_with fail
    refine (same_below _ _ _ _ _ [] _ (by decide) (shows_none _ _) (shows_none _ _)).mono ?_; rintro e w1 ⟨rfl, hb⟩
    go_wp2_with fail
    refine (reversed_nil _).mono ?_; rintro e w2 ⟨rfl, rfl⟩
    go_wp2_with fail
    refine (same_below _ _ _ _ _ [] _ (by decide) (shows_none _ _) (shows_none _ _)).mono ?_; rintro e w2 ⟨rfl, hb2⟩
    go_wp2_with fail
    refine (alive1 _).mono ?_; rintro e w3 ⟨rfl, hb3⟩
    have hbb := Below.on (Below.on hb hb.size hb2) (Nat.le_trans hb.size hb2.size) hb3
    go_wp2
    go_ret
    exact ⟨rfl, hbb⟩
  · obtain ⟨N, rfl⟩ := Int.eq_ofNat_of_zero_le hn0
    obtain ⟨S, rfl⟩ := Int.eq_ofNat_of_zero_le (show 0 ≤ size by omega)
    have h1 : 1 ≤ S := by omega
    have h8 : S ≤ 8 := by omega
    have hone := ones_256 S h8
    have hp : 1 ≤ 256 ^ S := Nat.one_le_pow _ _ (by omega)
    by_cases hr : (ones (8 * (S : Int)) : Int) < (N : Int)
    · have hS7 : S ≤ 7 := by
        rcases Nat.lt_or_ge S 8 with h | h
        · omega
        · obtain rfl : S = 8 := by omega
          exfalso
          omega
      have hge : 256 ^ S ≤ N := by omega
      have Hr := Lib.hid hr
      have Hge := Lib.hid hge
      clear hone hp hge hr
      go_enter Try.func3, Try.ntmps3
      go_wp2_with fail
      refine (little_range _ _ _ (by omega) (by omega) Hr.out).mono ?_; rintro e w1 ⟨rfl, rfl⟩
      go_wp2_with fail
      refine (big_range _ _ _ (by omega) (by omega) Hr.out).mono ?_; rintro e w1 ⟨rfl, rfl⟩
      go_wp2_with fail
      refine (put_range _ _ _ h1 hS7 Hge.out).mono ?_; rintro e w1 ⟨rfl, rfl⟩
      go_wp2_with fail
      refine (same_below _ _ _ _ _ [] _ (by decide) (shows_none _ _) (shows_none _ _)).mono ?_; rintro e w1 ⟨rfl, hb⟩
      go_wp2_with fail
      refine (reversed_nil _).mono ?_; rintro e w2 ⟨rfl, rfl⟩
      go_wp2_with fail
      refine (same_below _ _ _ _ _ [] _ (by decide) (shows_none _ _) (shows_none _ _)).mono ?_; rintro e w2 ⟨rfl, hb2⟩
      go_wp2_with fail
      refine (alive1 _).mono ?_; rintro e w3 ⟨rfl, hb3⟩
      have hbb := Below.on (Below.on hb hb.size hb2) (Nat.le_trans hb.size hb2.size) hb3
      go_wp2
      go_ret
      exact ⟨rfl, hbb⟩
    · have Hr := Lib.hid (show (N : Int) ≤ (ones (8 * (S : Int)) : Int) by omega)
      have Hlt := Lib.hid (show S = 8 ∨ N < 256 ^ S by omega)
      have HN := Lib.hid (show N ≤ 18446744073709551615 by omega)
      have hmx : S ≤ maxLen := by unfold maxLen; omega
      clear hone hp hr hn1 hs
      go_enter Try.func3, Try.ntmps3
      go_wp2_with fail
      refine (little_ok N S _ h1 h8 Hr.out).mono ?_; rintro e w1 ⟨rfl, ho1, hb1⟩
      have s1 := ho1.shown
      clear ho1
      go_wp2_with fail
      refine (big_ok N S _ h1 h8 Hr.out).mono ?_; rintro e w2 ⟨rfl, ho2, hb2⟩
      have s2 := ho2.shown
      have s12 := (s1.below hb2).up hb2.size
      have b2 := Below.on hb1 hb1.size hb2
      clear ho2 s1 hb2
      go_wp2_with fail
      refine (put_ok N S _ h1 h8 Hlt.out HN.out).mono ?_; rintro e w3 ⟨⟨v, rfl, ho3⟩, hb3⟩
      obtain ⟨A3, c3, rfl, _, _, s3⟩ := ho3.shows
      have s13 := (s12.below hb3).up hb3.size
      have s23 := (s2.below hb3).up hb3.size
      have b3 := Below.on b2 b2.size hb3
      clear ho3 s12 s2 hb3 hb1 b2
      go_wp2_with fail
      refine (same_below _ _ _ _ _ _ _ hmx s13 s3).mono ?_; rintro e w4 ⟨rfl, hb4⟩
      have s24 := (s23.below hb4).up hb4.size
      have s34 := (s3.below hb4).up hb4.size
      have b4 := Below.on b3 b3.size hb4
      clear s13 s23 s3 hb4 b3
      go_wp2_with fail
      refine (reversed_any _ _ _ _ _ (by omega) s34).mono ?_; rintro e w5 ⟨⟨v, rfl, ho5⟩, hb5⟩
      obtain ⟨A5, c5, rfl, _, _, s5⟩ := ho5.shows
      have s25 := (s24.below hb5).up hb5.size
      have b5 := Below.on b4 b4.size hb5
      clear ho5 s24 s34 hb5 b4
      go_wp2_with fail
      refine (same_below _ _ _ _ _ _ _ hmx s25 s5).mono ?_; rintro e w6 ⟨rfl, hb6⟩
      have b6 := Below.on b5 b5.size hb6
      clear s25 s5 hb6 b5
      go_wp2_with fail
      refine (alive1 _).mono ?_; rintro e w7 ⟨rfl, hb7⟩
      have b7 := Below.on b6 b6.size hb7
      go_wp2
      go_ret
      exact ⟨rfl, b7⟩

end Go.Proofs.Ytmnkikkffmhnjaa
