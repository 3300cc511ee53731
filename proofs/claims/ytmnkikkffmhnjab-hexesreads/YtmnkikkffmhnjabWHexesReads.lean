/- The walk of law05.HexesReads. -/
import Derived.Test.YtmnkikkffmhnjabHexI
namespace Go.Proofs.Ytmnkikkffmhnjab
open Go.RowKit

theorem walk_HexesReads (s : ByteArray) (hs : s.size ≤ maxLen) (w : World) :
    Calls Try.prog 4 #[.string s] w fun e w' => e = .returned (.bool true) ∧ Below w.heap.size w w' := by
  unfold maxLen at hs
  by_cases hlen : 200 < s.size
  · go_enter Try.func4, Try.ntmps4
    go_wp2_with fail
    refine (alive5 _).mono ?_; rintro e w3 ⟨rfl, hb3⟩
    go_wp2
    go_ret
    exact ⟨rfl, hb3⟩
  · rcases hex_cases s.size s.data.toList rfl with hodd | ⟨L, hL⟩ | ⟨hev, K, hK⟩
    · go_enter Try.func4, Try.ntmps4
      go_wp2_with fail
      refine (decode_odd s _ hodd (by omega)).mono ?_; rintro e w1 ⟨rfl, hb1⟩
      go_wp2_with fail
      refine (refDecode_odd s _ hodd (by omega)).mono ?_; rintro e w2 ⟨rfl, hb2⟩
      have b2 := Below.on hb1 hb1.size hb2
      clear hb1 hb2
      go_wp2_with fail
      refine (same_below _ _ _ _ _ [] _ (by decide) (shows_none _ _) (shows_none _ _)).mono ?_; rintro e w3 ⟨rfl, hb3⟩
      have b3 := Below.on b2 b2.size hb3
      clear b2 hb3
      go_wp2_with fail
      refine (alive5 _).mono ?_; rintro e w5 ⟨rfl, hb5⟩
      have b5 := Below.on b3 b3.size hb5
      go_wp2
      go_ret
      exact ⟨rfl, b5⟩
    · obtain rfl : s = ⟨⟨hexEnc L⟩⟩ := by
        cases s with | mk d => cases d with | mk t => simp only at hL; rw [hL]
      have hLn : L.length ≤ 100 := by
        have h1 : (ByteArray.mk ⟨hexEnc L⟩).size = (hexEnc L).length := rfl
        have := hexEnc_len L
        omega
      have hmx : L.length ≤ maxLen := by unfold maxLen; omega
      have hLL : (hexEnc L).length ≤ 200 := by have := hexEnc_len L; omega
      clear hL
      go_enter Try.func4, Try.ntmps4
      go_wp2_with fail
      refine (decode_good L _ (by omega)).mono ?_; rintro e w1 ⟨rfl, ho1, hb1⟩
      have s1 := ho1.shown
      clear ho1
      go_wp2_with fail
      refine (refDecode_good L _ (by omega)).mono ?_; rintro e w2 ⟨⟨v, rfl, ho2⟩, hb2⟩
      obtain ⟨A2, c2, rfl, _, _, s2⟩ := ho2.shows
      have s12 := (s1.below hb2).up hb2.size
      have b2 := Below.on hb1 hb1.size hb2
      clear ho2 s1 hb1 hb2
      go_wp2_with fail
      refine (same_below _ _ _ _ _ _ _ hmx s12 s2).mono ?_; rintro e w3 ⟨rfl, hb3⟩
      have s13 := (s12.below hb3).up hb3.size
      have b3 := Below.on b2 b2.size hb3
      clear s12 s2 b2 hb3
      go_wp2_with fail
      refine (encode_any _ _ _ L _ (by omega) s13).mono ?_; rintro e w4 ⟨rfl, hb4⟩
      have b4 := Below.on b3 b3.size hb4
      clear s13 b3 hb4
      go_wp2_with fail
      refine (alive5 _).mono ?_; rintro e w5 ⟨rfl, hb5⟩
      have b5 := Below.on b4 b4.size hb5
      go_wp2
      go_ret
      exact ⟨rfl, b5⟩
    · go_enter Try.func4, Try.ntmps4
      go_wp2_with fail
      refine (decode_bad s K _ hev (by omega) hK).mono ?_; rintro e w1 ⟨rfl, hb1⟩
      go_wp2_with fail
      refine (refDecode_bad s K _ hev (by omega) hK).mono ?_; rintro e w2 ⟨rfl, hb2⟩
      have b2 := Below.on hb1 hb1.size hb2
      clear hb1 hb2
      go_wp2_with fail
      refine (same_below _ _ _ _ _ [] _ (by decide) (shows_none _ _) (shows_none _ _)).mono ?_; rintro e w3 ⟨rfl, hb3⟩
      have b3 := Below.on b2 b2.size hb3
      clear b2 hb3
      go_wp2_with fail
      refine (alive5 _).mono ?_; rintro e w5 ⟨rfl, hb5⟩
      have b5 := Below.on b3 b3.size hb5
      go_wp2
      go_ret
      exact ⟨rfl, b5⟩

end Go.Proofs.Ytmnkikkffmhnjab
