/- The walk of law04.SixtyfourBack. -/
import Derived.Test.YtmnkikkffmhnjaaSixL
namespace Go.Proofs.Ytmnkikkffmhnjaa
open Go.RowKit

theorem walk_SixtyfourBack (A : Option Addr) (n c : Nat) (l : List UInt8) {w : World} (hc : n ≤ c ∧ c ≤ maxLen) (h : Shows w w.heap.size A n l) :
    Calls Try.prog 11 #[.slice A n c] w fun e w' => e = .returned (.bool true) ∧ Below w.heap.size w w' := by
  have hl := h.len
  have hmx : n ≤ maxLen := Nat.le_trans hc.1 hc.2
  have hm := hmx
  have hnc := hc.1
  unfold maxLen at hm
  clear hc
  by_cases hs : 200 < n
  · go_enter Try.func11, Try.ntmps11
    go_wp2_with fail
    refine (alive4 _).mono ?_; rintro e w3 ⟨rfl, hb3⟩
    go_wp2
    go_ret
    exact ⟨rfl, hb3⟩
  · subst hl
    have hel : (enc l).length ≤ 300 := by rw [enc_len]; omega
    have HD := Lib.hid (fun W => decode_txt (enc l) l 0 W (enc_txt l) (by omega))
    clear hel
    go_enter Try.func11, Try.ntmps11
    go_wp2_with fail
    refine (encode_any _ _ _ l _ (by omega) hnc h).mono ?_; rintro e w1 ⟨rfl, hb1⟩
    have g1 := (h.below hb1).up hb1.size
    go_wp2_with fail
    refine (HD.out _).mono ?_
    rintro e w2 ⟨hz, _, hb2⟩
    obtain ⟨v, rfl, ho2⟩ := hz rfl
    obtain ⟨A2, c2, rfl, _, _, s2⟩ := ho2.shows
    have g2 := (g1.below hb2).up hb2.size
    have b2 := Below.on hb1 hb1.size hb2
    clear ho2 g1 hb2 hb1 h hz
    go_wp2_with fail
    refine (refEncode_any _ _ _ l _ (by omega) g2).mono ?_; rintro e w3 ⟨rfl, hb3⟩
    have s3 := (s2.below hb3).up hb3.size
    have g3 := (g2.below hb3).up hb3.size
    have b3 := Below.on b2 b2.size hb3
    clear s2 g2 hb3 b2
    go_wp2_with fail
    refine (same_below _ _ _ _ _ _ _ hmx s3 g3).mono ?_; rintro e w4 ⟨rfl, hb4⟩
    have b4 := Below.on b3 b3.size hb4
    clear s3 g3 hb4 b3
    go_wp2_with fail
    refine (alive4 _).mono ?_; rintro e w5 ⟨rfl, hb5⟩
    have b5 := Below.on b4 b4.size hb5
    go_wp2
    go_ret
    exact ⟨rfl, b5⟩

end Go.Proofs.Ytmnkikkffmhnjaa
