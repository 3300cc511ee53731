/- The walk of law04.SixtyfourReads. -/
import Derived.Test.YtmnkikkffmhnjaaSixL
namespace Go.Proofs.Ytmnkikkffmhnjaa
open Go.RowKit

/-- Both decoders answer alike, no bytes and why. -/
theorem reads_none (l : List UInt8) (E : Int) (w : World) (hn : l.length ≤ 200) (hE : (E != 0) = true)
    (h1 : ∀ W : World, Calls Try.prog 37 #[sv l] W fun e w' => e = .returned (.tuple #[.slice none 0 0, .int .i64 E]) ∧ Below W.heap.size W w')
    (h2 : ∀ W : World, Calls Try.prog 39 #[sv l] W fun e w' => e = .returned (.tuple #[.slice none 0 0, .int .i64 E]) ∧ Below W.heap.size W w') :
    Calls Try.prog 12 #[sv l] w fun e w' => e = .returned (.bool true) ∧ Below w.heap.size w w' := by
  have hsz : (ByteArray.mk ⟨l⟩).size = l.length := rfl
  have H1 := Lib.hid h1
  have H2 := Lib.hid h2
  clear h1 h2
  go_enter Try.func12, Try.ntmps12
  go_wp2_with fail
  refine (H1.out _).mono ?_; rintro e w1 ⟨rfl, hb1⟩
  go_wp2_with fail
  refine (H2.out _).mono ?_; rintro e w2 ⟨rfl, hb2⟩
  have b2 := Below.on hb1 hb1.size hb2
  clear hb1 hb2
  go_wp2_with fail
  refine (same_below _ _ _ _ _ [] _ (by decide) (shows_none _ _) (shows_none _ _)).mono ?_; rintro e w3 ⟨rfl, hb3⟩
  have b3 := Below.on b2 b2.size hb3
  clear b2 hb3
  go_wp2_with fail
  refine (alive4 _).mono ?_; rintro e w5 ⟨rfl, hb5⟩
  have b5 := Below.on b3 b3.size hb5
  go_wp2
  go_ret
  exact ⟨rfl, b5⟩

theorem walk_SixtyfourReads (s : ByteArray) (hs : s.size ≤ maxLen) (w : World) :
    Calls Try.prog 12 #[.string s] w fun e w' => e = .returned (.bool true) ∧ Below w.heap.size w w' := by
  unfold maxLen at hs
  obtain ⟨l, rfl⟩ : ∃ l, s = ⟨⟨l⟩⟩ := ⟨s.data.toList, by cases s with | mk d => cases d with | mk t => rfl⟩
  have hs' : l.length ≤ 9223372036854775807 := hs
  have hsz : (ByteArray.mk ⟨l⟩).size = l.length := rfl
  by_cases hlen : 200 < l.length
  · clear hs
    go_enter Try.func12, Try.ntmps12
    go_wp2_with fail
    refine (alive4 _).mono ?_; rintro e w3 ⟨rfl, hb3⟩
    go_wp2
    go_ret
    exact ⟨rfl, hb3⟩
  · by_cases h4 : l.length % 4 = 0
    rotate_left
    · exact reads_none l 5 w (by omega) rfl (fun W => (decode_len l W h4 (by omega)).mono fun _ _ ⟨he, hw⟩ => ⟨he, hw ▸ Below.refl _ _⟩) (fun W => (refDecode_len l W h4 (by omega)).mono fun _ _ ⟨he, hw⟩ => ⟨he, hw ▸ Below.refl _ _⟩)
    · rcases txt_or (l.length / 4) l (by omega) with ⟨L, z, hT⟩ | hB
      · obtain ⟨vs, left, hR⟩ := txt_reads hT
        by_cases hz : z = 0
        · have hE := txt_enc hT hz
          subst hz
          have hLn : L.length ≤ 200 := by have := enc_len L; rw [hE] at this; omega
          have hmx : L.length ≤ maxLen := by unfold maxLen; omega
          have HE := Lib.hid hE
          have H1 := Lib.hid (fun W => decode_txt l L 0 W hT (by omega))
          have H2 := Lib.hid (fun W => refDecode_txt l L 0 vs left W hR h4 (by omega))
          clear hs hE hT hR h4
          go_enter Try.func12, Try.ntmps12
          go_wp2_with fail
          refine (H1.out _).mono ?_
          rintro e w1 ⟨hz, _, hb1⟩
          obtain ⟨v, rfl, ho1⟩ := hz rfl
          obtain ⟨A1, c1, rfl, hc1, _, s1⟩ := ho1.shows
          clear ho1 hz
          go_wp2_with fail
          refine (H2.out _).mono ?_
          rintro e w2 ⟨hz, _, hb2⟩
          obtain ⟨v, rfl, ho2⟩ := hz rfl
          obtain ⟨A2, c2, rfl, _, _, s2⟩ := ho2.shows
          have s12 := (s1.below hb2).up hb2.size
          have b2 := Below.on hb1 hb1.size hb2
          clear ho2 s1 hb1 hb2 hz
          go_wp2_with fail
          refine (same_below _ _ _ _ _ _ _ hmx s12 s2).mono ?_; rintro e w3 ⟨rfl, hb3⟩
          have s13 := (s12.below hb3).up hb3.size
          have b3 := Below.on b2 b2.size hb3
          clear s12 s2 b2 hb3
          go_wp2_with fail
          refine (encode_any _ _ _ L _ (by omega) hc1 s13).mono ?_
          rw [HE.out]
          rintro e w4 ⟨rfl, hb4⟩
          have b4 := Below.on b3 b3.size hb4
          clear s13 b3 hb4
          go_wp2_with fail
          refine (alive4 _).mono ?_; rintro e w5 ⟨rfl, hb5⟩
          have b5 := Below.on b4 b4.size hb5
          go_wp2
          go_ret
          exact ⟨rfl, b5⟩
        · exact reads_none l 10 w (by omega) rfl (fun W => (decode_txt l L z W hT (by omega)).mono fun _ _ h => ⟨h.2.1 hz, h.2.2⟩) (fun W => (refDecode_txt l L z vs left W hR h4 (by omega)).mono fun _ _ h => ⟨h.2.1 hz, h.2.2⟩)
      · obtain ⟨m, K, hBI⟩ := bad_in hB h4
        exact reads_none l 5 w (by omega) rfl (fun W => decode_bad l W hB h4 (by omega)) (fun W => refDecode_bad l m K W hBI h4 (by omega))

end Go.Proofs.Ytmnkikkffmhnjaa
