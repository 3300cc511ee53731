
/- Both parsers of a text, side by side. -/
import Derived.Test.YtfiagknmieegaaaKeyF
namespace Go.Proofs.Ytfiagknmieegaaa
open Go.RowKit

theorem six_yes (s L : List UInt8) (hT : Six.Txt s L 0) (hn : s.length ≤ 100000) : DecYes 53 s L := fun W =>
  (Six.decode_txt s L 0 W hT hn).mono fun e w' ⟨hz, _, hb⟩ => by
    obtain ⟨v, he, ho⟩ := hz rfl
    obtain ⟨A, c, rfl, _, _, s2⟩ := ho.shows
    exact ⟨⟨A, c, he, s2⟩, hb⟩
theorem six_ref (s L : List UInt8) (vs left : List Nat) (hR : Six.Reads s L 0 vs left) (h4 : s.length % 4 = 0) (hn : s.length ≤ 100000) : DecYes 59 s L := fun W =>
  (Six.refDecode_txt s L 0 vs left W hR h4 hn).mono fun e w' ⟨hz, _, hb⟩ => by
    obtain ⟨v, he, ho⟩ := hz rfl
    obtain ⟨A, c, rfl, _, _, s2⟩ := ho.shows
    exact ⟨⟨A, c, he, s2⟩, hb⟩
theorem hex_yes (L : List UInt8) (hn : L.length ≤ 1000000) : DecYes 55 (Hex.hexEnc L) L := fun W =>
  (Hex.decode_good L W hn).mono fun _ _ ⟨he, ho, hb⟩ => ⟨⟨_, _, he, ho.shown⟩, hb⟩
theorem hex_ref (L : List UInt8) (hn : L.length ≤ 1000000) : DecYes 61 (Hex.hexEnc L) L := fun W =>
  (Hex.refDecode_good L W hn).mono fun e w' ⟨⟨v, he, ho⟩, hb⟩ => by
    obtain ⟨A, c, rfl, _, _, s2⟩ := ho.shows
    exact ⟨⟨A, c, he, s2⟩, hb⟩

theorem ofErr_zero (L : List UInt8) (h : ofErr L = 0) : ofKey L = L := by
  unfold ofErr at h
  unfold ofKey
  rw [if_pos]
  split at h
  · cases h
  · split at h
    · cases h
    · omega
theorem ofKey_of (L : List UInt8) (h : L.length = 32) : ofKey L = L := if_pos h
theorem ofErr_of (L : List UInt8) (h : L.length = 32) : ofErr L = 0 := by unfold ofErr; rw [if_neg (by omega), if_neg (by omega)]

theorem parse_both (s : List UInt8) (hn : s.length ≤ 200) : ∃ k E, k.length = 32 ∧ KeyIs 24 s k E ∧ KeyIs 30 s k E ∧ (E = 0 → Six.enc k = s) := by
  by_cases h4 : s.length % 4 = 0
  · rcases Six.txt_or (s.length / 4) s (by omega) with ⟨L, z, hT⟩ | hB
    · obtain ⟨vs, left, hR⟩ := Six.txt_reads hT
      by_cases hz : z = 0
      · have hE := Six.txt_enc hT hz
        subst hz
        have hLn : L.length ≤ 200 := by have := Six.enc_len L; rw [hE] at this; omega
        exact ⟨ofKey L, ofErr L, ofKey_len L, parse_yes s L (by omega) (six_yes s L hT (by omega)), refParse_yes s L (by omega) (six_ref s L vs left hR h4 (by omega)), fun h => by rw [ofErr_zero L h]; exact hE⟩
      · exact ⟨key0, 10, rfl, parse_no s 10 rfl (fun W => (Six.decode_txt s L z W hT (by omega)).mono fun _ _ h => ⟨h.2.1 hz, h.2.2⟩),
          refParse_no s 10 rfl (fun W => (Six.refDecode_txt s L z vs left W hR h4 (by omega)).mono fun _ _ h => ⟨h.2.1 hz, h.2.2⟩), fun h => by cases h⟩
    · obtain ⟨m, K, hBI⟩ := Six.bad_in hB h4
      exact ⟨key0, 5, rfl, parse_no s 5 rfl (fun W => Six.decode_bad s W hB h4 (by omega)), refParse_no s 5 rfl (fun W => Six.refDecode_bad s m K W hBI h4 (by omega)), fun h => by cases h⟩
  · exact ⟨key0, 5, rfl, parse_no s 5 rfl (fun W => (Six.decode_len s W h4 (by omega)).mono fun _ _ ⟨he, hw⟩ => ⟨he, hw ▸ Below.refl _ _⟩),
      refParse_no s 5 rfl (fun W => (Six.refDecode_len s W h4 (by omega)).mono fun _ _ ⟨he, hw⟩ => ⟨he, hw ▸ Below.refl _ _⟩), fun h => by cases h⟩

theorem parseHex_both (s : List UInt8) (hn : s.length ≤ 200) : ∃ k E, k.length = 32 ∧ KeyIs 25 s k E ∧ KeyIs 31 s k E ∧ (E = 0 → Hex.hexEnc k = s) := by
  have hsz : (ByteArray.mk ⟨s⟩).size = s.length := rfl
  rcases Hex.hex_cases s.length s rfl with hodd | ⟨L, hL⟩ | ⟨hev, K, hK⟩
  · exact ⟨key0, 5, rfl, parseHex_no s 5 rfl (fun W => Hex.decode_odd ⟨⟨s⟩⟩ W (by omega) (by omega)), refParseHex_no s 5 rfl (fun W => Hex.refDecode_odd ⟨⟨s⟩⟩ W (by omega) (by omega)), fun h => by cases h⟩
  · subst hL
    have hLn : L.length ≤ 200 := by have := Hex.hexEnc_len L; omega
    exact ⟨ofKey L, ofErr L, ofKey_len L, parseHex_yes _ L (by omega) (hex_yes L (by omega)), refParseHex_yes _ L (by omega) (hex_ref L (by omega)), fun h => by rw [ofErr_zero L h]⟩
  · exact ⟨key0, 5, rfl, parseHex_no s 5 rfl (fun W => Hex.decode_bad ⟨⟨s⟩⟩ K W (by omega) (by omega) hK), refParseHex_no s 5 rfl (fun W => Hex.refDecode_bad ⟨⟨s⟩⟩ K W (by omega) (by omega) hK), fun h => by cases h⟩

theorem parse_text (k : List UInt8) (hk : k.length = 32) : KeyIs 24 (Six.enc k) k 0 := by
  have h := parse_yes (Six.enc k) k (by omega) (six_yes _ k (Six.enc_txt k) (by rw [Six.enc_len]; omega))
  rw [ofKey_of k hk, ofErr_of k hk] at h
  exact h
theorem parseHex_text (k : List UInt8) (hk : k.length = 32) : KeyIs 25 (Hex.hexEnc k) k 0 := by
  have h := parseHex_yes (Hex.hexEnc k) k (by omega) (hex_yes k (by omega))
  rw [ofKey_of k hk, ofErr_of k hk] at h
  exact h

end Go.Proofs.Ytfiagknmieegaaa
