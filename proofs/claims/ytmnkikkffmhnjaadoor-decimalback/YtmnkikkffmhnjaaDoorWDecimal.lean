/- The walks of law03.DecimalBack and law03.DecimalReads. -/
import Derived.Test.YtmnkikkffmhnjaaDoorDecD
namespace Go.Proofs.YtmnkikkffmhnjaaDoor
open Go.RowKit

theorem walk_DecimalBack (n most : Int) (w0 : (Lit.int .u64 n).wf = true) (w1 : (Lit.int .u64 most).wf = true) (w : World) (htab : Tab w) :
    Calls Tryd.prog 3 #[.int .u64 n, .int .u64 most] w fun e w' => e = .returned (.bool true) ∧ Below w.heap.size w w' := by
  obtain ⟨hn0, hn1⟩ := bounds_u64 w0
  obtain ⟨hm0, hm1⟩ := bounds_u64 w1
  obtain ⟨N, rfl⟩ := Int.eq_ofNat_of_zero_le hn0
  obtain ⟨M, rfl⟩ := Int.eq_ofNat_of_zero_le hm0
  have hN : N < 18446744073709551616 := by omega
  obtain ⟨hF, hv, _⟩ := dec_props N
  have hl := dec_len N hN
  have HT := Lib.hid (fun W hW => text_any N W hN hW)
  have HRT := Lib.hid (fun W => refText_any 20 N W (by omega) hN)
  have HR := Lib.hid (show ∀ W : World, Calls Tryd.prog 6 #[sv (Lib.decDigits N), .int .u64 (M : Int)] W fun e w' => e = .returned (if M < N then .tuple #[.int .u64 0, .int .i64 6] else .tuple #[.int .u64 (N : Int), .int .i64 0]) ∧ Below W.heap.size W w' from by
    intro W
    refine read_walk ⟨⟨Lib.decDigits N⟩⟩ _ rfl M _ W hF (fun W => formed_yes _ W (by omega) hF) ?_
    rw [hv]
    by_cases h : M < N
    · exact .inr ⟨.inr h, if_pos h⟩
    · exact .inl ⟨by omega, by omega, if_neg h⟩)
  have Htab := Lib.hid htab
  clear hF hv hN htab w0 w1
  generalize Lib.decDigits N = L at *
  by_cases h : M < N
  · rw [if_pos h] at HR
    go_enter Tryd.func3, Tryd.ntmps3
    go_wp2_with fail
    refine (HT.out _ Htab.out).mono ?_; rintro e w1 ⟨rfl, hb1⟩
    go_wp2_with fail
    refine (HR.out _).mono ?_; rintro e w2 ⟨rfl, hb2⟩
    have b2 := Below.on hb1 hb1.size hb2
    clear hb1 hb2
    go_wp2_with fail
    refine (HRT.out _).mono ?_; rintro e w3 ⟨rfl, hb3⟩
    have b3 := Below.on b2 b2.size hb3
    clear b2 hb3
    go_wp2_with fail
    refine (alive3 _ (Htab.out.on b3)).mono ?_; rintro e w4 ⟨rfl, hb4⟩
    have b4 := Below.on b3 b3.size hb4
    go_wp2
    go_ret
    exact ⟨rfl, b4⟩
  · rw [if_neg h] at HR
    go_enter Tryd.func3, Tryd.ntmps3
    go_wp2_with fail
    refine (HT.out _ Htab.out).mono ?_; rintro e w1 ⟨rfl, hb1⟩
    go_wp2_with fail
    refine (HR.out _).mono ?_; rintro e w2 ⟨rfl, hb2⟩
    have b2 := Below.on hb1 hb1.size hb2
    clear hb1 hb2
    go_wp2_with fail
    refine (HRT.out _).mono ?_; rintro e w3 ⟨rfl, hb3⟩
    have b3 := Below.on b2 b2.size hb3
    clear b2 hb3
    go_wp2_with fail
    refine (alive3 _ (Htab.out.on b3)).mono ?_; rintro e w4 ⟨rfl, hb4⟩
    have b4 := Below.on b3 b3.size hb4
    go_wp2
    go_ret
    exact ⟨rfl, b4⟩

theorem walk_DecimalReads (s : ByteArray) (most : Int) (hs : s.size ≤ maxLen) (w1 : (Lit.int .u64 most).wf = true) (w : World) (htab : Tab w) :
    Calls Tryd.prog 4 #[.string s, .int .u64 most] w fun e w' => e = .returned (.bool true) ∧ Below w.heap.size w w' := by
  obtain ⟨hm0, hm1⟩ := bounds_u64 w1
  obtain ⟨M, rfl⟩ := Int.eq_ofNat_of_zero_le hm0
  unfold maxLen at hs
  obtain ⟨l, rfl⟩ : ∃ l, s = ⟨⟨l⟩⟩ := ⟨s.data.toList, by cases s with | mk d => cases d with | mk t => rfl⟩
  have hs' : l.length ≤ 9223372036854775807 := hs
  have Htab := Lib.hid htab
  clear htab w1 hs
  by_cases hlen : 100 < l.length
  · go_enter Tryd.func4, Tryd.ntmps4
    go_wp2_with fail
    refine (alive3 _ Htab.out).mono ?_; rintro e w3 ⟨rfl, hb3⟩
    go_wp2
    go_ret
    exact ⟨rfl, hb3⟩
  · obtain ⟨D, hD⟩ := leadD_some l
    have HP := Lib.hid (fun W => prefix_any ⟨⟨l⟩⟩ D W (by show l.length ≤ _; omega) hD)
    have HRP := Lib.hid (fun W => refPrefix_any ⟨⟨l⟩⟩ D W (by show l.length ≤ _; omega) hD)
    have hcase : (¬ Formed l ∨ (Formed l ∧ M < dval l)) ∨ (Formed l ∧ dval l ≤ M) := by
      by_cases h : Formed l
      · by_cases h2 : M < dval l
        · exact .inl (.inr ⟨h, h2⟩)
        · exact .inr ⟨h, by omega⟩
      · exact .inl (.inl h)
    rcases hcase with hbad | ⟨hF, hle⟩
    · -- both answer the same error
      obtain ⟨E, hE0, HA, HB⟩ : ∃ E : Nat, (E = 5 ∨ E = 6) ∧ (∀ W : World, Calls Tryd.prog 6 #[sv l, .int .u64 (M : Int)] W fun e w' => e = .returned (.tuple #[.int .u64 0, .int .i64 (E : Int)]) ∧ Below W.heap.size W w') ∧
          (∀ W : World, Calls Tryd.prog 9 #[sv l, .int .u64 (M : Int)] W fun e w' => e = .returned (.tuple #[.int .u64 0, .int .i64 (E : Int)]) ∧ W = w') := by
        rcases hbad with h | ⟨h, h2⟩
        · exact ⟨5, .inl rfl, fun W => read_form l M W (by omega) h, fun W => refRead_form l M W (by omega) h⟩
        · exact ⟨6, .inr rfl, fun W => read_walk ⟨⟨l⟩⟩ l rfl M _ W h (fun W => formed_yes _ W (by omega) h) (.inr ⟨.inr h2, rfl⟩),
            fun W => refRead_walk ⟨⟨l⟩⟩ l rfl M _ W (by show l.length ≤ _; omega) h (by omega) (.inr ⟨h2, rfl⟩)⟩
      have H1 := Lib.hid HA
      have H2 := Lib.hid HB
      have hne : ((E : Int) != 0) = true := by rw [bne_iff_ne]; omega
      clear HA HB hbad hD
      go_enter Tryd.func4, Tryd.ntmps4
      go_wp2_with fail
      refine (H1.out _).mono ?_; rintro e w1 ⟨rfl, hb1⟩
      go_wp2_with fail
      refine (H2.out _).mono ?_; rintro e w2 ⟨rfl, rfl⟩
      go_wp2_with fail
      refine (HP.out _).mono ?_; rintro e w2 ⟨rfl, hb2⟩
      have b2 := Below.on hb1 hb1.size hb2
      clear hb1 hb2
      go_wp2_with fail
      refine (HRP.out _).mono ?_; rintro e w3 ⟨rfl, rfl⟩
      go_wp2_with fail
      refine (alive3 _ (Htab.out.on b2)).mono ?_; rintro e w4 ⟨rfl, hb4⟩
      have b4 := Below.on b2 b2.size hb4
      go_wp2
      go_ret
      exact ⟨rfl, b4⟩
    · have H1 := Lib.hid (fun W => read_walk ⟨⟨l⟩⟩ l rfl M (.tuple #[.int .u64 (dval l : Int), .int .i64 0]) W hF (fun W => formed_yes _ W (by omega) hF) (.inl ⟨by omega, hle, rfl⟩))
      have H2 := Lib.hid (fun W => refRead_walk ⟨⟨l⟩⟩ l rfl M (.tuple #[.int .u64 (dval l : Int), .int .i64 0]) W (by show l.length ≤ _; omega) hF (by omega) (.inl ⟨hle, rfl⟩))
      have hb64 : dval l < 18446744073709551616 := by omega
      have hdb := dec_back l.length l rfl hF
      have HT := Lib.hid (fun W hW => text_any (dval l) W hb64 hW)
      rw [hdb] at HT
      clear hdb hD hF hb64
      generalize dval l = V at *
      go_enter Tryd.func4, Tryd.ntmps4
      go_wp2_with fail
      refine (H1.out _).mono ?_; rintro e w1 ⟨rfl, hb1⟩
      go_wp2_with fail
      refine (H2.out _).mono ?_; rintro e w2 ⟨rfl, rfl⟩
      go_wp2_with fail
      refine (HT.out _ (Htab.out.on hb1)).mono ?_; rintro e w2 ⟨rfl, hb2⟩
      have b2 := Below.on hb1 hb1.size hb2
      clear hb1 hb2
      go_wp2_with fail
      refine (HP.out _).mono ?_; rintro e w3 ⟨rfl, hb3⟩
      have b3 := Below.on b2 b2.size hb3
      clear b2 hb3
      go_wp2_with fail
      refine (HRP.out _).mono ?_; rintro e w4 ⟨rfl, rfl⟩
      go_wp2_with fail
      refine (alive3 _ (Htab.out.on b3)).mono ?_; rintro e w4 ⟨rfl, hb4⟩
      have b4 := Below.on b3 b3.size hb4
      go_wp2
      go_ret
      exact ⟨rfl, b4⟩

end Go.Proofs.YtmnkikkffmhnjaaDoor
