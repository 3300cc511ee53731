/- The walk of law01.EndianGets. -/
import Derived.Test.YtmnkikkffmhnjaaEndG
namespace Go.Proofs.Ytmnkikkffmhnjaa
open Go.RowKit

theorem walk_EndianGets (A : Option Addr) (n c : Nat) (l : List UInt8) {w : World} (hc : n ≤ c ∧ c ≤ maxLen) (h : Shows w w.heap.size A n l) :
    Calls Try.prog 4 #[.slice A n c] w fun e w' => e = .returned (.bool true) ∧ Below w.heap.size w w' := by
  have hl := h.len
  have hmx : n ≤ maxLen := Nat.le_trans hc.1 hc.2
  have hm := hmx
  unfold maxLen at hm
  by_cases hs : n < 1 ∨ 8 < n
  · have hd : decide ((n : Int) < 1) = true ∨ (decide ((n : Int) < 1) = false ∧ decide ((8 : Int) < (n : Int)) = true) := by
      rcases hs with h | h
      · exact .inl (by simp; omega)
      · exact .inr ⟨by simp; omega, by simp; omega⟩
    clear hc
    rcases hd with hd | ⟨hd, hd'⟩
    all_goals
      go_enter Try.func4, Try.ntmps4
      go_wp2_with fail
      refine (ofLittle_arg _ _ _ _ hs hmx).mono ?_; rintro e w1 ⟨rfl, rfl⟩
      go_wp2_with fail
      refine (ofBig_arg _ _ _ _ hs hmx).mono ?_; rintro e w1 ⟨rfl, rfl⟩
      go_wp2_with fail
      refine (alive1 _).mono ?_; rintro e w3 ⟨rfl, hb3⟩
      go_wp2
      go_ret
      exact ⟨rfl, hb3⟩
  · have h1 : 1 ≤ n := by omega
    have h8 : n ≤ 8 := by omega
    have hone := ones_256 n h8
    have hlt := leNat_lt l
    rw [hl] at hlt
    have Hr := Lib.hid (show (leNat l : Int) ≤ (ones (8 * (n : Int)) : Int) by omega)
    have HL := Lib.hid (show leBytes (leNat l) n = l by rw [← hl]; exact leBytes_leNat l)
    have hd : decide ((n : Int) < 1) = false := by simp; omega
    have hd' : decide ((8 : Int) < (n : Int)) = false := by simp; omega
    clear hone hlt hc hl hs
    generalize hV : leNat l = V at *
    have HV := Lib.hid hV
    clear hV
    generalize hU : leNat l.reverse = U at *
    have HU := Lib.hid hU
    clear hU
    go_enter Try.func4, Try.ntmps4
    go_wp2_with fail
    refine (ofLittle_any _ _ _ l _ h1 h8 h).mono ?_; rintro e w1 ⟨rfl, rfl⟩
    rw [HV.out]
    go_wp2_with fail
    refine (ofBig_any _ _ _ l _ h1 h8 h).mono ?_; rintro e w1 ⟨rfl, rfl⟩
    rw [HU.out]
    go_wp2_with fail
    refine (little_ok V n _ h1 h8 Hr.out).mono ?_; rintro e w1 ⟨rfl, ho1, hb1⟩
    rw [HL.out] at ho1
    have s1 := ho1.shown
    have g1 := (h.below hb1).up hb1.size
    clear ho1 h
    go_wp2_with fail
    refine (get_any _ _ _ l _ h8 g1).mono ?_; rintro e w2 ⟨rfl, rfl⟩
    rw [HV.out]
    go_wp2_with fail
    refine (reversed_any _ _ _ _ _ (by omega) g1).mono ?_; rintro e w2 ⟨⟨v, rfl, ho2⟩, hb2⟩
    obtain ⟨A2, c2, rfl, _, _, s2⟩ := ho2.shows
    have g2 := (g1.below hb2).up hb2.size
    have s12 := (s1.below hb2).up hb2.size
    have b2 := Below.on hb1 hb1.size hb2
    clear ho2 g1 s1 hb2 hb1
    go_wp2_with fail
    refine (get_any _ _ _ l.reverse _ h8 s2).mono ?_; rintro e w3 ⟨rfl, rfl⟩
    rw [HU.out]
    go_wp2_with fail
    refine (same_below _ _ _ _ _ _ _ hmx s12 g2).mono ?_; rintro e w4 ⟨rfl, hb4⟩
    have b4 := Below.on b2 b2.size hb4
    clear s12 g2 s2 hb4 b2
    go_wp2_with fail
    refine (alive1 _).mono ?_; rintro e w7 ⟨rfl, hb7⟩
    have b7 := Below.on b4 b4.size hb7
    go_wp2
    go_ret
    exact ⟨rfl, b7⟩

end Go.Proofs.Ytmnkikkffmhnjaa
