/- The walk of law06.LinesCut. -/
import Derived.Test.YtmnkikkffmhnjabLinD
import Derived.Deep.RegionWith
namespace Go.Proofs.Ytmnkikkffmhnjab
open Go.RowKit

theorem walk_LinesCut (s : ByteArray) (a1 : Int) (hs : s.size ≤ maxLen) (w1 : (Lit.int .u8 a1).wf = true) (w : World) :
    Calls Try.prog 8 #[.string s, .int .u8 a1] w fun e w' => e = .returned (.bool true) ∧ Below w.heap.size w w' := by
  unfold maxLen at hs
  obtain ⟨ha, hb⟩ := bounds_u8 w1
  obtain ⟨sep, rfl⟩ : ∃ sep : UInt8, a1 = (sep.toNat : Int) := ⟨UInt8.ofNat a1.toNat, by simp; omega⟩
  clear w1 ha hb
  obtain ⟨l, rfl⟩ : ∃ l, s = ⟨⟨l⟩⟩ := ⟨s.data.toList, by cases s with | mk d => cases d with | mk t => rfl⟩
  have hs' : l.length ≤ 9223372036854775807 := hs
  by_cases hlen : 300 < l.length
  · clear hs
    go_enter Try.func8, Try.ntmps8
    go_wp2_with fail
    refine (alive6 _).mono ?_; rintro e w3 ⟨rfl, hb3⟩
    go_wp2
    go_ret
    exact ⟨rfl, hb3⟩
  · have hpl := parts_len sep l
    have HR := Lib.hid (fun W => refParts_any l sep W (by omega))
    have HQ := Lib.hid (fun W => parts_any l sep W (by omega))
    clear hs
    rcases cut_cases sep l with hno | ⟨a, b, hl, hna⟩
    · have HC := Lib.hid (fun W => cut_no l sep W hno)
      rw [parts_no sep l hno] at HR HQ
      clear hno hpl
      go_enter Try.func8, Try.ntmps8
      go_wp2_with fail
      refine (HR.out _).mono ?_; rintro e w2 ⟨⟨v, rfl, ho⟩, hb2⟩
      obtain ⟨A2, c2, rfl, h21, h22, s2⟩ := ho.sh
      clear ho
      go_wp2_with fail
      refine (HC.out _).mono ?_; rintro e w3 ⟨rfl, rfl⟩
      go_wp2_with fail
      refine (HQ.out _).mono ?_; rintro e w3 ⟨⟨v, rfl, ho⟩, hb3⟩
      obtain ⟨A3, c3, rfl, h31, h32, s3⟩ := ho.sh
      have s23 := s2.on hb3
      have b3 := Below.on hb2 hb2.size hb3
      clear ho s2 hb2 hb3
      go_wp2_with fail
      refine (sameS_yes _ _ _ _ _ _ _ (by simp) s3 s23).mono ?_; rintro e w4 ⟨rfl, hb4⟩
      have s24 := s23.on hb4
      have b4 := Below.on b3 b3.size hb4
      clear s3 s23 b3 hb4
      obtain ⟨bb, off, y, rfl, hbb, hcell, hy⟩ := s24.elem (k := 0) (by simp)
      obtain rfl : y = l := by simpa using hy.symm
      rw [Nat.add_zero] at hcell
      clear s24 hy
      go_wp2_with fail
      refine (alive6 _).mono ?_; rintro e w5 ⟨rfl, hb5⟩
      have b5 := Below.on b4 b4.size hb5
      go_wp2
      go_ret
      exact ⟨rfl, b5⟩
    · have HC := Lib.hid (show ∀ W : World, Calls Try.prog 28 #[sv l, .int .u8 (sep.toNat : Int)] W fun e w' => e = .returned (.tuple #[sv a, sv b, .bool true]) ∧ Below W.heap.size W w' from by
        rw [hl]; exact fun W => cut_yes a b sep W hna (by rw [← hl]; omega))
      have hp : parts sep l = a :: parts sep b := by rw [hl]; exact parts_yes sep a b hna
      have hbl : b.length ≤ l.length := by rw [hl]; simp; omega
      have HB := Lib.hid (fun W => refParts_any b sep W (by omega))
      obtain ⟨ph, pr, hpb⟩ := parts_ne sep b
      have hN1 : 1 ≤ (parts sep b).length := by rw [hpb]; simp
      have hN2 : (parts sep b).length ≤ 301 := by rw [hp] at hpl; simp at hpl; omega
      rw [hp] at HR HQ
      simp only [List.length_cons] at HR HQ
      clear hp hpb hl hna hpl
      generalize parts sep b = PB at *
      generalize hN : PB.length = N at *
      have HN := Lib.hid hN
      clear hN
      have t1 : decide ((1 : Int) < (N : Int) + 1) = true := by simp; omega
      go_enter Try.func8, Try.ntmps8
      go_wp2_with fail
      refine (HR.out _).mono ?_; rintro e w2 ⟨⟨v, rfl, ho⟩, hb2⟩
      obtain ⟨A2, c2, rfl, h21, h22, s2⟩ := ho.sh
      clear ho
      go_wp2_with fail
      refine (HC.out _).mono ?_; rintro e w3 ⟨rfl, hb3⟩
      have s23 := s2.on hb3
      have b3 := Below.on hb2 hb2.size hb3
      clear s2 hb2 hb3
      go_wp2_with fail
      refine (HQ.out _).mono ?_; rintro e w4 ⟨⟨v, rfl, ho⟩, hb4⟩
      obtain ⟨A4, c4, rfl, h41, h42, s4⟩ := ho.sh
      have s24 := s23.on hb4
      have b4 := Below.on b3 b3.size hb4
      clear ho s23 b3 hb4
      go_wp2_with fail
      refine (sameS_yes _ _ _ _ _ _ _ (by omega) s4 s24).mono ?_; rintro e w5 ⟨rfl, hb5⟩
      have s25 := s24.on hb5
      have b5 := Below.on b4 b4.size hb5
      clear s4 s24 b4 hb5
      obtain ⟨bb, off, y, rfl, hbb, hcell, hy⟩ := s25.elem (k := 0) (by omega)
      obtain rfl : y = a := by simpa using hy.symm
      rw [Nat.add_zero] at hcell
      have sback := s25.back (k := 1) (cap := c2) (by omega) h21
      rw [if_neg (by omega)] at sback
      have sb0 : Sh sv w5 w5.heap.size (some ⟨bb, off + 1, none⟩) N PB := by simpa [Addr.add] using sback
      have sb : Sh sv w5.drew w5.drew.heap.size (some ⟨bb, off + 1, none⟩) N PB := sb0
      clear sb0
      have b5' := b5.drew
      clear hy s25 sback
      have hc1 : (1 : Int) ≤ (N : Int) + 1 := by omega
      have hc2 : ¬ c2 = 1 := by omega
      go_wp2_with fail
      go_region_with (first | (go_at_call 27; refine (HB.out _).mono ?_; rintro e w6 ⟨⟨v, rfl, ho6⟩, hb6⟩; obtain ⟨A6, c6, rfl, h61, h62, s6⟩ := ho6.sh; have sb6 := sb.on (by exact hb6); have b6 := Below.on b5' b5'.size (by exact hb6)) | (go_at_call 22; refine (sameS_yes _ _ _ _ _ PB _ (by omega) s6 sb6).mono ?_; rintro e w7 ⟨rfl, hb7⟩; have b7 := Below.on b6 b6.size hb7) | (go_at_call 19; refine (alive6 _).mono ?_; rintro e w8 ⟨rfl, hb8⟩; have b8 := Below.on b7 b7.size hb8))
      all_goals
        go_wp2
        go_ret
        exact ⟨rfl, b8⟩

end Go.Proofs.Ytmnkikkffmhnjab
