/- The walk of law06.LinesSplit. -/
import Derived.Test.YtmnkikkffmhnjabLinE
namespace Go.Proofs.Ytmnkikkffmhnjab
open Go.RowKit

set_option maxRecDepth 100000 in
theorem walk_LinesSplit (s : ByteArray) (hs : s.size ≤ maxLen) (w : World) :
    Calls Try.prog 6 #[.string s] w fun e w' => e = .returned (.bool true) ∧ Below w.heap.size w w' := by
  unfold maxLen at hs
  obtain ⟨l, rfl⟩ : ∃ l, s = ⟨⟨l⟩⟩ := ⟨s.data.toList, by cases s with | mk d => cases d with | mk t => rfl⟩
  have hs' : l.length ≤ 9223372036854775807 := hs
  by_cases hlen : 300 < l.length
  · clear hs
    go_enter Try.func6, Try.ntmps6
    go_wp2_with fail
    refine (alive6 _).mono ?_; rintro e w3 ⟨rfl, hb3⟩
    go_wp2
    go_ret
    exact ⟨rfl, hb3⟩
  · clear hs
    have HR := Lib.hid (fun W => refLoose_any l W (by omega))
    have HL := Lib.hid (fun W => linesLoose_any l W (by omega))
    have hll := loose_len l
    have hcase : (∃ m c, l = m ++ [c] ∧ c ≠ 10) ∨ (l = [] ∨ ∃ m, l = m ++ [10]) := by
      rcases text_cases l with h | h | h
      · exact .inr (.inl h)
      · exact .inr (.inr h)
      · exact .inl h
    rcases hcase with ⟨m, c, hl, hc⟩ | hyes
    · have HSp := Lib.hid (show ∀ W : World, Calls Try.prog 21 #[sv l] W fun e w' => e = .returned (.tuple #[.slice none 0 0, .bool false]) ∧ W = w' from by
        rw [hl]; exact fun W => split_no m c W hc (by rw [← hl]; omega))
      have hlast : ∀ h : m.length < (ByteArray.mk ⟨l⟩).size, (ByteArray.mk ⟨l⟩)[m.length]'h = c := byte_at _ _ _ (by show l[m.length]? = some c; rw [hl]; simp)
      have hsz : l.length = m.length + 1 := by rw [hl]; simp
      have hsz' : (ByteArray.mk ⟨l⟩).size = m.length + 1 := hsz
      have hc10 : ((c.toNat : Int) != 10) = true := by
        have := byte_ne hc
        rw [bne, show (10 : Int) = ((10 : UInt8).toNat : Int) from rfl, this]; rfl
      have hm300 : m.length ≤ 299 := by omega
      have hL301 : (loose l).length ≤ 301 := by omega
      unfold sv at HSp HR HL
      generalize ByteArray.mk ⟨l⟩ = S at *
      generalize loose l = L at *
      clear hl hsz hs' hlen hc
      go_enter Try.func6, Try.ntmps6
      go_wp2_with fail
      refine (HR.out _).mono ?_; rintro e w1 ⟨⟨A1, c1, rfl, _, _, s1⟩, hb1⟩
      go_wp2_with fail
      refine (HSp.out _).mono ?_; rintro e w2 ⟨rfl, rfl⟩
      go_wp2_with fail
      refine (HL.out _).mono ?_; rintro e w3 ⟨⟨A3, c3, rfl, _, _, s3⟩, hb3⟩
      have s13 := s1.on hb3
      have b3 := Below.on hb1 hb1.size hb3
      clear s1 hb1 hb3
      go_wp2_with fail
      refine (sameS_yes _ _ _ _ _ _ _ (by omega) s3 s13).mono ?_; rintro e w4 ⟨rfl, hb4⟩
      have b4 := Below.on b3 b3.size hb4
      clear s3 s13 b3 hb4
      go_wp2_with fail
      refine (alive6 _).mono ?_; rintro e w5 ⟨rfl, hb5⟩
      have b5 := Below.on b4 b4.size hb5
      go_wp2
      go_ret
      exact ⟨rfl, b5⟩
    · have HSp := Lib.hid (fun W => split_yes l W hyes (by omega))
      have HJ := Lib.hid (joinL_loose l hyes)
      have hJL : (joinL (loose l)).length ≤ 300 := by rw [HJ.out]; omega
      have hcond : l.length = 0 ∨ ∃ k, l.length = k + 1 ∧ ∀ h : k < (ByteArray.mk ⟨l⟩).size, (ByteArray.mk ⟨l⟩)[k]'h = 10 := by
        rcases hyes with rfl | ⟨m, rfl⟩
        · exact .inl rfl
        · exact .inr ⟨m.length, by simp, byte_at _ _ _ (by show (m ++ [10])[m.length]? = some 10; simp)⟩
      have hsz : (ByteArray.mk ⟨l⟩).size = l.length := rfl
      have hS300 : (ByteArray.mk ⟨l⟩).size ≤ 300 := by rw [hsz]; omega
      have hL301 : (loose l).length ≤ 301 := by omega
      clear hyes
      unfold sv at HSp HR HL
      have HBS := Lib.hid (show sv (joinL (loose l)) = Value.string (ByteArray.mk ⟨l⟩) by rw [HJ.out])
      clear hs'
      generalize ByteArray.mk ⟨l⟩ = S at *
      generalize loose l = L at *
      have key : ∀ (Q : Prop), (S.size = 0 → Q) → (∀ k, S.size = k + 1 → (∀ h : k < S.size, S[k]'h = 10) → Q) → Q := by
        intro Q a b
        rcases hcond with h0 | ⟨k, hk, hlast⟩
        · exact a (by omega)
        · exact b k (by omega) hlast
      clear hcond hsz hlen
      refine key _ (fun d0 => ?_) (fun k hk hlast => ?_)
      all_goals
        clear key
        go_enter Try.func6, Try.ntmps6
        go_wp2_with fail
        refine (HR.out _).mono ?_; rintro e w1 ⟨⟨A1, c1, rfl, _, _, s1⟩, hb1⟩
        go_wp2_with fail
        refine (HSp.out _).mono ?_; rintro e w2 ⟨⟨A2, c2, rfl, _, _, s2⟩, hb2⟩
        have s12 := s1.on hb2
        have b2 := Below.on hb1 hb1.size hb2
        clear s1 hb1 hb2
        go_wp2_with fail
        refine (HL.out _).mono ?_; rintro e w3 ⟨⟨A3, c3, rfl, _, _, s3⟩, hb3⟩
        have s13 := s12.on hb3
        have s23 := s2.on hb3
        have b3 := Below.on b2 b2.size hb3
        clear s12 s2 b2 hb3
        go_wp2_with fail
        refine (sameS_yes _ _ _ _ _ _ _ (by omega) s3 s13).mono ?_; rintro e w4 ⟨rfl, hb4⟩
        have s14 := s13.on hb4
        have s24 := s23.on hb4
        have b4 := Below.on b3 b3.size hb4
        clear s3 s13 s23 b3 hb4
        go_wp2_with fail
        refine (sameS_yes _ _ _ _ _ _ _ (by omega) s24 s14).mono ?_; rintro e w5 ⟨rfl, hb5⟩
        have s25 := s24.on hb5
        have b5 := Below.on b4 b4.size hb5
        clear s14 s24 b4 hb5
        go_wp2_with fail
        refine (join_any _ _ _ L _ (by omega) (by omega) s25).mono ?_; rintro e w6 ⟨rfl, hb6⟩
        rw [HBS.out]
        have b6 := Below.on b5 b5.size hb6
        clear s25 b5 hb6
        go_wp2_with fail
        refine (alive6 _).mono ?_; rintro e w7 ⟨rfl, hb7⟩
        have b7 := Below.on b6 b6.size hb7
        go_wp2
        go_ret
        exact ⟨rfl, b7⟩

end Go.Proofs.Ytmnkikkffmhnjab
