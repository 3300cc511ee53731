
/- The walk of law36.PairlineReads. -/
import Derived.Test.YtdiibbokdfmcbaaPlnK
namespace Go.Proofs.Ytdiibbokdfmcbaa
open Go.RowKit Lin Pln
set_option maxRecDepth 100000

set_option maxHeartbeats 1000000 in
theorem walk_PairlineReads (S : ByteArray) (w : World) (w0 : S.size ≤ maxLen) :
    Calls Try.prog 5 #[.string S] w fun e w' => e = .returned (.bool true) ∧ Below w.heap.size w w' := by
  unfold maxLen at w0
  by_cases hlong : 2000 < S.size
  · go_enter Try.func5, Try.ntmps5
    go_wp2_with fail
    refine (alive36 _).mono ?_; rintro e w3 ⟨rfl, hb3⟩
    go_wp2
    go_ret
    exact ⟨rfl, hb3⟩
  · obtain ⟨l, rfl⟩ : ∃ l, S = ⟨⟨l⟩⟩ := ⟨S.data.toList, by cases S with | mk d => cases d with | mk t => rfl⟩
    have hs : (ByteArray.mk ⟨l⟩).size = l.length := rfl
    have H1 := Lib.hid (fun W => read_any l W (by omega))
    have H2 := Lib.hid (fun W => refRead_any l W (by omega))
    obtain ⟨hp1, hp2⟩ := rP_len l
    have hback : rE l = 0 → bE (rP l) = 0 ∧ bT (rP l) = l := b_r l
    have Hp2 := Lib.hid hp2
    clear hp2
    by_cases hE : rE l = 0
    · obtain ⟨e1, e2⟩ := hback hE
      have H4 := Lib.hid (fun (A : Option Addr) (c : Nat) (W : World) (h : ShP W W.heap.size A (rP l).length (rP l)) => block_any A (rP l).length c (rP l) W (by omega) Hp2.out h)
      rw [e1, e2] at H4
      rw [hE] at H1 H2
      clear hback e1 e2 hE Hp2
      unfold sv at *
      generalize rP l = PS at *
      generalize ByteArray.mk ⟨l⟩ = S at *
      generalize hN : PS.length = N at *
      have HN := Lib.hid hN
      clear hN
      go_enter Try.func5, Try.ntmps5
      go_wp2_with fail
      refine (H1.out _).mono ?_; rintro e w1 ⟨⟨A1, c1, rfl, _, _, s1⟩, hb1⟩
      rw [HN.out] at s1 ⊢
      go_wp2_with fail
      refine (H2.out _).mono ?_; rintro e w2 ⟨⟨A2, c2, rfl, _, _, s2⟩, hb2⟩
      rw [HN.out] at s2 ⊢
      have s12 := s1.on hb2
      have b2 := Below.on hb1 hb1.size hb2
      clear hb1 hb2 s1
      go_wp2_with fail
      refine (alike_yes A1 A2 N c1 c2 PS _ (by omega) s12 s2).mono ?_; rintro e w3 ⟨rfl, hb3⟩
      have s13 := s12.on hb3
      have b3 := Below.on b2 b2.size hb3
      clear hb3 b2 s12 s2
      go_wp2_with fail
      refine (H4.out A1 c1 _ s13).mono ?_; rintro e w4 ⟨rfl, hb4⟩
      have b4 := Below.on b3 b3.size hb4
      clear hb4 b3 s13
      go_wp2_with fail
      refine (alive36 _).mono ?_; rintro e w5 ⟨rfl, hb5⟩
      have b5 := Below.on b4 b4.size hb5
      go_wp2
      go_ret
      exact ⟨rfl, b5⟩
    · have H4 := Lib.hid (fun (A : Option Addr) (c : Nat) (W : World) (h : ShP W W.heap.size A (rP l).length (rP l)) => block_any A (rP l).length c (rP l) W (by omega) Hp2.out h)
      have hne : ((rE l : Int) != 0) = true := by rw [bne_iff_ne]; omega
      clear hback hE Hp2
      unfold sv at *
      generalize rE l = E at *
      generalize ByteArray.mk ⟨bT (rP l)⟩ = BT at *
      generalize bE (rP l) = BE at *
      generalize rP l = PS at *
      generalize ByteArray.mk ⟨l⟩ = S at *
      generalize hN : PS.length = N at *
      have HN := Lib.hid hN
      clear hN
      go_enter Try.func5, Try.ntmps5
      go_wp2_with fail
      refine (H1.out _).mono ?_; rintro e w1 ⟨⟨A1, c1, rfl, _, _, s1⟩, hb1⟩
      rw [HN.out] at s1 ⊢
      go_wp2_with fail
      refine (H2.out _).mono ?_; rintro e w2 ⟨⟨A2, c2, rfl, _, _, s2⟩, hb2⟩
      rw [HN.out] at s2 ⊢
      have s12 := s1.on hb2
      have b2 := Below.on hb1 hb1.size hb2
      clear hb1 hb2 s1
      go_wp2_with fail
      refine (alike_yes A1 A2 N c1 c2 PS _ (by omega) s12 s2).mono ?_; rintro e w3 ⟨rfl, hb3⟩
      have s13 := s12.on hb3
      have b3 := Below.on b2 b2.size hb3
      clear hb3 b2 s12 s2
      go_wp2_with fail
      refine (H4.out A1 c1 _ s13).mono ?_; rintro e w4 ⟨rfl, hb4⟩
      have b4 := Below.on b3 b3.size hb4
      clear hb4 b3 s13
      go_wp2_with fail
      refine (alive36 _).mono ?_; rintro e w5 ⟨rfl, hb5⟩
      have b5 := Below.on b4 b4.size hb5
      go_wp2
      go_ret
      exact ⟨rfl, b5⟩

end Go.Proofs.Ytdiibbokdfmcbaa
