
/- The walk of law36.PairlineLines. -/
import Derived.Test.YtdiibbokdfmcbaaPlnI
import Derived.Test.YtdiibbokdfmcbaaPlnH
namespace Go.Proofs.Ytdiibbokdfmcbaa
open Go.RowKit Lin Pln
set_option maxRecDepth 100000

theorem lines_long (K V L : ByteArray) (w : World) (w0 : K.size ≤ maxLen) (w1 : V.size ≤ maxLen) (w2 : L.size ≤ maxLen) (h : 700 < K.size ∨ 700 < V.size ∨ 700 < L.size) :
    Calls Try.prog 3 #[.string K, .string V, .string L] w fun e w' => e = .returned (.bool true) ∧ Below w.heap.size w w' := by
  unfold maxLen at *
  by_cases h0 : 700 < K.size
  · go_enter Try.func3, Try.ntmps3
    go_wp2_with fail
    refine (alive36 _).mono ?_; rintro e w3 ⟨rfl, hb3⟩
    go_wp2
    go_ret
    exact ⟨rfl, hb3⟩
  · by_cases h1 : 700 < V.size
    · go_enter Try.func3, Try.ntmps3
      go_wp2_with fail
      refine (alive36 _).mono ?_; rintro e w3 ⟨rfl, hb3⟩
      go_wp2
      go_ret
      exact ⟨rfl, hb3⟩
    · have h2 : 700 < L.size := by omega
      go_enter Try.func3, Try.ntmps3
      go_wp2_with fail
      refine (alive36 _).mono ?_; rintro e w3 ⟨rfl, hb3⟩
      go_wp2
      go_ret
      exact ⟨rfl, hb3⟩

set_option maxHeartbeats 2000000 in
theorem lines_walk (k v l : List UInt8) (w : World) (w0 : k.length ≤ 700) (w1 : v.length ≤ 700) (w2 : l.length ≤ 700) :
    Calls Try.prog 3 #[sv k, sv v, sv l] w fun e w' => e = .returned (.bool true) ∧ Below w.heap.size w w' := by
  have H1 := Lib.hid (fun W => text_any k v W (by omega) (by omega))
  have H2 := Lib.hid (fun W => refText_any k v W (by omega) (by omega))
  have H4 := Lib.hid (fun W => parse_any l W (by omega))
  have H5 := Lib.hid (fun W => refParse_any l W (by omega))
  have hks : (ByteArray.mk ⟨k⟩).size = k.length := rfl
  have hvs : (ByteArray.mk ⟨v⟩).size = v.length := rfl
  have hls : (ByteArray.mk ⟨l⟩).size = l.length := rfl
  have hq : (pK l).length ≤ 100000 ∧ (pV l).length ≤ 100000 := by
    by_cases h : pE l = 0
    · obtain ⟨a, b, e, _, _, _, _, e1, e2⟩ := pE_ok l h
      rw [e1, e2]
      have h3 : a.length + (b.length + 1) = l.length := by rw [e]; simp
      omega
    · obtain ⟨e1, e2⟩ := p_bad l h
      rw [e1, e2]; simp
  have H6 := Lib.hid (fun W => text_any (pK l) (pV l) W hq.1 hq.2)
  have hback : pE l = 0 → tE (pK l) (pV l) = 0 ∧ tL (pK l) (pV l) = l := t_p l
  by_cases hT : tE k v = 0
  · have h3 := fun W => parse_any (tL k v) W (by have := tL_len k v; omega)
    obtain ⟨e1, e2, e3⟩ := p_t k v hT
    rw [e1, e2, e3] at h3
    have H3 := Lib.hid h3
    rw [hT] at H1 H2
    clear h3 e1 e2 e3 hT
    unfold sv at *
    generalize ByteArray.mk ⟨tL k v⟩ = TT at *
    generalize ByteArray.mk ⟨k⟩ = K at *
    generalize ByteArray.mk ⟨v⟩ = V at *
    by_cases hP : pE l = 0
    · obtain ⟨e1, e2⟩ := hback hP
      rw [e1, e2] at H6
      rw [hP] at H4 H5
      clear e1 e2 hback hP hq
      generalize ByteArray.mk ⟨l⟩ = L at *
      generalize ByteArray.mk ⟨pK l⟩ = PK at *
      generalize ByteArray.mk ⟨pV l⟩ = PV at *
      go_enter Try.func3, Try.ntmps3
      go_wp2_with fail
      refine (H1.out _).mono ?_; rintro e w1 ⟨rfl, hb1⟩
      go_wp2_with fail
      refine (H2.out _).mono ?_; rintro e w2 ⟨rfl, hb2⟩
      have b2 := Below.on hb1 hb1.size hb2
      clear hb1 hb2
      go_wp2_with fail
      refine (H3.out _).mono ?_; rintro e w3 ⟨rfl, hb3⟩
      have b3 := (Below.on b2 b2.size hb3).alloc (Below.on b2 b2.size hb3).size (.cells #[.string K, .string V] 27)
      clear b2 hb3
      go_wp2_with fail
      refine (H4.out _).mono ?_; rintro e w4 ⟨rfl, hb4⟩
      have b4 := Below.on b3 b3.size (by exact hb4)
      clear b3 hb4
      go_wp2_with fail
      refine (H5.out _).mono ?_; rintro e w5 ⟨rfl, hb5⟩
      have k13 := (blk_new w4 27 #[.string PK, .string PV]).on (by exact hb5)
      have b5 := Below.on (b4.alloc b4.size (.cells #[.string PK, .string PV] 27)) (b4.alloc b4.size _).size (by exact hb5)
      have b6 := b5.alloc b5.size (.cells #[.string PK, .string PV] 30)
      have k13' := k13.alloc (.cells #[.string PK, .string PV] 30)
      obtain ⟨c0, c1⟩ := cells_two k13'
      have hlt := k13.lt
      clear b4 hb5 k13 k13' b5
      go_wp2_with fail
      refine (H6.out _).mono ?_; rintro e w6 ⟨rfl, hb6⟩
      have b7 := Below.on b6 b6.size (by exact hb6)
      clear b6 hb6 c0 c1 hlt
      go_wp2_with fail
      refine (alive36 _).mono ?_; rintro e w7 ⟨rfl, hb7⟩
      have b8 := Below.on b7 b7.size (by exact hb7)
      go_wp2
      go_ret
      exact ⟨rfl, b8⟩
    · have hne : ((pE l : Int) != 0) = true := by rw [bne_iff_ne]; omega
      clear hback hP hq
      generalize ByteArray.mk ⟨l⟩ = L at *
      generalize pE l = E at *
      generalize ByteArray.mk ⟨tL (pK l) (pV l)⟩ = T2 at *
      generalize tE (pK l) (pV l) = E2 at *
      generalize ByteArray.mk ⟨pK l⟩ = PK at *
      generalize ByteArray.mk ⟨pV l⟩ = PV at *
      go_enter Try.func3, Try.ntmps3
      go_wp2_with fail
      refine (H1.out _).mono ?_; rintro e w1 ⟨rfl, hb1⟩
      go_wp2_with fail
      refine (H2.out _).mono ?_; rintro e w2 ⟨rfl, hb2⟩
      have b2 := Below.on hb1 hb1.size hb2
      clear hb1 hb2
      go_wp2_with fail
      refine (H3.out _).mono ?_; rintro e w3 ⟨rfl, hb3⟩
      have b3 := (Below.on b2 b2.size hb3).alloc (Below.on b2 b2.size hb3).size (.cells #[.string K, .string V] 27)
      clear b2 hb3
      go_wp2_with fail
      refine (H4.out _).mono ?_; rintro e w4 ⟨rfl, hb4⟩
      have b4 := Below.on b3 b3.size (by exact hb4)
      clear b3 hb4
      go_wp2_with fail
      refine (H5.out _).mono ?_; rintro e w5 ⟨rfl, hb5⟩
      have k13 := (blk_new w4 27 #[.string PK, .string PV]).on (by exact hb5)
      have b5 := Below.on (b4.alloc b4.size (.cells #[.string PK, .string PV] 27)) (b4.alloc b4.size _).size (by exact hb5)
      have b6 := b5.alloc b5.size (.cells #[.string PK, .string PV] 30)
      have k13' := k13.alloc (.cells #[.string PK, .string PV] 30)
      obtain ⟨c0, c1⟩ := cells_two k13'
      have hlt := k13.lt
      clear b4 hb5 k13 k13' b5
      go_wp2_with fail
      refine (H6.out _).mono ?_; rintro e w6 ⟨rfl, hb6⟩
      have b7 := Below.on b6 b6.size (by exact hb6)
      clear b6 hb6 c0 c1 hlt
      go_wp2_with fail
      refine (alive36 _).mono ?_; rintro e w7 ⟨rfl, hb7⟩
      have b8 := Below.on b7 b7.size (by exact hb7)
      go_wp2
      go_ret
      exact ⟨rfl, b8⟩
  · have hne0 : ((tE k v : Int) == 0) = false := by simp; omega
    unfold sv at *
    generalize ByteArray.mk ⟨tL k v⟩ = TT at *
    generalize tE k v = ET at *
    generalize ByteArray.mk ⟨k⟩ = K at *
    generalize ByteArray.mk ⟨v⟩ = V at *
    by_cases hP : pE l = 0
    · obtain ⟨e1, e2⟩ := hback hP
      rw [e1, e2] at H6
      rw [hP] at H4 H5
      clear e1 e2 hback hP hq hT
      generalize ByteArray.mk ⟨l⟩ = L at *
      generalize ByteArray.mk ⟨pK l⟩ = PK at *
      generalize ByteArray.mk ⟨pV l⟩ = PV at *
      go_enter Try.func3, Try.ntmps3
      go_wp2_with fail
      refine (H1.out _).mono ?_; rintro e w1 ⟨rfl, hb1⟩
      go_wp2_with fail
      refine (H2.out _).mono ?_; rintro e w2 ⟨rfl, hb2⟩
      have b2 := Below.on hb1 hb1.size hb2
      clear hb1 hb2
      have b3 := b2
      clear b2
      go_wp2_with fail
      refine (H4.out _).mono ?_; rintro e w4 ⟨rfl, hb4⟩
      have b4 := Below.on b3 b3.size (by exact hb4)
      clear b3 hb4
      go_wp2_with fail
      refine (H5.out _).mono ?_; rintro e w5 ⟨rfl, hb5⟩
      have k13 := (blk_new w4 27 #[.string PK, .string PV]).on (by exact hb5)
      have b5 := Below.on (b4.alloc b4.size (.cells #[.string PK, .string PV] 27)) (b4.alloc b4.size _).size (by exact hb5)
      have b6 := b5.alloc b5.size (.cells #[.string PK, .string PV] 30)
      have k13' := k13.alloc (.cells #[.string PK, .string PV] 30)
      obtain ⟨c0, c1⟩ := cells_two k13'
      have hlt := k13.lt
      clear b4 hb5 k13 k13' b5
      go_wp2_with fail
      refine (H6.out _).mono ?_; rintro e w6 ⟨rfl, hb6⟩
      have b7 := Below.on b6 b6.size (by exact hb6)
      clear b6 hb6 c0 c1 hlt
      go_wp2_with fail
      refine (alive36 _).mono ?_; rintro e w7 ⟨rfl, hb7⟩
      have b8 := Below.on b7 b7.size (by exact hb7)
      go_wp2
      go_ret
      exact ⟨rfl, b8⟩
    · have hne : ((pE l : Int) != 0) = true := by rw [bne_iff_ne]; omega
      clear hback hP hq hT
      generalize ByteArray.mk ⟨l⟩ = L at *
      generalize pE l = E at *
      generalize ByteArray.mk ⟨tL (pK l) (pV l)⟩ = T2 at *
      generalize tE (pK l) (pV l) = E2 at *
      generalize ByteArray.mk ⟨pK l⟩ = PK at *
      generalize ByteArray.mk ⟨pV l⟩ = PV at *
      go_enter Try.func3, Try.ntmps3
      go_wp2_with fail
      refine (H1.out _).mono ?_; rintro e w1 ⟨rfl, hb1⟩
      go_wp2_with fail
      refine (H2.out _).mono ?_; rintro e w2 ⟨rfl, hb2⟩
      have b2 := Below.on hb1 hb1.size hb2
      clear hb1 hb2
      have b3 := b2
      clear b2
      go_wp2_with fail
      refine (H4.out _).mono ?_; rintro e w4 ⟨rfl, hb4⟩
      have b4 := Below.on b3 b3.size (by exact hb4)
      clear b3 hb4
      go_wp2_with fail
      refine (H5.out _).mono ?_; rintro e w5 ⟨rfl, hb5⟩
      have k13 := (blk_new w4 27 #[.string PK, .string PV]).on (by exact hb5)
      have b5 := Below.on (b4.alloc b4.size (.cells #[.string PK, .string PV] 27)) (b4.alloc b4.size _).size (by exact hb5)
      have b6 := b5.alloc b5.size (.cells #[.string PK, .string PV] 30)
      have k13' := k13.alloc (.cells #[.string PK, .string PV] 30)
      obtain ⟨c0, c1⟩ := cells_two k13'
      have hlt := k13.lt
      clear b4 hb5 k13 k13' b5
      go_wp2_with fail
      refine (H6.out _).mono ?_; rintro e w6 ⟨rfl, hb6⟩
      have b7 := Below.on b6 b6.size (by exact hb6)
      clear b6 hb6 c0 c1 hlt
      go_wp2_with fail
      refine (alive36 _).mono ?_; rintro e w7 ⟨rfl, hb7⟩
      have b8 := Below.on b7 b7.size (by exact hb7)
      go_wp2
      go_ret
      exact ⟨rfl, b8⟩

theorem walk_PairlineLines (K V L : ByteArray) (w : World) (w0 : K.size ≤ maxLen) (w1 : V.size ≤ maxLen) (w2 : L.size ≤ maxLen) :
    Calls Try.prog 3 #[.string K, .string V, .string L] w fun e w' => e = .returned (.bool true) ∧ Below w.heap.size w w' := by
  by_cases h : 700 < K.size ∨ 700 < V.size ∨ 700 < L.size
  · exact lines_long K V L w w0 w1 w2 h
  · obtain ⟨k, rfl⟩ : ∃ l, K = ⟨⟨l⟩⟩ := ⟨K.data.toList, by cases K with | mk d => cases d with | mk t => rfl⟩
    obtain ⟨v, rfl⟩ : ∃ l, V = ⟨⟨l⟩⟩ := ⟨V.data.toList, by cases V with | mk d => cases d with | mk t => rfl⟩
    obtain ⟨l, rfl⟩ : ∃ l, L = ⟨⟨l⟩⟩ := ⟨L.data.toList, by cases L with | mk d => cases d with | mk t => rfl⟩
    have h1 : (ByteArray.mk ⟨k⟩).size = k.length := rfl
    have h2 : (ByteArray.mk ⟨v⟩).size = v.length := rfl
    have h3 : (ByteArray.mk ⟨l⟩).size = l.length := rfl
    exact lines_walk k v l w (by omega) (by omega) (by omega)

end Go.Proofs.Ytdiibbokdfmcbaa
