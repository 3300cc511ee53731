
/- Contracts: slices.Index of no text; Read of pairline. -/
import Derived.Test.YtdiibbokdfmcbaaPlnM
import Derived.Test.YtdiibbokdfmcbaaShelf
namespace Go.Proofs.Ytdiibbokdfmcbaa.Pln
open Go.RowKit Lin
set_option maxRecDepth 100000

theorem index_hit (A : Option Addr) (n c : Nat) (ls Q R : List (List UInt8)) (w : World) (hn : n ≤ 1000000) (h : Sh sv w w.heap.size A n ls) (e : ls = Q ++ [] :: R) (hQ : [] ∉ Q) :
    Calls Try.prog 24 #[.slice A n c, .string ⟨#[]⟩] w fun e w' => e = .returned (.int .i64 (Q.length : Int)) ∧ w = w' := by
  have hl := h.len
  have hq : Q.length < n := by rw [← hl, e]; simp
  obtain ⟨b, off, rfl, hb, hc⟩ := h.2 (by omega)
  have h1 := Try.slices_Index_string b off n c (ls.map fun x => ⟨⟨x⟩⟩) ⟨#[]⟩ w (by simp; omega) (by omega) (fun j hj => by
    have hj' : j < ls.length := by simpa using hj
    rw [hc j hj']
    simp [sv, hj'])
  rw [Lib.idxOfS_hit (ls.map fun x => ⟨⟨x⟩⟩) n Q.length ⟨#[]⟩ hq (by simp; omega) (by simp [e]) (fun j hj => by
    have hj1 : j < Q.length := hj
    have hx : Q[j] ≠ [] := fun h => hQ (h ▸ List.getElem_mem hj1)
    have : (ls.map fun x => ByteArray.mk ⟨x⟩).getD j ByteArray.empty = ⟨⟨Q[j]⟩⟩ := by
      rw [e, List.map_append, List.getD_eq_getElem?_getD, List.getElem?_append_left (by simpa using hj1)]
      simp [hj1]
    rw [this]
    exact ba_ne hx)] at h1
  exact h1.mono fun _ _ ⟨h2, h3⟩ => ⟨h2, h3.symm⟩
theorem index_miss (A : Option Addr) (n c : Nat) (ls : List (List UInt8)) (w : World) (hn : n ≤ 1000000) (h1n : 1 ≤ n) (h : Sh sv w w.heap.size A n ls) (hQ : [] ∉ ls) :
    Calls Try.prog 24 #[.slice A n c, .string ⟨#[]⟩] w fun e w' => e = .returned (.int .i64 (-1)) ∧ w = w' := by
  have hl := h.len
  obtain ⟨b, off, rfl, hb, hc⟩ := h.2 (by omega)
  have h1 := Try.slices_Index_string b off n c (ls.map fun x => ⟨⟨x⟩⟩) ⟨#[]⟩ w (by simp; omega) (by omega) (fun j hj => by
    have hj' : j < ls.length := by simpa using hj
    rw [hc j hj']
    simp [sv, hj'])
  rw [Lib.idxOfS_miss (ls.map fun x => ⟨⟨x⟩⟩) n ⟨#[]⟩ (fun j hj => by
    have hj1 : j < ls.length := by omega
    have hx : ls[j] ≠ [] := fun h => hQ (h ▸ List.getElem_mem hj1)
    have : (ls.map fun x => ByteArray.mk ⟨x⟩).getD j ByteArray.empty = ⟨⟨ls[j]⟩⟩ := by simp [hj1]
    rw [this]
    exact ba_ne hx)] at h1
  exact h1.mono fun _ _ ⟨h2, h3⟩ => ⟨h2, h3.symm⟩

set_option maxHeartbeats 1000000 in
theorem read_any (l : List UInt8) (w : World) (hn : l.length ≤ 100000) : Calls Try.prog 14 #[sv l] w (GivesP (rE l) (rP l) w) := by
  have hno : (¬ ∃ Q, IsBlk l Q) → rE l = 5 ∧ rP l = [] := rE_no l
  rcases text_cases l with rfl | ⟨m, rfl⟩ | ⟨m, c, rfl, h⟩
  · obtain ⟨e1, e2⟩ := hno (by
      rintro ⟨Q, hQ, _⟩
      have := congrArg List.length hQ
      simp [parts] at this)
    rw [e1, e2]
    go_enter Try.func14, Try.ntmps14
    go_wp2_with fail
    refine (split_yes [] _ (.inl rfl) (by decide)).mono ?_; rintro e w1 ⟨⟨A1, c1, rfl, h1, h2, s1⟩, hb1⟩
    rw [loose_nil] at *
    go_wp2
    go_ret2
    exact ⟨⟨none, 0, rfl, Nat.le_refl _, by simp [maxLen], ShP.none_⟩, hb1⟩
  · have HS := Lib.hid (fun W => split_yes (m ++ [10]) W (.inr ⟨m, rfl⟩) (by omega))
    rw [loose_end m] at HS
    have hpl := parts_len 10 m
    have hm : m.length ≤ 100000 := by simp at hn; omega
    have hle := part_le 10 m
    rcases line_cases m with ⟨c1, c2, c3⟩ | ⟨⟨Q, z, R, c1, c2⟩, c3⟩ | ⟨Q, c1, c2, c3⟩
    · obtain ⟨e1, e2⟩ := hno c3
      rw [e1, e2]
      clear hno c3 e1 e2 hn
      unfold sv at HS ⊢
      generalize parts 10 m = L at *
      generalize hN : L.length = N at *
      have d0 : ((N : Int) == 0) = false := by simp; omega
      have d1 : ((-1 : Int) != (N : Int) - 1) = true := by rw [bne_iff_ne]; omega
      generalize ByteArray.mk ⟨m ++ [10]⟩ = S at *
      go_enter Try.func14, Try.ntmps14
      go_wp2_with fail
      refine (HS.out _).mono ?_; rintro e w1 ⟨⟨A1, cc, rfl, h1, h2, s1⟩, hb1⟩
      go_wp2_with fail
      refine (index_miss A1 N cc L _ (by omega) (by omega) s1 c1).mono ?_; rintro e w2 ⟨rfl, rfl⟩
      go_wp2
      go_ret2
      exact ⟨⟨none, 0, rfl, Nat.le_refl _, by simp [maxLen], ShP.none_⟩, hb1⟩
    · obtain ⟨e1, e2⟩ := hno c3
      rw [e1, e2]
      have hq : Q.length + 2 ≤ (parts 10 m).length := by rw [c1]; simp
      clear hno c3 e1 e2 hn
      unfold sv at HS ⊢
      generalize parts 10 m = L at *
      generalize hN : L.length = N at *
      have d0 : ((N : Int) == 0) = false := by simp; omega
      have d1 : ((Q.length : Int) != (N : Int) - 1) = true := by rw [bne_iff_ne]; omega
      generalize ByteArray.mk ⟨m ++ [10]⟩ = S at *
      go_enter Try.func14, Try.ntmps14
      go_wp2_with fail
      refine (HS.out _).mono ?_; rintro e w1 ⟨⟨A1, cc, rfl, h1, h2, s1⟩, hb1⟩
      go_wp2_with fail
      refine (index_hit A1 N cc L Q (z :: R) _ (by omega) s1 c1 c2).mono ?_; rintro e w2 ⟨rfl, rfl⟩
      generalize Q.length = K at *
      go_wp2
      go_ret2
      exact ⟨⟨none, 0, rfl, Nat.le_refl _, by simp [maxLen], ShP.none_⟩, hb1⟩
    · obtain ⟨g1, g2⟩ := rE_yes _ Q c3
      have hbad := rP_bad (m ++ [10])
      have hL : (parts 10 m).length = Q.length + 1 := by rw [c1]; simp
      have hQle : ∀ x ∈ Q, x.length ≤ 100000 := fun x hx => by
        have := hle x (by rw [c1]; simp [hx])
        omega
      clear hno c3 hn hle
      unfold sv at HS ⊢
      rw [hL] at HS hpl
      rw [c1] at HS
      generalize rE (m ++ [10]) = E at *
      generalize rP (m ++ [10]) = PS at *
      generalize ByteArray.mk ⟨m ++ [10]⟩ = S at *
      generalize hK : Q.length = K at *
      have d0 : ((K : Int) + 1 == 0) = false := by simp; omega
      by_cases h4 : 400 < K
      · rw [if_pos h4] at g1
        obtain rfl := hbad (by omega)
        subst g1
        have d4 : decide ((400 : Int) < (K : Int)) = true := by simp; omega
        clear g2 hbad
        go_enter Try.func14, Try.ntmps14
        go_wp2_with fail
        refine (HS.out _).mono ?_; rintro e w1 ⟨⟨A1, cc, rfl, h1, h2, s1⟩, hb1⟩
        unfold maxLen at h2
        go_wp2_with fail
        refine (index_hit A1 (K + 1) cc _ Q [] _ (by omega) s1 rfl c2).mono ?_; rintro e w2 ⟨rfl, rfl⟩
        rw [hK]
        go_wp2
        go_ret2
        exact ⟨⟨none, 0, rfl, Nat.le_refl _, by simp [maxLen], ShP.none_⟩, hb1⟩
      · rw [if_neg h4] at g1
        have d4 : decide ((400 : Int) < (K : Int)) = false := by simp; omega
        have G1 := Lib.hid g1
        have G2 := Lib.hid g2
        have HB := Lib.hid hbad
        clear g1 g2 hbad
        go_enter Try.func14, Try.ntmps14
        go_wp2_with fail
        refine (HS.out _).mono ?_; rintro e w1 ⟨⟨A1, cc, rfl, h1, h2, s1⟩, hb1⟩
        unfold maxLen at h2
        go_wp2_with fail
        refine (index_hit A1 (K + 1) cc _ Q [] _ (by omega) s1 rfl c2).mono ?_; rintro e w2 ⟨rfl, rfl⟩
        rw [hK]
        have sf := s1.front (k := K) (by omega)
        rw [List.take_left' hK] at sf
        go_wp2_with fail
        refine (eachP_any A1 K cc Q _ (by omega) hQle sf).mono ?_; rintro e w3 ⟨⟨v, rfl, r1, r2⟩, hb3⟩
        rw [← G1.out] at r1 r2 ⊢
        have b3 := Below.on hb1 hb1.size hb3
        by_cases hE : E = 0
        · have g2 := G2.out
          rw [if_pos hE] at g2
          obtain ⟨A2, c2', rfl, q1, q2, q3⟩ := (r1 hE).sh
          have hp : PS.length = K := by rw [g2, List.length_map, hK]
          rw [← g2] at q3
          clear r1 r2 g2 G2 HB G1
          subst hE
          go_wp2
          go_ret2
          exact ⟨⟨A2, c2', by rw [hp]; rfl, by omega, q2, by rw [hp]; exact q3⟩, b3⟩
        · obtain rfl := r2 hE
          obtain rfl := HB.out hE
          clear r1 r2 G2 HB G1
          go_wp2
          go_ret2
          exact ⟨⟨none, 0, rfl, Nat.le_refl _, by simp [maxLen], ShP.none_⟩, b3⟩
  · obtain ⟨e1, e2⟩ := hno (by
      rintro ⟨Q, hQ, _⟩
      obtain ⟨d, x, e, hx⟩ := parts_open 10 m c h
      have h1 : d ++ [x] = (Q ++ [[]]) ++ [[]] := by
        have := e.symm.trans hQ
        rw [this]; simp
      exact hx (snoc_inj h1).2)
    rw [e1, e2]
    have HS := Lib.hid (fun W => split_no m c W h (by omega))
    clear hno e1 e2 hn
    unfold sv at *
    generalize ByteArray.mk ⟨m ++ [c]⟩ = S at *
    go_enter Try.func14, Try.ntmps14
    go_wp2_with fail
    refine (HS.out _).mono ?_; rintro e w1 ⟨rfl, rfl⟩
    go_wp2
    go_ret2
    exact ⟨⟨none, 0, rfl, Nat.le_refl _, by simp [maxLen], ShP.none_⟩, Below.refl _ _⟩

end Go.Proofs.Ytdiibbokdfmcbaa.Pln
