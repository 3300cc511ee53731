
/- Contract: crawlwayref42.Lex. -/
import Derived.Test.YtglghfbdchcihaaDoorInxG
namespace Go.Proofs.YtglghfbdchcihaaDoor.Inx
open Go.RowKit Lin
set_option maxRecDepth 100000

theorem oneE_cases (t : List UInt8) : oneE t = 0 ∨ oneE t = 5 := by
  unfold oneE; split <;> split <;> simp

set_option maxHeartbeats 2000000 in
theorem refLex_any (l : List UInt8) (w : World) (hl : l.length ≤ 100000) : Calls Tryd.prog 8 #[sv l] w (GivesL (loose l) w) := by
  have HP := Lib.hid (fun W => refLoose_any l W (by omega))
  have hln := loose_len l
  have HS := Lib.hid (fun x hx => Nat.le_trans (loose_le l x hx) hl)
  have HT := Lib.hid (its_take (loose l))
  generalize loose l = ls at *
  generalize hn : ls.length = n at *
  have Hn := Lib.hid hn
  unfold sv at HP ⊢
  generalize ByteArray.mk ⟨l⟩ = L at *
  go_enter Tryd.func8, Tryd.ntmps8
  go_wp2_with fail
  refine (HP.out _).mono ?_; rintro e w1 ⟨⟨A1, c1, rfl, h11, h12, s1⟩, hb1⟩
  rw [hn] at h11 s1
  rw [hn]
  clear hn
  go_wp2
  go_loopw [5, 7] (fun v i wr => ∃ (k : Nat) (I : List It), (k ≤ n ∧ k ≤ 400) ∧ i = .int .i64 k ∧ Hid (Good ls k ∧ I = its 0 (ls.take k)) ∧ I.length ≤ k ∧ OwnI 32 wr w1.heap.size v I.length I ∧ Below w1.heap.size w1 wr) (fun _ i _ => n - (intOf i).toNat)
  case atStart => exact ⟨0, [], ⟨Nat.zero_le _, Nat.zero_le _⟩, rfl, Lib.hid ⟨Good.start _, rfl⟩, Nat.le_refl _, World.ownsRow_nil _ _ _ _, Below.refl _ _⟩
  case round =>
    obtain ⟨k, I, ⟨hk, hk4⟩, rfl, hz, hI, hown, hbw⟩ := hrel
    have hbs := hbw.size
    have hki : IntKind.i64.wrap ((k : Int) + 1) = (k : Int) + 1 := IntWalk.i64_in _ (by omega)
    by_cases hlt : k < n
    · obtain ⟨b3, off3, x, rfl, hb, p0, hp⟩ := (s1.below hbw).elem hlt
      have hs := HS.out x (List.mem_of_getElem? hp)
      have HC := Lib.hid (fun W => said_any x W hs)
      have Hp := Lib.hid hp
      have Hti := Lib.hid (HT.out k x hp)
      have hxs : (ByteArray.mk ⟨x⟩).size = x.length := rfl
      clear hp
      by_cases h4 : 400 ≤ k
      · have d4 : decide ((400 : Int) ≤ (k : Int)) = true := by simp; omega
        have e4 : k = 400 := by omega
        clear HC hs Hti hxs p0
        go_wp2
        go_ret3
        refine ⟨⟨none, 0, 0, 4, 401, [], by subst e4; rfl, Nat.le_refl _, by simp [maxLen], .inr (.inl ⟨by rw [Hn.out]; omega, by rw [← e4]; exact hz.out.1, rfl, rfl, rfl⟩), ShI.none_⟩, Below.on hb1 hb1.size hbw⟩
      have d4 : decide ((400 : Int) ≤ (k : Int)) = false := by simp; omega
      by_cases h5 : 512 < x.length
      · have d5 : decide ((512 : Int) < (x.length : Int)) = true := by simp; omega
        have e5 : lineE x = 4 := by rw [lineE, if_pos h5]
        have HR := Lib.hid (fun W (hB : Below w.heap.size w W) => lex_bad (w := w) (w' := W) (show k < 400 by omega) Hp.out hz.out.1 (by rw [e5]; decide) hB)
        rw [e5] at HR
        clear HC hs Hti e5 h5
        generalize x.length = Q at *
        unfold sv at p0
        generalize ByteArray.mk ⟨x⟩ = X at *
        go_wp2
        go_ret3
        exact HR.out _ (Below.on hb1 hb1.size hbw)
      have d5 : decide ((512 : Int) < (x.length : Int)) = false := by simp; omega
      by_cases h1 : saidL x = []
      · have h0 : lineE x = 0 := by rw [lineE, if_neg h5, if_pos h1]
        have HG := Lib.hid (hz.out.1.next Hp.out h0)
        rw [h1] at HC
        rw [itL, if_pos h1, List.append_nil] at Hti
        clear h0 h1 hs h5
        generalize x.length = Q at *
        unfold sv at p0 HC
        generalize ByteArray.mk ⟨x⟩ = X at *
        go_wp2_with fail
        refine (HC.out _).mono ?_; rintro e w2 ⟨rfl, hb2⟩
        have b2 := Below.on hbw hbs (by exact hb2)
        have o2 := own_keep hown (by exact hb2)
        clear hb2 hown hbw p0
        go_wp2
        go_roundw
        case rel =>
          exact ⟨k + 1, I, ⟨by omega, by omega⟩, by go_num, Lib.hid ⟨HG.out, by rw [Hti.out]; exact hz.out.2⟩, by omega, o2, b2⟩
        case measure => simp [intOf] <;> omega
      have hL : lineE x = oneE (saidL x) := by rw [lineE, if_neg h5, if_neg h1]
      have hsl := said_le x
      have HO := Lib.hid (fun W => one_any (saidL x) W (by omega) h1)
      have hae : (ByteArray.mk ⟨saidL x⟩).toList.isEmpty = false := by simp; exact h1
      have HI : Hid (itL k x = [⟨isSec (saidL x), oneN (saidL x), oneV (saidL x), k + 1⟩]) := Lib.hid (by rw [itL, if_neg h1])
      rw [HI.out] at Hti
      clear HI hsl hs h1 h5
      unfold Tells at HO
      by_cases h0 : oneE (saidL x) = 0
      · have HG := Lib.hid (hz.out.1.next Hp.out (hL.trans h0))
        rw [h0] at HO
        rw [show decide ((0 : Nat) = 0) = true from rfl] at HO
        clear hL h0
        generalize isSec (saidL x) = S at *
        generalize oneN (saidL x) = N at *
        generalize oneV (saidL x) = V at *
        generalize saidL x = t at *
        generalize x.length = Q at *
        unfold sv at p0 HC HO
        generalize ByteArray.mk ⟨x⟩ = X at *
        generalize ByteArray.mk ⟨t⟩ = TT at *
        go_wp2_with fail
        refine (HC.out _).mono ?_; rintro e w2 ⟨rfl, hb2⟩
        have b2 := Below.on hbw hbs (by exact hb2)
        have o2 := own_keep hown (by exact hb2)
        clear hb2 hown hbw p0
        go_wp2_with fail
        refine (HO.out _).mono ?_; rintro e w3 ⟨⟨S', N', V', rfl, hsame⟩, hb3⟩
        obtain ⟨rfl, rfl, rfl⟩ := hsame trivial
        have b3 := Below.on b2 b2.size (by exact hb3)
        have o3 := own_keep o2 (by exact hb3)
        have hsz3 := b3.size
        clear hb3 b2 o2
        generalize hVV : ByteArray.mk ⟨V'⟩ = VV at *
        generalize hNN : ByteArray.mk ⟨N'⟩ = NN at *
        obtain ⟨p0, p1, p2, p3⟩ := cells_four (blk_new w3 32 zI)
        obtain ⟨f0, f1, f2, f3⟩ := frozen_four (blk_new w3 32 zI)
        go_wp2_with (at_builtin; refine wpList_appI _ rfl _ _ 27 32 rfl Tryd.underlying27 Tryd.infoRItemB w1.heap.size _ _ _ rfl ((o3.alloc _).alloc _) (w3.heap.size + 1) 1 ⟨S', N', V', k + 1⟩ rfl (four_cells (show Blk _ _ 32 (itA ⟨S', N', V', k + 1⟩) from by subst hVV hNN; exact blk_new' _ _ _ _ (by simp))) (by omega) (by simp; omega) ?_; intro v' w4 hown' hgrow)
        have b4 : Below w1.heap.size w1 w4 := by
          refine Below.grown ?_ hgrow ?_ (fun g hg => (o3.lt g hg).1)
          · exact (b3.alloc hsz3 _).alloc (by simp; omega) _
          · simp; omega
        clear hgrow
        go_wp2
        go_roundw
        case rel =>
          exact ⟨k + 1, I ++ [⟨S', N', V', k + 1⟩], ⟨by omega, by omega⟩, by go_num, Lib.hid ⟨HG.out, by rw [Hti.out, hz.out.2]⟩, by simp; omega, by simpa using hown', b4⟩
        case measure => simp [intOf] <;> omega
      · have e5 : lineE x = 5 := by rw [hL]; rcases oneE_cases (saidL x) with g | g; exact absurd g h0; exact g
        have HR := Lib.hid (fun W (hB : Below w.heap.size w W) => lex_bad (w := w) (w' := W) (show k < 400 by omega) Hp.out hz.out.1 (by rw [e5]; decide) hB)
        rw [e5] at HR
        have hd : decide (oneE (saidL x) = 0) = false := decide_eq_false h0
        rw [hd] at HO
        clear hL h0 Hti e5 hd
        generalize oneE (saidL x) = E at *
        generalize isSec (saidL x) = S at *
        generalize oneN (saidL x) = N at *
        generalize oneV (saidL x) = V at *
        generalize saidL x = t at *
        generalize x.length = Q at *
        unfold sv at p0 HC HO
        generalize ByteArray.mk ⟨x⟩ = X at *
        generalize ByteArray.mk ⟨t⟩ = TT at *
        go_wp2_with fail
        refine (HC.out _).mono ?_; rintro e w2 ⟨rfl, hb2⟩
        have b2 := Below.on hbw hbs (by exact hb2)
        clear hb2 hown hbw p0
        go_wp2_with fail
        refine (HO.out _).mono ?_; rintro e w3 ⟨⟨S', N', V', rfl, hsame⟩, hb3⟩
        have b3 := Below.on b2 b2.size (by exact hb3)
        clear hb3 b2 hsame
        generalize ByteArray.mk ⟨V'⟩ = VV at *
        generalize ByteArray.mk ⟨N'⟩ = NN at *
        obtain ⟨p0, p1, p2, p3⟩ := cells_four (blk_new w3 32 zI)
        obtain ⟨f0, f1, f2, f3⟩ := frozen_four (blk_new w3 32 zI)
        go_wp2
        go_ret3
        exact HR.out _ (Below.on hb1 hb1.size (b3.alloc b3.size _))
    · have e4 : k = n := by omega
      have hI2 : I = its 0 ls := by
        rw [hz.out.2, e4, ← Hn.out, List.take_length]
      obtain ⟨A2, c2, rfl, q1, q2, q3⟩ := OwnI.sh hown
      go_wp2
      go_ret3
      refine ⟨⟨A2, I.length, c2, 0, 0, I, rfl, q1, q2, .inr (.inr ⟨by rw [Hn.out]; omega, by rw [Hn.out, ← e4]; exact hz.out.1, rfl, rfl, hI2⟩), q3⟩, Below.on hb1 hb1.size hbw⟩

end Go.Proofs.YtglghfbdchcihaaDoor.Inx
