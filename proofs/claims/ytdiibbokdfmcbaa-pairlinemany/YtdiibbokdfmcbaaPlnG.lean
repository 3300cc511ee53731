
/- Contract: Read of pairline's reference. -/
import Derived.Test.YtdiibbokdfmcbaaPlnM
namespace Go.Proofs.Ytdiibbokdfmcbaa.Pln
open Go.RowKit Lin
set_option maxRecDepth 100000

theorem refParts10' (l : List UInt8) (w : World) (hn : l.length ≤ 1000000) :
    Calls Try.prog 20 #[sv l, .int .u8 10] w fun e w' => (∃ A c, e = .returned (.slice A (parts 10 l).length c) ∧ (parts 10 l).length ≤ c ∧ c ≤ maxLen ∧ Sh sv w' w'.heap.size A (parts 10 l).length (parts 10 l)) ∧ Below w.heap.size w w' :=
  (refParts_any l 10 w hn).mono fun _ _ ⟨⟨v, he, ho⟩, hb⟩ => by
    obtain ⟨A, c, rfl, h1, h2, h3⟩ := ho.sh
    exact ⟨⟨A, c, he, h1, h2, h3⟩, hb⟩

theorem refRead_few (l : List UInt8) (w : World) (hn : l.length ≤ 100000) (x : List UInt8) (hp : parts 10 l = [x]) :
    Calls Try.prog 16 #[sv l] w (GivesP 5 [] w) := by
  have HP := Lib.hid (fun W => refParts10' l W (by omega))
  rw [hp] at HP
  clear hp
  go_enter Try.func16, Try.ntmps16
  go_wp2_with fail
  refine (HP.out _).mono ?_; rintro e w1 ⟨⟨A1, cc, rfl, h1, h2, s1⟩, hb1⟩
  go_wp2
  go_ret2
  exact ⟨⟨none, 0, rfl, Nat.le_refl _, by simp [maxLen], ShP.none_⟩, hb1⟩

theorem refRead_end (l : List UInt8) (w : World) (hn : l.length ≤ 100000) (D : List (List UInt8)) (y x : List UInt8) (hp : parts 10 l = D ++ [y, x]) (hx : x ≠ [] ∨ (x = [] ∧ y ≠ [])) :
    Calls Try.prog 16 #[sv l] w (GivesP 5 [] w) := by
  have HP := Lib.hid (fun W => refParts10' l W (by omega))
  have hpl := parts_len 10 l
  rw [hp] at HP hpl
  have hx' : (ByteArray.mk ⟨x⟩).toList.isEmpty = false ∨ (x = [] ∧ (ByteArray.mk ⟨y⟩).toList.isEmpty = false) := by
    rcases hx with h | ⟨h, h2⟩
    · left; simp; exact h
    · right; refine ⟨h, ?_⟩; simp; exact h2
  have hl : (D ++ [y, x]).length = D.length + 2 := by simp
  rw [hl] at HP hpl
  clear hp hx
  generalize hK : D.length = K at *
  have d2 : decide ((K : Int) + 2 < 2) = false := by simp; omega
  rcases hx' with hx' | ⟨rfl, hy'⟩
  · have hx2 : (!(ByteArray.mk ⟨x⟩).toList.isEmpty) = true := by rw [hx']; rfl
    generalize hX : ByteArray.mk ⟨x⟩ = X at hx' hx2
    go_enter Try.func16, Try.ntmps16
    go_wp2_with fail
    refine (HP.out _).mono ?_; rintro e w1 ⟨⟨A1, cc, rfl, h1, h2, s1⟩, hb1⟩
    unfold maxLen at h2
    obtain ⟨b1, off1, x1, rfl, hbb1, hcell1, hx1⟩ := s1.elem (k := K + 1) (by omega)
    obtain rfl : x1 = x := by simpa [← hK] using hx1.symm
    have hc1 : w1.cell? ⟨b1, off1 + (K + 1), none⟩ = some (.string X) := by rw [← hX]; exact hcell1
    clear s1 hx1 hcell1
    go_wp2
    go_ret2
    exact ⟨⟨none, 0, rfl, Nat.le_refl _, by simp [maxLen], ShP.none_⟩, hb1⟩
  · have hy2 : (!(ByteArray.mk ⟨y⟩).toList.isEmpty) = true := by rw [hy']; rfl
    generalize hY : ByteArray.mk ⟨y⟩ = Y at hy' hy2
    go_enter Try.func16, Try.ntmps16
    go_wp2_with fail
    refine (HP.out _).mono ?_; rintro e w1 ⟨⟨A1, cc, rfl, h1, h2, s1⟩, hb1⟩
    unfold maxLen at h2
    obtain ⟨b1, off1, x1, rfl, hbb1, hcell1, hx1⟩ := s1.elem (k := K + 1) (by omega)
    obtain rfl : x1 = [] := by simpa [← hK] using hx1.symm
    obtain ⟨b2, off2, x2, e2, hbb2, hcell2, hx2⟩ := s1.elem (k := K) (by omega)
    obtain rfl : x2 = y := by simpa [← hK] using hx2.symm
    injection e2 with e2
    injection e2 with e3 e4
    subst e3 e4
    have hc2 : w1.cell? ⟨b1, off1 + K, none⟩ = some (.string Y) := by rw [← hY]; exact hcell2
    clear s1 hx1 hx2 hcell2
    go_wp2
    go_ret2
    exact ⟨⟨none, 0, rfl, Nat.le_refl _, by simp [maxLen], ShP.none_⟩, hb1⟩

set_option maxHeartbeats 1000000 in
theorem refRead_hole (l : List UInt8) (w : World) (hn : l.length ≤ 100000) (Q R : List (List UInt8)) (hp : parts 10 l = (Q ++ [] :: R) ++ [[], []]) (hQ : [] ∉ Q) :
    Calls Try.prog 16 #[sv l] w (GivesP 5 [] w) := by
  have HP := Lib.hid (fun W => refParts10' l W (by omega))
  have hpl := parts_len 10 l
  rw [hp] at HP hpl
  have hl : ((Q ++ [] :: R) ++ [[], []]).length = (Q ++ [] :: R).length + 2 := by rw [List.length_append]; rfl
  rw [hl] at HP hpl
  have hK1 : Q.length < (Q ++ [] :: R).length := by simp
  have HD := Lib.hid (fun (D : List (List UInt8)) (hD : D = Q ++ [] :: R) => show D[Q.length]? = some [] ∧ ∀ k < Q.length, ∃ x, D[k]? = some x ∧ x ≠ [] from by
    subst hD
    refine ⟨by simp, fun k hk => ?_⟩
    refine ⟨Q[k], ?_, fun h => hQ (h ▸ List.getElem_mem hk)⟩
    rw [List.getElem?_append_left hk]
    exact List.getElem?_eq_getElem hk)
  clear hp hl hQ
  generalize hDD : Q ++ [] :: R = D at *
  have HD2 := Lib.hid (HD.out D rfl)
  clear HD hDD
  generalize hK : D.length = K at *
  generalize Q.length = J at *
  have d2 : decide ((K : Int) + 2 < 2) = false := by simp; omega
  go_enter Try.func16, Try.ntmps16
  go_wp2_with fail
  refine (HP.out _).mono ?_; rintro e w1 ⟨⟨A1, cc, rfl, h1, h2, s1⟩, hb1⟩
  unfold maxLen at h2
  obtain ⟨b1, off1, x1, rfl, hbb1, hcell1, hx1⟩ := s1.elem (k := K + 1) (by omega)
  obtain rfl : x1 = [] := by simpa [← hK] using hx1.symm
  obtain ⟨b2, off2, x2, e2, hbb2, hcell2, hx2⟩ := s1.elem (k := K) (by omega)
  obtain rfl : x2 = [] := by simpa [← hK] using hx2.symm
  injection e2 with e2
  injection e2 with e3 e4
  subst e3 e4
  have sf := s1.front (k := K) (by omega)
  rw [List.take_left' hK] at sf
  clear s1 hx1 hx2
  go_wp2
  go_loopw [6] (fun i wr => ∃ k : Nat, k ≤ J ∧ i = .int .i64 k ∧ wr = w1) (fun i _ => J + 1 - (intOf i).toNat)
  case atStart => exact ⟨0, Nat.zero_le _, rfl, rfl⟩
  case round =>
    obtain ⟨k, hk, rfl, rfl⟩ := hrel
    obtain ⟨b2, off2, x2, e2, hbb2, hcell, hx2⟩ := sf.elem (k := k) (by omega)
    injection e2 with e2
    injection e2 with e3 e4
    subst e3 e4
    by_cases hlt : k < J
    · obtain ⟨x3, hx3, hne⟩ := HD2.out.2 k hlt
      obtain rfl : x2 = x3 := by rw [hx2] at hx3; injection hx3
      have hxe : (ByteArray.mk ⟨x2⟩).toList.isEmpty = false := by simp; exact hne
      unfold sv at hcell
      clear hx2 hx3 hne
      generalize ByteArray.mk ⟨x2⟩ = X at hcell hxe
      go_wp2
      go_roundw
      case rel => exact ⟨k + 1, by omega, by go_num, trivial⟩
      case measure => simp [intOf] <;> omega
    · obtain rfl : k = J := by omega
      obtain rfl : x2 = [] := by rw [hx2] at HD2; have := HD2.out.1; injection this
      clear hx2 HD2
      go_wp2
      go_ret2
      exact ⟨⟨none, 0, rfl, Nat.le_refl _, by simp [maxLen], ShP.none_⟩, hb1⟩

set_option maxHeartbeats 2000000 in
theorem refRead_good (l : List UInt8) (w : World) (hn : l.length ≤ 100000) (D : List (List UInt8)) (hB : IsBlk l D) :
    Calls Try.prog 16 #[sv l] w (GivesP (rE l) (rP l) w) := by
  have HP := Lib.hid (fun W => refParts10' l W (by omega))
  have hpl := parts_len 10 l
  have hle := part_le 10 l
  obtain ⟨g1, g2⟩ := rE_yes l D hB
  have hbad := rP_bad l
  obtain ⟨hp, hQ⟩ := hB
  rw [hp] at HP hpl hle
  have hl : (D ++ [[], []]).length = D.length + 2 := by rw [List.length_append]; rfl
  rw [hl] at HP hpl
  have HD2 := Lib.hid (fun (k : Nat) (x : List UInt8) (h : D[k]? = some x) => show x ≠ [] ∧ x.length ≤ 100000 from ⟨fun e => hQ (e ▸ List.mem_of_getElem? h), by
    have := hle x (by simp [List.mem_of_getElem? h]); omega⟩)
  have HT := Lib.hid (fun k x (hp : D[k]? = some x) => take_snoc (fun x => ((pK x, pV x) : Pr)) D k x hp)
  have HE := Lib.hid (fun k x (hp : D[k]? = some x) => at_map pE D k x hp)
  have HTn := Lib.hid (show (D.map fun x => ((pK x, pV x) : Pr)).take D.length = D.map fun x => (pK x, pV x) by rw [List.take_of_length_le]; simp)
  have HL := Lib.hid (show (D.map pE).length = D.length by rw [List.length_map])
  have HLT := Lib.hid (show (D.map fun x => ((pK x, pV x) : Pr)).length = D.length by rw [List.length_map])
  clear hp hl hQ hle
  generalize D.map pE = es at *
  generalize (D.map fun x => ((pK x, pV x) : Pr)) = T at *
  generalize rE l = E at *
  generalize rP l = PS at *
  generalize hK : D.length = K at *
  have d2 : decide ((K : Int) + 2 < 2) = false := by simp; omega
  have d4 : decide ((400 : Int) < (K : Int)) = decide (400 < K) := decide_eq_decide.2 (by omega)
  have G1 := Lib.hid g1
  have G2 := Lib.hid g2
  have HB := Lib.hid hbad
  clear g1 g2 hbad
  go_enter Try.func16, Try.ntmps16
  go_wp2_with fail
  refine (HP.out _).mono ?_; rintro e w1 ⟨⟨A1, cc, rfl, h1, h2, s1⟩, hb1⟩
  unfold maxLen at h2
  obtain ⟨b1, off1, x1, rfl, hbb1, hcell1, hx1⟩ := s1.elem (k := K + 1) (by omega)
  obtain rfl : x1 = [] := by simpa [← hK] using hx1.symm
  obtain ⟨b2, off2, x2, e2, hbb2, hcell2, hx2⟩ := s1.elem (k := K) (by omega)
  obtain rfl : x2 = [] := by simpa [← hK] using hx2.symm
  injection e2 with e2
  injection e2 with e3 e4
  subst e3 e4
  have sf := s1.front (k := K) (by omega)
  rw [List.take_left' hK] at sf
  clear s1 hx1 hx2
  go_wp2
  go_loopw [6] (fun i wr => ∃ k : Nat, k ≤ K ∧ i = .int .i64 k ∧ wr = w1) (fun i _ => K - (intOf i).toNat)
  case atStart => exact ⟨0, Nat.zero_le _, rfl, rfl⟩
  case round =>
    obtain ⟨k, hk, rfl, hww⟩ := hrel
    have hww' := hww.symm
    clear hww
    subst hww'
    by_cases hlt : k < K
    · obtain ⟨b2, off2, x2, e2, hbb2, hcell, hx2⟩ := sf.elem (k := k) (by omega)
      injection e2 with e2
      injection e2 with e3 e4
      subst e3 e4
      have hne := (HD2.out k x2 hx2).1
      have hxe : (ByteArray.mk ⟨x2⟩).toList.isEmpty = false := by simp; exact hne
      unfold sv at hcell
      clear hx2 hne
      generalize ByteArray.mk ⟨x2⟩ = X at hcell hxe
      go_wp2
      go_roundw
      case rel => exact ⟨k + 1, by omega, by go_num, trivial⟩
      case measure => simp [intOf] <;> omega
    · obtain rfl : k = K := by omega
      by_cases h4 : 400 < k
      · rw [decide_eq_true h4] at d4
        have g1 := G1.out
        rw [if_pos h4] at g1
        obtain rfl := HB.out (by omega)
        subst g1
        clear G1 G2 HB
        go_wp2
        go_ret2
        exact ⟨⟨none, 0, rfl, Nat.le_refl _, by simp [maxLen], ShP.none_⟩, hb1⟩
      · rw [decide_eq_false h4] at d4
        have g1 := G1.out
        rw [if_neg h4] at g1
        have G3 := Lib.hid g1
        clear G1 g1 hcell1 hcell2
        go_wp2
        go_loopw [7, 8] (fun v i wr' => ∃ j : Nat, j ≤ k ∧ i = .int .i64 j ∧ Hid (∀ q < j, es[q]? = some 0) ∧ OwnPr 30 wr' w1.heap.size v j (T.take j) ∧ Below w1.heap.size w1 wr') (fun _ i _ => k - (intOf i).toNat)
        case atStart => exact ⟨0, Nat.zero_le _, rfl, Lib.hid (fun j hj => absurd hj (by omega)), World.ownsRow_nil _ _ _ _, Below.refl _ _⟩
        case round =>
          obtain ⟨j, hj, rfl, hz, hown, hbw⟩ := hrel
          have hbs := hbw.size
          by_cases hlt : j < k
          · obtain ⟨b3, off3, x, e3, hb, p0, hp⟩ := (sf.below hbw).elem hlt
            injection e3 with e3
            injection e3 with e4 e5
            subst e4 e5
            have hs := (HD2.out j x hp).2
            have hE := HE.out j x hp
            have HS := Lib.hid (HT.out j x hp)
            have HC := Lib.hid (fun W => refParse_any x W hs)
            have HE2 := Lib.hid hE
            clear hp hs hE
            generalize pE x = e1 at *
            generalize pK x = kx at *
            generalize pV x = vx at *
            unfold sv at p0 HC
            generalize ByteArray.mk ⟨x⟩ = X at *
            go_wp2_with fail
            refine (HC.out _).mono ?_; rintro e w2 ⟨rfl, hb2⟩
            have b2 := Below.on hbw hbs (by exact hb2)
            have o2 := own_keep hown (by exact hb2)
            have hsz2 := b2.size
            clear hb2 hown hbw p0
            by_cases he : e1 = 0
            · subst he
              go_wp2_with (at_builtin; refine wpList_appPr _ rfl _ _ 37 30 rfl Try.underlying37 Try.infoRPairB w1.heap.size _ _ _ rfl ((o2.alloc _).alloc _) (w2.heap.size + 1) 1 (kx, vx) rfl (cells_two (blk_new' _ _ _ _ (by simp))).1 (cells_two (blk_new' _ _ _ _ (by simp))).2 (by omega) (by simp; omega) ?_; intro v' w3 hown' hgrow)
              have b3 : Below w1.heap.size w1 w3 := by
                refine Below.grown ?_ hgrow ?_ (fun g hg => (o2.lt g hg).1)
                · exact (b2.alloc hsz2 _).alloc (by simp; omega) _
                · simp; omega
              clear hgrow
              go_wp2
              go_roundw
              case rel =>
                repeat apply Exists.intro
                refine ⟨⟨j + 1, by omega, by go_num, Lib.hid (fun q hq => ?_), by rw [HS.out]; exact hown', b3⟩, rfl⟩
                rcases Nat.lt_or_ge q j with h1 | h1
                · exact hz.out q h1
                · obtain rfl : q = j := by omega
                  exact HE2.out
              case measure => simp [intOf] <;> omega
            · have hne : ((e1 : Int) != 0) = true := by rw [bne_iff_ne]; omega
              have HF := Lib.hid (fstE_at es j e1 HE2.out he hz.out)
              have hE : E = e1 := by rw [G3.out]; exact HF.out
              obtain rfl := HB.out (by omega)
              subst hE
              clear G2 HB
              go_wp2
              go_ret2
              exact ⟨⟨none, 0, rfl, Nat.le_refl _, by simp [maxLen], ShP.none_⟩, Below.on hb1 hb1.size (b2.alloc b2.size _)⟩
          · obtain rfl : j = k := by omega
            have HF := Lib.hid ((fstE_ok es).2 (fun e he => by
              obtain ⟨q, hq, rfl⟩ := List.mem_iff_getElem.1 he
              have h1 := hz.out q (by rw [← HL.out]; exact hq)
              rw [List.getElem?_eq_getElem hq] at h1
              injection h1))
            have hE : E = 0 := by rw [G3.out]; exact HF.out
            have g2 := G2.out
            rw [if_pos hE] at g2
            subst hE
            subst g2
            rw [HTn.out] at hown
            obtain ⟨A2, c2', rfl, q1, q2, q3⟩ := hown.sh
            have hp := HLT.out
            clear G2 HB G3
            go_wp2
            go_ret2
            exact ⟨⟨A2, c2', by rw [hp]; rfl, by omega, q2, by rw [hp]; exact q3⟩, Below.on hb1 hb1.size hbw⟩

end Go.Proofs.Ytdiibbokdfmcbaa.Pln
