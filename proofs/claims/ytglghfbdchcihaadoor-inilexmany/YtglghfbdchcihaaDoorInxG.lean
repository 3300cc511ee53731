
/- Contract: inilex.Lex. -/
import Derived.Test.YtglghfbdchcihaaDoorInxF
namespace Go.Proofs.YtglghfbdchcihaaDoor.Inx
open Go.RowKit Lin
set_option maxRecDepth 100000

theorem parts_le (sep : UInt8) (l : List UInt8) : ∀ x ∈ parts sep l, x.length ≤ l.length := by
  induction l with
  | nil => intro x hx; simp [parts] at hx; subst hx; simp
  | cons c t ih =>
    intro x hx
    unfold parts at hx
    split at hx
    · rcases List.mem_cons.1 hx with h | h
      · subst h; simp
      · have := ih x h; simp; omega
    · obtain ⟨a, b, e⟩ := parts_ne sep t
      rw [e] at hx
      simp only at hx
      rcases List.mem_cons.1 hx with h | h
      · subst h
        have := ih a (by rw [e]; simp)
        simp; omega
      · have := ih x (by rw [e]; simp [h]); simp; omega
theorem loose_le (l : List UInt8) (x : List UInt8) (hx : x ∈ loose l) : x.length ≤ l.length := by
  rcases text_cases l with rfl | ⟨m, rfl⟩ | ⟨m, c, rfl, h⟩
  · rw [loose_nil] at hx; cases hx
  · rw [loose_end] at hx
    have := parts_le 10 m x hx
    simp; omega
  · rw [loose_open m c h] at hx
    exact parts_le 10 _ x hx

/-- What is told of a text. -/
def GivesL (ls : List (List UInt8)) (w : World) (e : Ending) (w' : World) : Prop :=
  (∃ (A : Option Addr) (n c E k : Nat) (I : List It), e = .returned (.tuple #[.slice A n c, .int .i64 (k : Int), .int .i64 (E : Int)]) ∧ n ≤ c ∧ c ≤ maxLen ∧ Lexes ls E k I ∧ ShI w' w'.heap.size A n I) ∧ Below w.heap.size w w'

theorem lex_bad {ls : List (List UInt8)} {k : Nat} {x : List UInt8} {w w' : World} (hk : k < 400) (hx : ls[k]? = some x) (hg : Good ls k) (h0 : lineE x ≠ 0) (hB : Below w.heap.size w w') :
    GivesL ls w (.returned (.tuple #[.slice none 0 0, .int .i64 ((k : Int) + 1), .int .i64 (lineE x : Int)])) w' :=
  ⟨⟨none, 0, 0, lineE x, k + 1, [], by simp, Nat.le_refl _, by simp [maxLen], Lexes.bad hk hx hg h0, ShI.none_⟩, hB⟩

theorem four_cells {W : World} {g : Nat} {t : TypeId} {p : It} (h : Blk W g t (itA p)) : ∀ (j : Nat) (v : Value), (itC p)[j]? = some v → W.cell? ⟨g, j, none⟩ = some v := by
  intro j v hv
  rw [Lib.cell_of_heap h]
  simpa [itA, itC] using hv

set_option maxHeartbeats 2000000 in
theorem lex_any (l : List UInt8) (w : World) (hl : l.length ≤ 100000) : Calls Tryd.prog 7 #[sv l] w (GivesL (loose l) w) := by
  have HP := Lib.hid (fun W => linesLoose_any l W (by omega))
  have hln := loose_len l
  have HS := Lib.hid (fun x hx => Nat.le_trans (loose_le l x hx) hl)
  have HT := Lib.hid (its_take (loose l))
  generalize loose l = ls at *
  generalize hn : ls.length = n at *
  obtain ⟨M, hM, hM1, hM2, hM3⟩ : ∃ M : Nat, min (n : Int) 400 = (M : Int) ∧ M ≤ n ∧ M ≤ 400 ∧ (M = n ∨ M = 400) := ⟨min n 400, by omega, by omega, by omega, by omega⟩
  have Hn := Lib.hid hn
  unfold sv at HP ⊢
  generalize ByteArray.mk ⟨l⟩ = L at *
  go_enter Tryd.func7, Tryd.ntmps7
  go_wp2_with fail
  refine (HP.out _).mono ?_; rintro e w1 ⟨⟨A1, c1, rfl, h11, h12, s1⟩, hb1⟩
  rw [hn] at h11 s1
  rw [hn]
  clear hn
  go_wp2
  go_loopw [6, 15] (fun v i wr => ∃ (k : Nat) (I : List It), k ≤ M ∧ i = .int .i64 k ∧ Hid (Good ls k ∧ I = its 0 (ls.take k)) ∧ I.length ≤ k ∧ OwnI 31 wr w1.heap.size v I.length I ∧ Below w1.heap.size w1 wr) (fun _ i _ => M - (intOf i).toNat)
  case atStart => exact ⟨0, [], Nat.zero_le _, rfl, Lib.hid ⟨Good.start _, rfl⟩, Nat.le_refl _, World.ownsRow_nil _ _ _ _, Below.refl _ _⟩
  case round =>
    obtain ⟨k, I, hk, rfl, hz, hI, hown, hbw⟩ := hrel
    have hbs := hbw.size
    by_cases hlt : k < M
    · obtain ⟨b3, off3, x, rfl, hb, p0, hp⟩ := (s1.below hbw).elem (show k < n by omega)
      have hs := HS.out x (List.mem_of_getElem? hp)
      have HC := Lib.hid (fun W => read_any x W hs)
      have Hp := Lib.hid hp
      have Hti := Lib.hid (HT.out k x hp)
      clear hp hs
      have hki : IntKind.i64.wrap ((k : Int) + 1) = (k : Int) + 1 := IntWalk.i64_in _ (by omega)
      have HE := Lib.hid (show lS x = lS x ∧ (lineE x = 0 → saidL x = [] → lN x = [] ∧ itL k x = []) ∧ (lineE x = 0 → saidL x ≠ [] → lN x ≠ [] ∧ itL k x = [⟨lS x, lN x, lV x, k + 1⟩]) from by
        refine ⟨rfl, fun h0 h1 => ⟨(l_none x (fun g => g.2 h1)).2.1, by rw [itL, if_pos h1]⟩, fun h0 h1 => ?_⟩
        have hl1 : lineE x = oneE (saidL x) := by
          have g : ¬ 512 < x.length := fun g => by rw [lineE, if_pos g] at h0; cases h0
          rw [lineE, if_neg g, if_neg h1]
        refine ⟨?_, ?_⟩
        · rw [lN, if_pos ⟨h0, h1⟩]; exact oneN_ne _ (by rw [← hl1]; exact h0)
        · rw [itL, if_neg h1, lN, if_pos ⟨h0, h1⟩, lS, if_pos ⟨h0, h1⟩, lV, if_pos ⟨h0, h1⟩])
      by_cases h0 : lineE x = 0
      · have HG := Lib.hid (hz.out.1.next Hp.out h0)
        rw [h0] at HC
        by_cases h1 : saidL x = []
        · obtain ⟨g1, g2⟩ := HE.out.2.1 h0 h1
          rw [g1] at HC
          rw [g2, List.append_nil] at Hti
          clear HE g1 g2 h0 h1
          generalize lS x = S at *
          generalize lV x = V at *
          unfold sv at p0 HC
          generalize ByteArray.mk ⟨x⟩ = X at *
          generalize ByteArray.mk ⟨V⟩ = VV at *
          go_wp2_with fail
          refine (HC.out _).mono ?_; rintro e w2 ⟨rfl, hb2⟩
          have b2 := Below.on hbw hbs (by exact hb2)
          have o2 := own_keep hown (by exact hb2)
          clear hb2 hown hbw p0
          obtain ⟨p0, p1, p2, p3⟩ := cells_four (blk_new w2 31 zI)
          obtain ⟨f0, f1, f2, f3⟩ := frozen_four (blk_new w2 31 zI)
          go_wp2
          go_roundw
          case rel =>
            exact ⟨k + 1, I, by omega, by go_num, Lib.hid ⟨HG.out, by rw [Hti.out]; exact hz.out.2⟩, by omega, o2.alloc _, b2.alloc b2.size _⟩
          case measure => simp [intOf] <;> omega
        · obtain ⟨g1, g2⟩ := HE.out.2.2 h0 h1
          have hne : (ByteArray.mk ⟨lN x⟩).toList.isEmpty = false := by simp; exact g1
          have hn2 : (!(ByteArray.mk ⟨lN x⟩).toList.isEmpty) = true := by rw [hne]; rfl
          rw [g2] at Hti
          clear HE g1 g2 h0 h1
          generalize lS x = S at *
          generalize lN x = N at *
          generalize lV x = V at *
          unfold sv at p0 HC
          generalize ByteArray.mk ⟨x⟩ = X at *
          generalize hVV : ByteArray.mk ⟨V⟩ = VV at *
          generalize hNN : ByteArray.mk ⟨N⟩ = NN at *
          go_wp2_with fail
          refine (HC.out _).mono ?_; rintro e w2 ⟨rfl, hb2⟩
          have b2 := Below.on hbw hbs (by exact hb2)
          have o2 := own_keep hown (by exact hb2)
          have hsz2 := b2.size
          clear hb2 hown hbw p0
          obtain ⟨p0, p1, p2, p3⟩ := cells_four (blk_new w2 31 zI)
          obtain ⟨f0, f1, f2, f3⟩ := frozen_four (blk_new w2 31 zI)
          go_wp2_with (at_builtin; refine wpList_appI _ rfl _ _ 23 31 rfl Tryd.underlying23 Tryd.infoItemB w1.heap.size _ _ _ rfl ((o2.alloc _).alloc _) (w2.heap.size + 1) 1 ⟨S, N, V, k + 1⟩ rfl (four_cells (show Blk _ _ 31 (itA ⟨S, N, V, k + 1⟩) from by subst hVV hNN; exact blk_new' _ _ _ _ (by simp))) (by omega) (by simp; omega) ?_; intro v' w3 hown' hgrow)
          have b3 : Below w1.heap.size w1 w3 := by
            refine Below.grown ?_ hgrow ?_ (fun g hg => (o2.lt g hg).1)
            · exact (b2.alloc hsz2 _).alloc (by simp; omega) _
            · simp; omega
          clear hgrow
          go_wp2
          go_roundw
          case rel =>
            exact ⟨k + 1, I ++ [⟨S, N, V, k + 1⟩], by omega, by go_num, Lib.hid ⟨HG.out, by rw [Hti.out, hz.out.2]⟩, by simp; omega, by simpa using hown', b3⟩
          case measure => simp [intOf] <;> omega
      · have hne : ((lineE x : Int) != 0) = true := by rw [bne_iff_ne]; omega
        have HR := Lib.hid (fun W (hB : Below w.heap.size w W) => lex_bad (w := w) (w' := W) (show k < 400 by omega) Hp.out hz.out.1 h0 hB)
        clear HE h0
        generalize lineE x = E at *
        generalize lS x = S at *
        generalize lN x = N at *
        generalize lV x = V at *
        unfold sv at p0 HC
        generalize ByteArray.mk ⟨x⟩ = X at *
        generalize ByteArray.mk ⟨N⟩ = NN at *
        generalize ByteArray.mk ⟨V⟩ = VV at *
        go_wp2_with fail
        refine (HC.out _).mono ?_; rintro e w2 ⟨rfl, hb2⟩
        have b2 := Below.on hbw hbs (by exact hb2)
        clear hb2 hown hbw p0
        obtain ⟨p0, p1, p2, p3⟩ := cells_four (blk_new w2 31 zI)
        obtain ⟨f0, f1, f2, f3⟩ := frozen_four (blk_new w2 31 zI)
        go_wp2
        go_ret3
        exact HR.out _ (Below.on hb1 hb1.size (b2.alloc b2.size _))
    · obtain rfl : k = M := by omega
      by_cases h4 : 400 < n
      · have d4 : decide ((400 : Int) < (n : Int)) = true := by simp; omega
        have e4 : k = 400 := by omega
        go_wp2
        go_ret3
        refine ⟨⟨none, 0, 0, 4, 401, [], rfl, Nat.le_refl _, by simp [maxLen], .inr (.inl ⟨by rw [Hn.out]; exact h4, by rw [← e4]; exact hz.out.1, rfl, rfl, rfl⟩), ShI.none_⟩, Below.on hb1 hb1.size hbw⟩
      · have d4 : decide ((400 : Int) < (n : Int)) = false := by simp; omega
        have e4 : k = n := by omega
        have hI2 : I = its 0 ls := by
          rw [hz.out.2, e4, ← Hn.out, List.take_length]
        obtain ⟨A2, c2, rfl, q1, q2, q3⟩ := OwnI.sh hown
        go_wp2
        go_ret3
        refine ⟨⟨A2, I.length, c2, 0, 0, I, rfl, q1, q2, .inr (.inr ⟨by rw [Hn.out]; omega, by rw [Hn.out, ← e4]; exact hz.out.1, rfl, rfl, hI2⟩), q3⟩, Below.on hb1 hb1.size hbw⟩

end Go.Proofs.YtglghfbdchcihaaDoor.Inx
