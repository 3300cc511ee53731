
/- Contract: crawlwayref42.one. -/
import Derived.Test.YtglghfbdchcihaaDoorInxE
namespace Go.Proofs.YtglghfbdchcihaaDoor.Inx
open Go.RowKit Lin
set_option maxRecDepth 100000

theorem one_pr_bad (t : List UInt8) (w : World) (hl : t.length ≤ 100000) (hne : t ≠ []) (hs : isSec t = false) (h : (61 : UInt8) ∉ t ∨ trim (ahead 61 t) = []) :
    Calls Tryd.prog 17 #[sv t] w fun e w' => e = .returned (.tuple #[.agg zI, .bool false]) ∧ Below w.heap.size w w' := by
  have b0 : Below w.heap.size w (w.alloc (.cells zI 32)) := (Below.refl _ _).alloc (Nat.le_refl _) _
  have k0 : Blk (w.alloc (.cells zI 32)) w.heap.size 32 zI := blk_new _ _ _
  obtain ⟨c, r, rfl⟩ : ∃ c r, t = c :: r := by cases t with
    | nil => exact absurd rfl hne
    | cons c r => exact ⟨c, r, rfl⟩
  have hts : (ByteArray.mk ⟨c :: r⟩).size = r.length + 1 := rfl
  have hlt0 : 0 < (ByteArray.mk ⟨c :: r⟩).size := by rw [hts]; omega
  have hat0 : ∀ h : 0 < (ByteArray.mk ⟨c :: r⟩).size, (ByteArray.mk ⟨c :: r⟩)[0]'h = c := Lin.byte_at ⟨⟨c :: r⟩⟩ 0 c rfl
  have hc91 : ((c.toNat : Int) == 91) = false := byte_ne (c := 91) (by simpa [isSec] using hs)
  have hal := ahead_le 61 (c :: r)
  have HP := Lib.hid (fun W => refHead61 (c :: r) W hl)
  have HT := Lib.hid (fun W => refTrim_any (ahead 61 (c :: r)) W (by omega))
  have hks : (ByteArray.mk ⟨ahead 61 (c :: r)⟩).size = (ahead 61 (c :: r)).length := rfl
  have hcase : ((((ahead 61 (c :: r)).length : Int) == ((r.length + 1 : Nat) : Int)) = true) ∨ ((((ahead 61 (c :: r)).length : Int) == ((r.length + 1 : Nat) : Int)) = false ∧ trim (ahead 61 (c :: r)) = []) := by
    rcases Classical.em ((ahead 61 (c :: r)).length = r.length + 1) with g | g
    · left; rw [g]; simp
    · right
      refine ⟨by rw [beq_eq_false_iff_ne]; omega, ?_⟩
      rcases h with h | h
      · exact absurd (congrArg List.length (ahead_no 61 (c :: r) h).1) g
      · exact h
  rw [show ((r.length + 1 : Nat) : Int) = (r.length : Int) + 1 by omega] at hcase
  clear h hs hne hal hl
  generalize ahead 61 (c :: r) = AH at *
  rcases hcase with hcase | ⟨hcase, hv⟩
  · generalize trim AH = T at *
    generalize AH.length = K at *
    generalize r.length = N at *
    unfold sv at *
    generalize ByteArray.mk ⟨c :: r⟩ = TT at *
    generalize ByteArray.mk ⟨AH⟩ = A1 at *
    generalize ByteArray.mk ⟨T⟩ = T1 at *
    go_enter Tryd.func17, Tryd.ntmps17
    go_wp2_with fail
    refine (HP.out _).mono ?_; rintro e w1 ⟨⟨b, off, M, cc, rfl, hcell⟩, hb1⟩
    have k1 := k0.on (by exact hb1)
    have b1 := Below.on b0 b0.size (by exact hb1)
    go_wp2_with fail
    refine (HT.out _).mono ?_; rintro e w2 ⟨rfl, hw2⟩
    subst hw2
    obtain ⟨p0, p1, p2, p3⟩ := cells_four k1
    obtain ⟨f0, f1, f2, f3⟩ := frozen_four k1
    go_wp2
    refine bodyPost_blk2 rfl _ rfl (blk_four k1) Tryd.underlying32 rfl Tryd.infoRItem rfl ⟨rfl, ?_⟩
    exact below_four b1 _ (Nat.le_refl _) _ _ _ _
  · rw [hv] at HT
    clear hv
    generalize AH.length = K at *
    generalize r.length = N at *
    unfold sv at *
    generalize ByteArray.mk ⟨c :: r⟩ = TT at *
    generalize ByteArray.mk ⟨AH⟩ = A1 at *
    go_enter Tryd.func17, Tryd.ntmps17
    go_wp2_with fail
    refine (HP.out _).mono ?_; rintro e w1 ⟨⟨b, off, M, cc, rfl, hcell⟩, hb1⟩
    have k1 := k0.on (by exact hb1)
    have b1 := Below.on b0 b0.size (by exact hb1)
    go_wp2_with fail
    refine (HT.out _).mono ?_; rintro e w2 ⟨rfl, hw2⟩
    subst hw2
    obtain ⟨p0, p1, p2, p3⟩ := cells_four k1
    obtain ⟨f0, f1, f2, f3⟩ := frozen_four k1
    go_wp2
    refine bodyPost_blk2 rfl _ rfl (blk_four k1) Tryd.underlying32 rfl Tryd.infoRItem rfl ⟨rfl, ?_⟩
    exact below_four b1 _ (Nat.le_refl _) _ _ _ _

theorem one_pr_good (a b : List UInt8) (w : World) (hl : (a ++ 61 :: b).length ≤ 100000) (hs : isSec (a ++ 61 :: b) = false) (ha : (61 : UInt8) ∉ a) (hv : trim a ≠ []) :
    Calls Tryd.prog 17 #[sv (a ++ 61 :: b)] w fun e w' => e = .returned (.tuple #[.agg #[.bool false, sv (fold (trim a)), sv (trim b), .int .i64 0], .bool true]) ∧ Below w.heap.size w w' := by
  have b0 : Below w.heap.size w (w.alloc (.cells zI 32)) := (Below.refl _ _).alloc (Nat.le_refl _) _
  have k0 : Blk (w.alloc (.cells zI 32)) w.heap.size 32 zI := blk_new _ _ _
  obtain ⟨c, r, hcr⟩ : ∃ c r, a ++ 61 :: b = c :: r := by cases a with
    | nil => exact ⟨61, b, rfl⟩
    | cons c r => exact ⟨c, r ++ 61 :: b, rfl⟩
  have hll : a.length + b.length + 1 = r.length + 1 := by
    have := congrArg List.length hcr
    simp at this
    omega
  have hah : ahead 61 (c :: r) = a := by rw [← hcr]; exact (ahead_yes 61 a b ha).1
  have hts : (ByteArray.mk ⟨c :: r⟩).size = r.length + 1 := rfl
  have has : (ByteArray.mk ⟨a⟩).size = a.length := rfl
  have hx : (ByteArray.mk ⟨c :: r⟩).extract (a.length + 1) (r.length + 1) = ⟨⟨b⟩⟩ := by
    rw [text_cut, List.take_of_length_le (by simp), ← hcr, show a ++ 61 :: b = (a ++ [61]) ++ b by simp, show a.length + 1 = (a ++ [61]).length by simp, List.drop_left]
  rw [hcr] at hs hl ⊢
  have hlt0 : 0 < (ByteArray.mk ⟨c :: r⟩).size := by rw [hts]; omega
  have hat0 : ∀ h : 0 < (ByteArray.mk ⟨c :: r⟩).size, (ByteArray.mk ⟨c :: r⟩)[0]'h = c := Lin.byte_at ⟨⟨c :: r⟩⟩ 0 c rfl
  have hc91 : ((c.toNat : Int) == 91) = false := byte_ne (c := 91) (by simpa [isSec] using hs)
  have HP := Lib.hid (fun W => refHead61 (c :: r) W hl)
  rw [hah] at HP
  have hrl : r.length ≤ 100000 := by simp at hl; omega
  have hal : a.length ≤ r.length := by omega
  have HT := Lib.hid (fun W => refTrim_any a W (by omega))
  have HU := Lib.hid (fun W => refTrim_any b W (by omega))
  have HF := Lib.hid (fun W => refFold_any (trim a) W (by have := trim_le a; omega))
  have hlen : ((a.length : Int) == (r.length : Int) + 1) = false := by rw [beq_eq_false_iff_ne]; omega
  have hae : (ByteArray.mk ⟨trim a⟩).toList.isEmpty = false := by simp; exact hv
  have hw : IntKind.i64.wrap ((a.length : Int) + 1) = (a.length : Int) + 1 := IntWalk.i64_in _ (by omega)
  have ht : ((a.length : Int) + 1).toNat = a.length + 1 := by omega
  have h0 : (0 : Int) ≤ (a.length : Int) + 1 := by omega
  have h1 : (a.length : Int) + 1 ≤ (r.length : Int) + 1 := by omega
  have HX := Lib.hid hx
  clear hx hs hl hv ha hcr hll hah hrl hal
  generalize fold (trim a) = F at *
  generalize trim a = T at *
  generalize trim b = U at *
  unfold sv at *
  rw [← HX.out] at HU
  generalize ByteArray.mk ⟨c :: r⟩ = TT at *
  generalize ByteArray.mk ⟨a⟩ = A1 at *
  generalize ByteArray.mk ⟨T⟩ = T1 at *
  generalize ByteArray.mk ⟨U⟩ = U1 at *
  generalize ByteArray.mk ⟨F⟩ = F1 at *
  generalize a.length = K at *
  generalize r.length = N at *
  go_enter Tryd.func17, Tryd.ntmps17
  go_wp2_with fail
  refine (HP.out _).mono ?_; rintro e w1 ⟨⟨b, off, M, cc, rfl, hcell⟩, hb1⟩
  have k1 := k0.on (by exact hb1)
  have b1 := Below.on b0 b0.size (by exact hb1)
  go_wp2_with fail
  refine (HT.out _).mono ?_; rintro e w2 ⟨rfl, hw2⟩
  subst hw2
  clear hcell
  have k1d : Blk w1.drew w.heap.size 32 zI := k1
  have b1d : Below w.heap.size w w1.drew := below_draw b1 1
  go_wp2_with fail
  go_region_with (first
    | (go_at_call 30; refine (HF.out _).mono ?_; rintro e w3 ⟨rfl, hb3⟩; have k3 := k1d.on (by exact hb3); have b3 := Below.on b1d b1d.size (by exact hb3); obtain ⟨p0, p1, p2, p3⟩ := cells_four k3; obtain ⟨f0, f1, f2, f3⟩ := frozen_four k3)
    | (go_at_call 29; refine (HU.out _).mono ?_; rintro e w4 ⟨rfl, rfl⟩))
  all_goals
    go_wp2
    refine bodyPost_blk2 rfl _ rfl (blk_four k3) Tryd.underlying32 rfl Tryd.infoRItem rfl ⟨rfl, ?_⟩
    exact below_four b3 _ (Nat.le_refl _) _ _ _ _

theorem one_any (t : List UInt8) (w : World) (ht : t.length ≤ 100000) (hne : t ≠ []) :
    Calls Tryd.prog 17 #[sv t] w (Tells t w) := by
  cases hs : isSec t with
  | true =>
    obtain ⟨r, rfl⟩ : ∃ r, t = 91 :: r := by
      cases t with
      | nil => exact absurd rfl hne
      | cons c r => have : c = 91 := by simpa [isSec] using hs
                    subst this; exact ⟨r, rfl⟩
    have eS : ∀ E, oneE (91 :: r) = E → (if okSec (91 :: r) then 0 else 5) = E := fun E h => by rw [← h, oneE, if_pos hs]
    have no : ∀ (m : List UInt8) (d : UInt8), 91 :: r = m ++ [d] → d ≠ 93 → Calls Tryd.prog 17 #[sv (91 :: r)] w (Tells (91 :: r) w) := by
      intro m d he hd
      have hb : ¬ okSec (91 :: r) := by
        rintro ⟨g, _⟩
        cases m with
        | nil => injection he with h1 h2; subst h2; simp at g
        | cons x m =>
          injection he with h1 h2
          rw [show List.drop 1 (91 :: r) = m ++ [d] from h2] at g
          simp at g
          exact hd g
      have h0 : oneE (91 :: r) = 5 := by rw [oneE, if_pos hs, if_neg hb]
      have := one_sec_no m d w (by rw [← he]; exact ht) (by rw [← he]; rfl) hd
      rw [← he] at this
      refine this.mono ?_
      rintro e w' ⟨rfl, hB⟩
      exact ⟨⟨false, [], [], by rw [h0]; rfl, fun h => by rw [h0] at h; cases h⟩, hB⟩
    rcases List.eq_nil_or_concat r with rfl | ⟨m, d, rfl⟩
    · exact no [] 91 rfl (by decide)
    · rw [List.concat_eq_append] at *
      by_cases hd : d = 93
      · subst hd
        have hn : secN (91 :: (m ++ [93])) = trim m := by
          unfold secN
          rw [show List.drop 1 (91 :: (m ++ [93])) = m ++ [93] from rfl, List.dropLast_concat]
        have hg : (List.drop 1 (91 :: (m ++ [93]))).getLast? = some 93 := by
          rw [show List.drop 1 (91 :: (m ++ [93])) = m ++ [93] from rfl]; simp
        have hd : decide (trim m ≠ []) = decide (oneE (91 :: (m ++ [93])) = 0) := by
          rw [oneE, if_pos hs]
          by_cases g : trim m = []
          · rw [if_neg (fun k => k.2 (hn.trans g))]
            simp [g]
          · rw [if_pos ⟨hg, fun k => g (hn.symm.trans k)⟩]
            simp [g]
        refine (one_sec_yes m w (by simp at ht; omega)).mono ?_
        rintro e w' ⟨rfl, hB⟩
        refine ⟨⟨true, fold (trim m), [], by rw [← hd], fun h => ?_⟩, hB⟩
        exact ⟨hs.symm, by rw [oneN, if_pos hs, hn], by rw [oneV, if_pos hs]⟩
      · exact no (91 :: m) d rfl hd
  | false =>
    have hs' : ¬ isSec t = true := by rw [hs]; decide
    by_cases hp : okPr t
    · have h0 : oneE t = 0 := by rw [oneE, if_neg hs', if_pos hp]
      obtain ⟨h1, h2⟩ := hp
      rcases cut_cases 61 t with g | ⟨a, b, rfl, g⟩
      · exact absurd h1 g
      · obtain ⟨g1, g2⟩ := ahead_yes 61 a b g
        unfold prN at h2
        rw [g1] at h2
        refine (one_pr_good a b w ht hs g h2).mono ?_
        rintro e w' ⟨rfl, hB⟩
        refine ⟨⟨false, fold (trim a), trim b, by rw [h0]; rfl, fun _ => ⟨hs.symm, ?_, ?_⟩⟩, hB⟩
        · rw [oneN, if_neg hs', prN, g1]
        · rw [oneV, if_neg hs', g2]
    · have h0 : oneE t = 5 := by rw [oneE, if_neg hs', if_neg hp]
      have hh : (61 : UInt8) ∉ t ∨ trim (ahead 61 t) = [] := by
        by_cases g : (61 : UInt8) ∈ t
        · right
          exact Classical.byContradiction fun k => hp ⟨g, k⟩
        · exact .inl g
      refine (one_pr_bad t w ht hne hs hh).mono ?_
      rintro e w' ⟨rfl, hB⟩
      exact ⟨⟨false, [], [], by rw [h0]; rfl, fun h => by rw [h0] at h; cases h⟩, hB⟩

end Go.Proofs.YtglghfbdchcihaaDoor.Inx
