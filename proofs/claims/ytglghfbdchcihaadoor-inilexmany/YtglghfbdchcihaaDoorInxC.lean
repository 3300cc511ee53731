
/- Contracts: inilex.pair, read. -/
import Derived.Test.YtglghfbdchcihaaDoorInxB
namespace Go.Proofs.YtglghfbdchcihaaDoor.Inx
open Go.RowKit Lin
set_option maxRecDepth 100000

theorem pair_no (t : List UInt8) (w : World) (hr : t.length ≤ 100000) (h : (61 : UInt8) ∉ t) :
    Calls Tryd.prog 27 #[sv t] w fun e w' => e = .returned (.tuple #[.agg zI, .int .i64 5]) ∧ Below w.heap.size w w' := by
  have b0 : Below w.heap.size w (w.alloc (.cells zI 31)) := (Below.refl _ _).alloc (Nat.le_refl _) _
  have k0 : Blk (w.alloc (.cells zI 31)) w.heap.size 31 zI := blk_new _ _ _
  have HC := Lib.hid (fun W => cut61_no' t W h)
  have HT := Lib.hid (fun W => trim_any t W (by omega))
  clear h
  generalize trim t = T at *
  unfold sv at *
  generalize ByteArray.mk ⟨t⟩ = R at *
  generalize ByteArray.mk ⟨T⟩ = TT at *
  go_enter Tryd.func27, Tryd.ntmps27
  go_wp2_with fail
  refine (HC.out _).mono ?_; rintro e w1 ⟨rfl, hb1⟩
  subst hb1
  go_wp2_with fail
  refine (HT.out _).mono ?_; rintro e w2 ⟨rfl, hb2⟩
  have k2 := k0.on (by exact hb2)
  have b2 := Below.on b0 b0.size (by exact hb2)
  obtain ⟨p0, p1, p2, p3⟩ := cells_four k2
  obtain ⟨f0, f1, f2, f3⟩ := frozen_four k2
  go_wp2
  refine bodyPost_blk2 rfl _ rfl (blk_four k2) Tryd.underlying31 rfl Tryd.infoItem rfl ⟨rfl, ?_⟩
  exact below_four b2 _ (Nat.le_refl _) _ _ _ _

theorem pair_void (a b : List UInt8) (w : World) (hr : (a ++ 61 :: b).length ≤ 100000) (h : (61 : UInt8) ∉ a) (hv : trim a = []) :
    Calls Tryd.prog 27 #[sv (a ++ 61 :: b)] w fun e w' => e = .returned (.tuple #[.agg zI, .int .i64 5]) ∧ Below w.heap.size w w' := by
  have b0 : Below w.heap.size w (w.alloc (.cells zI 31)) := (Below.refl _ _).alloc (Nat.le_refl _) _
  have k0 : Blk (w.alloc (.cells zI 31)) w.heap.size 31 zI := blk_new _ _ _
  have HC := Lib.hid (fun W => cut61_yes' a b W h (by omega))
  have HT := Lib.hid (fun W => trim_any a W (by simp at hr; omega))
  rw [hv] at HT
  clear h hv
  generalize a ++ 61 :: b = t at *
  unfold sv at *
  generalize ByteArray.mk ⟨t⟩ = R at *
  generalize ByteArray.mk ⟨a⟩ = AA at *
  generalize ByteArray.mk ⟨b⟩ = BB at *
  go_enter Tryd.func27, Tryd.ntmps27
  go_wp2_with fail
  refine (HC.out _).mono ?_; rintro e w1 ⟨rfl, hb1⟩
  have k1 := k0.on (by exact hb1)
  have b1 := Below.on b0 b0.size (by exact hb1)
  go_wp2_with fail
  refine (HT.out _).mono ?_; rintro e w2 ⟨rfl, hb2⟩
  have k2 := k1.on (by exact hb2)
  have b2 := Below.on b1 b1.size (by exact hb2)
  obtain ⟨p0, p1, p2, p3⟩ := cells_four k2
  obtain ⟨f0, f1, f2, f3⟩ := frozen_four k2
  go_wp2
  refine bodyPost_blk2 rfl _ rfl (blk_four k2) Tryd.underlying31 rfl Tryd.infoItem rfl ⟨rfl, ?_⟩
  exact below_four b2 _ (Nat.le_refl _) _ _ _ _

theorem pair_good (a b : List UInt8) (w : World) (hr : (a ++ 61 :: b).length ≤ 100000) (h : (61 : UInt8) ∉ a) (hv : trim a ≠ []) :
    Calls Tryd.prog 27 #[sv (a ++ 61 :: b)] w fun e w' => e = .returned (.tuple #[.agg #[.bool false, sv (fold (trim a)), sv (trim b), .int .i64 0], .int .i64 0]) ∧ Below w.heap.size w w' := by
  have b0 : Below w.heap.size w (w.alloc (.cells zI 31)) := (Below.refl _ _).alloc (Nat.le_refl _) _
  have k0 : Blk (w.alloc (.cells zI 31)) w.heap.size 31 zI := blk_new _ _ _
  have hla : a.length ≤ 100000 := by simp at hr; omega
  have hlb : b.length ≤ 100000 := by simp at hr; omega
  have HC := Lib.hid (fun W => cut61_yes' a b W h (by omega))
  have HT := Lib.hid (fun W => trim_any a W (by omega))
  have HU := Lib.hid (fun W => trim_any b W (by omega))
  have HF := Lib.hid (fun W => fold_any (trim a) W (by have := trim_le a; omega))
  have hae : (ByteArray.mk ⟨trim a⟩).toList.isEmpty = false := by simp; exact hv
  clear h hv hla hlb
  generalize a ++ 61 :: b = t at *
  generalize fold (trim a) = F at *
  generalize trim a = T at *
  generalize trim b = U at *
  unfold sv at *
  generalize ByteArray.mk ⟨t⟩ = R at *
  generalize ByteArray.mk ⟨a⟩ = AA at *
  generalize ByteArray.mk ⟨b⟩ = BB at *
  generalize ByteArray.mk ⟨T⟩ = TT at *
  generalize ByteArray.mk ⟨U⟩ = UU at *
  generalize ByteArray.mk ⟨F⟩ = FF at *
  go_enter Tryd.func27, Tryd.ntmps27
  go_wp2_with fail
  refine (HC.out _).mono ?_; rintro e w1 ⟨rfl, hb1⟩
  have k1 := k0.on (by exact hb1)
  have b1 := Below.on b0 b0.size (by exact hb1)
  go_wp2_with fail
  refine (HT.out _).mono ?_; rintro e w2 ⟨rfl, hb2⟩
  have k2 := k1.on (by exact hb2)
  have b2 := Below.on b1 b1.size (by exact hb2)
  go_wp2_with fail
  refine (HF.out _).mono ?_; rintro e w3 ⟨rfl, hb3⟩
  have k3 := k2.on (by exact hb3)
  have b3 := Below.on b2 b2.size (by exact hb3)
  go_wp2_with fail
  refine (HU.out _).mono ?_; rintro e w4 ⟨rfl, hb4⟩
  have k4 := k3.on (by exact hb4)
  have b4 := Below.on b3 b3.size (by exact hb4)
  obtain ⟨p0, p1, p2, p3⟩ := cells_four k4
  obtain ⟨f0, f1, f2, f3⟩ := frozen_four k4
  go_wp2
  refine bodyPost_blk2 rfl _ rfl (blk_four k4) Tryd.underlying31 rfl Tryd.infoItem rfl ⟨rfl, ?_⟩
  exact below_four b4 _ (Nat.le_refl _) _ _ _ _

/-- What is told of what a line says: nothing, if that is wrong. -/
def oS (t : List UInt8) : Bool := if oneE t = 0 then isSec t else false
def oN (t : List UInt8) : List UInt8 := if oneE t = 0 then oneN t else []
def oV (t : List UInt8) : List UInt8 := if oneE t = 0 then oneV t else []

theorem o_bad (t : List UInt8) (h : oneE t ≠ 0) : oS t = false ∧ oN t = [] ∧ oV t = [] := by simp [oS, oN, oV, h]
theorem o_ok (t : List UInt8) (h : oneE t = 0) : oS t = isSec t ∧ oN t = oneN t ∧ oV t = oneV t := by simp [oS, oN, oV, h]

theorem section_any (t : List UInt8) (w : World) (ht : t.length ≤ 100000) (h : isSec t = true) :
    Calls Tryd.prog 26 #[sv (t.drop 1)] w fun e w' => e = .returned (.tuple #[.agg #[.bool (oS t), sv (oN t), sv (oV t), .int .i64 0], .int .i64 (oneE t : Int)]) ∧ Below w.heap.size w w' := by
  have hr : (t.drop 1).length ≤ 100000 := by rw [List.length_drop]; omega
  by_cases hs : okSec t
  · have e0 : oneE t = 0 := by rw [oneE, if_pos h, if_pos hs]
    obtain ⟨e1, e2, e3⟩ := o_ok t e0
    rw [e0, e1, e2, e3, h, show oneN t = fold (secN t) by rw [oneN, if_pos h], show oneV t = [] by rw [oneV, if_pos h]]
    obtain ⟨h1, h2⟩ := hs
    have e : t.drop 1 = (t.drop 1).dropLast ++ [93] := by
      have hne : t.drop 1 ≠ [] := fun e => by rw [e] at h1; cases h1
      have := (List.dropLast_concat_getLast hne).symm
      rw [List.getLast?_eq_some_getLast hne] at h1
      injection h1 with h1
      rw [h1] at this
      exact this
    have hl : (t.drop 1).dropLast.length ≤ 100000 := by rw [List.length_dropLast]; omega
    unfold secN at h2 ⊢
    rw [e]
    rw [List.dropLast_concat]
    exact section_good _ w hl h2
  · have e0 : oneE t = 5 := by rw [oneE, if_pos h, if_neg hs]
    obtain ⟨e1, e2, e3⟩ := o_bad t (by omega)
    rw [e0, e1, e2, e3]
    by_cases h1 : (t.drop 1).getLast? = some 93
    · have h2 : secN t = [] := Classical.byContradiction fun h2 => hs ⟨h1, h2⟩
      have e : t.drop 1 = (t.drop 1).dropLast ++ [93] := by
        have hne : t.drop 1 ≠ [] := fun e => by rw [e] at h1; cases h1
        have := (List.dropLast_concat_getLast hne).symm
        rw [List.getLast?_eq_some_getLast hne] at h1
        injection h1 with h1
        rw [h1] at this
        exact this
      have hl : (t.drop 1).dropLast.length ≤ 100000 := by rw [List.length_dropLast]; omega
      unfold secN at h2
      rw [e]
      exact section_void _ w hl h2
    · exact section_no _ w hr h1

theorem pair_any (t : List UInt8) (w : World) (ht : t.length ≤ 100000) (h : isSec t = false) :
    Calls Tryd.prog 27 #[sv t] w fun e w' => e = .returned (.tuple #[.agg #[.bool (oS t), sv (oN t), sv (oV t), .int .i64 0], .int .i64 (oneE t : Int)]) ∧ Below w.heap.size w w' := by
  have h' : ¬ isSec t = true := by rw [h]; decide
  by_cases hs : okPr t
  · have e0 : oneE t = 0 := by rw [oneE, if_neg h', if_pos hs]
    obtain ⟨e1, e2, e3⟩ := o_ok t e0
    rw [e0, e1, e2, e3, h, show oneN t = fold (prN t) by rw [oneN, if_neg h'], show oneV t = trim (behind 61 t) by rw [oneV, if_neg h']]
    obtain ⟨h1, h2⟩ := hs
    rcases cut_cases 61 t with g | ⟨a, b, rfl, g⟩
    · exact absurd h1 g
    · obtain ⟨g1, g2⟩ := ahead_yes 61 a b g
      unfold prN at h2 ⊢
      rw [g1] at h2 ⊢
      rw [g2]
      exact pair_good a b w ht g h2
  · have e0 : oneE t = 5 := by rw [oneE, if_neg h', if_neg hs]
    obtain ⟨e1, e2, e3⟩ := o_bad t (by omega)
    rw [e0, e1, e2, e3]
    rcases cut_cases 61 t with g | ⟨a, b, rfl, g⟩
    · exact pair_no t w ht g
    · have h2 : prN (a ++ 61 :: b) = [] := Classical.byContradiction fun h2 => hs ⟨by simp, h2⟩
      unfold prN at h2
      rw [(ahead_yes 61 a b g).1] at h2
      exact pair_void a b w ht g h2

end Go.Proofs.YtglghfbdchcihaaDoor.Inx
