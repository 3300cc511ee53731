
/- Contracts: crawlwayref42.said, one. -/
import Derived.Test.YtglghfbdchcihaaDoorInxD
namespace Go.Proofs.YtglghfbdchcihaaDoor.Inx
open Go.RowKit Lin
set_option maxRecDepth 100000

theorem parts_head (c : UInt8) (l : List UInt8) : ∃ r, parts c l = ahead c l :: r := by
  rcases cut_cases c l with g | ⟨a, b, rfl, g⟩
  · exact ⟨[], by rw [(ahead_no c l g).1]; exact parts_no c l g⟩
  · exact ⟨_, by rw [(ahead_yes c a b g).1]; exact parts_yes c a b g⟩
theorem refHead35 (l : List UInt8) (W : World) (hn : l.length ≤ 100000) :
    Calls Tryd.prog 28 #[sv l, .int .u8 35] W fun e w' => (∃ b off N cc, e = .returned (.slice (some ⟨b, off, none⟩) (N + 1) cc) ∧ w'.cell? ⟨b, off, none⟩ = some (sv (ahead 35 l))) ∧ Below W.heap.size W w' := by
  refine (refParts_any l 35 W (by omega)).mono ?_
  rintro e w' ⟨⟨v, rfl, ho⟩, hb⟩
  obtain ⟨r, hr⟩ := parts_head 35 l
  rw [hr] at ho
  obtain ⟨A1, c1, rfl, h11, h12, s1⟩ := ho.sh
  obtain ⟨bb, off, y, rfl, hbb, hcell, hy⟩ := s1.elem (k := 0) (by simp)
  obtain rfl : y = ahead 35 l := by simpa using hy.symm
  exact ⟨⟨bb, off, r.length, c1, by simp, by simpa using hcell⟩, hb⟩
theorem refHead61 (l : List UInt8) (W : World) (hn : l.length ≤ 100000) :
    Calls Tryd.prog 28 #[sv l, .int .u8 61] W fun e w' => (∃ b off N cc, e = .returned (.slice (some ⟨b, off, none⟩) (N + 1) cc) ∧ w'.cell? ⟨b, off, none⟩ = some (sv (ahead 61 l))) ∧ Below W.heap.size W w' := by
  refine (refParts_any l 61 W (by omega)).mono ?_
  rintro e w' ⟨⟨v, rfl, ho⟩, hb⟩
  obtain ⟨r, hr⟩ := parts_head 61 l
  rw [hr] at ho
  obtain ⟨A1, c1, rfl, h11, h12, s1⟩ := ho.sh
  obtain ⟨bb, off, y, rfl, hbb, hcell, hy⟩ := s1.elem (k := 0) (by simp)
  obtain rfl : y = ahead 61 l := by simpa using hy.symm
  exact ⟨⟨bb, off, r.length, c1, by simp, by simpa using hcell⟩, hb⟩

theorem said_any (l : List UInt8) (w : World) (hl : l.length ≤ 100000) :
    Calls Tryd.prog 16 #[sv l] w fun e w' => e = .returned (sv (saidL l)) ∧ Below w.heap.size w w' := by
  have HP := Lib.hid (fun W => refHead35 l W hl)
  have hal := ahead_le 35 l
  have HT := Lib.hid (fun W => refTrim_any (ahead 35 l) W (by omega))
  rw [show trim (ahead 35 l) = saidL l from rfl] at HT
  clear hal
  generalize saidL l = t at *
  generalize ahead 35 l = AH at *
  unfold sv at *
  generalize ByteArray.mk ⟨l⟩ = L at *
  generalize ByteArray.mk ⟨AH⟩ = A1 at *
  generalize ByteArray.mk ⟨t⟩ = TT at *
  go_enter Tryd.func16, Tryd.ntmps16
  go_wp2_with fail
  refine (HP.out _).mono ?_; rintro e w1 ⟨⟨b, off, N, cc, rfl, hcell⟩, hb1⟩
  go_wp2_with fail
  refine (HT.out _).mono ?_; rintro e w2 ⟨rfl, hw2⟩
  subst hw2
  go_wp2
  go_ret
  exact ⟨rfl, hb1⟩

/-- What the reference tells of what a line says. -/
def Tells (t : List UInt8) (w : World) (e : Ending) (w' : World) : Prop :=
  (∃ (S : Bool) (N V : List UInt8), e = .returned (.tuple #[.agg #[.bool S, sv N, sv V, .int .i64 0], .bool (decide (oneE t = 0))]) ∧ (oneE t = 0 → S = isSec t ∧ N = oneN t ∧ V = oneV t)) ∧ Below w.heap.size w w'

theorem one_sec_no (m : List UInt8) (d : UInt8) (w : World) (hl : (m ++ [d]).length ≤ 100000) (hs : (m ++ [d]).head? = some 91) (hd : d ≠ 93) :
    Calls Tryd.prog 17 #[sv (m ++ [d])] w fun e w' => e = .returned (.tuple #[.agg zI, .bool false]) ∧ Below w.heap.size w w' := by
  have hts : (ByteArray.mk ⟨m ++ [d]⟩).size = m.length + 1 := by show (m ++ [d]).length = _; simp
  have hw : IntKind.i64.wrap (m.length : Int) = (m.length : Int) := IntWalk.i64_in _ (by simp at hl; omega)
  have h2 : ((m.length : Int) + 1 - 1) = (m.length : Int) := by omega
  have hlt0 : 0 < (ByteArray.mk ⟨m ++ [d]⟩).size := by rw [hts]; omega
  have hlt1 : m.length < (ByteArray.mk ⟨m ++ [d]⟩).size := by rw [hts]; omega
  have h3 : (m.length : Int) < (m.length : Int) + 1 := by omega
  have hat0 : ∀ h : 0 < (ByteArray.mk ⟨m ++ [d]⟩).size, (ByteArray.mk ⟨m ++ [d]⟩)[0]'h = 91 := Lin.byte_at ⟨⟨m ++ [d]⟩⟩ 0 91 (by rw [← List.head?_eq_getElem?]; exact hs)
  have hat1 : ∀ h : m.length < (ByteArray.mk ⟨m ++ [d]⟩).size, (ByteArray.mk ⟨m ++ [d]⟩)[m.length]'h = d := Lin.byte_at ⟨⟨m ++ [d]⟩⟩ m.length d (by simp)
  have hne : ((d.toNat : Int) == 93) = false := byte_ne (c := 93) hd
  clear hs hd hl
  unfold sv at *
  generalize ByteArray.mk ⟨m ++ [d]⟩ = TT at *
  generalize m.length = N at *
  go_enter Tryd.func17, Tryd.ntmps17
  go_wp2
  refine bodyPost_blk2 rfl _ rfl (blk_new _ _ _) Tryd.underlying32 rfl Tryd.infoRItem rfl ⟨rfl, ?_⟩
  exact (Below.refl _ _).alloc (Nat.le_refl _) _

theorem one_sec_yes (m : List UInt8) (w : World) (hl : m.length ≤ 100000) :
    Calls Tryd.prog 17 #[sv (91 :: m ++ [93])] w fun e w' => e = .returned (.tuple #[.agg #[.bool true, sv (fold (trim m)), sv [], .int .i64 0], .bool (decide (trim m ≠ []))]) ∧ Below w.heap.size w w' := by
  have b0 : Below w.heap.size w (w.alloc (.cells zI 32)) := (Below.refl _ _).alloc (Nat.le_refl _) _
  have k0 : Blk (w.alloc (.cells zI 32)) w.heap.size 32 zI := blk_new _ _ _
  have hts : (ByteArray.mk ⟨91 :: m ++ [93]⟩).size = m.length + 2 := by show (91 :: m ++ [93]).length = _; simp
  have hw : IntKind.i64.wrap ((m.length : Int) + 1) = (m.length : Int) + 1 := IntWalk.i64_in _ (by omega)
  have h2 : ((m.length : Int) + 2 - 1) = (m.length : Int) + 1 := by omega
  have ht : ((m.length : Int) + 1).toNat = m.length + 1 := by omega
  have h0 : (0 : Int) ≤ (m.length : Int) + 1 := by omega
  have h1 : (1 : Int) ≤ (m.length : Int) + 1 := by omega
  have hlt0 : 0 < (ByteArray.mk ⟨91 :: m ++ [93]⟩).size := by rw [hts]; omega
  have hlt1 : m.length + 1 < (ByteArray.mk ⟨91 :: m ++ [93]⟩).size := by rw [hts]; omega
  have h3 : (m.length : Int) + 1 < (m.length : Int) + 2 := by omega
  have h4 : (m.length : Int) + 1 ≤ (m.length : Int) + 2 := by omega
  have hat0 : ∀ h : 0 < (ByteArray.mk ⟨91 :: m ++ [93]⟩).size, (ByteArray.mk ⟨91 :: m ++ [93]⟩)[0]'h = 91 := Lin.byte_at ⟨⟨91 :: m ++ [93]⟩⟩ 0 91 rfl
  have hat1 : ∀ h : m.length + 1 < (ByteArray.mk ⟨91 :: m ++ [93]⟩).size, (ByteArray.mk ⟨91 :: m ++ [93]⟩)[m.length + 1]'h = 93 := Lin.byte_at ⟨⟨91 :: m ++ [93]⟩⟩ (m.length + 1) 93 (by show (91 :: m ++ [93])[m.length + 1]? = _; simp)
  have hx : (ByteArray.mk ⟨91 :: m ++ [93]⟩).extract 1 (m.length + 1) = ⟨⟨m⟩⟩ := by
    rw [text_cut, show m.length + 1 = (91 :: m).length from rfl, List.take_left]
    rfl
  have HX := Lib.hid hx
  have HT := Lib.hid (fun W => refTrim_any m W (by omega))
  have HF := Lib.hid (fun W => refFold_any (trim m) W (by have := trim_le m; omega))
  have hE : (!(ByteArray.mk ⟨trim m⟩).toList.isEmpty) = decide (trim m ≠ []) := by
    cases trim m <;> simp
  have HE := Lib.hid hE
  clear hx hE
  generalize decide (trim m ≠ []) = D at *
  generalize fold (trim m) = F at *
  generalize trim m = T at *
  unfold sv at *
  rw [← HX.out] at HT
  generalize ByteArray.mk ⟨91 :: m ++ [93]⟩ = TT at *
  generalize ByteArray.mk ⟨T⟩ = T1 at *
  generalize ByteArray.mk ⟨F⟩ = F1 at *
  generalize m.length = N at *
  rw [← HE.out]
  go_enter Tryd.func17, Tryd.ntmps17
  go_wp2_with fail
  refine (HT.out _).mono ?_; rintro e w1 ⟨rfl, hw1⟩
  subst hw1
  go_wp2_with fail
  refine (HF.out _).mono ?_; rintro e w2 ⟨rfl, hb2⟩
  have k2 := k0.on (by exact hb2)
  have b2 := Below.on b0 b0.size (by exact hb2)
  obtain ⟨p0, p1, p2, p3⟩ := cells_four k2
  obtain ⟨f0, f1, f2, f3⟩ := frozen_four k2
  go_wp2
  refine bodyPost_blk2 rfl _ rfl (blk_four k2) Tryd.underlying32 rfl Tryd.infoRItem rfl ⟨rfl, ?_⟩
  exact below_four b2 _ (Nat.le_refl _) _ _ _ _

end Go.Proofs.YtglghfbdchcihaaDoor.Inx
