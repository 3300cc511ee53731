
/- Contracts: Parse of pairline and of its reference. -/
import Derived.Test.YtdiibbokdfmcbaaPlnB
namespace Go.Proofs.Ytdiibbokdfmcbaa.Pln
open Go.RowKit Lin
set_option maxRecDepth 100000

theorem Try.infoPair : (Try.prog.info? 27).map (·.size) = some 2 := by kernel_rfl
theorem Try.infoRPair : (Try.prog.info? 30).map (·.size) = some 2 := by kernel_rfl
theorem cut61_no (l : List UInt8) (w : World) (h : (61 : UInt8) ∉ l) : Calls Try.prog 19 #[sv l, .int .u8 61] w fun e w' => e = .returned (.tuple #[sv l, sv [], .bool false]) ∧ w = w' := cut_no l 61 w h
theorem cut61_yes (a b : List UInt8) (w : World) (h : (61 : UInt8) ∉ a) (hn : (a ++ 61 :: b).length ≤ 1000000000) :
    Calls Try.prog 19 #[sv (a ++ 61 :: b), .int .u8 61] w fun e w' => e = .returned (.tuple #[sv a, sv b, .bool true]) ∧ Below w.heap.size w w' := cut_yes a b 61 w h hn
theorem refParts61 (l : List UInt8) (w : World) (hn : l.length ≤ 1000000) :
    Calls Try.prog 20 #[sv l, .int .u8 61] w fun e w' => (∃ v, e = .returned v ∧ OwnS w' w.heap.size v (parts 61 l).length (parts 61 l)) ∧ Below w.heap.size w w' := refParts_any l 61 w hn
/-- The zero pair's cells. -/
def zP : Array Value := #[sv [], sv []]

theorem parse_any (l : List UInt8) (w : World) (hl : l.length ≤ 100000) :
    Calls Try.prog 10 #[sv l] w fun e w' => e = .returned (.tuple #[.agg #[sv (pK l), sv (pV l)], .int .i64 (pE l : Int)]) ∧ Below w.heap.size w w' := by
  have hsz : (ByteArray.mk ⟨l⟩).size = l.length := rfl
  have b0 : Below w.heap.size w (w.alloc (.cells zP 27)) := (Below.refl _ _).alloc (Nat.le_refl _) _
  have k0 : Blk (w.alloc (.cells zP 27)) w.heap.size 27 zP := blk_new _ _ _
  by_cases c0 : 512 < l.length
  · have e1 : pE l = 4 := pE_long l c0
    obtain ⟨e2, e3⟩ := p_bad l (by omega)
    rw [e1, e2, e3]
    clear e1 e2 e3
    rw [← hsz] at c0
    unfold sv at *
    generalize ByteArray.mk ⟨l⟩ = L at *
    go_enter Try.func10, Try.ntmps10
    go_wp2
    refine bodyPost_blk2 rfl _ rfl (blk_new _ _ _) Try.underlying27 rfl Try.infoPair rfl ⟨rfl, ?_⟩
    exact (Below.refl _ _).alloc (Nat.le_refl _) _
  rcases cut_cases 61 l with c1 | ⟨a, b, hl2, c1⟩
  · have e1 : pE l = 5 := pE_no l (by omega) c1
    obtain ⟨e2, e3⟩ := p_bad l (by omega)
    have HC := Lib.hid (fun W => cut61_no l W c1)
    rw [e1, e2, e3]
    clear e1 e2 e3 c1
    rw [← hsz] at c0
    unfold sv at *
    generalize ByteArray.mk ⟨l⟩ = L at *
    go_enter Try.func10, Try.ntmps10
    go_wp2_with fail
    refine (HC.out _).mono ?_; rintro e w1 ⟨rfl, rfl⟩
    go_wp2
    refine bodyPost_blk2 rfl _ rfl (blk_new _ _ _) Try.underlying27 rfl Try.infoPair rfl ⟨rfl, ?_⟩
    exact (Below.refl _ _).alloc (Nat.le_refl _) _
  have HC := Lib.hid (show ∀ W : World, Calls Try.prog 19 #[sv l, .int .u8 61] W fun e w' => e = .returned (.tuple #[sv a, sv b, .bool true]) ∧ Below W.heap.size W w' from by
    rw [hl2]; exact fun W => cut61_yes a b W c1 (by rw [← hl2]; omega))
  have hpc := pE_cut a b c1 (by rw [← hl2]; omega)
  have hp2 := p_cut a b c1
  rw [← hl2] at hpc hp2
  clear hl2
  by_cases c2 : a = []
  · have e1 : pE l = 5 := by rw [hpc, if_pos (.inl c2)]
    obtain ⟨e2, e3⟩ := p_bad l (by omega)
    rw [e1, e2, e3]
    subst c2
    clear e1 e2 e3 c1 hpc hp2
    rw [← hsz] at c0
    unfold sv at *
    generalize ByteArray.mk ⟨l⟩ = L at *
    go_enter Try.func10, Try.ntmps10
    go_wp2_with fail
    refine (HC.out _).mono ?_; rintro e w1 ⟨rfl, hb1⟩
    have k1 := k0.on (by exact hb1)
    have b1 := Below.on b0 b0.size (by exact hb1)
    obtain ⟨p0, p1⟩ := cells_two k1
    obtain ⟨f0, f1⟩ := frozen_two k1
    go_wp2
    refine bodyPost_blk2 rfl _ rfl (blk_two k1) Try.underlying27 rfl Try.infoPair rfl ⟨rfl, ?_⟩
    exact below_two b1 _ (Nat.le_refl _) _ _
  have hae : (ByteArray.mk ⟨a⟩).toList.isEmpty = false := by simp; exact c2
  by_cases c3 : (10 : UInt8) ∈ l
  · have e1 : pE l = 5 := by rw [hpc, if_pos (.inr c3)]
    obtain ⟨e2, e3⟩ := p_bad l (by omega)
    rw [e1, e2, e3]
    have H1 := Lib.hid (has10 l true (by simp [c3]))
    clear e1 e2 e3 c1 hpc hp2 c2 c3
    rw [← hsz] at c0
    unfold sv at *
    generalize ByteArray.mk ⟨l⟩ = L at *
    generalize ByteArray.mk ⟨a⟩ = AA at *
    go_enter Try.func10, Try.ntmps10
    go_wp2_with fail
    refine (HC.out _).mono ?_; rintro e w1 ⟨rfl, hb1⟩
    have k1 := k0.on (by exact hb1)
    have b1 := Below.on b0 b0.size (by exact hb1)
    go_wp2_with fail
    refine (H1.out _).mono ?_; rintro e w2 ⟨rfl, rfl⟩
    obtain ⟨p0, p1⟩ := cells_two k1
    obtain ⟨f0, f1⟩ := frozen_two k1
    go_wp2
    refine bodyPost_blk2 rfl _ rfl (blk_two k1) Try.underlying27 rfl Try.infoPair rfl ⟨rfl, ?_⟩
    exact below_two b1 _ (Nat.le_refl _) _ _
  have e1 : pE l = 0 := by rw [hpc, if_neg (by simp [c2, c3])]
  obtain ⟨e2, e3⟩ := hp2 e1
  rw [e1, e2, e3]
  have H1 := Lib.hid (has10 l false (by simp [c3]))
  clear e1 e2 e3 c1 hpc hp2 c2 c3
  rw [← hsz] at c0
  unfold sv at *
  generalize ByteArray.mk ⟨l⟩ = L at *
  generalize ByteArray.mk ⟨a⟩ = AA at *
  generalize ByteArray.mk ⟨b⟩ = BB at *
  go_enter Try.func10, Try.ntmps10
  go_wp2_with fail
  refine (HC.out _).mono ?_; rintro e w1 ⟨rfl, hb1⟩
  have k1 := k0.on (by exact hb1)
  have b1 := Below.on b0 b0.size (by exact hb1)
  go_wp2_with fail
  refine (H1.out _).mono ?_; rintro e w2 ⟨rfl, rfl⟩
  obtain ⟨p0, p1⟩ := cells_two k1
  obtain ⟨f0, f1⟩ := frozen_two k1
  go_wp2
  refine bodyPost_blk2 rfl _ rfl (blk_two k1) Try.underlying27 rfl Try.infoPair rfl ⟨rfl, ?_⟩
  exact below_two b1 _ (Nat.le_refl _) _ _

theorem refParse_any (l : List UInt8) (w : World) (hl : l.length ≤ 100000) :
    Calls Try.prog 11 #[sv l] w fun e w' => e = .returned (.tuple #[.agg #[sv (pK l), sv (pV l)], .int .i64 (pE l : Int)]) ∧ Below w.heap.size w w' := by
  have hsz : (ByteArray.mk ⟨l⟩).size = l.length := rfl
  have b0 : Below w.heap.size w (w.alloc (.cells zP 30)) := (Below.refl _ _).alloc (Nat.le_refl _) _
  have k0 : Blk (w.alloc (.cells zP 30)) w.heap.size 30 zP := blk_new _ _ _
  by_cases c0 : 512 < l.length
  · have e1 : pE l = 4 := pE_long l c0
    obtain ⟨e2, e3⟩ := p_bad l (by omega)
    rw [e1, e2, e3]
    clear e1 e2 e3
    rw [← hsz] at c0
    unfold sv at *
    generalize ByteArray.mk ⟨l⟩ = L at *
    go_enter Try.func11, Try.ntmps11
    go_wp2
    refine bodyPost_blk2 rfl _ rfl (blk_new _ _ _) Try.underlying30 rfl Try.infoRPair rfl ⟨rfl, ?_⟩
    exact (Below.refl _ _).alloc (Nat.le_refl _) _
  have hpl := parts_len 61 l
  have HP := Lib.hid (fun W => refParts61 l W (by omega))
  rcases cut_cases 61 l with c1 | ⟨a, b, hl2, c1⟩
  · have e1 : pE l = 5 := pE_no l (by omega) c1
    obtain ⟨e2, e3⟩ := p_bad l (by omega)
    have H1 := Lib.hid (fun W => refHas61 l false (by simp [c1]) W (by omega))
    rw [e1, e2, e3]
    rw [parts_no 61 l c1] at HP
    have hle : l = [] ∨ (ByteArray.mk ⟨l⟩).toList.isEmpty = false := by
      rcases Classical.em (l = []) with h | h
      · exact .inl h
      · right; simp; exact h
    clear e1 e2 e3 c1 hpl
    rcases hle with hle | hle
    · subst hle
      go_enter Try.func11, Try.ntmps11
      go_wp2_with fail
      refine (HP.out _).mono ?_; rintro e w1 ⟨⟨v, rfl, ho⟩, hb1⟩
      obtain ⟨A1, c1, rfl, h11, h12, s1⟩ := ho.sh
      obtain ⟨bb, off, y, rfl, hbb, hcell, hy⟩ := s1.elem (k := 0) (by simp)
      obtain rfl : y = [] := by simpa using hy.symm
      rw [Nat.add_zero] at hcell
      have k1 := k0.on (by exact hb1)
      have b1 := Below.on b0 b0.size (by exact hb1)
      clear ho s1 hy
      obtain ⟨p0, p1⟩ := cells_two k1
      obtain ⟨f0, f1⟩ := frozen_two k1
      go_wp2
      refine bodyPost_blk2 rfl _ rfl (blk_two k1) Try.underlying30 rfl Try.infoRPair rfl ⟨rfl, ?_⟩
      exact below_two b1 _ (Nat.le_refl _) _ _
    · rw [← hsz] at c0
      unfold sv at *
      generalize hL : ByteArray.mk ⟨l⟩ = L at *
      go_enter Try.func11, Try.ntmps11
      go_wp2_with fail
      refine (HP.out _).mono ?_; rintro e w1 ⟨⟨v, rfl, ho⟩, hb1⟩
      obtain ⟨A1, c1, rfl, h11, h12, s1⟩ := ho.sh
      obtain ⟨bb, off, y, rfl, hbb, hcell, hy⟩ := s1.elem (k := 0) (by simp)
      obtain rfl : y = l := by simpa using hy.symm
      rw [Nat.add_zero] at hcell
      have hcell' : w1.cell? ⟨bb, off, none⟩ = some (.string L) := by rw [← hL]; exact hcell
      have k1 := k0.on (by exact hb1)
      have b1 := Below.on b0 b0.size (by exact hb1)
      clear ho s1 hy hcell
      go_wp2_with fail
      refine (H1.out _).mono ?_; rintro e w2 ⟨rfl, hb2⟩
      have k2 := k1.on hb2
      have b2 := Below.on b1 b1.size hb2
      obtain ⟨p0, p1⟩ := cells_two k2
      obtain ⟨f0, f1⟩ := frozen_two k2
      go_wp2
      refine bodyPost_blk2 rfl _ rfl (blk_two k2) Try.underlying30 rfl Try.infoRPair rfl ⟨rfl, ?_⟩
      exact below_two b2 _ (Nat.le_refl _) _ _
  have H1 := Lib.hid (fun W => refHas61 l true (by rw [hl2]; simp) W (by omega))
  obtain ⟨ph, pr, hpb⟩ := parts_ne 61 b
  have hN2 : (parts 61 b).length ≤ 100001 := by have := parts_len 61 b; have : b.length ≤ l.length := by rw [hl2]; simp; omega
                                                omega
  have hpy : parts 61 l = a :: parts 61 b := by rw [hl2]; exact parts_yes 61 a b c1
  rw [hpy] at HP
  simp only [List.length_cons] at HP
  have hpc := pE_cut a b c1 (by rw [← hl2]; omega)
  have hp2 := p_cut a b c1
  rw [← hl2] at hpc hp2
  have hxt : (ByteArray.mk ⟨l⟩).extract (a.length + 1) l.length = ⟨⟨b⟩⟩ := by
    have e : List.take l.length l = l := List.take_of_length_le (Nat.le_refl _)
    rw [text_cut, e, hl2, show a ++ 61 :: b = (a ++ [61]) ++ b by simp, show a.length + 1 = (a ++ [61]).length by simp, List.drop_left]
  have hal : a.length + 1 ≤ (ByteArray.mk ⟨l⟩).size := by rw [hsz, hl2]; simp
  have has : (ByteArray.mk ⟨a⟩).size = a.length := rfl
  clear hpl hpb hpy hl2
  by_cases c2 : a = []
  · have e1 : pE l = 5 := by rw [hpc, if_pos (.inl c2)]
    obtain ⟨e2, e3⟩ := p_bad l (by omega)
    rw [e1, e2, e3]
    subst c2
    clear e1 e2 e3 c1 hpc hp2
    rw [← hsz] at c0
    unfold sv at *
    generalize ByteArray.mk ⟨l⟩ = L at *
    generalize parts 61 b = PB at *
    generalize hN : PB.length = N at *
    go_enter Try.func11, Try.ntmps11
    go_wp2_with fail
    refine (HP.out _).mono ?_; rintro e w1 ⟨⟨v, rfl, ho⟩, hb1⟩
    obtain ⟨A1, c1, rfl, h11, h12, s1⟩ := ho.sh
    obtain ⟨bb, off, y, rfl, hbb, hcell, hy⟩ := s1.elem (k := 0) (by omega)
    obtain rfl : y = [] := by simpa using hy.symm
    rw [Nat.add_zero] at hcell
    have k1 := k0.on (by exact hb1)
    have b1 := Below.on b0 b0.size (by exact hb1)
    clear ho s1 hy
    obtain ⟨p0, p1⟩ := cells_two k1
    obtain ⟨f0, f1⟩ := frozen_two k1
    go_wp2
    refine bodyPost_blk2 rfl _ rfl (blk_two k1) Try.underlying30 rfl Try.infoRPair rfl ⟨rfl, ?_⟩
    exact below_two b1 _ (Nat.le_refl _) _ _
  have hae : (ByteArray.mk ⟨a⟩).toList.isEmpty = false := by simp; exact c2
  by_cases c3 : (10 : UInt8) ∈ l
  · have e1 : pE l = 5 := by rw [hpc, if_pos (.inr c3)]
    obtain ⟨e2, e3⟩ := p_bad l (by omega)
    rw [e1, e2, e3]
    have H2 := Lib.hid (fun W => refHas10 l true (by simp [c3]) W (by omega))
    clear e1 e2 e3 c1 hpc hp2 c2 c3
    rw [← hsz] at c0
    unfold sv at *
    generalize ByteArray.mk ⟨l⟩ = L at *
    generalize hA : ByteArray.mk ⟨a⟩ = AA at *
    generalize hB : ByteArray.mk ⟨b⟩ = BB at *
    generalize parts 61 b = PB at *
    generalize hN : PB.length = N at *
    go_enter Try.func11, Try.ntmps11
    go_wp2_with fail
    refine (HP.out _).mono ?_; rintro e w1 ⟨⟨v, rfl, ho⟩, hb1⟩
    obtain ⟨A1, c1, rfl, h11, h12, s1⟩ := ho.sh
    obtain ⟨bb, off, y, rfl, hbb, hcell, hy⟩ := s1.elem (k := 0) (by omega)
    obtain rfl : y = a := by simpa using hy.symm
    rw [Nat.add_zero] at hcell
    have hcell' : w1.cell? ⟨bb, off, none⟩ = some (.string AA) := by rw [← hA]; exact hcell
    have k1 := k0.on (by exact hb1)
    have b1 := Below.on b0 b0.size (by exact hb1)
    clear ho s1 hy hcell
    go_wp2_with fail
    refine (H1.out _).mono ?_; rintro e w2 ⟨rfl, hb2⟩
    have k2 := k1.on hb2
    have b2 := Below.on b1 b1.size hb2
    go_wp2_with fail
    refine (H2.out _).mono ?_; rintro e w3 ⟨rfl, hb3⟩
    have k3 := k2.on hb3
    have b3 := Below.on b2 b2.size hb3
    obtain ⟨p0, p1⟩ := cells_two k3
    obtain ⟨f0, f1⟩ := frozen_two k3
    go_wp2
    refine bodyPost_blk2 rfl _ rfl (blk_two k3) Try.underlying30 rfl Try.infoRPair rfl ⟨rfl, ?_⟩
    exact below_two b3 _ (Nat.le_refl _) _ _
  · have e1 : pE l = 0 := by rw [hpc, if_neg (by simp [c2, c3])]
    obtain ⟨e2, e3⟩ := hp2 e1
    rw [e1, e2, e3]
    have H2 := Lib.hid (fun W => refHas10 l false (by simp [c3]) W (by omega))
    clear e1 e2 e3 c1 hpc hp2 c2 c3
    rw [← hsz] at c0
    unfold sv at *
    generalize ByteArray.mk ⟨l⟩ = L at *
    generalize hA : ByteArray.mk ⟨a⟩ = AA at *
    generalize hB : ByteArray.mk ⟨b⟩ = BB at *
    generalize parts 61 b = PB at *
    generalize hN : PB.length = N at *
    go_enter Try.func11, Try.ntmps11
    go_wp2_with fail
    refine (HP.out _).mono ?_; rintro e w1 ⟨⟨v, rfl, ho⟩, hb1⟩
    obtain ⟨A1, c1, rfl, h11, h12, s1⟩ := ho.sh
    obtain ⟨bb, off, y, rfl, hbb, hcell, hy⟩ := s1.elem (k := 0) (by omega)
    obtain rfl : y = a := by simpa using hy.symm
    rw [Nat.add_zero] at hcell
    have hcell' : w1.cell? ⟨bb, off, none⟩ = some (.string AA) := by rw [← hA]; exact hcell
    have k1 := k0.on (by exact hb1)
    have b1 := Below.on b0 b0.size (by exact hb1)
    clear ho s1 hy hcell
    go_wp2_with fail
    refine (H1.out _).mono ?_; rintro e w2 ⟨rfl, hb2⟩
    have k2 := k1.on hb2
    have b2 := Below.on b1 b1.size hb2
    go_wp2_with fail
    refine (H2.out _).mono ?_; rintro e w3 ⟨rfl, hb3⟩
    have k3 := k2.on hb3
    have b3 := Below.on b2 b2.size hb3
    obtain ⟨p0, p1⟩ := cells_two k3
    obtain ⟨f0, f1⟩ := frozen_two k3
    go_wp2
    refine bodyPost_blk2 rfl _ rfl (blk_two k3) Try.underlying30 rfl Try.infoRPair rfl ⟨rfl, ?_⟩
    exact below_two b3 _ (Nat.le_refl _) _ _

end Go.Proofs.Ytdiibbokdfmcbaa.Pln
