
/- Contract: inilex.read. -/
import Derived.Test.YtglghfbdchcihaaDoorInxC
namespace Go.Proofs.YtglghfbdchcihaaDoor.Inx
open Go.RowKit Lin
set_option maxRecDepth 100000

theorem cut35_no (l : List UInt8) (w : World) (h : (35 : UInt8) ∉ l) : Calls Tryd.prog 24 #[sv l, .int .u8 35] w fun e w' => e = .returned (.tuple #[sv l, sv [], .bool false]) ∧ w = w' := cut_no l 35 w h
theorem cut35_yes (a b : List UInt8) (w : World) (h : (35 : UInt8) ∉ a) (hn : (a ++ 35 :: b).length ≤ 1000000000) :
    Calls Tryd.prog 24 #[sv (a ++ 35 :: b), .int .u8 35] w fun e w' => e = .returned (.tuple #[sv a, sv b, .bool true]) ∧ Below w.heap.size w w' := cut_yes a b 35 w h hn
theorem cut35_any (l : List UInt8) (hn : l.length ≤ 100000) : ∃ (b : List UInt8) (m : Bool), ∀ W : World, Calls Tryd.prog 24 #[sv l, .int .u8 35] W fun e w' => e = .returned (.tuple #[sv (ahead 35 l), sv b, .bool m]) ∧ Below W.heap.size W w' := by
  rcases cut_cases 35 l with g | ⟨a, b, rfl, g⟩
  · refine ⟨[], false, fun W => ?_⟩
    rw [(ahead_no 35 l g).1]
    exact (cut35_no l W g).mono fun _ _ ⟨he, hw⟩ => ⟨he, hw ▸ Below.refl _ _⟩
  · refine ⟨b, true, fun W => ?_⟩
    rw [(ahead_yes 35 a b g).1]
    exact cut35_yes a b W g (by omega)

/-- What is told of a line: nothing, if it says nothing, or if that is wrong. -/
def lS (l : List UInt8) : Bool := if lineE l = 0 ∧ saidL l ≠ [] then isSec (saidL l) else false
def lN (l : List UInt8) : List UInt8 := if lineE l = 0 ∧ saidL l ≠ [] then oneN (saidL l) else []
def lV (l : List UInt8) : List UInt8 := if lineE l = 0 ∧ saidL l ≠ [] then oneV (saidL l) else []

theorem l_none (l : List UInt8) (h : ¬ (lineE l = 0 ∧ saidL l ≠ [])) : lS l = false ∧ lN l = [] ∧ lV l = [] := by
  refine ⟨if_neg h, if_neg h, if_neg h⟩
theorem l_long (l : List UInt8) (h : 512 < l.length) : lineE l = 4 ∧ lS l = false ∧ lN l = [] ∧ lV l = [] := by
  have e : lineE l = 4 := by rw [lineE, if_pos h]
  exact ⟨e, l_none l (by rw [e]; simp)⟩
theorem l_void (l : List UInt8) (h : l.length ≤ 512) (h' : saidL l = []) : lineE l = 0 ∧ lS l = false ∧ lN l = [] ∧ lV l = [] := by
  have e : lineE l = 0 := by rw [lineE, if_neg (by omega), if_pos h']
  exact ⟨e, l_none l (by rw [h']; simp)⟩
theorem l_said (l : List UInt8) (h : l.length ≤ 512) (h' : saidL l ≠ []) : lineE l = oneE (saidL l) ∧ lS l = oS (saidL l) ∧ lN l = oN (saidL l) ∧ lV l = oV (saidL l) := by
  have e : lineE l = oneE (saidL l) := by rw [lineE, if_neg (by omega), if_neg h']
  refine ⟨e, ?_⟩
  by_cases h0 : oneE (saidL l) = 0
  · obtain ⟨a, b, c⟩ := o_ok _ h0
    rw [a, b, c]
    exact ⟨if_pos ⟨by rw [e, h0], h'⟩, if_pos ⟨by rw [e, h0], h'⟩, if_pos ⟨by rw [e, h0], h'⟩⟩
  · obtain ⟨a, b, c⟩ := o_bad _ h0
    rw [a, b, c]
    exact l_none l (by rw [e]; exact fun g => h0 g.1)

theorem read_any (l : List UInt8) (w : World) (hl : l.length ≤ 100000) :
    Calls Tryd.prog 14 #[sv l] w fun e w' => e = .returned (.tuple #[.agg #[.bool (lS l), sv (lN l), sv (lV l), .int .i64 0], .int .i64 (lineE l : Int)]) ∧ Below w.heap.size w w' := by
  have hsz : (ByteArray.mk ⟨l⟩).size = l.length := rfl
  have b0 : Below w.heap.size w (w.alloc (.cells zI 31)) := (Below.refl _ _).alloc (Nat.le_refl _) _
  have k0 : Blk (w.alloc (.cells zI 31)) w.heap.size 31 zI := blk_new _ _ _
  by_cases c0 : 512 < l.length
  · obtain ⟨e0, e1, e2, e3⟩ := l_long l c0
    rw [e0, e1, e2, e3]
    clear e0 e1 e2 e3
    rw [← hsz] at c0
    unfold sv at *
    generalize ByteArray.mk ⟨l⟩ = L at *
    obtain ⟨p0, p1, p2, p3⟩ := cells_four k0
    obtain ⟨f0, f1, f2, f3⟩ := frozen_four k0
    go_enter Tryd.func14, Tryd.ntmps14
    go_wp2
    refine bodyPost_blk2 rfl _ rfl (blk_new _ _ _) Tryd.underlying31 rfl Tryd.infoItem rfl ⟨rfl, ?_⟩
    exact (Below.refl _ _).alloc (Nat.le_refl _) _
  obtain ⟨bb, mm, hc⟩ := cut35_any l hl
  have HC := Lib.hid hc
  have hal := ahead_le 35 l
  have HT := Lib.hid (fun W => trim_any (ahead 35 l) W (by omega))
  have hsl := said_le l
  clear hc hal
  by_cases c1 : saidL l = []
  · obtain ⟨e0, e1, e2, e3⟩ := l_void l (by omega) c1
    rw [e0, e1, e2, e3]
    rw [show trim (ahead 35 l) = [] from c1] at HT
    clear e0 e1 e2 e3 c1
    rw [← hsz] at c0
    generalize ahead 35 l = AH at *
    unfold sv at *
    generalize ByteArray.mk ⟨l⟩ = L at *
    generalize ByteArray.mk ⟨AH⟩ = A1 at *
    generalize ByteArray.mk ⟨bb⟩ = B1 at *
    go_enter Tryd.func14, Tryd.ntmps14
    go_wp2_with fail
    refine (HC.out _).mono ?_; rintro e w1 ⟨rfl, hb1⟩
    have k1 := k0.on (by exact hb1)
    have b1 := Below.on b0 b0.size (by exact hb1)
    go_wp2_with fail
    refine (HT.out _).mono ?_; rintro e w2 ⟨rfl, hb2⟩
    have k2 := k1.on (by exact hb2)
    have b2 := Below.on b1 b1.size (by exact hb2)
    obtain ⟨p0, p1, p2, p3⟩ := cells_four k2
    obtain ⟨f0, f1, f2, f3⟩ := frozen_four k2
    go_wp2
    refine bodyPost_blk2 rfl _ rfl (blk_four k2) Tryd.underlying31 rfl Tryd.infoItem rfl ⟨rfl, ?_⟩
    exact below_four b2 _ (Nat.le_refl _) _ _ _ _
  obtain ⟨e0, e1, e2, e3⟩ := l_said l (by omega) c1
  rw [e0, e1, e2, e3]
  rw [show trim (ahead 35 l) = saidL l from rfl] at HT
  clear e0 e1 e2 e3
  have hae : (ByteArray.mk ⟨saidL l⟩).toList.isEmpty = false := by simp; exact c1
  have ht : (saidL l).length ≤ 100000 := by omega
  generalize saidL l = t at *
  rw [← hsz] at c0
  generalize ahead 35 l = AH at *
  obtain ⟨c, r, rfl⟩ : ∃ c r, t = c :: r := by cases t with
    | nil => exact absurd rfl c1
    | cons c r => exact ⟨c, r, rfl⟩
  clear c1 hsl
  have hts : (ByteArray.mk ⟨c :: r⟩).size = r.length + 1 := rfl
  have h1 : (1 : Int) ≤ (r.length : Int) + 1 := by omega
  have hlt : 0 < (ByteArray.mk ⟨c :: r⟩).size := by rw [hts]; omega
  have hat : ∀ h : 0 < (ByteArray.mk ⟨c :: r⟩).size, (ByteArray.mk ⟨c :: r⟩)[0]'h = c := Lin.byte_at ⟨⟨c :: r⟩⟩ 0 c rfl
  cases hs : isSec (c :: r) with
  | true =>
    have hc91 : ((c.toNat : Int) == 91) = true := by
      have : c = 91 := by simpa [isSec] using hs
      subst this; rfl
    have hx : (ByteArray.mk ⟨c :: r⟩).extract 1 (r.length + 1) = ⟨⟨r⟩⟩ := by
      rw [text_cut, List.take_of_length_le (by simp)]
      rfl
    have HS := Lib.hid (fun W => section_any (c :: r) W ht hs)
    rw [show (c :: r).drop 1 = r from rfl] at HS
    have HX := Lib.hid hx
    clear hx hs ht
    generalize oneE (c :: r) = E at *
    generalize oS (c :: r) = S at *
    generalize oN (c :: r) = N at *
    generalize oV (c :: r) = V at *
    unfold sv at *
    rw [← HX.out] at HS
    generalize ByteArray.mk ⟨l⟩ = L at *
    generalize ByteArray.mk ⟨AH⟩ = A1 at *
    generalize ByteArray.mk ⟨bb⟩ = B1 at *
    generalize ByteArray.mk ⟨c :: r⟩ = TT at *
    generalize ByteArray.mk ⟨N⟩ = NN at *
    generalize ByteArray.mk ⟨V⟩ = VV at *
    go_enter Tryd.func14, Tryd.ntmps14
    go_wp2_with fail
    refine (HC.out _).mono ?_; rintro e w1 ⟨rfl, hb1⟩
    have k1 := k0.on (by exact hb1)
    have b1 := Below.on b0 b0.size (by exact hb1)
    go_wp2_with fail
    refine (HT.out _).mono ?_; rintro e w2 ⟨rfl, hb2⟩
    have k2 := k1.on (by exact hb2)
    have b2 := Below.on b1 b1.size (by exact hb2)
    go_wp2_with fail
    refine (HS.out _).mono ?_; rintro e w3 ⟨rfl, hb3⟩
    have k3 := k2.on (by exact hb3)
    have b3 := Below.on b2 b2.size (by exact hb3)
    obtain ⟨p0, p1, p2, p3⟩ := cells_four k3
    obtain ⟨f0, f1, f2, f3⟩ := frozen_four k3
    go_wp2
    refine bodyPost_blk2 rfl _ rfl (blk_four k3) Tryd.underlying31 rfl Tryd.infoItem rfl ⟨rfl, ?_⟩
    exact below_four b3 _ (Nat.le_refl _) _ _ _ _
  | false =>
    have hc91 : ((c.toNat : Int) == 91) = false := byte_ne (c := 91) (by simpa [isSec] using hs)
    have HS := Lib.hid (fun W => pair_any (c :: r) W ht hs)
    clear hs ht
    generalize oneE (c :: r) = E at *
    generalize oS (c :: r) = S at *
    generalize oN (c :: r) = N at *
    generalize oV (c :: r) = V at *
    unfold sv at *
    generalize ByteArray.mk ⟨l⟩ = L at *
    generalize ByteArray.mk ⟨AH⟩ = A1 at *
    generalize ByteArray.mk ⟨bb⟩ = B1 at *
    generalize ByteArray.mk ⟨c :: r⟩ = TT at *
    generalize ByteArray.mk ⟨N⟩ = NN at *
    generalize ByteArray.mk ⟨V⟩ = VV at *
    go_enter Tryd.func14, Tryd.ntmps14
    go_wp2_with fail
    refine (HC.out _).mono ?_; rintro e w1 ⟨rfl, hb1⟩
    have k1 := k0.on (by exact hb1)
    have b1 := Below.on b0 b0.size (by exact hb1)
    go_wp2_with fail
    refine (HT.out _).mono ?_; rintro e w2 ⟨rfl, hb2⟩
    have k2 := k1.on (by exact hb2)
    have b2 := Below.on b1 b1.size (by exact hb2)
    go_wp2_with fail
    refine (HS.out _).mono ?_; rintro e w3 ⟨rfl, hb3⟩
    have k3 := k2.on (by exact hb3)
    have b3 := Below.on b2 b2.size (by exact hb3)
    obtain ⟨p0, p1, p2, p3⟩ := cells_four k3
    obtain ⟨f0, f1, f2, f3⟩ := frozen_four k3
    go_wp2
    refine bodyPost_blk2 rfl _ rfl (blk_four k3) Tryd.underlying31 rfl Tryd.infoItem rfl ⟨rfl, ?_⟩
    exact below_four b3 _ (Nat.le_refl _) _ _ _ _

end Go.Proofs.YtglghfbdchcihaaDoor.Inx
