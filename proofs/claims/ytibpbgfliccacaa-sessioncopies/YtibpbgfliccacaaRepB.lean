
/- Contracts: (*replay.Window).rise, Take. -/
import Derived.Test.YtibpbgfliccacaaRepA
import Derived.RegionTactic
import Derived.ChangeAlike
namespace Go.Proofs.Ytibpbgfliccacaa
open Go.RowKit

theorem rise_any (g o : Nat) (ty : TypeId) (pre : List Value) (ws : List Nat) (t n : Nat) (w : World) (hW : Win w g ty pre ws t) (ho : pre.length = o) (hn : n < 18446744073709551616) (ht : t < n) :
    Calls Try.prog 37 #[.pointer (some ⟨g, o, none⟩), .int .u64 (n : Int)] w fun e w' => (∃ v, e = .returned v) ∧ Win w' g ty pre (riseW ws t n) n ∧ w.grownBy w' (some g) := by
  have hc := hW.topc ho
  have HO := Lib.hid ho
  have HW := Lib.hid hW
  clear hW ho
  have hq : 0 ≤ (n : Int) / 64 - (t : Int) / 64 := by omega
  have hnI : (n : Int) < 18446744073709551616 := by omega
  obtain ⟨M, hM1, hM2, hM3⟩ : ∃ M : Nat, M = min (n / 64 - t / 64) 32 ∧ M ≤ 32 ∧ M ≤ n / 64 := ⟨_, rfl, by omega, by omega⟩
  have HR : Hid (riseW ws t n = clearW ws (n / 64) M) := Lib.hid (by rw [hM1]; rfl)
  have hM : (if (32 : Int) < (n : Int) / 64 - (t : Int) / 64 then (32 : Int) else (n : Int) / 64 - (t : Int) / 64) = (M : Int) := by split <;> omega
  have HM1 := Lib.hid hM1
  clear hM1
  go_enter Try.func37, Try.ntmps37
  go_wp2
  go_loopw [5, 16] (fun _ i wr => ∃ k : Nat, k ≤ M ∧ i = .int .u64 (k : Int) ∧ Win wr g ty pre (clearW ws (n / 64) k) t ∧ w.grownBy wr (some g)) (fun _ i _ => M - (intOf i).toNat)
  case atStart => exact ⟨0, Nat.zero_le _, rfl, HW.out, ⟨rfl, rfl, rfl, Nat.le_refl _, fun _ _ _ => rfl⟩⟩
  case round =>
    obtain ⟨k, hk, rfl, hWk, hgk⟩ := hrel
    by_cases hlt : k < M
    · obtain ⟨j, hj⟩ : ∃ j : Nat, ((n : Int) / 64 - (k : Int)) % 32 = (j : Int) := ⟨(n / 64 - k) % 32, by omega⟩
      have hj32 : j < 32 := by omega
      have hk0 : 0 ≤ (n : Int) / 64 - (k : Int) := by omega
      have HJ : Hid ((n / 64 - k) % 32 = j) := Lib.hid (by omega)
      have hcw := hWk.word HO.out j hj32
      have hfr := hWk.frozen (o + j)
      have HP := Lib.hid (hWk.putWord HO.out j 0 hj32)
      have HG := Lib.hid (grownBy_set hgk (o + j) (.int .u64 0))
      clear hWk hgk
      go_wp2
      go_roundw
      case rel => exact ⟨k + 1, by omega, by go_num, by (show Win _ g ty pre ((clearW ws (n / 64) k).set ((n / 64 - k) % 32) 0) t); rw [HJ.out]; exact HP.out, HG.out⟩
      case measure => simp [intOf]; omega
    · obtain rfl : k = M := by omega
      have hct := hWk.topc HO.out
      have hfr := hWk.frozen (o + 32)
      have HP := Lib.hid (hWk.putTop HO.out n)
      have HG := Lib.hid (grownBy_set hgk (o + 32) (.int .u64 (n : Int)))
      clear hWk hgk
      go_wp2
      go_end0
      rw [HR.out]
      exact ⟨⟨_, rfl⟩, HP.out, HG.out⟩

/-- A window at a place in a block, and what it took. -/
def WinL (w : World) (g : Nat) (ty : TypeId) (pre : List Value) (l : List Nat) : Prop := ∃ ws, Rings ws l ∧ Win w g ty pre ws (topOf l)

theorem orW_eq (ws : List Nat) (n : Nat) : orW ws n = ws.set (slotN n) (ws.getD (slotN n) 0 ||| maskN n) := rfl

theorem take_no (g o : Nat) (ty : TypeId) (pre : List Value) (l : List Nat) (n : Nat) (w : World) (hW : WinL w g ty pre l) (ho : pre.length = o) (hn : n < 18446744073709551616) (hc : canB l n = false) :
    Calls Try.prog 16 #[.pointer (some ⟨g, o, none⟩), .int .u64 (n : Int)] w fun e w' => e = .returned (.bool false) ∧ w = w' := by
  obtain ⟨ws, hR, hW⟩ := hW
  have HC := Lib.hid (can_any g o ty pre ws (topOf l) n w hW ho hn hR.top hR.word)
  have hE : canW ws (topOf l) n = false := by rw [← hc]; exact (hR.can n).symm
  rw [hE] at HC
  clear hE hW hR ho hc hn
  go_enter Try.func16, Try.ntmps16
  go_wp2_with (go_at_call 15; refine HC.out.mono ?_; rintro e w' ⟨rfl, rfl⟩)
  go_ret
  exact ⟨rfl, rfl⟩

theorem take_tail (g o : Nat) (ty : TypeId) (pre : List Value) (ws : List Nat) (t n : Nat) (w : World) (hW : Win w g ty pre ws t) (ho : pre.length = o)
    (hws : ∀ i, ws.getD i 0 < 18446744073709551616) :
    ∃ x y : Nat, bits .or .u64 (x : Int) (maskN n : Int) = (y : Int) ∧ w.cell? ⟨g, o + slotN n, none⟩ = some (.int .u64 (x : Int)) ∧ w.frozen? ⟨g, o + slotN n, none⟩ = false ∧
      Win (w.setCell ⟨g, o + slotN n, none⟩ (.int .u64 (y : Int))) g ty pre (orW ws n) t :=
  ⟨_, _, bits_or_u64_nat _ _ (hws (slotN n)) (maskN_lt n), hW.word ho _ (slotN_lt n), hW.frozen _, by rw [orW_eq]; exact hW.putWord ho _ _ (slotN_lt n)⟩

theorem rise_word {ws l : List Nat} (h : Rings ws l) (t n : Nat) (i : Nat) : (riseW ws t n).getD i 0 < 18446744073709551616 := by
  unfold riseW
  rw [clearW_get _ _ h.size]
  split
  · decide
  · exact h.word i
theorem win_drew {w : World} {g : Nat} {ty : TypeId} {pre : List Value} {ws : List Nat} {t : Nat} (h : Win w g ty pre ws t) : Win w.drew g ty pre ws t := h
theorem grownBy_drew {w w1 : World} {r : Option Nat} (h : w.grownBy w1 r) : w.grownBy w1.drew r := ⟨h.os, h.tape, h.output, h.size, h.block⟩

theorem take_yes (g o : Nat) (ty : TypeId) (pre : List Value) (l : List Nat) (n : Nat) (w : World) (hW : WinL w g ty pre l) (ho : pre.length = o) (hn : n < 18446744073709551616) (hc : canB l n = true) :
    Calls Try.prog 16 #[.pointer (some ⟨g, o, none⟩), .int .u64 (n : Int)] w fun e w' => e = .returned (.bool true) ∧ WinL w' g ty pre (l ++ [n]) ∧ w.grownBy w' (some g) := by
  obtain ⟨ws, hR, hW⟩ := hW
  have HC := Lib.hid (can_any g o ty pre ws (topOf l) n w hW ho hn hR.top hR.word)
  have hE : canW ws (topOf l) n = true := by rw [← hc]; exact (hR.can n).symm
  rw [hE] at HC
  have HT := Lib.hid (hR.take n hc)
  have htop := Lib.hid (topOf_snoc l n)
  have hct := hW.topc ho
  have hsl := slotN_lt n
  have htI : (topOf l : Int) < 18446744073709551616 := by have := hR.top; omega
  unfold takeW at HT
  generalize topOf l = t at *
  by_cases ht : t < n
  · have HX := Lib.hid (rise_any g o ty pre ws t n w hW ho hn ht)
    rw [if_pos ht] at HT
    have HB := Lib.hid (rise_word hR t n)
    clear hE hc hR hW
    go_enter Try.func16, Try.ntmps16
    go_wp2_with (go_at_call 15; refine HC.out.mono ?_; rintro e w' ⟨rfl, rfl⟩)
    refine HX.out.mono ?_
    rintro e w1 ⟨⟨v, rfl⟩, hW1, hg1⟩
    obtain ⟨x, y, hor, hcx, hfx, hWy⟩ := take_tail g o ty pre (riseW ws t n) n n w1 hW1 ho HB.out
    have hg2 := grownBy_set hg1 (o + slotN n) (.int .u64 (y : Int))
    have HM : Hid (max t n = n) := Lib.hid (by omega)
    clear hW1 hg1 hct ho
    go_wp2_with (go_at_call 38; refine (place_any n _ hn).mono ?_; rintro e w' ⟨rfl, rfl⟩)
    go_region
    have HX := Lib.hid (win_drew hWy)
    have HG := Lib.hid (grownBy_drew hg2)
    clear hWy hg2
    go_wp2
    go_ret
    refine ⟨rfl, ⟨_, HT.out, ?_⟩, HG.out⟩
    rw [htop.out, HM.out]
    exact HX.out
  · rw [if_neg ht] at HT
    obtain ⟨x, y, hor, hcx, hfx, hWy⟩ := take_tail g o ty pre ws t n w hW ho hR.word
    have hg2 := grownBy_set (w := w) (w1 := w) (g := g) ⟨rfl, rfl, rfl, Nat.le_refl _, fun _ _ _ => rfl⟩ (o + slotN n) (.int .u64 (y : Int))
    have HM : Hid (max t n = t) := Lib.hid (by omega)
    clear hE hc hR hW ho
    go_enter Try.func16, Try.ntmps16
    go_wp2_with (first | (go_at_call 15; refine HC.out.mono ?_; rintro e w' ⟨rfl, rfl⟩) | (go_at_call 38; refine (place_any n _ hn).mono ?_; rintro e w' ⟨rfl, rfl⟩))
    go_region
    have HX := Lib.hid (win_drew hWy)
    have HG := Lib.hid (grownBy_drew hg2)
    clear hWy hg2
    go_wp2
    go_ret
    refine ⟨rfl, ⟨_, HT.out, ?_⟩, HG.out⟩
    rw [htop.out, HM.out]
    exact HX.out

end Go.Proofs.Ytibpbgfliccacaa
