
/- Contracts: replay.place, (*replay.Window).taken, Can, rise, Take, Top, Some. -/
import Derived.Test.YtibpbgfliccacaaArrA
import Derived.Test.YtibpbgfliccacaaRepN
import Derived.Laws.Bits64b
import Derived.Laws.ShiftsVarLaws
namespace Go.Proofs.Ytibpbgfliccacaa
open Go.RowKit

/-- A number of 64 bits as a cell. -/
abbrev u6 (n : Nat) : Value := .int .u64 (n : Int)

/-- A block in which, behind other cells, a window lies. -/
def Win (w : World) (g : Nat) (ty : TypeId) (pre : List Value) (ws : List Nat) (t : Nat) : Prop :=
  Blk w g ty (pre ++ (ws.map u6 ++ [u6 t])).toArray ∧ ws.length = 32

section
variable {w w' : World} {g o : Nat} {ty : TypeId} {pre : List Value} {ws : List Nat} {t : Nat}
theorem Win.lt (h : Win w g ty pre ws t) : g < w.heap.size := h.1.lt
theorem Win.on (h : Win w g ty pre ws t) (hb : Below w.heap.size w w') : Win w' g ty pre ws t := ⟨h.1.on hb, h.2⟩
theorem Win.word (h : Win w g ty pre ws t) (ho : pre.length = o) (i : Nat) (hi : i < 32) : w.cell? ⟨g, o + i, none⟩ = some (.int .u64 ((ws.getD i 0 : Nat) : Int)) := by
  obtain ⟨h1, h2⟩ := h
  rw [cell_of_row w g _ _ _ _ h1]
  subst ho
  rw [List.getElem?_toArray, List.getElem?_append_right (by omega), Nat.add_sub_cancel_left, List.getElem?_append_left (by simp; omega)]
  simp [List.getD_eq_getElem?_getD, h2, hi]
theorem Win.topc (h : Win w g ty pre ws t) (ho : pre.length = o) : w.cell? ⟨g, o + 32, none⟩ = some (.int .u64 (t : Int)) := by
  obtain ⟨h1, h2⟩ := h
  rw [cell_of_row w g _ _ _ _ h1]
  subst ho
  rw [List.getElem?_toArray, List.getElem?_append_right (by omega), Nat.add_sub_cancel_left, List.getElem?_append_right (by simp; omega)]
  simp [h2]
theorem Win.frozen (h : Win w g ty pre ws t) (j : Nat) : w.frozen? ⟨g, j, none⟩ = false := frozen_of_row w g j _ ty h.1
theorem Win.putWord (h : Win w g ty pre ws t) (ho : pre.length = o) (i v : Nat) (hi : i < 32) : Win (w.setCell ⟨g, o + i, none⟩ (u6 v)) g ty pre (ws.set i v) t := by
  obtain ⟨h1, h2⟩ := h
  refine ⟨?_, by simp [h2]⟩
  have := h1.setCell (o + i) (u6 v)
  rw [List.setIfInBounds_toArray] at this
  subst ho
  rw [List.set_append_right _ _ (by omega), Nat.add_sub_cancel_left, List.set_append_left _ _ (by simp; omega)] at this
  rw [List.map_set]
  exact this
theorem Win.putTop (h : Win w g ty pre ws t) (ho : pre.length = o) (v : Nat) : Win (w.setCell ⟨g, o + 32, none⟩ (u6 v)) g ty pre ws v := by
  obtain ⟨h1, h2⟩ := h
  refine ⟨?_, h2⟩
  have := h1.setCell (o + 32) (u6 v)
  rw [List.setIfInBounds_toArray] at this
  subst ho
  rw [List.set_append_right _ _ (by omega), Nat.add_sub_cancel_left, List.set_append_right _ _ (by simp; omega)] at this
  simpa [h2] using this
end

theorem grownBy_set {w w1 : World} {g : Nat} (h : w.grownBy w1 (some g)) (j : Nat) (v : Value) : w.grownBy (w1.setCell ⟨g, j, none⟩ v) (some g) := by
  refine ⟨h.os, h.tape, h.output, by simpa [World.setCell] using h.size, fun k hk hne => ?_⟩
  rw [← h.block k hk hne]
  simp only [World.setCell, Array.getElem?_modify]
  rw [if_neg (fun e => hne (by rw [e]))]

/-- The word in which a number's bit stands, and that bit alone. -/
def slotN (n : Nat) : Nat := n / 64 % 32
def maskN (n : Nat) : Nat := 2 ^ (n % 64)
theorem slotN_lt (n : Nat) : slotN n < 32 := Nat.mod_lt _ (by decide)
theorem maskN_lt (n : Nat) : maskN n < 18446744073709551616 := by
  unfold maskN
  have : 2 ^ (n % 64) < 2 ^ 64 := Nat.pow_lt_pow_right (by decide) (by omega)
  exact this
theorem and_63 (x : Nat) (h : x < 18446744073709551616) : bits BinOp.and IntKind.u64 (x : Int) 63 = ((x % 64 : Nat) : Int) := by
  rw [show (63 : Int) = ((63 : Nat) : Int) from rfl, u64_and_nat _ _ (by omega) (by omega)]
  have := Nat.and_two_pow_sub_one_eq_mod x 6
  rw [show (63 : Nat) = 2 ^ 6 - 1 from rfl, this]
theorem wrap_mask (n : Nat) : IntKind.u64.wrap (2 ^ (n % 64)) = (maskN n : Int) := by
  have h1 := maskN_lt n
  have h2 : ((2 : Int) ^ (n % 64)) = (maskN n : Int) := by unfold maskN; simp
  rw [h2, IntKind.wrap_u64]
  omega

theorem place_any (n : Nat) (w : World) (h : n < 18446744073709551616) :
    Calls Try.prog 38 #[.int .u64 (n : Int)] w fun e w' => e = .returned (.tuple #[.int .i64 (slotN n : Int), .int .u64 (maskN n : Int)]) ∧ w = w' := by
  have hb := and_63 n h
  have hs := wrap_mask n
  have h0 : (slotN n : Int) = (n : Int) / 64 % 32 := by unfold slotN; omega
  rw [h0]
  clear h0
  go_enter Try.func38, Try.ntmps38
  go_wp2
  go_ret2
  exact ⟨by rw [← hs]; rfl, rfl⟩

/-- A number's bit alone, out of its word. -/
def andN (ws : List Nat) (n : Nat) : Nat := ws.getD (slotN n) 0 &&& maskN n
theorem bitB_and (ws : List Nat) (n : Nat) : bitB ws n = !decide (andN ws n = 0) := by
  unfold bitB andN slotN maskN
  have := and_bit (ws.getD (n / 64 % 32) 0) (n % 64)
  generalize ws.getD (n / 64 % 32) 0 = x at *
  cases h : x.testBit (n % 64)
  · simp [this.2 h]
  · have : ¬ (x &&& 2 ^ (n % 64) = 0) := fun e => by rw [this.1 e] at h; cases h
    simp [this]

theorem taken_any (g o : Nat) (ty : TypeId) (pre : List Value) (ws : List Nat) (t n : Nat) (w : World) (hW : Win w g ty pre ws t) (ho : pre.length = o) (hn : n < 18446744073709551616)
    (hws : ∀ i, ws.getD i 0 < 18446744073709551616) :
    Calls Try.prog 36 #[.pointer (some ⟨g, o, none⟩), .int .u64 (n : Int)] w fun e w' => e = .returned (.bool (bitB ws n)) ∧ w = w' := by
  have hc := hW.word ho (slotN n) (slotN_lt n)
  have hl := slotN_lt n
  have ha : bits .and .u64 ((ws.getD (slotN n) 0 : Nat) : Int) (maskN n : Int) = (andN ws n : Int) := bits_and_u64_nat _ _ (hws _) (maskN_lt n)
  generalize ws.getD (slotN n) 0 = x at hc ha
  rw [bitB_and]
  clear hws hW ho
  cases hd : decide (andN ws n = 0)
  · have h0 : decide ((andN ws n : Int) = 0) = false := by simpa using hd
    go_enter Try.func36, Try.ntmps36
    go_wp2_with (go_at_call 38; refine (place_any n _ hn).mono ?_; rintro e w' ⟨rfl, rfl⟩)
    go_ret
    exact ⟨by simpa using hd, rfl⟩
  · have h0 : decide ((andN ws n : Int) = 0) = true := by simpa using hd
    go_enter Try.func36, Try.ntmps36
    go_wp2_with (go_at_call 38; refine (place_any n _ hn).mono ?_; rintro e w' ⟨rfl, rfl⟩)
    go_ret
    exact ⟨by simpa using hd, rfl⟩

/-- What a window says of a number. -/
def canW (ws : List Nat) (t n : Nat) : Bool := decide (n < 18446744073709543423) && (decide (t < n) || (decide (t - n ≤ 1984) && !bitB ws n))

theorem can_any (g o : Nat) (ty : TypeId) (pre : List Value) (ws : List Nat) (t n : Nat) (w : World) (hW : Win w g ty pre ws t) (ho : pre.length = o) (hn : n < 18446744073709551616) (ht : t < 18446744073709543423)
    (hws : ∀ i, ws.getD i 0 < 18446744073709551616) :
    Calls Try.prog 15 #[.pointer (some ⟨g, o, none⟩), .int .u64 (n : Int)] w fun e w' => e = .returned (.bool (canW ws t n)) ∧ w = w' := by
  have HT := Lib.hid (fun W (h : Win W g ty pre ws t) => taken_any g o ty pre ws t n W h ho hn hws)
  have hc := hW.topc ho
  have HW := Lib.hid hW
  clear hW hws ho
  have hnI : (n : Int) < 18446744073709551616 := by omega
  have htI : (t : Int) < 18446744073709551616 := by omega
  have HC : Hid (canW ws t n = (decide (n < 18446744073709543423) && (decide (t < n) || (decide (t - n ≤ 1984) && !bitB ws n)))) := Lib.hid rfl
  generalize canW ws t n = c at *
  by_cases hL : n < 18446744073709543423
  · have hLB : decide ((18446744073709543423 : Int) ≤ (n : Int)) = false := by simp; omega
    have HL : Hid (decide (n < 18446744073709543423) = true) := Lib.hid (by simp [hL])
    clear hL hn ht
    by_cases h1 : t < n
    · have HR : Hid (c = true) := Lib.hid (by rw [HC.out, HL.out]; simp [h1])
      clear HC
      go_enter Try.func15, Try.ntmps15
      go_wp2
      go_ret
      exact ⟨by rw [HR.out]; rfl, rfl⟩
    · by_cases h2 : t - n ≤ 1984
      · have h3 : (t : Int) - (n : Int) ≤ 1984 := by omega
        have HR : Hid (c = !bitB ws n) := Lib.hid (by rw [HC.out, HL.out]; simp [h1, h2])
        clear HC
        generalize bitB ws n = b at *
        go_enter Try.func15, Try.ntmps15
        go_wp2_with (go_at_call 36; refine (HT.out _ HW.out).mono ?_; rintro e w' ⟨rfl, rfl⟩)
        go_ret
        exact ⟨by rw [HR.out]; rfl, rfl⟩
      · have h3 : ¬ (t : Int) - (n : Int) ≤ 1984 := by omega
        have HR : Hid (c = false) := Lib.hid (by rw [HC.out, HL.out]; simp [h1, h2])
        clear HC
        go_enter Try.func15, Try.ntmps15
        go_wp2
        go_ret
        exact ⟨by rw [HR.out]; rfl, rfl⟩
  · have hLB : decide ((18446744073709543423 : Int) ≤ (n : Int)) = true := by simp; omega
    have HR : Hid (c = false) := Lib.hid (by rw [HC.out]; simp [hL])
    clear HC hL hn ht
    go_enter Try.func15, Try.ntmps15
    go_wp2
    go_ret
    exact ⟨by rw [HR.out]; rfl, rfl⟩
theorem can_nil (n : Int) (w : World) :
    Calls Try.prog 15 #[.pointer none, .int .u64 n] w fun e w' => e = .returned (.bool false) ∧ w = w' := by
  go_enter Try.func15, Try.ntmps15
  go_wp2
  go_ret
  exact ⟨rfl, rfl⟩
theorem take_nil (n : Int) (w : World) :
    Calls Try.prog 16 #[.pointer none, .int .u64 n] w fun e w' => e = .returned (.bool false) ∧ w = w' := by
  go_enter Try.func16, Try.ntmps16
  go_wp2_with (go_at_call 15; refine (can_nil _ _).mono ?_; rintro e w' ⟨rfl, rfl⟩)
  go_ret
  exact ⟨rfl, rfl⟩
theorem top_nil (w : World) :
    Calls Try.prog 17 #[.pointer none] w fun e w' => e = .returned (.int .u64 0) ∧ w = w' := by
  go_enter Try.func17, Try.ntmps17
  go_wp2
  go_ret
  exact ⟨rfl, rfl⟩
theorem some_nil (w : World) :
    Calls Try.prog 19 #[.pointer none] w fun e w' => e = .returned (.bool false) ∧ w = w' := by
  go_enter Try.func19, Try.ntmps19
  go_wp2
  go_ret
  exact ⟨rfl, rfl⟩
theorem top_any (g o : Nat) (ty : TypeId) (pre : List Value) (ws : List Nat) (t : Nat) (w : World) (hW : Win w g ty pre ws t) (ho : pre.length = o) :
    Calls Try.prog 17 #[.pointer (some ⟨g, o, none⟩)] w fun e w' => e = .returned (.int .u64 (t : Int)) ∧ w = w' := by
  have hc := hW.topc ho
  clear hW ho
  go_enter Try.func17, Try.ntmps17
  go_wp2
  go_ret
  exact ⟨rfl, rfl⟩
theorem some_any (g o : Nat) (ty : TypeId) (pre : List Value) (ws : List Nat) (t : Nat) (w : World) (hW : Win w g ty pre ws t) (ho : pre.length = o) (ht : t < 18446744073709551616)
    (hws : ∀ i, ws.getD i 0 < 18446744073709551616) :
    Calls Try.prog 19 #[.pointer (some ⟨g, o, none⟩)] w fun e w' => e = .returned (.bool (bitB ws t)) ∧ w = w' := by
  have HT := Lib.hid (fun W (h : Win W g ty pre ws t) => taken_any g o ty pre ws t t W h ho ht hws)
  have hc := hW.topc ho
  have HW := Lib.hid hW
  clear hW hws ho
  generalize bitB ws t = b at *
  go_enter Try.func19, Try.ntmps19
  go_wp2_with (go_at_call 36; refine (HT.out _ HW.out).mono ?_; rintro e w' ⟨rfl, rfl⟩)
  go_ret
  exact ⟨rfl, rfl⟩

end Go.Proofs.Ytibpbgfliccacaa
