
/- Contracts of layer 2 where it fails, or is nil; Big; Zeros where a byte is not 0. -/
import Derived.Test.YtlppjndkflfgaaaTakD
namespace Go.Proofs.Ytlppjndkflfgaaa
open Go.RowKit

/-- What has failed behind an asking: so many are left, this failed ahead of it, so many are asked for, and these may be. -/
def canE (left : Nat) (f m : Int) (b : Bool) : Int := if f = 0 then (if b then (if (left : Int) < m then 3 else 0) else 1) else f
theorem canE_failed (left : Nat) (f m : Int) (b : Bool) (h : f ≠ 0) : canE left f m b = f := by unfold canE; rw [if_neg h]
theorem canE_arg (left : Nat) (m : Int) : canE left 0 m false = 1 := rfl
theorem canE_short (left : Nat) (m : Int) (h : (left : Int) < m) : canE left 0 m true = 3 := by unfold canE; rw [if_pos rfl, if_pos rfl, if_pos h]
theorem canE_ok (left : Nat) (m : Int) (h : m ≤ (left : Int)) : canE left 0 m true = 0 := by unfold canE; rw [if_pos rfl, if_pos rfl, if_neg (by omega)]
theorem grown_same (w : World) (r : Option Nat) : w.grownBy w r := ⟨rfl, rfl, rfl, Nat.le_refl _, fun _ _ _ => rfl⟩

theorem may_no (g : Nat) (A : Option Addr) (n c : Nat) (f m : Int) (b : Bool) (l : List UInt8) (w : World) (h : Tk w g A n c f l) (hE : canE n f m b ≠ 0) :
    Calls Try.prog 19 #[.pointer (some ⟨g, 0, none⟩), .bool b, .int .i64 m] w fun e w' => e = .returned (.bool false) ∧ Tk w' g A n c (canE n f m b) l ∧ w.grownBy w' (some g) := by
  by_cases hf : f = 0
  · subst hf
    cases b
    · exact (may_arg g A n c m l w h).mono fun e w' ⟨h1, h2, h3⟩ => ⟨h1, h2, h3⟩
    · have hm : (n : Int) < m := by
        rcases Int.lt_or_le (n : Int) m with h1 | h1
        · exact h1
        · exact absurd (canE_ok n m h1) hE
      rw [canE_short n m hm]
      exact may_short g A n c m l w h hm
  · rw [canE_failed n f m b hf]
    exact (may_failed g A n c f m b l w h (by simpa using hf)).mono fun e w' ⟨h1, h2⟩ => ⟨h1, by subst h2; exact h, by subst h2; exact grown_same _ _⟩

theorem bytes_no (g : Nat) (A : Option Addr) (n c : Nat) (f m : Int) (l : List UInt8) (w : World) (h : Tk w g A n c f l) (hE : canE n f m (decide (0 ≤ m)) ≠ 0) :
    Calls Try.prog 12 #[.pointer (some ⟨g, 0, none⟩), .int .i64 m] w fun e w' => e = .returned (.slice none 0 0) ∧ Tk w' g A n c (canE n f m (decide (0 ≤ m))) l ∧ w.grownBy w' (some g) := by
  have HM := Lib.hid (may_no g A n c f m (decide (0 ≤ m)) l w h hE)
  clear h hE
  generalize canE n f m (decide (0 ≤ m)) = E at *
  cases hd : decide (0 ≤ m)
  all_goals
    rw [hd] at HM
    go_enter Try.func12, Try.ntmps12
    go_wp2_with fail
    refine HM.out.mono ?_; rintro e w1 ⟨rfl, ht, hg⟩
    go_wp2
    go_ret
    exact ⟨rfl, ht, hg⟩

theorem zeros_no (g : Nat) (A : Option Addr) (n c : Nat) (f m : Int) (l : List UInt8) (w : World) (h : Tk w g A n c f l) (hE : canE n f m (decide (0 ≤ m)) ≠ 0) :
    Calls Try.prog 13 #[.pointer (some ⟨g, 0, none⟩), .int .i64 m] w fun e w' => e = .returned (.bool false) ∧ Tk w' g A n c (canE n f m (decide (0 ≤ m))) l ∧ w.grownBy w' (some g) := by
  have HM := Lib.hid (may_no g A n c f m (decide (0 ≤ m)) l w h hE)
  clear h hE
  generalize canE n f m (decide (0 ≤ m)) = E at *
  cases hd : decide (0 ≤ m)
  all_goals
    rw [hd] at HM
    go_enter Try.func13, Try.ntmps13
    go_wp2_with fail
    refine HM.out.mono ?_; rintro e w1 ⟨rfl, ht, hg⟩
    go_wp2
    go_ret
    exact ⟨rfl, ht, hg⟩

/-- May a number have so many bytes? -/
def numB (m : Int) : Bool := decide (1 ≤ m) && decide (m ≤ 8)
theorem number_no (F : Value) (g : Nat) (A : Option Addr) (n c : Nat) (f m : Int) (l : List UInt8) (w : World) (h : Tk w g A n c f l) (hE : canE n f m (numB m) ≠ 0) :
    Calls Try.prog 16 #[.pointer (some ⟨g, 0, none⟩), .int .i64 m, F] w fun e w' => e = .returned (.int .u64 0) ∧ Tk w' g A n c (canE n f m (numB m)) l ∧ w.grownBy w' (some g) := by
  have HM := Lib.hid (may_no g A n c f m (numB m) l w h hE)
  clear h hE
  generalize canE n f m (numB m) = E at *
  unfold numB at HM
  by_cases h1 : 1 ≤ m
  · have d1 : decide (1 ≤ m) = true := decide_eq_true h1
    by_cases h8 : m ≤ 8
    · have d8 : decide (m ≤ 8) = true := decide_eq_true h8
      rw [d1, d8] at HM
      go_enter Try.func16, Try.ntmps16
      go_wp2_with fail
      refine HM.out.mono ?_; rintro e w1 ⟨rfl, ht, hg⟩
      go_wp2
      go_ret
      exact ⟨rfl, ht, hg⟩
    · have d8 : decide (m ≤ 8) = false := decide_eq_false h8
      rw [d1, d8] at HM
      go_enter Try.func16, Try.ntmps16
      go_wp2_with fail
      refine HM.out.mono ?_; rintro e w1 ⟨rfl, ht, hg⟩
      go_wp2
      go_ret
      exact ⟨rfl, ht, hg⟩
  · have d1 : decide (1 ≤ m) = false := decide_eq_false h1
    rw [d1, Bool.false_and] at HM
    go_enter Try.func16, Try.ntmps16
    go_wp2_with fail
    refine HM.out.mono ?_; rintro e w1 ⟨rfl, ht, hg⟩
    go_wp2
    go_ret
    exact ⟨rfl, ht, hg⟩
theorem little_no (g : Nat) (A : Option Addr) (n c : Nat) (f m : Int) (l : List UInt8) (w : World) (h : Tk w g A n c f l) (hE : canE n f m (numB m) ≠ 0) :
    Calls Try.prog 10 #[.pointer (some ⟨g, 0, none⟩), .int .i64 m] w fun e w' => e = .returned (.int .u64 0) ∧ Tk w' g A n c (canE n f m (numB m)) l ∧ w.grownBy w' (some g) := by
  have HN := Lib.hid (fun F => number_no F g A n c f m l w h hE)
  clear h hE
  generalize canE n f m (numB m) = E at *
  go_enter Try.func10, Try.ntmps10
  go_wp2_with fail
  refine (HN.out _).mono ?_; rintro e w1 ⟨rfl, ht, hg⟩
  go_wp2
  go_ret
  exact ⟨rfl, ht, hg⟩
theorem big_no (g : Nat) (A : Option Addr) (n c : Nat) (f m : Int) (l : List UInt8) (w : World) (h : Tk w g A n c f l) (hE : canE n f m (numB m) ≠ 0) :
    Calls Try.prog 11 #[.pointer (some ⟨g, 0, none⟩), .int .i64 m] w fun e w' => e = .returned (.int .u64 0) ∧ Tk w' g A n c (canE n f m (numB m)) l ∧ w.grownBy w' (some g) := by
  have HN := Lib.hid (fun F => number_no F g A n c f m l w h hE)
  clear h hE
  generalize canE n f m (numB m) = E at *
  go_enter Try.func11, Try.ntmps11
  go_wp2_with fail
  refine (HN.out _).mono ?_; rintro e w1 ⟨rfl, ht, hg⟩
  go_wp2
  go_ret
  exact ⟨rfl, ht, hg⟩

theorem number_big (D : Nat) (g : Nat) (A : Option Addr) (n c m : Nat) (l : List UInt8) (w : World) (h : Tk w g A n c 0 l) (hm : m ≤ n) (h1 : 1 ≤ m) (h8 : m ≤ 8)
    (hF : ∀ W : World, Shows W W.heap.size A m (l.take m) → Calls Try.prog 18 #[.slice A m c] W fun e w' => e = .returned (.tuple #[.int .u64 (D : Int), .int .i64 0]) ∧ W = w') :
    Calls Try.prog 16 #[.pointer (some ⟨g, 0, none⟩), .int .i64 (m : Int), .func (.func 18) #[] #[]] w fun e w' => e = .returned (.int .u64 (D : Int)) ∧ Tk w' g (restAt A c m) (n - m) (c - m) 0 (l.drop m) ∧ w.grownBy w' (some g) := by
  have HM := Lib.hid (may_ok g A n c m l w h hm)
  have HT := Lib.hid (take_any g A n c m 0 l w h hm)
  have hsf : Shows w g A m (l.take m) := Sh.front (f := bv) h.2.2.2 hm
  have hgl := h.lt
  have HF := Lib.hid hF
  have d1 : decide ((1 : Int) ≤ (m : Int)) = true := decide_eq_true (by omega)
  have d2 : decide ((m : Int) ≤ 8) = true := decide_eq_true (by omega)
  clear h hF
  go_enter Try.func16, Try.ntmps16
  go_wp2_with fail
  refine HM.out.mono ?_; rintro e w1 ⟨rfl, rfl⟩
  go_wp2_with fail
  refine HT.out.mono ?_; rintro e w1 ⟨rfl, ht1, hg1⟩
  have hs1 : Shows w1 w1.heap.size A m (l.take m) := (hsf.keep fun p hp => World.cell?_of_block (hg1.block p.block (by omega) (fun e => by injection e with e; omega))).up (by have := hg1.size; omega)
  go_wp2_with fail
  refine (HF.out _ hs1).mono ?_; rintro e w2 ⟨rfl, rfl⟩
  go_wp2
  go_ret
  exact ⟨rfl, ht1, hg1⟩
theorem big_tk (g : Nat) (A : Option Addr) (n c m : Nat) (l : List UInt8) (w : World) (h : Tk w g A n c 0 l) (hm : m ≤ n) (h1 : 1 ≤ m) (h8 : m ≤ 8) :
    Calls Try.prog 11 #[.pointer (some ⟨g, 0, none⟩), .int .i64 (m : Int)] w fun e w' => e = .returned (.int .u64 (leNat (l.take m).reverse : Int)) ∧ Tk w' g (restAt A c m) (n - m) (c - m) 0 (l.drop m) ∧ w.grownBy w' (some g) := by
  have HN := Lib.hid (number_big (leNat (l.take m).reverse) g A n c m l w h hm h1 h8 (fun W hs => ofBig_any A m c (l.take m) W h1 h8 hs))
  clear h
  generalize leNat (l.take m).reverse = D at *
  go_enter Try.func11, Try.ntmps11
  go_wp2_with fail
  refine HN.out.mono ?_; rintro e w1 ⟨rfl, ht, hg⟩
  go_wp2
  go_ret
  exact ⟨rfl, ht, hg⟩

theorem zeros_not (g : Nat) (A : Option Addr) (n c m K : Nat) (x : UInt8) (l : List UInt8) (w : World) (h : Tk w g A n c 0 l) (hm : m ≤ n) (_ : n ≤ 1000000) (hK : K < m) (hz : ∀ j, j < K → l[j]? = some 0) (hx : l[K]? = some x) (hx0 : x ≠ 0) :
    Calls Try.prog 13 #[.pointer (some ⟨g, 0, none⟩), .int .i64 (m : Int)] w fun e w' => e = .returned (.bool false) ∧ Tk w' g A n c 10 l ∧ w.grownBy w' (some g) := by
  have HM := Lib.hid (may_ok g A n c m l w h hm)
  have hnc := h.2.1
  have h0 := h.c0
  have h1 := h.c1
  have h2 := h.f0 1
  have hs := h.2.2.2
  have HP := Lib.hid (tk_put1 h 10)
  have Hz := Lib.hid hz
  have Hx := Lib.hid hx
  have hxx : x.toNat ≠ 0 := fun e => hx0 (by apply UInt8.toNat_inj.1; simpa using e)
  clear h hz hx
  go_enter Try.func13, Try.ntmps13
  go_wp2_with fail
  refine HM.out.mono ?_; rintro e w1 ⟨rfl, rfl⟩
  go_wp2
  go_loop [20] (fun i => ∃ k : Nat, k ≤ K ∧ i = .int .i64 k) (fun i => m - (intOf i).toNat)
  case atStart => exact ⟨0, Nat.zero_le _, rfl⟩
  case round =>
    obtain ⟨k, hk, rfl⟩ := hrel
    by_cases hlt : k < K
    · obtain ⟨b, off, y, rfl, hb, hc, hy, hly⟩ := hs.byte (k := k) (by omega)
      have hy0 := Hz.out k hlt
      rw [hly] at hy0
      obtain rfl : y = 0 := by injection hy0
      clear hly hy0 hs h0
      go_wp2
      go_round
      case rel => exact ⟨k + 1, by omega, by go_num⟩
      case measure => simp [intOf] <;> omega
    · obtain rfl : k = K := by omega
      obtain ⟨b, off, y, rfl, hb, hc, hy, hly⟩ := hs.byte (k := k) (by omega)
      have hyx := Hx.out
      rw [hly] at hyx
      obtain rfl : y = x := by injection hyx
      have hd : decide ((y.toNat : Int) = 0) = false := decide_eq_false (by omega)
      clear hly hyx hs h0
      go_wp2
      go_ret
      exact ⟨rfl, HP.out.1, HP.out.2⟩

theorem tleft_nil (w : World) : Calls Try.prog 7 #[.pointer none] w fun e w' => e = .returned (.int .i64 0) ∧ w = w' := by
  go_enter Try.func7, Try.ntmps7
  go_wp2
  go_ret
  exact ⟨rfl, rfl⟩
theorem tfail_nil (w : World) : Calls Try.prog 8 #[.pointer none] w fun e w' => e = .returned (.int .i64 2) ∧ w = w' := by
  go_enter Try.func8, Try.ntmps8
  go_wp2
  go_ret
  exact ⟨rfl, rfl⟩
theorem may_nil (b : Bool) (m : Int) (w : World) : Calls Try.prog 19 #[.pointer none, .bool b, .int .i64 m] w fun e w' => e = .returned (.bool false) ∧ w = w' := by
  go_enter Try.func19, Try.ntmps19
  go_wp2
  go_ret
  exact ⟨rfl, rfl⟩
theorem bytes_nil (m : Int) (w : World) : Calls Try.prog 12 #[.pointer none, .int .i64 m] w fun e w' => e = .returned (.slice none 0 0) ∧ w = w' := by
  go_enter Try.func12, Try.ntmps12
  go_wp2_with (go_at_call 19; refine (may_nil _ _ _).mono ?_; rintro e w' ⟨rfl, rfl⟩)
  go_ret
  exact ⟨rfl, rfl⟩
theorem zeros_nil (m : Int) (w : World) : Calls Try.prog 13 #[.pointer none, .int .i64 m] w fun e w' => e = .returned (.bool false) ∧ w = w' := by
  go_enter Try.func13, Try.ntmps13
  go_wp2_with (go_at_call 19; refine (may_nil _ _ _).mono ?_; rintro e w' ⟨rfl, rfl⟩)
  go_ret
  exact ⟨rfl, rfl⟩
theorem number_nil (F : Value) (m : Int) (w : World) : Calls Try.prog 16 #[.pointer none, .int .i64 m, F] w fun e w' => e = .returned (.int .u64 0) ∧ w = w' := by
  by_cases h1 : 1 ≤ m
  · go_enter Try.func16, Try.ntmps16
    go_wp2_with (go_at_call 19; refine (may_nil _ _ _).mono ?_; rintro e w' ⟨rfl, rfl⟩)
    go_ret
    exact ⟨rfl, rfl⟩
  · go_enter Try.func16, Try.ntmps16
    go_wp2_with (go_at_call 19; refine (may_nil _ _ _).mono ?_; rintro e w' ⟨rfl, rfl⟩)
    go_ret
    exact ⟨rfl, rfl⟩
theorem little_nil (m : Int) (w : World) : Calls Try.prog 10 #[.pointer none, .int .i64 m] w fun e w' => e = .returned (.int .u64 0) ∧ w = w' := by
  go_enter Try.func10, Try.ntmps10
  go_wp2_with (go_at_call 16; refine (number_nil _ _ _).mono ?_; rintro e w' ⟨rfl, rfl⟩)
  go_ret
  exact ⟨rfl, rfl⟩
theorem big_nil (m : Int) (w : World) : Calls Try.prog 11 #[.pointer none, .int .i64 m] w fun e w' => e = .returned (.int .u64 0) ∧ w = w' := by
  go_enter Try.func11, Try.ntmps11
  go_wp2_with (go_at_call 16; refine (number_nil _ _ _).mono ?_; rintro e w' ⟨rfl, rfl⟩)
  go_ret
  exact ⟨rfl, rfl⟩

end Go.Proofs.Ytlppjndkflfgaaa
