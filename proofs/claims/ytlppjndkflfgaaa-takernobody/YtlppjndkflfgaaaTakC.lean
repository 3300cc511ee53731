
/- Contracts: (*taker.Taker).Zeros, Little; Bytes that are too many; law02's alive. -/
import Derived.Test.YtlppjndkflfgaaaTakB
import Derived.Test.YtlppjndkflfgaaaEndC
namespace Go.Proofs.Ytlppjndkflfgaaa
open Go.RowKit

theorem grown_trans {w w1 w2 : World} {g : Nat} (h1 : w.grownBy w1 (some g)) (h2 : w1.grownBy w2 (some g)) : w.grownBy w2 (some g) :=
  ⟨h2.os.trans h1.os, h2.tape.trans h1.tape, h2.output.trans h1.output, Nat.le_trans h1.size h2.size, fun k hk hne => (h2.block k (by have := h1.size; omega) hne).trans (h1.block k hk hne)⟩
theorem below_grown {B g : Nat} {a w w' : World} (h : Below B a w) (hg : w.grownBy w' (some g)) (hB : B ≤ w.heap.size) (hBg : B ≤ g) : Below B a w' :=
  Below.grown h hg hB (fun k hk => by injection hk with hk; omega)

theorem zeros_ok (g : Nat) (A : Option Addr) (n c m : Nat) (l : List UInt8) (w : World) (h : Tk w g A n c 0 l) (hm : m ≤ n) (hn : n ≤ 1000000) (hz : ∀ j, j < m → l[j]? = some 0) :
    Calls Try.prog 13 #[.pointer (some ⟨g, 0, none⟩), .int .i64 (m : Int)] w fun e w' => e = .returned (.bool true) ∧ Tk w' g (restAt A c m) (n - m) (c - m) 0 (l.drop m) ∧ w.grownBy w' (some g) := by
  have HM := Lib.hid (may_ok g A n c m l w h hm)
  have HT := Lib.hid (take_any g A n c m 0 l w h hm)
  have hnc := h.2.1
  have h0 := h.c0
  have hs := h.2.2.2
  have Hz := Lib.hid hz
  clear h hz
  go_enter Try.func13, Try.ntmps13
  go_wp2_with fail
  refine HM.out.mono ?_; rintro e w1 ⟨rfl, rfl⟩
  go_wp2
  go_loop [20] (fun i => ∃ k : Nat, k ≤ m ∧ i = .int .i64 k) (fun i => m - (intOf i).toNat)
  case atStart => exact ⟨0, Nat.zero_le _, rfl⟩
  case round =>
    obtain ⟨k, hk, rfl⟩ := hrel
    by_cases hlt : k < m
    · obtain ⟨b, off, x, rfl, hb, hc, hx, hlx⟩ := hs.byte (k := k) (by omega)
      have hx0 := Hz.out k hlt
      rw [hlx] at hx0
      obtain rfl : x = 0 := by injection hx0
      clear hlx hx0 hs h0
      go_wp2
      go_round
      case rel => exact ⟨k + 1, by omega, by go_num⟩
      case measure => simp [intOf] <;> omega
    · obtain rfl : k = m := by omega
      clear hs
      go_wp2_with fail
      refine HT.out.mono ?_; rintro e w1 ⟨rfl, ht, hg⟩
      go_wp2
      go_ret
      exact ⟨rfl, ht, hg⟩

theorem bytes_short (g : Nat) (A : Option Addr) (n c m : Nat) (l : List UInt8) (w : World) (h : Tk w g A n c 0 l) (hm : n < m) :
    Calls Try.prog 12 #[.pointer (some ⟨g, 0, none⟩), .int .i64 (m : Int)] w fun e w' => e = .returned (.slice none 0 0) ∧ Tk w' g A n c 3 l ∧ w.grownBy w' (some g) := by
  have HM := Lib.hid (may_short g A n c m l w h (by omega))
  clear h
  go_enter Try.func12, Try.ntmps12
  go_wp2_with fail
  refine HM.out.mono ?_; rintro e w1 ⟨rfl, ht, hg⟩
  go_wp2
  go_ret
  exact ⟨rfl, ht, hg⟩

theorem number_little (D : Nat) (g : Nat) (A : Option Addr) (n c m : Nat) (l : List UInt8) (w : World) (h : Tk w g A n c 0 l) (hm : m ≤ n) (h1 : 1 ≤ m) (h8 : m ≤ 8)
    (hF : ∀ W : World, Shows W W.heap.size A m (l.take m) → Calls Try.prog 17 #[.slice A m c] W fun e w' => e = .returned (.tuple #[.int .u64 (D : Int), .int .i64 0]) ∧ W = w') :
    Calls Try.prog 16 #[.pointer (some ⟨g, 0, none⟩), .int .i64 (m : Int), .func (.func 17) #[] #[]] w fun e w' => e = .returned (.int .u64 (D : Int)) ∧ Tk w' g (restAt A c m) (n - m) (c - m) 0 (l.drop m) ∧ w.grownBy w' (some g) := by
  have HM := Lib.hid (may_ok g A n c m l w h hm)
  have HT := Lib.hid (take_any g A n c m 0 l w h hm)
  have hsf : Shows w g A m (l.take m) := Sh.front (f := bv) h.2.2.2 hm
  have hgl := h.lt
  have HF := Lib.hid hF
  have d1 : decide ((1 : Int) ≤ (m : Int)) = true := decide_eq_true (by omega)
  have d2 : decide ((m : Int) ≤ 8) = true := decide_eq_true (by omega)
  clear h hF
  go_enter Try.func16, Try.ntmps16
  go_wp2_with fail
  refine HM.out.mono ?_; rintro e w1 ⟨rfl, rfl⟩
  go_wp2_with fail
  refine HT.out.mono ?_; rintro e w1 ⟨rfl, ht1, hg1⟩
  have hs1 : Shows w1 w1.heap.size A m (l.take m) := (hsf.keep fun p hp => World.cell?_of_block (hg1.block p.block (by omega) (fun e => by injection e with e; omega))).up (by have := hg1.size; omega)
  go_wp2_with fail
  refine (HF.out _ hs1).mono ?_; rintro e w2 ⟨rfl, rfl⟩
  go_wp2
  go_ret
  exact ⟨rfl, ht1, hg1⟩

theorem little_tk (g : Nat) (A : Option Addr) (n c m : Nat) (l : List UInt8) (w : World) (h : Tk w g A n c 0 l) (hm : m ≤ n) (h1 : 1 ≤ m) (h8 : m ≤ 8) :
    Calls Try.prog 10 #[.pointer (some ⟨g, 0, none⟩), .int .i64 (m : Int)] w fun e w' => e = .returned (.int .u64 (leNat (l.take m) : Int)) ∧ Tk w' g (restAt A c m) (n - m) (c - m) 0 (l.drop m) ∧ w.grownBy w' (some g) := by
  have HN := Lib.hid (number_little (leNat (l.take m)) g A n c m l w h hm h1 h8 (fun W hs => ofLittle_any A m c (l.take m) W h1 h8 hs))
  clear h
  generalize leNat (l.take m) = D at *
  go_enter Try.func10, Try.ntmps10
  go_wp2_with fail
  refine HN.out.mono ?_; rintro e w1 ⟨rfl, ht, hg⟩
  go_wp2
  go_ret
  exact ⟨rfl, ht, hg⟩

end Go.Proofs.Ytlppjndkflfgaaa
