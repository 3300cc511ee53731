
/- Contracts: ipfour.fits, ipfour.Put, ipsix.fits, ipsix.Put where a number is out of its bounds. -/
import Derived.Test.YtkokgoodpibboaaSxA
import Derived.Test.YtkokgoodpibboaaOpnA
namespace Go.Proofs.Ytkokgoodpibboaa
open Go.RowKit
set_option maxRecDepth 100000
set_option linter.unusedSimpArgs false
set_option linter.unusedVariables false

theorem or_wrap (a b : Int) : bits .or .i64 a b = IntKind.i64.wrap ((BitVec.ofInt 64 a ||| BitVec.ofInt 64 b).toNat : Int) := rfl
theorem or_in (a b : Int) : -9223372036854775808 ≤ bits .or .i64 a b ∧ bits .or .i64 a b ≤ 9223372036854775807 := by
  rw [or_wrap, IntKind.wrap_i64]
  omega
/-- What is small of two numbers together is small of each. -/
theorem or_lt (a b : Int) (ha : -9223372036854775808 ≤ a ∧ a ≤ 9223372036854775807) (hb : -9223372036854775808 ≤ b ∧ b ≤ 9223372036854775807) (k : Nat) (hk : k ≤ 9223372036854775808)
    (h0 : 0 ≤ bits .or .i64 a b) (h : bits .or .i64 a b < (k : Int)) : (0 ≤ a ∧ a < (k : Int)) ∧ (0 ≤ b ∧ b < (k : Int)) := by
  rw [or_wrap, IntKind.wrap_i64] at h0 h
  have hN := (BitVec.ofInt 64 a ||| BitVec.ofInt 64 b).isLt
  have e : (BitVec.ofInt 64 a ||| BitVec.ofInt 64 b).toNat = (BitVec.ofInt 64 a).toNat ||| (BitVec.ofInt 64 b).toNat := BitVec.toNat_or ..
  have h1 : (BitVec.ofInt 64 a).toNat ≤ (BitVec.ofInt 64 a).toNat ||| (BitVec.ofInt 64 b).toNat := Nat.left_le_or
  have h2 : (BitVec.ofInt 64 b).toNat ≤ (BitVec.ofInt 64 a).toNat ||| (BitVec.ofInt 64 b).toNat := Nat.right_le_or
  rw [← e] at h1 h2
  have ea : (BitVec.ofInt 64 a).toNat = (a % 18446744073709551616).toNat := BitVec.toNat_ofInt ..
  have eb : (BitVec.ofInt 64 b).toNat = (b % 18446744073709551616).toNat := BitVec.toNat_ofInt ..
  rw [ea] at h1
  rw [eb] at h2
  generalize (BitVec.ofInt 64 a ||| BitVec.ofInt 64 b).toNat = N at *
  have hN' : N < 18446744073709551616 := hN
  clear e ea eb hN
  omega

theorem above4 (C I F G L P : Int) (hC : in64 C) (hI : in64 I) (hF : in64 F) (hG : in64 G) (hL : in64 L) (hP : in64 P)
    (h : bits .or .i64 (bits .or .i64 (bits .or .i64 (bits .or .i64 (bits .or .i64 C L) P / 256) (I / 65536)) (F / 8)) (G / 8192) = 0) :
    (0 ≤ C ∧ C < 256) ∧ (0 ≤ L ∧ L < 256) ∧ (0 ≤ P ∧ P < 256) ∧ (0 ≤ I ∧ I < 65536) ∧ (0 ≤ F ∧ F < 8) ∧ (0 ≤ G ∧ G < 8192) := by
  unfold in64 at *
  have w1 := or_in C L
  have w2 := or_in (bits .or .i64 C L) P
  have w3 := or_in (bits .or .i64 (bits .or .i64 C L) P / 256) (I / 65536)
  have w4 := or_in (bits .or .i64 (bits .or .i64 (bits .or .i64 C L) P / 256) (I / 65536)) (F / 8)
  obtain ⟨a1, a2⟩ := or_lt (bits .or .i64 (bits .or .i64 (bits .or .i64 (bits .or .i64 C L) P / 256) (I / 65536)) (F / 8)) (G / 8192) w4 (by omega) 1 (by omega) (by omega) (by omega)
  obtain ⟨a3, a4⟩ := or_lt (bits .or .i64 (bits .or .i64 (bits .or .i64 C L) P / 256) (I / 65536)) (F / 8) w3 (by omega) 1 (by omega) a1.1 a1.2
  obtain ⟨a5, a6⟩ := or_lt (bits .or .i64 (bits .or .i64 C L) P / 256) (I / 65536) (by omega) (by omega) 1 (by omega) a3.1 a3.2
  obtain ⟨a7, a8⟩ := or_lt (bits .or .i64 C L) P w1 hP 256 (by omega) (by omega) (by omega)
  obtain ⟨a9, a10⟩ := or_lt C L hC hL 256 (by omega) a7.1 a7.2
  refine ⟨a9, a10, a8, ?_, ?_, ?_⟩ <;> omega
theorem above6 (C I L P : Int) (hC : in64 C) (hI : in64 I) (hL : in64 L) (hP : in64 P)
    (h : bits .or .i64 (bits .or .i64 (bits .or .i64 C L) P / 256) (I / 1048576) = 0) :
    (0 ≤ C ∧ C < 256) ∧ (0 ≤ L ∧ L < 256) ∧ (0 ≤ P ∧ P < 256) ∧ (0 ≤ I ∧ I < 1048576) := by
  unfold in64 at *
  have w1 := or_in C L
  have w2 := or_in (bits .or .i64 C L) P
  obtain ⟨a5, a6⟩ := or_lt (bits .or .i64 (bits .or .i64 C L) P / 256) (I / 1048576) (by omega) (by omega) 1 (by omega) (by omega) (by omega)
  obtain ⟨a7, a8⟩ := or_lt (bits .or .i64 C L) P w1 hP 256 (by omega) (by omega) (by omega)
  obtain ⟨a9, a10⟩ := or_lt C L hC hL 256 (by omega) a7.1 a7.2
  refine ⟨a9, a10, a8, ?_⟩
  omega

theorem fits_out (V S T C I F G L P : Int) (s d : Array Value) (w : World) (hX : ¬ bits .or .i64 (bits .or .i64 (bits .or .i64 (bits .or .i64 (bits .or .i64 C L) P / 256) (I / 65536)) (F / 8)) (G / 8192) = 0) :
    Calls Try.prog 67 #[.agg (hdv [V, S, T, C, I, F, G, L, P] s d)] w fun e w' => e = .returned (.bool false) ∧ Below w.heap.size w w' := by
  have k0 : Blk (w.alloc (.cells (hdv [V, S, T, C, I, F, G, L, P] s d) 42)) w.heap.size 42 (hdv [V, S, T, C, I, F, G, L, P] s d) := blk_new _ _ _
  have hb0 : Below w.heap.size w (w.alloc (.cells (hdv [V, S, T, C, I, F, G, L, P] s d) 42)) := (Below.refl _ _).alloc (Nat.le_refl _) _
  have c3 := (k0.cellA 3).trans (hdv_num [V, S, T, C, I, F, G, L, P] s d 3 C rfl)
  have c4 := (k0.cellA 4).trans (hdv_num [V, S, T, C, I, F, G, L, P] s d 4 I rfl)
  have c5 := (k0.cellA 5).trans (hdv_num [V, S, T, C, I, F, G, L, P] s d 5 F rfl)
  have c6 := (k0.cellA 6).trans (hdv_num [V, S, T, C, I, F, G, L, P] s d 6 G rfl)
  have c7 := (k0.cellA 7).trans (hdv_num [V, S, T, C, I, F, G, L, P] s d 7 L rfl)
  have c8 := (k0.cellA 8).trans (hdv_num [V, S, T, C, I, F, G, L, P] s d 8 P rfl)
  generalize hdv [V, S, T, C, I, F, G, L, P] s d = M at *
  clear k0
  obtain ⟨X, hXe⟩ : ∃ X, bits .or .i64 (bits .or .i64 (bits .or .i64 (bits .or .i64 (bits .or .i64 C L) P / 256) (I / 65536)) (F / 8)) (G / 8192) = X := ⟨_, rfl⟩
  rw [hXe] at hX
  have d0 : decide (X = 0) = false := decide_eq_false hX
  have d0' : (X == 0) = false := by simpa using hX
  go_enter Try.func67, Try.ntmps67
  go_wp2_with fail
  go_ret
  exact ⟨rfl, hb0⟩
theorem fits6_out (V S T C I F G L P : Int) (s d : Array Value) (w : World) (hX : ¬ bits .or .i64 (bits .or .i64 (bits .or .i64 C L) P / 256) (I / 1048576) = 0) :
    Calls Try.prog 78 #[.agg (hdv [V, S, T, C, I, F, G, L, P] s d)] w fun e w' => e = .returned (.bool false) ∧ Below w.heap.size w w' := by
  have k0 : Blk (w.alloc (.cells (hdv [V, S, T, C, I, F, G, L, P] s d) 42)) w.heap.size 42 (hdv [V, S, T, C, I, F, G, L, P] s d) := blk_new _ _ _
  have hb0 : Below w.heap.size w (w.alloc (.cells (hdv [V, S, T, C, I, F, G, L, P] s d) 42)) := (Below.refl _ _).alloc (Nat.le_refl _) _
  have c3 := (k0.cellA 3).trans (hdv_num [V, S, T, C, I, F, G, L, P] s d 3 C rfl)
  have c4 := (k0.cellA 4).trans (hdv_num [V, S, T, C, I, F, G, L, P] s d 4 I rfl)
  have c7 := (k0.cellA 7).trans (hdv_num [V, S, T, C, I, F, G, L, P] s d 7 L rfl)
  have c8 := (k0.cellA 8).trans (hdv_num [V, S, T, C, I, F, G, L, P] s d 8 P rfl)
  generalize hdv [V, S, T, C, I, F, G, L, P] s d = M at *
  clear k0
  obtain ⟨X, hXe⟩ : ∃ X, bits .or .i64 (bits .or .i64 (bits .or .i64 C L) P / 256) (I / 1048576) = X := ⟨_, rfl⟩
  rw [hXe] at hX
  have d0 : decide (X = 0) = false := decide_eq_false hX
  have d0' : (X == 0) = false := by simpa using hX
  go_enter Try.func78, Try.ntmps78
  go_wp2_with fail
  go_ret
  exact ⟨rfl, hb0⟩

end Go.Proofs.Ytkokgoodpibboaa
