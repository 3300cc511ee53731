
/- Contracts: strings.IndexByte; hexes.small; ref05.digit, Value. -/
import Derived.Test.YtccidoigjdbepaaDoorBase
import Derived.Deep.QuietTactic
import Derived.BigQuiet
import Derived.WalkSpells
import Derived.WalkLawsBesides
import Derived.Outline
import Derived.Lib.Bytealg
import Derived.Laws.StandIn
import Derived.Laws.BitsLemmas
namespace Go.Proofs.YtccidoigjdbepaaDoor.Hex
open Go.RowKit
set_option maxRecDepth 100000

theorem run_index (s : ByteArray) (c : Int) (w : World) :
    (callFunc 114 #[.string s, .int .u8 c]).run Tryd.prog w = .ok (.value (.int .i64 (Lib.indexByte s.data.toList c.toNat.toUInt8))) w := by
  rw [run_callFunc_indexByte Tryd.func114 (by kernel_rfl) (by kernel_rfl) (by kernel_rfl) (by kernel_rfl), Lib.run_indexByteString]
  rfl

theorem indexByte_any (s : ByteArray) (c : UInt8) (w : World) :
    Calls Tryd.prog 84 #[.string s, .int .u8 (c.toNat : Int)] w fun e w' => e = .returned (.int .i64 (Lib.indexByte s.data.toList c)) ∧ w = w' := by
  have hi := run_index s (c.toNat : Int) w
  rw [show (c.toNat : Int).toNat.toUInt8 = c by simp] at hi
  go_enter Tryd.func84, Tryd.ntmps84
  go_wp2
  go_ret
  exact ⟨rfl, rfl⟩

/-- The digits of sixteen. -/
def hexs : List UInt8 := [48, 49, 50, 51, 52, 53, 54, 55, 56, 57, 97, 98, 99, 100, 101, 102]
def hexd (n : Nat) : UInt8 := hexs.getD n 0

theorem hexd_cut (n : Nat) (h : n < 16) : (ByteArray.mk #[48, 49, 50, 51, 52, 53, 54, 55, 56, 57, 97, 98, 99, 100, 101, 102]).extract n (n + 1) = ⟨#[hexd n]⟩ := by
  have : ∀ m, m < 16 → (ByteArray.mk #[48, 49, 50, 51, 52, 53, 54, 55, 56, 57, 97, 98, 99, 100, 101, 102]).extract m (m + 1) = ⟨#[hexd m]⟩ := by
    intro m hm
    have : m = 0 ∨ m = 1 ∨ m = 2 ∨ m = 3 ∨ m = 4 ∨ m = 5 ∨ m = 6 ∨ m = 7 ∨ m = 8 ∨ m = 9 ∨ m = 10 ∨ m = 11 ∨ m = 12 ∨ m = 13 ∨ m = 14 ∨ m = 15 := by omega
    rcases this with rfl | rfl | rfl | rfl | rfl | rfl | rfl | rfl | rfl | rfl | rfl | rfl | rfl | rfl | rfl | rfl <;> rfl
  exact this n h

theorem ret_int {k : IntKind} {a b : Int} (h : a = b) : Ending.returned (.int k a) = .returned (.int k b) := by rw [h]
theorem ret_string {a b : ByteArray} (h : a = b) : Ending.returned (.string a) = .returned (.string b) := by rw [h]

theorem digit_any (n : Int) (w : World) (h0 : 0 ≤ n) (h : n < 16) :
    Calls Tryd.prog 113 #[.int .i64 n] w fun e w' => e = .returned (.string ⟨#[hexd n.toNat]⟩) ∧ w = w' := by
  obtain ⟨k, rfl⟩ := Int.eq_ofNat_of_zero_le h0
  have H := Lib.hid (hexd_cut k (by omega))
  go_enter Tryd.func113, Tryd.ntmps113
  go_wp2
  go_ret
  exact ⟨ret_string H.out, rfl⟩

theorem hexd_get (n : Nat) (h : n < (ByteArray.mk #[48, 49, 50, 51, 52, 53, 54, 55, 56, 57, 97, 98, 99, 100, 101, 102]).size) :
    (ByteArray.mk #[48, 49, 50, 51, 52, 53, 54, 55, 56, 57, 97, 98, 99, 100, 101, 102])[n]'h = hexd n := by
  have h' : n < 16 := h
  have : n = 0 ∨ n = 1 ∨ n = 2 ∨ n = 3 ∨ n = 4 ∨ n = 5 ∨ n = 6 ∨ n = 7 ∨ n = 8 ∨ n = 9 ∨ n = 10 ∨ n = 11 ∨ n = 12 ∨ n = 13 ∨ n = 14 ∨ n = 15 := by omega
  rcases this with rfl | rfl | rfl | rfl | rfl | rfl | rfl | rfl | rfl | rfl | rfl | rfl | rfl | rfl | rfl | rfl <;> rfl
theorem get1 (x : UInt8) (h : 0 < (ByteArray.mk #[x]).size) : (ByteArray.mk #[x])[0]'h = x := rfl

theorem hexd_lt (n : Nat) : (hexd n).toNat < 256 := UInt8.toNat_lt _

/-- The K-th of sixteen, or none. -/
def nth16 (K : Nat) : Int := if K < 16 then (K : Int) else -1

/-- Which digit a byte is, small letters alone. -/
theorem value_small (c : UInt8) (K : Nat) (w : World) (hK : K ≤ 16) (hno : ∀ j, j < K → hexd j ≠ c) (hyes : K < 16 → hexd K = c) :
    Calls Tryd.prog 117 #[.int .u8 (c.toNat : Int), .bool false] w fun e w' => e = .returned (.int .i64 (nth16 K)) ∧ w = w' := by
  have Hno := Lib.hid hno
  have Hyes := Lib.hid hyes
  clear hno hyes
  go_enter Tryd.func117, Tryd.ntmps117
  go_wp2
  go_loop [5] (fun i => ∃ k : Nat, k ≤ K ∧ i = .int .i64 k) (fun i => 16 - (intOf i).toNat)
  case atStart => exact ⟨0, Nat.zero_le _, rfl⟩
  case round =>
    obtain ⟨k, hk, rfl⟩ := hrel
    by_cases hlt : k < K
    · have hd : ((hexd k).toNat == c.toNat) = false := by
        rw [beq_eq_false_iff_ne]; exact fun e => Hno.out k hlt (UInt8.toNat_inj.1 e)
      have g0 := get1
      have hd2 : (hexd k == c) = false := by rw [beq_eq_false_iff_ne]; exact Hno.out k hlt
      have hd3 : (((hexd k).toNat : Int) == (c.toNat : Int)) = false := by
        rw [beq_eq_false_iff_ne]; exact fun e => Hno.out k hlt (UInt8.toNat_inj.1 (Int.ofNat.inj e))
      go_wp2_with (go_at_call 113; refine (digit_any _ _ (by omega) (by omega)).mono ?_; rintro e w' ⟨rfl, rfl⟩; rw [Int.toNat_natCast])
      go_round
      case rel => exact ⟨k + 1, by omega, by go_num⟩
      case measure => simp [intOf] <;> omega
    · obtain rfl : k = K := by omega
      by_cases h16 : k < 16
      · have hd : ((hexd k).toNat == c.toNat) = true := by
          rw [beq_iff_eq, Hyes.out h16]
        have g0 := get1
        have hn := Lib.hid (show nth16 k = (k : Int) from if_pos h16)
        go_wp2_with (go_at_call 113; refine (digit_any _ _ (by omega) (by omega)).mono ?_; rintro e w' ⟨rfl, rfl⟩; rw [Int.toNat_natCast])
        go_ret
        exact ⟨ret_int hn.out.symm, rfl⟩
      · have hn := Lib.hid (show nth16 k = -1 from if_neg h16)
        go_wp2
        go_ret
        exact ⟨ret_int hn.out.symm, rfl⟩

/-- A byte's number as a digit (small letters alone); -1: it is none. -/
def hv (c : UInt8) : Int := Lib.indexByte hexs c

theorem hv_all (c : UInt8) : (hv c = -1 ∧ ∀ j, j < 16 → hexd j ≠ c) ∨ ∃ q : Nat, q < 16 ∧ hv c = (q : Int) ∧ hexd q = c ∧ ∀ j, j < q → hexd j ≠ c := by
  revert c
  have : ∀ c : Fin 256, (hv (UInt8.ofNat c.val) = -1 ∧ ∀ j, j < 16 → hexd j ≠ UInt8.ofNat c.val) ∨
      ∃ q, q < 16 ∧ hv (UInt8.ofNat c.val) = ((q : Nat) : Int) ∧ hexd q = UInt8.ofNat c.val ∧ ∀ j, j < q → hexd j ≠ UInt8.ofNat c.val := by decide +kernel
  intro c
  have h := this ⟨c.toNat, c.toNat_lt⟩
  simp only [UInt8.ofNat_toNat] at h
  exact h

theorem hv_hexd (q : Nat) (h : q < 16) : hv (hexd q) = (q : Int) := by
  have : ∀ q : Fin 16, hv (hexd q.val) = ((q.val : Nat) : Int) := by decide +kernel
  exact this ⟨q, h⟩

theorem value_hv (c : UInt8) (w : World) :
    Calls Tryd.prog 117 #[.int .u8 (c.toNat : Int), .bool false] w fun e w' => e = .returned (.int .i64 (hv c)) ∧ w = w' := by
  rcases hv_all c with ⟨h1, h2⟩ | ⟨q, h1, h2, h3, h4⟩
  · have := value_small c 16 w (by omega) h2 (fun h => absurd h (by omega))
    rw [h1]
    exact this
  · have := value_small c q w (by omega) h4 (fun _ => h3)
    rw [show nth16 q = (q : Int) from if_pos h1] at this
    rw [h2]
    exact this

theorem index_hv (c : UInt8) (w : World) :
    Calls Tryd.prog 84 #[.string ⟨#[48, 49, 50, 51, 52, 53, 54, 55, 56, 57, 97, 98, 99, 100, 101, 102]⟩, .int .u8 (c.toNat : Int)] w fun e w' => e = .returned (.int .i64 (hv c)) ∧ w = w' :=
  indexByte_any _ c w

theorem byte_at (s : ByteArray) (i : Nat) (c : UInt8) (h : s.data.toList[i]? = some c) : ∀ h' : i < s.size, s[i]'h' = c := by
  intro h'
  obtain ⟨_, e⟩ := List.getElem?_eq_some_iff.1 h
  exact e

end Go.Proofs.YtccidoigjdbepaaDoor.Hex
