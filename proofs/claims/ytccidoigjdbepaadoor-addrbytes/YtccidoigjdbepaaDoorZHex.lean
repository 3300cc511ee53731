
/- Out of the texts HexA, HexB, HexC, HexD, HexE, HexF, HexG, HexH. -/
import Derived.Test.YtccidoigjdbepaaDoorBase
import Derived.Deep.QuietTactic
import Derived.BigQuiet
import Derived.WalkSpells
import Derived.WalkLawsBesides
import Derived.Outline
import Derived.Lib.Bytealg
import Derived.Laws.StandIn
import Derived.Laws.BitsLemmas
import Derived.Deep.RegionLaw
import Derived.Laws.BitsAllLaws
import Derived.Laws.Concat
/- HexA -/
namespace Go.Proofs.YtccidoigjdbepaaDoor.Hex
open Go.RowKit
set_option maxRecDepth 100000

theorem run_index (s : ByteArray) (c : Int) (w : World) :
    (callFunc 114 #[.string s, .int .u8 c]).run Tryd.prog w = .ok (.value (.int .i64 (Lib.indexByte s.data.toList c.toNat.toUInt8))) w := by
  rw [run_callFunc_indexByte Tryd.func114 (by kernel_rfl) (by kernel_rfl) (by kernel_rfl) (by kernel_rfl), Lib.run_indexByteString]
  rfl

theorem indexByte_any (s : ByteArray) (c : UInt8) (w : World) :
    Calls Tryd.prog 84 #[.string s, .int .u8 (c.toNat : Int)] w fun e w' => e = .returned (.int .i64 (Lib.indexByte s.data.toList c)) ∧ w = w' := by
  have hi := run_index s (c.toNat : Int) w
  rw [show (c.toNat : Int).toNat.toUInt8 = c by simp] at hi
  go_enter Tryd.func84, Tryd.ntmps84
  go_wp2
  go_ret
  exact ⟨rfl, rfl⟩

/-- The digits of sixteen. -/
def hexs : List UInt8 := [48, 49, 50, 51, 52, 53, 54, 55, 56, 57, 97, 98, 99, 100, 101, 102]
def hexd (n : Nat) : UInt8 := hexs.getD n 0

theorem hexd_cut (n : Nat) (h : n < 16) : (ByteArray.mk #[48, 49, 50, 51, 52, 53, 54, 55, 56, 57, 97, 98, 99, 100, 101, 102]).extract n (n + 1) = ⟨#[hexd n]⟩ := by
  have : ∀ m, m < 16 → (ByteArray.mk #[48, 49, 50, 51, 52, 53, 54, 55, 56, 57, 97, 98, 99, 100, 101, 102]).extract m (m + 1) = ⟨#[hexd m]⟩ := by
    intro m hm
    have : m = 0 ∨ m = 1 ∨ m = 2 ∨ m = 3 ∨ m = 4 ∨ m = 5 ∨ m = 6 ∨ m = 7 ∨ m = 8 ∨ m = 9 ∨ m = 10 ∨ m = 11 ∨ m = 12 ∨ m = 13 ∨ m = 14 ∨ m = 15 := by omega
    rcases this with rfl | rfl | rfl | rfl | rfl | rfl | rfl | rfl | rfl | rfl | rfl | rfl | rfl | rfl | rfl | rfl <;> rfl
  exact this n h

theorem ret_int {k : IntKind} {a b : Int} (h : a = b) : Ending.returned (.int k a) = .returned (.int k b) := by rw [h]
theorem ret_string {a b : ByteArray} (h : a = b) : Ending.returned (.string a) = .returned (.string b) := by rw [h]

theorem digit_any (n : Int) (w : World) (h0 : 0 ≤ n) (h : n < 16) :
    Calls Tryd.prog 113 #[.int .i64 n] w fun e w' => e = .returned (.string ⟨#[hexd n.toNat]⟩) ∧ w = w' := by
  obtain ⟨k, rfl⟩ := Int.eq_ofNat_of_zero_le h0
  have H := Lib.hid (hexd_cut k (by omega))
  go_enter Tryd.func113, Tryd.ntmps113
  go_wp2
  go_ret
  exact ⟨ret_string H.out, rfl⟩

theorem hexd_get (n : Nat) (h : n < (ByteArray.mk #[48, 49, 50, 51, 52, 53, 54, 55, 56, 57, 97, 98, 99, 100, 101, 102]).size) :
    (ByteArray.mk #[48, 49, 50, 51, 52, 53, 54, 55, 56, 57, 97, 98, 99, 100, 101, 102])[n]'h = hexd n := by
  have h' : n < 16 := h
  have : n = 0 ∨ n = 1 ∨ n = 2 ∨ n = 3 ∨ n = 4 ∨ n = 5 ∨ n = 6 ∨ n = 7 ∨ n = 8 ∨ n = 9 ∨ n = 10 ∨ n = 11 ∨ n = 12 ∨ n = 13 ∨ n = 14 ∨ n = 15 := by omega
  rcases this with rfl | rfl | rfl | rfl | rfl | rfl | rfl | rfl | rfl | rfl | rfl | rfl | rfl | rfl | rfl | rfl <;> rfl
theorem get1 (x : UInt8) (h : 0 < (ByteArray.mk #[x]).size) : (ByteArray.mk #[x])[0]'h = x := rfl

theorem hexd_lt (n : Nat) : (hexd n).toNat < 256 := UInt8.toNat_lt _

/-- The K-th of sixteen, or none. -/
def nth16 (K : Nat) : Int := if K < 16 then (K : Int) else -1

/-- Which digit a byte is, small letters alone. -/
theorem value_small (c : UInt8) (K : Nat) (w : World) (hK : K ≤ 16) (hno : ∀ j, j < K → hexd j ≠ c) (hyes : K < 16 → hexd K = c) :
    Calls Tryd.prog 117 #[.int .u8 (c.toNat : Int), .bool false] w fun e w' => e = .returned (.int .i64 (nth16 K)) ∧ w = w' := by
  have Hno := Lib.hid hno
  have Hyes := Lib.hid hyes
  clear hno hyes
  go_enter Tryd.func117, Tryd.ntmps117
  go_wp2
  go_loop [5] (fun i => ∃ k : Nat, k ≤ K ∧ i = .int .i64 k) (fun i => 16 - (intOf i).toNat)
  case atStart => exact ⟨0, Nat.zero_le _, rfl⟩
  case round =>
    obtain ⟨k, hk, rfl⟩ := hrel
    by_cases hlt : k < K
    · have hd : ((hexd k).toNat == c.toNat) = false := by
        rw [beq_eq_false_iff_ne]; exact fun e => Hno.out k hlt (UInt8.toNat_inj.1 e)
      have g0 := get1
      have hd2 : (hexd k == c) = false := by rw [beq_eq_false_iff_ne]; exact Hno.out k hlt
      have hd3 : (((hexd k).toNat : Int) == (c.toNat : Int)) = false := by
        rw [beq_eq_false_iff_ne]; exact fun e => Hno.out k hlt (UInt8.toNat_inj.1 (Int.ofNat.inj e))
      go_wp2_with (go_at_call 113; refine (digit_any _ _ (by omega) (by omega)).mono ?_; rintro e w' ⟨rfl, rfl⟩; rw [Int.toNat_natCast])
      go_round
      case rel => exact ⟨k + 1, by omega, by go_num⟩
      case measure => simp [intOf] <;> omega
    · obtain rfl : k = K := by omega
      by_cases h16 : k < 16
      · have hd : ((hexd k).toNat == c.toNat) = true := by
          rw [beq_iff_eq, Hyes.out h16]
        have g0 := get1
        have hn := Lib.hid (show nth16 k = (k : Int) from if_pos h16)
        go_wp2_with (go_at_call 113; refine (digit_any _ _ (by omega) (by omega)).mono ?_; rintro e w' ⟨rfl, rfl⟩; rw [Int.toNat_natCast])
        go_ret
        exact ⟨ret_int hn.out.symm, rfl⟩
      · have hn := Lib.hid (show nth16 k = -1 from if_neg h16)
        go_wp2
        go_ret
        exact ⟨ret_int hn.out.symm, rfl⟩

/-- A byte's number as a digit (small letters alone); -1: it is none. -/
def hv (c : UInt8) : Int := Lib.indexByte hexs c

theorem hv_all (c : UInt8) : (hv c = -1 ∧ ∀ j, j < 16 → hexd j ≠ c) ∨ ∃ q : Nat, q < 16 ∧ hv c = (q : Int) ∧ hexd q = c ∧ ∀ j, j < q → hexd j ≠ c := by
  revert c
  have : ∀ c : Fin 256, (hv (UInt8.ofNat c.val) = -1 ∧ ∀ j, j < 16 → hexd j ≠ UInt8.ofNat c.val) ∨
      ∃ q, q < 16 ∧ hv (UInt8.ofNat c.val) = ((q : Nat) : Int) ∧ hexd q = UInt8.ofNat c.val ∧ ∀ j, j < q → hexd j ≠ UInt8.ofNat c.val := by decide +kernel
  intro c
  have h := this ⟨c.toNat, c.toNat_lt⟩
  simp only [UInt8.ofNat_toNat] at h
  exact h

theorem hv_hexd (q : Nat) (h : q < 16) : hv (hexd q) = (q : Int) := by
  have : ∀ q : Fin 16, hv (hexd q.val) = ((q.val : Nat) : Int) := by decide +kernel
  exact this ⟨q, h⟩

theorem value_hv (c : UInt8) (w : World) :
    Calls Tryd.prog 117 #[.int .u8 (c.toNat : Int), .bool false] w fun e w' => e = .returned (.int .i64 (hv c)) ∧ w = w' := by
  rcases hv_all c with ⟨h1, h2⟩ | ⟨q, h1, h2, h3, h4⟩
  · have := value_small c 16 w (by omega) h2 (fun h => absurd h (by omega))
    rw [h1]
    exact this
  · have := value_small c q w (by omega) h4 (fun _ => h3)
    rw [show nth16 q = (q : Int) from if_pos h1] at this
    rw [h2]
    exact this

theorem index_hv (c : UInt8) (w : World) :
    Calls Tryd.prog 84 #[.string ⟨#[48, 49, 50, 51, 52, 53, 54, 55, 56, 57, 97, 98, 99, 100, 101, 102]⟩, .int .u8 (c.toNat : Int)] w fun e w' => e = .returned (.int .i64 (hv c)) ∧ w = w' :=
  indexByte_any _ c w

theorem byte_at (s : ByteArray) (i : Nat) (c : UInt8) (h : s.data.toList[i]? = some c) : ∀ h' : i < s.size, s[i]'h' = c := by
  intro h'
  obtain ⟨_, e⟩ := List.getElem?_eq_some_iff.1 h
  exact e

end Go.Proofs.YtccidoigjdbepaaDoor.Hex

/- HexB -/
namespace Go.Proofs.YtccidoigjdbepaaDoor.Hex
open Go.RowKit
set_option maxRecDepth 100000

/-- The text of bytes. -/
def hexEnc (l : List UInt8) : List UInt8 := l.flatMap fun c => [hexd (c.toNat / 16), hexd (c.toNat % 16)]

theorem hexEnc_len (l : List UInt8) : (hexEnc l).length = 2 * l.length := by
  induction l with
  | nil => rfl
  | cons c t ih => simp only [hexEnc, List.flatMap_cons, List.length_append, List.length_cons, List.length_nil] at *; omega

theorem hexEnc_succ (l : List UInt8) (k : Nat) (x : UInt8) (h : l[k]? = some x) : hexEnc (l.take (k + 1)) = hexEnc (l.take k) ++ [hexd (x.toNat / 16), hexd (x.toNat % 16)] := by
  obtain ⟨hk, rfl⟩ := List.getElem?_eq_some_iff.1 h
  rw [List.take_succ_eq_append_getElem hk, hexEnc, hexEnc, List.flatMap_append]
  rfl

theorem str_add (a b : List UInt8) : (ByteArray.mk ⟨a⟩ ++ ByteArray.mk ⟨b⟩) = ByteArray.mk ⟨a ++ b⟩ := ByteArray.mk_append_mk a b

end Go.Proofs.YtccidoigjdbepaaDoor.Hex

/- HexC -/
namespace Go.Proofs.YtccidoigjdbepaaDoor.Hex
open Go.RowKit
set_option maxRecDepth 100000

theorem hexEnc_at (L : List UInt8) : ∀ (k : Nat) (x : UInt8), L[k]? = some x → (hexEnc L)[2 * k]? = some (hexd (x.toNat / 16)) ∧ (hexEnc L)[2 * k + 1]? = some (hexd (x.toNat % 16)) := by
  induction L with
  | nil => intro k x h; simp at h
  | cons c t ih =>
    intro k x h
    have e : hexEnc (c :: t) = hexd (c.toNat / 16) :: hexd (c.toNat % 16) :: hexEnc t := rfl
    rw [e]
    cases k with
    | zero => simp at h; subst h; exact ⟨rfl, rfl⟩
    | succ k =>
      have := ih k x (by simpa using h)
      rw [show 2 * (k + 1) = 2 * k + 1 + 1 by omega]
      simpa using this

theorem join_hex (x : UInt8) : bits BinOp.or IntKind.i64 (((x.toNat / 16 : Nat) : Int) * 16) ((x.toNat % 16 : Nat) : Int) % 256 = (x.toNat : Int) := by
  have : ∀ x : Fin 256, bits BinOp.or IntKind.i64 (((x.val / 16 : Nat) : Int) * 16) ((x.val % 16 : Nat) : Int) % 256 = (x.val : Int) := by decide +kernel
  exact this ⟨x.toNat, x.toNat_lt⟩

theorem fill_next (L : List UInt8) (size k : Nat) (x : UInt8) (hL : L.length = size) (h : L[k]? = some x) :
    (L.take k ++ List.replicate (size - k) 0).set k x = L.take (k + 1) ++ List.replicate (size - (k + 1)) 0 := by
  obtain ⟨hk, rfl⟩ := List.getElem?_eq_some_iff.1 h
  have hl : (L.take k).length = k := by simp; omega
  rw [show size - k = size - (k + 1) + 1 by omega, List.take_succ_eq_append_getElem hk]
  have := set_next (L.take k) (size - (k + 1)) L[k]
  rw [hl] at this
  exact this

end Go.Proofs.YtccidoigjdbepaaDoor.Hex

/- HexD -/
namespace Go.Proofs.YtccidoigjdbepaaDoor.Hex
open Go.RowKit
set_option maxRecDepth 100000

/-- Two bytes of a text. -/
def Pair (S : List UInt8) (k : Nat) (a b : UInt8) : Prop := S[2 * k]? = some a ∧ S[2 * k + 1]? = some b
/-- The first pair that is no two digits. -/
def BadAt (S : List UInt8) (K : Nat) : Prop :=
  (∀ k, k < K → ∃ a b, Pair S k a b ∧ 0 ≤ hv a ∧ 0 ≤ hv b) ∧ ∃ a b, Pair S K a b ∧ (hv a < 0 ∨ (0 ≤ hv a ∧ hv b < 0))

theorem hv_rng (c : UInt8) : -1 ≤ hv c ∧ hv c < 16 := by
  rcases hv_all c with ⟨h, _⟩ | ⟨q, h1, h2, _⟩ <;> omega

theorem hv_back (c : UInt8) (h : 0 ≤ hv c) : hexd (hv c).toNat = c := by
  rcases hv_all c with ⟨h', _⟩ | ⟨q, h1, h2, h3, _⟩
  · omega
  · rw [h2, Int.toNat_natCast]; exact h3

theorem hex_cases (n : Nat) : ∀ S : List UInt8, S.length = n → n % 2 = 1 ∨ (∃ L, S = hexEnc L) ∨ (n % 2 = 0 ∧ ∃ K, BadAt S K) := by
  induction n using Nat.strongRecOn with
  | ind n ih =>
    intro S hS
    match S, hS with
    | [], _ => exact .inr (.inl ⟨[], rfl⟩)
    | [_], h => simp at h; exact .inl (by omega)
    | a :: b :: t, h =>
      simp at h
      rcases ih (n - 2) (by omega) t (by omega) with h1 | ⟨L, h1⟩ | ⟨h0, K, hK, a', b', hP, hbad⟩
      · exact .inl (by omega)
      · by_cases ha : hv a < 0
        · refine .inr (.inr ⟨?_, 0, fun k hk => absurd hk (by omega), a, b, ⟨rfl, rfl⟩, .inl ha⟩)
          rw [h1, hexEnc_len] at h
          omega
        · by_cases hb : hv b < 0
          · refine .inr (.inr ⟨?_, 0, fun k hk => absurd hk (by omega), a, b, ⟨rfl, rfl⟩, .inr ⟨by omega, hb⟩⟩)
            rw [h1, hexEnc_len] at h
            omega
          · refine .inr (.inl ⟨UInt8.ofNat (16 * (hv a).toNat + (hv b).toNat) :: L, ?_⟩)
            have r1 := hv_rng a
            have r2 := hv_rng b
            have e : (UInt8.ofNat (16 * (hv a).toNat + (hv b).toNat)).toNat = 16 * (hv a).toNat + (hv b).toNat := by
              simp
              omega
            show a :: b :: t = hexd _ :: hexd _ :: hexEnc L
            rw [e, h1, show (16 * (hv a).toNat + (hv b).toNat) / 16 = (hv a).toNat by omega, show (16 * (hv a).toNat + (hv b).toNat) % 16 = (hv b).toNat by omega,
              hv_back a (by omega), hv_back b (by omega)]
      · by_cases ha : hv a < 0
        · exact .inr (.inr ⟨by omega, 0, fun k hk => absurd hk (by omega), a, b, ⟨rfl, rfl⟩, .inl ha⟩)
        · by_cases hb : hv b < 0
          · exact .inr (.inr ⟨by omega, 0, fun k hk => absurd hk (by omega), a, b, ⟨rfl, rfl⟩, .inr ⟨by omega, hb⟩⟩)
          · refine .inr (.inr ⟨by omega, K + 1, fun k hk => ?_, a', b', ?_, hbad⟩)
            · cases k with
              | zero => exact ⟨a, b, ⟨rfl, rfl⟩, by omega, by omega⟩
              | succ k =>
                obtain ⟨x, y, hp, h2, h3⟩ := hK k (by omega)
                refine ⟨x, y, ?_, h2, h3⟩
                unfold Pair at *
                rw [show 2 * (k + 1) = 2 * k + 1 + 1 by omega]
                simpa using hp
            · unfold Pair at *
              rw [show 2 * (K + 1) = 2 * K + 1 + 1 by omega]
              simpa using hP

theorem mod_byte (v : Int) : ∃ y : UInt8, v % 256 = (y.toNat : Int) := ⟨UInt8.ofNat (v % 256).toNat, by simp; omega⟩

end Go.Proofs.YtccidoigjdbepaaDoor.Hex

/- HexE -/
namespace Go.Proofs.YtccidoigjdbepaaDoor.Hex
open Go.RowKit
set_option maxRecDepth 100000

theorem join_hex2 (x : UInt8) (q r : Nat) (hq : x.toNat / 16 = q) (hr : x.toNat % 16 = r) : 16 * (q : Int) + (r : Int) = (x.toNat : Int) := by
  omega

end Go.Proofs.YtccidoigjdbepaaDoor.Hex

/- HexF -/
namespace Go.Proofs.YtccidoigjdbepaaDoor.Hex
open Go.RowKit
set_option maxRecDepth 100000

/-- A letter A to F as the small one. -/
def lowc (c : UInt8) : UInt8 := if 65 ≤ c.toNat ∧ c.toNat ≤ 70 then c + 32 else c

theorem small_yes (c : UInt8) (w : World) (h1 : 65 ≤ c.toNat) (h2 : c.toNat ≤ 70) :
    Calls Tryd.prog 116 #[.int .u8 (c.toNat : Int)] w fun e w' => e = .returned (.int .u8 ((lowc c).toNat : Int)) ∧ w = w' := by
  have H := Lib.hid (show (c.toNat : Int) - 65 + 97 = ((lowc c).toNat : Int) by
    unfold lowc
    rw [if_pos ⟨h1, h2⟩, UInt8.toNat_add]
    simp
    omega)
  go_enter Tryd.func116, Tryd.ntmps116
  go_wp2
  go_ret
  exact ⟨ret_int H.out, rfl⟩

theorem small_no (c : UInt8) (w : World) (h : ¬ (65 ≤ c.toNat ∧ c.toNat ≤ 70)) :
    Calls Tryd.prog 116 #[.int .u8 (c.toNat : Int)] w fun e w' => e = .returned (.int .u8 ((lowc c).toNat : Int)) ∧ w = w' := by
  have H := Lib.hid (show lowc c = c from if_neg h)
  have hx := c.toNat_lt
  have dd : decide ((65 : Int) ≤ (c.toNat : Int)) = false ∨ (decide ((65 : Int) ≤ (c.toNat : Int)) = true ∧ decide ((c.toNat : Int) ≤ 70) = false) := by
    by_cases h1 : 65 ≤ c.toNat
    · exact .inr ⟨by simp; omega, by simp; omega⟩
    · exact .inl (by simp; omega)
  clear h
  rcases dd with d1 | ⟨d1, d2⟩
  all_goals
    go_enter Tryd.func116, Tryd.ntmps116
    go_wp2
    go_ret
    exact ⟨by rw [H.out]; rfl, rfl⟩

theorem small_any (c : UInt8) (w : World) : Calls Tryd.prog 116 #[.int .u8 (c.toNat : Int)] w fun e w' => e = .returned (.int .u8 ((lowc c).toNat : Int)) ∧ w = w' := by
  by_cases h : 65 ≤ c.toNat ∧ c.toNat ≤ 70
  · exact small_yes c w h.1 h.2
  · exact small_no c w h

/-- A digit's number, great letters too. -/
def hg (c : UInt8) : Int := hv (lowc c)

theorem hg_all (c : UInt8) : (hg c = -1 ∧ ∀ j, j < 16 → hexd j ≠ c ∧ (9 < j → hexd j ≠ c + 32)) ∨
    ∃ q : Nat, q < 16 ∧ hg c = (q : Int) ∧ (hexd q = c ∨ (hexd q ≠ c ∧ 9 < q ∧ hexd q = c + 32)) ∧ ∀ j, j < q → hexd j ≠ c ∧ (9 < j → hexd j ≠ c + 32) := by
  revert c
  have : ∀ c : Fin 256, (hg (UInt8.ofNat c.val) = -1 ∧ ∀ j, j < 16 → hexd j ≠ UInt8.ofNat c.val ∧ (9 < j → hexd j ≠ UInt8.ofNat c.val + 32)) ∨
      ∃ q, q < 16 ∧ hg (UInt8.ofNat c.val) = ((q : Nat) : Int) ∧ (hexd q = UInt8.ofNat c.val ∨ (hexd q ≠ UInt8.ofNat c.val ∧ 9 < q ∧ hexd q = UInt8.ofNat c.val + 32)) ∧
        ∀ j, j < q → hexd j ≠ UInt8.ofNat c.val ∧ (9 < j → hexd j ≠ UInt8.ofNat c.val + 32) := by decide +kernel
  intro c
  have h := this ⟨c.toNat, c.toNat_lt⟩
  simp only [UInt8.ofNat_toNat] at h
  exact h

theorem add32 (c : UInt8) : ((c.toNat : Int) + 32) % 256 = ((c + 32).toNat : Int) := by
  rw [UInt8.toNat_add]
  simp

theorem byte_ne {x c : UInt8} (h : x ≠ c) : ((x.toNat : Int) == (c.toNat : Int)) = false := by
  rw [beq_eq_false_iff_ne]; exact fun e => h (UInt8.toNat_inj.1 (Int.ofNat.inj e))
theorem byte_eq {x c : UInt8} (h : x = c) : ((x.toNat : Int) == (c.toNat : Int)) = true := by
  rw [h]; simp

theorem value_great (c : UInt8) (K : Nat) (w : World) (hK : K ≤ 16) (hno : ∀ j, j < K → hexd j ≠ c ∧ (9 < j → hexd j ≠ c + 32))
    (hyes : K < 16 → (hexd K = c ∨ (hexd K ≠ c ∧ 9 < K ∧ hexd K = c + 32))) :
    Calls Tryd.prog 117 #[.int .u8 (c.toNat : Int), .bool true] w fun e w' => e = .returned (.int .i64 (nth16 K)) ∧ w = w' := by
  have Hno := Lib.hid hno
  have Hyes := Lib.hid hyes
  have h32 := add32 c
  have h32w : IntKind.u8.wrap ((c.toNat : Int) + 32) = ((c + 32).toNat : Int) := by rw [IntKind.wrap_u8]; exact h32
  have g0 := get1
  generalize hd : c + 32 = d at *
  clear hno hyes hd
  go_enter Tryd.func117, Tryd.ntmps117
  go_wp2
  go_loop [5] (fun i => ∃ k : Nat, k ≤ K ∧ i = .int .i64 k) (fun i => 16 - (intOf i).toNat)
  case atStart => exact ⟨0, Nat.zero_le _, rfl⟩
  case round =>
    obtain ⟨k, hk, rfl⟩ := hrel
    by_cases hlt : k < K
    · obtain ⟨n1, n2⟩ := Hno.out k hlt
      have t1 := byte_ne n1
      have t2 : decide ((9 : Int) < (k : Int)) = false ∨ (decide ((9 : Int) < (k : Int)) = true ∧ (((hexd k).toNat : Int) == (d.toNat : Int)) = false) := by
        by_cases h9 : 9 < k
        · exact .inr ⟨by simp; omega, byte_ne (n2 h9)⟩
        · exact .inl (by simp; omega)
      clear n1 n2
      rcases t2 with t2 | ⟨t2, t3⟩
      all_goals
        go_wp2_with (go_at_call 113; refine (digit_any _ _ (by omega) (by omega)).mono ?_; rintro e w' ⟨rfl, rfl⟩; rw [Int.toNat_natCast])
        go_round
        case rel => exact ⟨k + 1, by omega, by go_num⟩
        case measure => simp [intOf] <;> omega
    · obtain rfl : k = K := by omega
      by_cases h16 : k < 16
      · have hn := Lib.hid (show nth16 k = (k : Int) from if_pos h16)
        have t2 : (((hexd k).toNat : Int) == (c.toNat : Int)) = true ∨ ((((hexd k).toNat : Int) == (c.toNat : Int)) = false ∧ decide ((9 : Int) < (k : Int)) = true ∧ (((hexd k).toNat : Int) == (d.toNat : Int)) = true) := by
          rcases Hyes.out h16 with h | ⟨h1, h2, h3⟩
          · exact .inl (byte_eq h)
          · exact .inr ⟨byte_ne h1, by simp; omega, byte_eq h3⟩
        rcases t2 with t1 | ⟨t1, t2, t3⟩
        all_goals
          go_wp2_with (go_at_call 113; refine (digit_any _ _ (by omega) (by omega)).mono ?_; rintro e w' ⟨rfl, rfl⟩; rw [Int.toNat_natCast])
          go_ret
          exact ⟨ret_int hn.out.symm, rfl⟩
      · have hn := Lib.hid (show nth16 k = -1 from if_neg h16)
        go_wp2
        go_ret
        exact ⟨ret_int hn.out.symm, rfl⟩

theorem value_hg (c : UInt8) (w : World) :
    Calls Tryd.prog 117 #[.int .u8 (c.toNat : Int), .bool true] w fun e w' => e = .returned (.int .i64 (hg c)) ∧ w = w' := by
  rcases hg_all c with ⟨h1, h2⟩ | ⟨q, h1, h2, h3, h4⟩
  · have := value_great c 16 w (by omega) h2 (fun h => absurd h (by omega))
    rw [h1]
    exact this
  · have := value_great c q w (by omega) h4 (fun _ => h3)
    rw [show nth16 q = (q : Int) from if_pos h1] at this
    rw [h2]
    exact this

theorem hg_rng (c : UInt8) : -1 ≤ hg c ∧ hg c < 16 := hv_rng _

end Go.Proofs.YtccidoigjdbepaaDoor.Hex

/- HexG -/
namespace Go.Proofs.YtccidoigjdbepaaDoor.Hex
open Go.RowKit
set_option maxRecDepth 100000

/-- The number of digits. -/
def grpVal (S : List UInt8) : Nat := S.foldl (fun a c => 16 * a + (hg c).toNat) 0

theorem grpVal_snoc (S : List UInt8) (k : Nat) (c : UInt8) (h : S[k]? = some c) : grpVal (S.take (k + 1)) = 16 * grpVal (S.take k) + (hg c).toNat := by
  obtain ⟨hk, rfl⟩ := List.getElem?_eq_some_iff.1 h
  rw [List.take_succ_eq_append_getElem hk, grpVal, List.foldl_append]
  rfl

theorem grpVal_lt (S : List UInt8) (k : Nat) (hk : k ≤ S.length) : grpVal (S.take k) < 16 ^ k := by
  induction k with
  | zero => simp [grpVal]
  | succ k ih =>
    have e : S[k]? = some (S[k]'(by omega)) := List.getElem?_eq_getElem _
    rw [grpVal_snoc S k _ e, Nat.pow_succ]
    have := ih (by omega)
    have := hg_rng (S[k]'(by omega))
    omega

theorem or4 (v q : Nat) (hv : v < 4096) (hq : q < 16) : bits BinOp.or IntKind.u16 ((v : Int) * 16) (q : Int) = ((16 * v + q : Nat) : Int) := by
  rw [show (v : Int) * 16 = ((v * 16 : Nat) : Int) by omega, u16_or_nat _ _ (by omega) (by omega), nat_join 4 _ _ (Nat.mul_mod_left _ _) hq, Nat.mul_comm]

/-- All digits are good. -/
def AllGood (S : List UInt8) : Prop := ∀ (k : Nat) (c : UInt8), S[k]? = some c → 0 ≤ hg c
/-- The first that is none. -/
def FirstBad (S : List UInt8) (K : Nat) : Prop := (∀ (k : Nat) (c : UInt8), k < K → S[k]? = some c → 0 ≤ hg c) ∧ ∃ c, S[K]? = some c ∧ hg c < 0

theorem good_or_bad (S : List UInt8) : AllGood S ∨ ∃ K, FirstBad S K := by
  induction S with
  | nil => exact .inl fun k c h => by simp at h
  | cons a t ih =>
    by_cases ha : hg a < 0
    · exact .inr ⟨0, fun k c hk => absurd hk (by omega), a, rfl, ha⟩
    · rcases ih with h | ⟨K, h1, c, h2, h3⟩
      · refine .inl fun k c hk => ?_
        cases k with
        | zero => simp at hk; subst hk; omega
        | succ k => exact h k c (by simpa using hk)
      · refine .inr ⟨K + 1, fun k c hk h => ?_, c, by simpa using h2, h3⟩
        cases k with
        | zero => simp at h; subst h; omega
        | succ k => exact h1 k c (by omega) (by simpa using h)

theorem readGroup_len (s : ByteArray) (w : World) (h : s.size < 1 ∨ 4 < s.size) (hn : s.size ≤ 1000000) :
    Calls Tryd.prog 105 #[.string s] w fun e w' => e = .returned (.tuple #[.int .u16 0, .int .i64 5]) ∧ w = w' := by
  have dd : decide ((s.size : Int) < 1) = true ∨ (decide ((s.size : Int) < 1) = false ∧ decide ((4 : Int) < (s.size : Int)) = true) := by
    rcases h with h | h
    · exact .inl (by simp; omega)
    · exact .inr ⟨by simp; omega, by simp; omega⟩
  clear h
  rcases dd with d1 | ⟨d1, d2⟩
  all_goals
    go_enter Tryd.func105, Tryd.ntmps105
    go_wp2
    go_ret2
    exact ⟨rfl, rfl⟩

theorem refReadGroup_len (s : ByteArray) (w : World) (h : s.size < 1 ∨ 4 < s.size) (hn : s.size ≤ 1000000) :
    Calls Tryd.prog 106 #[.string s] w fun e w' => e = .returned (.int .i64 (-1)) ∧ w = w' := by
  have dd : decide ((s.size : Int) < 1) = true ∨ (decide ((s.size : Int) < 1) = false ∧ decide ((4 : Int) < (s.size : Int)) = true) := by
    rcases h with h | h
    · exact .inl (by simp; omega)
    · exact .inr ⟨by simp; omega, by simp; omega⟩
  clear h
  rcases dd with d1 | ⟨d1, d2⟩
  all_goals
    go_enter Tryd.func106, Tryd.ntmps106
    go_wp2
    go_ret
    exact ⟨rfl, rfl⟩

theorem readGroup_good (s : ByteArray) (w : World) (h1 : 1 ≤ s.size) (h4 : s.size ≤ 4) (hG : AllGood s.data.toList) :
    Calls Tryd.prog 105 #[.string s] w fun e w' => e = .returned (.tuple #[.int .u16 (grpVal s.data.toList : Int), .int .i64 0]) ∧ w = w' := by
  have HG := Lib.hid hG
  have Hlen := Lib.hid (show s.data.toList.length = s.size from rfl)
  have d1 : decide ((s.size : Int) < 1) = false := by simp; omega
  have d2 : decide ((4 : Int) < (s.size : Int)) = false := by simp; omega
  clear hG
  generalize hS : s.data.toList = S at *
  have HS := Lib.hid hS
  clear hS
  go_enter Tryd.func105, Tryd.ntmps105
  go_wp2
  go_loop [4, 17] (fun v i => ∃ k : Nat, k ≤ s.size ∧ i = .int .i64 k ∧ v = .int .u16 (grpVal (S.take k) : Int)) (fun _ i => s.size - (intOf i).toNat)
  case atStart => exact ⟨0, Nat.zero_le _, rfl, rfl⟩
  case round =>
    obtain ⟨k, hk, rfl, rfl⟩ := hrel
    by_cases hlt : k < s.size
    · obtain ⟨c, hc⟩ : ∃ c, S[k]? = some c := ⟨S[k]'(by rw [Hlen.out]; exact hlt), List.getElem?_eq_getElem _⟩
      have ha := byte_at s k c (by rw [HS.out]; exact hc)
      have hpos := HG.out k c hc
      have hr := hg_rng c
      obtain ⟨q, hq⟩ := Int.eq_ofNat_of_zero_le hpos
      have hq16 : q < 16 := by omega
      have hvl : grpVal (S.take k) < 4096 := by
        have h1 := grpVal_lt S k (by rw [Hlen.out]; exact hk)
        have h3 : 16 ^ k ≤ 16 ^ 3 := Nat.pow_le_pow_right (by omega) (by omega)
        omega
      have Hs := Lib.hid ((or4 (grpVal (S.take k)) q hvl hq16).trans (congrArg Int.ofNat (show 16 * grpVal (S.take k) + q = grpVal (S.take (k + 1)) by rw [grpVal_snoc S k c hc, hq, Int.toNat_natCast])))
      have Hq := Lib.hid (show hv (lowc c) = (q : Int) from hq)
      have d0 : decide ((q : Int) < 0) = false := by simp
      clear hc hq hpos hr
      generalize grpVal (S.take k) = V at *
      go_wp2_with fail
      refine (small_any _ _).mono ?_; rintro e w2 ⟨rfl, rfl⟩
      go_wp2_with fail
      refine (index_hv _ _).mono ?_; rintro e w2 ⟨rfl, rfl⟩
      rw [Hq.out]
      go_wp2
      go_round
      case rel => exact ⟨k + 1, by omega, by go_num, congrArg (Value.int .u16) Hs.out⟩
      case measure => simp [intOf] <;> omega
    · obtain rfl : k = s.size := by omega
      have hf : S.take s.size = S := List.take_of_length_le (by rw [Hlen.out]; exact Nat.le_refl _)
      rw [hf]
      clear hf
      go_wp2
      go_ret2
      exact ⟨rfl, rfl⟩

theorem readGroup_bad (s : ByteArray) (K : Nat) (w : World) (h1 : 1 ≤ s.size) (h4 : s.size ≤ 4) (hB : FirstBad s.data.toList K) :
    Calls Tryd.prog 105 #[.string s] w fun e w' => e = .returned (.tuple #[.int .u16 0, .int .i64 5]) ∧ w = w' := by
  obtain ⟨hgood, c, hcK, hneg⟩ := hB
  have Hgood := Lib.hid hgood
  have hKs : K < s.size := (List.getElem?_eq_some_iff.1 hcK).1
  have HcK := Lib.hid hcK
  have d1 : decide ((s.size : Int) < 1) = false := by simp; omega
  have d2 : decide ((4 : Int) < (s.size : Int)) = false := by simp; omega
  clear hgood hcK
  go_enter Tryd.func105, Tryd.ntmps105
  go_wp2
  go_loop [4, 17] (fun v i => ∃ k : Nat, k ≤ K ∧ i = .int .i64 k ∧ ∃ n : Nat, n < 16 ^ k ∧ v = .int .u16 (n : Int)) (fun _ i => s.size - (intOf i).toNat)
  case atStart => exact ⟨0, Nat.zero_le _, rfl, 0, by simp, rfl⟩
  case round =>
    obtain ⟨k, hk, rfl, V, hV, rfl⟩ := hrel
    by_cases hlt : k < K
    · obtain ⟨x, hc⟩ : ∃ x, s.data.toList[k]? = some x := ⟨s.data.toList[k]'(show k < s.size by omega), List.getElem?_eq_getElem _⟩
      have ha := byte_at s k x hc
      have hpos := Hgood.out k x hlt hc
      have hr := hg_rng x
      obtain ⟨q, hq⟩ := Int.eq_ofNat_of_zero_le hpos
      have hq16 : q < 16 := by omega
      have hvl : V < 4096 := by
        have h3 : 16 ^ k ≤ 16 ^ 3 := Nat.pow_le_pow_right (by omega) (by omega)
        omega
      have Hs := Lib.hid (or4 V q hvl hq16)
      have Hb := Lib.hid (show 16 * V + q < 16 ^ (k + 1) by rw [Nat.pow_succ]; omega)
      have Hq := Lib.hid (show hv (lowc x) = (q : Int) from hq)
      have d0 : decide ((q : Int) < 0) = false := by simp
      clear hc hq hpos hr hV
      go_wp2_with fail
      refine (small_any _ _).mono ?_; rintro e w2 ⟨rfl, rfl⟩
      go_wp2_with fail
      refine (index_hv _ _).mono ?_; rintro e w2 ⟨rfl, rfl⟩
      rw [Hq.out]
      go_wp2
      go_round
      case rel => exact ⟨k + 1, by omega, by go_num, 16 * V + q, Hb.out, congrArg (Value.int .u16) Hs.out⟩
      case measure => simp [intOf] <;> omega
    · obtain rfl : k = K := by omega
      have ha := byte_at s k c HcK.out
      have d0 : decide (hv (lowc c) < 0) = true := by
        have : hv (lowc c) < 0 := hneg
        simp; omega
      clear hV
      go_wp2_with fail
      refine (small_any _ _).mono ?_; rintro e w2 ⟨rfl, rfl⟩
      go_wp2_with fail
      refine (index_hv _ _).mono ?_; rintro e w2 ⟨rfl, rfl⟩
      go_wp2
      go_ret2
      exact ⟨rfl, rfl⟩

theorem refReadGroup_good (s : ByteArray) (w : World) (h1 : 1 ≤ s.size) (h4 : s.size ≤ 4) (hG : AllGood s.data.toList) :
    Calls Tryd.prog 106 #[.string s] w fun e w' => e = .returned (.int .i64 (grpVal s.data.toList : Int)) ∧ w = w' := by
  have HG := Lib.hid hG
  have Hlen := Lib.hid (show s.data.toList.length = s.size from rfl)
  have d1 : decide ((s.size : Int) < 1) = false := by simp; omega
  have d2 : decide ((4 : Int) < (s.size : Int)) = false := by simp; omega
  clear hG
  generalize hS : s.data.toList = S at *
  have HS := Lib.hid hS
  clear hS
  go_enter Tryd.func106, Tryd.ntmps106
  go_wp2
  go_loop [3, 4] (fun v i => ∃ k : Nat, k ≤ s.size ∧ i = .int .i64 k ∧ v = .int .i64 (grpVal (S.take k) : Int)) (fun _ i => s.size - (intOf i).toNat)
  case atStart => exact ⟨0, Nat.zero_le _, rfl, rfl⟩
  case round =>
    obtain ⟨k, hk, rfl, rfl⟩ := hrel
    by_cases hlt : k < s.size
    · obtain ⟨c, hc⟩ : ∃ c, S[k]? = some c := ⟨S[k]'(by rw [Hlen.out]; exact hlt), List.getElem?_eq_getElem _⟩
      have ha := byte_at s k c (by rw [HS.out]; exact hc)
      have hpos := HG.out k c hc
      have hr := hg_rng c
      obtain ⟨q, hq⟩ := Int.eq_ofNat_of_zero_le hpos
      have hq16 : q < 16 := by omega
      have hvl : grpVal (S.take k) < 4096 := by
        have h1 := grpVal_lt S k (by rw [Hlen.out]; exact hk)
        have h3 : 16 ^ k ≤ 16 ^ 3 := Nat.pow_le_pow_right (by omega) (by omega)
        omega
      have Hs := Lib.hid (show grpVal (S.take (k + 1)) = 16 * grpVal (S.take k) + q by rw [grpVal_snoc S k c hc, hq, Int.toNat_natCast])
      have Hq := Lib.hid hq
      have d0 : decide ((q : Int) < 0) = false := by simp
      clear hc hq hpos hr
      generalize grpVal (S.take k) = V at *
      go_wp2_with fail
      refine (value_hg _ _).mono ?_; rintro e w2 ⟨rfl, rfl⟩
      rw [Hq.out]
      go_wp2
      go_round
      case rel => exact ⟨k + 1, by omega, by go_num, by rw [Hs.out]; go_num⟩
      case measure => simp [intOf] <;> omega
    · obtain rfl : k = s.size := by omega
      have hf : S.take s.size = S := List.take_of_length_le (by rw [Hlen.out]; exact Nat.le_refl _)
      rw [hf]
      clear hf
      go_wp2
      go_ret
      exact ⟨rfl, rfl⟩

theorem refReadGroup_bad (s : ByteArray) (K : Nat) (w : World) (h1 : 1 ≤ s.size) (h4 : s.size ≤ 4) (hB : FirstBad s.data.toList K) :
    Calls Tryd.prog 106 #[.string s] w fun e w' => e = .returned (.int .i64 (-1)) ∧ w = w' := by
  obtain ⟨hgood, c, hcK, hneg⟩ := hB
  have Hgood := Lib.hid hgood
  have hKs : K < s.size := (List.getElem?_eq_some_iff.1 hcK).1
  have HcK := Lib.hid hcK
  have d1 : decide ((s.size : Int) < 1) = false := by simp; omega
  have d2 : decide ((4 : Int) < (s.size : Int)) = false := by simp; omega
  clear hgood hcK
  go_enter Tryd.func106, Tryd.ntmps106
  go_wp2
  go_loop [3, 4] (fun v i => ∃ k : Nat, k ≤ K ∧ i = .int .i64 k ∧ ∃ n : Nat, n < 16 ^ k ∧ v = .int .i64 (n : Int)) (fun _ i => s.size - (intOf i).toNat)
  case atStart => exact ⟨0, Nat.zero_le _, rfl, 0, by simp, rfl⟩
  case round =>
    obtain ⟨k, hk, rfl, V, hV, rfl⟩ := hrel
    by_cases hlt : k < K
    · obtain ⟨x, hc⟩ : ∃ x, s.data.toList[k]? = some x := ⟨s.data.toList[k]'(show k < s.size by omega), List.getElem?_eq_getElem _⟩
      have ha := byte_at s k x hc
      have hpos := Hgood.out k x hlt hc
      have hr := hg_rng x
      obtain ⟨q, hq⟩ := Int.eq_ofNat_of_zero_le hpos
      have hq16 : q < 16 := by omega
      have hvl : V < 4096 := by
        have h3 : 16 ^ k ≤ 16 ^ 3 := Nat.pow_le_pow_right (by omega) (by omega)
        omega
      have Hb := Lib.hid (show 16 * V + q < 16 ^ (k + 1) by rw [Nat.pow_succ]; omega)
      have Hq := Lib.hid hq
      have d0 : decide ((q : Int) < 0) = false := by simp
      clear hc hq hpos hr hV
      go_wp2_with fail
      refine (value_hg _ _).mono ?_; rintro e w2 ⟨rfl, rfl⟩
      rw [Hq.out]
      go_wp2
      go_round
      case rel => exact ⟨k + 1, by omega, by go_num, 16 * V + q, Hb.out, by go_num⟩
      case measure => simp [intOf] <;> omega
    · obtain rfl : k = K := by omega
      have ha := byte_at s k c HcK.out
      have d0 : decide (hg c < 0) = true := by simp; omega
      clear hV
      go_wp2_with fail
      refine (value_hg _ _).mono ?_; rintro e w2 ⟨rfl, rfl⟩
      go_wp2
      go_ret
      exact ⟨rfl, rfl⟩

end Go.Proofs.YtccidoigjdbepaaDoor.Hex

/- HexH -/
namespace Go.Proofs.YtccidoigjdbepaaDoor.Hex
open Go.RowKit
set_option maxRecDepth 100000

/-- The first m of d digits of a number. -/
def gd (n d m : Nat) : List UInt8 := (List.range m).map fun t => hexd (n / 16 ^ (d - 1 - t) % 16)

theorem gd_succ (n d m : Nat) : gd n d (m + 1) = gd n d m ++ [hexd (n / 16 ^ (d - 1 - m) % 16)] := by simp [gd, List.range_succ]
theorem gd_len (n d m : Nat) : (gd n d m).length = m := by simp [gd]

/-- A number has d digits. -/
def Digs (n d : Nat) : Prop := 1 ≤ d ∧ n < 16 ^ d ∧ (d = 1 ∨ 16 ^ (d - 1) ≤ n)

theorem digs_some (n : Nat) (h : n < 65536) : ∃ d, d ≤ 4 ∧ Digs n d := by
  by_cases h1 : n < 16
  · exact ⟨1, by omega, by omega, by omega, .inl rfl⟩
  · by_cases h2 : n < 256
    · exact ⟨2, by omega, by omega, by omega, .inr (by omega)⟩
    · by_cases h3 : n < 4096
      · exact ⟨3, by omega, by omega, by omega, .inr (by omega)⟩
      · exact ⟨4, by omega, by omega, by omega, .inr (by omega)⟩

theorem shr_4 (n j : Nat) : (n : Int) / 2 ^ (4 * j) = ((n / 16 ^ j : Nat) : Int) := by
  have e : (2 : Int) ^ (4 * j) = ((16 ^ j : Nat) : Int) := by rw [Int.pow_mul]; simp
  rw [e]; simp

theorem and15_16 (q : Nat) (h : q < 65536) : bits BinOp.and IntKind.u16 (q : Int) 15 = ((q % 16 : Nat) : Int) := by
  rw [show (15 : Int) = ((15 : Nat) : Int) from rfl, u16_and_nat _ _ h (by omega), nat_mask4]

theorem group_any (n d : Nat) (w : World) (hn : n < 65536) (hd4 : d ≤ 4) (hd : Digs n d) :
    Calls Tryd.prog 101 #[.int .u16 (n : Int)] w fun e w' => e = .returned (.string ⟨⟨gd n d d⟩⟩) ∧ Below w.heap.size w w' := by
  obtain ⟨hd1, hlt, hge⟩ := hd
  have Hlt := Lib.hid hlt
  have Hge := Lib.hid hge
  clear hlt hge
  go_enter Tryd.func101, Tryd.ntmps101
  go_wp2
  go_loop [3] (fun i => ∃ j : Nat, d ≤ j + 1 ∧ j ≤ 3 ∧ i = .int .i64 (4 * (j : Int))) (fun i => (intOf i).toNat)
  case atStart => exact ⟨3, by omega, by omega, rfl⟩
  case round =>
    obtain ⟨j, hj, hj3, rfl⟩ := hrel
    have hs := shr_4 n j
    by_cases hjd : d < j + 1
    · have hz : n / 16 ^ j = 0 := Nat.div_eq_of_lt (Nat.lt_of_lt_of_le Hlt.out (Nat.pow_le_pow_right (by omega) (by omega)))
      rw [hz] at hs
      clear hz
      go_wp2
      go_round
      case rel => exact ⟨j - 1, by omega, by omega, by go_num⟩
      case measure => simp [intOf] <;> omega
    · obtain rfl : d = j + 1 := by omega
      have hcase : j = 0 ∨ (0 < j ∧ 1 ≤ n / 16 ^ j) := by
        rcases Nat.eq_zero_or_pos j with h | h
        · exact .inl h
        · refine .inr ⟨h, ?_⟩
          rcases Hge.out with h2 | h2
          · omega
          · exact (Nat.one_le_div_iff (Nat.pow_pos (by omega))).2 h2
      have hq : n / 16 ^ j ≤ n := Nat.div_le_self _ _
      generalize n / 16 ^ j = q at *
      have t : decide ((0 : Int) < 4 * (j : Int)) = false ∨ (decide ((0 : Int) < 4 * (j : Int)) = true ∧ ((q : Int) == 0) = false) := by
        rcases hcase with h | ⟨h, h'⟩
        · exact .inl (by simp; omega)
        · exact .inr ⟨by simp; omega, by rw [beq_eq_false_iff_ne]; omega⟩
      clear hcase
      rcases t with t0 | ⟨t0, t1⟩
      all_goals
        go_wp2_with (at_make; refine wpList_mk0 _ rfl _ _ rfl w.heap.size 4 _ rfl rfl rfl (by omega) (Nat.le_refl _) ?_; intro w1 hown hgrow)
        go_loopw [3, 4] (fun i v wr => ∃ t m : Nat, m + t = j + 1 ∧ i = .int .i64 (4 * (t : Int) - 4) ∧ Own wr w.heap.size v m (gd n (j + 1) m) ∧ Below w.heap.size w wr) (fun i _ _ => ((intOf i) + 4).toNat)
        case atStart => exact ⟨j + 1, 0, by omega, by go_num, hown, (Below.refl _ _).grown hgrow (Nat.le_refl _) (fun k hk => by cases hk)⟩
        case round =>
          clear hown hgrow hs hq
          obtain ⟨t, m, htm, rfl, hown, hbel⟩ := hrel
          rcases Nat.eq_zero_or_pos t with ht | ht
          · subst ht
            obtain rfl : m = j + 1 := by omega
            obtain ⟨A', c', rfl, _, _, hs⟩ := hown.shows
            have htx := run_text wr A' (j + 1) c' _ hs
            go_wp2
            go_ret
            exact ⟨rfl, hbel⟩
          · obtain ⟨u, rfl⟩ : ∃ u, t = u + 1 := ⟨t - 1, by omega⟩
            rw [show (4 * ((u + 1 : Nat) : Int) - 4) = 4 * (u : Int) by omega]
            have hu := shr_4 n u
            have hgs := gd_succ n (j + 1) m
            rw [show j + 1 - 1 - m = u by omega] at hgs
            have HG := Lib.hid hgs
            clear hgs
            have hqu : n / 16 ^ u ≤ n := Nat.div_le_self _ _
            have ha := and15_16 (n / 16 ^ u) (by omega)
            have hr : n / 16 ^ u % 16 < 16 := by omega
            have hu3 : u ≤ 3 := by omega
            have g16 := hexd_get
            have hsz := hbel.size
            have Htm := Lib.hid htm
            have hm5 : m ≤ 4 := by omega
            clear htm
            generalize n / 16 ^ u % 16 = r at *
            generalize n / 16 ^ u = Q at *
            have hr' : (r : Int) < 16 := by omega
            go_wp2_with (at_builtin; refine wpList_app1 _ rfl _ _ rfl w.heap.size _ _ _ rfl (hown.alloc _) ⟨wr.heap.size, 0, none⟩ 1 (hexd r) rfl ?_ ?_ ?_ ?_)
            · exact one_new _ _ _ _ rfl
            · omega
            · simp; omega
            intro v' w2 hown' hgrow
            have hb1 : Below w.heap.size w w2 := by
              refine Below.grown ?_ hgrow ?_ (fun g hg => (hown.lt g hg).1)
              · exact hbel.alloc hsz _
              · simp; omega
            clear hgrow
            go_wp2
            go_roundw
            case rel => exact ⟨u, m + 1, by have := Htm.out; omega, by go_num, by rw [HG.out]; exact hown', hb1⟩
            case measure => simp [intOf] <;> omega

theorem gd_step (n d : Nat) (h : 2 ≤ d) : gd n d d = gd (n / 16) (d - 1) (d - 1) ++ [hexd (n % 16)] := by
  obtain ⟨e, rfl⟩ : ∃ e, d = e + 1 := ⟨d - 1, by omega⟩
  rw [gd_succ, show e + 1 - 1 = e by omega]
  congr 1
  · unfold gd
    apply List.map_congr_left
    intro t ht
    have ht' : t < e := List.mem_range.1 ht
    rw [Nat.div_div_eq_div_mul, show e + 1 - 1 - t = (e - 1 - t) + 1 by omega, Nat.pow_succ, Nat.mul_comm]
  · simp

/-- What the reference says of a number of d digits. -/
theorem refGroup_any : ∀ (d n : Nat) (w : World), d ≤ 4 → Digs n d →
    Calls Tryd.prog 102 #[.int .i64 (n : Int)] w fun e w' => e = .returned (.string ⟨⟨gd n d d⟩⟩) ∧ w = w' := by
  intro d
  induction d with
  | zero => intro n w _ hd; exact absurd hd.1 (by omega)
  | succ e ih =>
    intro n w h4 hd
    obtain ⟨h1, hlt, hge⟩ := hd
    have Hih := Lib.hid ih
    clear ih
    by_cases he : e = 0
    · subst he
      have H := Lib.hid (show gd n 1 1 = [hexd n] by simp [gd]; congr 1; omega)
      have hn16 : n < 16 := by simpa using hlt
      clear hlt hge
      go_enter Tryd.func102, Tryd.ntmps102
      go_wp2_with (go_at_call 113; refine (digit_any _ _ (by omega) (by omega)).mono ?_; rintro e w' ⟨rfl, rfl⟩; rw [Int.toNat_natCast])
      go_ret
      exact ⟨ret_string (by rw [H.out]), rfl⟩
    · have hn : 16 ≤ n := by
        rcases hge with h | h
        · omega
        · have : 16 ^ 1 ≤ 16 ^ (e + 1 - 1) := Nat.pow_le_pow_right (by omega) (by omega)
          omega
      have hnm : n < 65536 := by
        have : 16 ^ (e + 1) ≤ 16 ^ 4 := Nat.pow_le_pow_right (by omega) h4
        omega
      have hD : Digs (n / 16) e := by
        refine ⟨by omega, ?_, ?_⟩
        · rw [Nat.div_lt_iff_lt_mul (by omega), ← Nat.pow_succ]; exact hlt
        · rcases hge with h | h
          · omega
          · by_cases h1 : e = 1
            · exact .inl h1
            · refine .inr ?_
              rw [Nat.le_div_iff_mul_le (by omega), ← Nat.pow_succ]
              rw [show (e - 1).succ = e + 1 - 1 by omega]
              exact h
      have H := Lib.hid (gd_step n (e + 1) (by omega))
      have HD := Lib.hid hD
      have hl : (gd (n / 16) e e).length ≤ 4 := by rw [gd_len]; omega
      rw [show e + 1 - 1 = e by omega] at H
      obtain ⟨q, hq, Hq⟩ : ∃ q : Nat, (n : Int) / 16 = (q : Int) ∧ Hid (n / 16 = q) := ⟨n / 16, by omega, rfl⟩
      obtain ⟨r, hr, hr16, Hr⟩ : ∃ r : Nat, (n : Int) % 16 = (r : Int) ∧ r < 16 ∧ Hid (n % 16 = r) := ⟨n % 16, by omega, by omega, rfl⟩
      rw [Hq.out] at H HD hl
      rw [Hr.out] at H
      clear hlt hge hD
      generalize hE : gd q e e = E at *
      have HE := Lib.hid hE
      clear hE
      go_enter Tryd.func102, Tryd.ntmps102
      go_wp2_with fail
      refine (Hih.out q _ (by omega) HD.out).mono ?_
      rintro e' w' ⟨rfl, rfl⟩
      rw [HE.out]
      go_wp2_with fail
      refine (digit_any _ _ (by omega) (by omega)).mono ?_
      rintro e' w' ⟨rfl, rfl⟩
      rw [Int.toNat_natCast]
      go_wp2
      go_ret
      exact ⟨ret_string (by rw [H.out]; exact str_add _ _), rfl⟩

end Go.Proofs.YtccidoigjdbepaaDoor.Hex
