
/- Contracts: ref05.Value with great letters, hexes.small; hexes.ReadGroup, ref05.ReadGroup. -/
import Derived.Test.YtccidoigjdbepaaDoorHexE
namespace Go.Proofs.YtccidoigjdbepaaDoor.Hex
open Go.RowKit
set_option maxRecDepth 100000

/-- A letter A to F as the small one. -/
def lowc (c : UInt8) : UInt8 := if 65 ≤ c.toNat ∧ c.toNat ≤ 70 then c + 32 else c

theorem small_yes (c : UInt8) (w : World) (h1 : 65 ≤ c.toNat) (h2 : c.toNat ≤ 70) :
    Calls Tryd.prog 116 #[.int .u8 (c.toNat : Int)] w fun e w' => e = .returned (.int .u8 ((lowc c).toNat : Int)) ∧ w = w' := by
  have H := Lib.hid (show (c.toNat : Int) - 65 + 97 = ((lowc c).toNat : Int) by
    unfold lowc
    rw [if_pos ⟨h1, h2⟩, UInt8.toNat_add]
    simp
    omega)
  go_enter Tryd.func116, Tryd.ntmps116
  go_wp2
  go_ret
  exact ⟨ret_int H.out, rfl⟩

theorem small_no (c : UInt8) (w : World) (h : ¬ (65 ≤ c.toNat ∧ c.toNat ≤ 70)) :
    Calls Tryd.prog 116 #[.int .u8 (c.toNat : Int)] w fun e w' => e = .returned (.int .u8 ((lowc c).toNat : Int)) ∧ w = w' := by
  have H := Lib.hid (show lowc c = c from if_neg h)
  have hx := c.toNat_lt
  have dd : decide ((65 : Int) ≤ (c.toNat : Int)) = false ∨ (decide ((65 : Int) ≤ (c.toNat : Int)) = true ∧ decide ((c.toNat : Int) ≤ 70) = false) := by
    by_cases h1 : 65 ≤ c.toNat
    · exact .inr ⟨by simp; omega, by simp; omega⟩
    · exact .inl (by simp; omega)
  clear h
  rcases dd with d1 | ⟨d1, d2⟩
  all_goals
    go_enter Tryd.func116, Tryd.ntmps116
    go_wp2
    go_ret
    exact ⟨by rw [H.out]; rfl, rfl⟩

theorem small_any (c : UInt8) (w : World) : Calls Tryd.prog 116 #[.int .u8 (c.toNat : Int)] w fun e w' => e = .returned (.int .u8 ((lowc c).toNat : Int)) ∧ w = w' := by
  by_cases h : 65 ≤ c.toNat ∧ c.toNat ≤ 70
  · exact small_yes c w h.1 h.2
  · exact small_no c w h

/-- A digit's number, great letters too. -/
def hg (c : UInt8) : Int := hv (lowc c)

theorem hg_all (c : UInt8) : (hg c = -1 ∧ ∀ j, j < 16 → hexd j ≠ c ∧ (9 < j → hexd j ≠ c + 32)) ∨
    ∃ q : Nat, q < 16 ∧ hg c = (q : Int) ∧ (hexd q = c ∨ (hexd q ≠ c ∧ 9 < q ∧ hexd q = c + 32)) ∧ ∀ j, j < q → hexd j ≠ c ∧ (9 < j → hexd j ≠ c + 32) := by
  revert c
  have : ∀ c : Fin 256, (hg (UInt8.ofNat c.val) = -1 ∧ ∀ j, j < 16 → hexd j ≠ UInt8.ofNat c.val ∧ (9 < j → hexd j ≠ UInt8.ofNat c.val + 32)) ∨
      ∃ q, q < 16 ∧ hg (UInt8.ofNat c.val) = ((q : Nat) : Int) ∧ (hexd q = UInt8.ofNat c.val ∨ (hexd q ≠ UInt8.ofNat c.val ∧ 9 < q ∧ hexd q = UInt8.ofNat c.val + 32)) ∧
        ∀ j, j < q → hexd j ≠ UInt8.ofNat c.val ∧ (9 < j → hexd j ≠ UInt8.ofNat c.val + 32) := by decide +kernel
  intro c
  have h := this ⟨c.toNat, c.toNat_lt⟩
  simp only [UInt8.ofNat_toNat] at h
  exact h

theorem add32 (c : UInt8) : ((c.toNat : Int) + 32) % 256 = ((c + 32).toNat : Int) := by
  rw [UInt8.toNat_add]
  simp

theorem byte_ne {x c : UInt8} (h : x ≠ c) : ((x.toNat : Int) == (c.toNat : Int)) = false := by
  rw [beq_eq_false_iff_ne]; exact fun e => h (UInt8.toNat_inj.1 (Int.ofNat.inj e))
theorem byte_eq {x c : UInt8} (h : x = c) : ((x.toNat : Int) == (c.toNat : Int)) = true := by
  rw [h]; simp

theorem value_great (c : UInt8) (K : Nat) (w : World) (hK : K ≤ 16) (hno : ∀ j, j < K → hexd j ≠ c ∧ (9 < j → hexd j ≠ c + 32))
    (hyes : K < 16 → (hexd K = c ∨ (hexd K ≠ c ∧ 9 < K ∧ hexd K = c + 32))) :
    Calls Tryd.prog 117 #[.int .u8 (c.toNat : Int), .bool true] w fun e w' => e = .returned (.int .i64 (nth16 K)) ∧ w = w' := by
  have Hno := Lib.hid hno
  have Hyes := Lib.hid hyes
  have h32 := add32 c
  have h32w : IntKind.u8.wrap ((c.toNat : Int) + 32) = ((c + 32).toNat : Int) := by rw [IntKind.wrap_u8]; exact h32
  have g0 := get1
  generalize hd : c + 32 = d at *
  clear hno hyes hd
  go_enter Tryd.func117, Tryd.ntmps117
  go_wp2
  go_loop [5] (fun i => ∃ k : Nat, k ≤ K ∧ i = .int .i64 k) (fun i => 16 - (intOf i).toNat)
  case atStart => exact ⟨0, Nat.zero_le _, rfl⟩
  case round =>
    obtain ⟨k, hk, rfl⟩ := hrel
    by_cases hlt : k < K
    · obtain ⟨n1, n2⟩ := Hno.out k hlt
      have t1 := byte_ne n1
      have t2 : decide ((9 : Int) < (k : Int)) = false ∨ (decide ((9 : Int) < (k : Int)) = true ∧ (((hexd k).toNat : Int) == (d.toNat : Int)) = false) := by
        by_cases h9 : 9 < k
        · exact .inr ⟨by simp; omega, byte_ne (n2 h9)⟩
        · exact .inl (by simp; omega)
      clear n1 n2
      rcases t2 with t2 | ⟨t2, t3⟩
      all_goals
        go_wp2_with (go_at_call 113; refine (digit_any _ _ (by omega) (by omega)).mono ?_; rintro e w' ⟨rfl, rfl⟩; rw [Int.toNat_natCast])
        go_round
        case rel => exact ⟨k + 1, by omega, by go_num⟩
        case measure => simp [intOf] <;> omega
    · obtain rfl : k = K := by omega
      by_cases h16 : k < 16
      · have hn := Lib.hid (show nth16 k = (k : Int) from if_pos h16)
        have t2 : (((hexd k).toNat : Int) == (c.toNat : Int)) = true ∨ ((((hexd k).toNat : Int) == (c.toNat : Int)) = false ∧ decide ((9 : Int) < (k : Int)) = true ∧ (((hexd k).toNat : Int) == (d.toNat : Int)) = true) := by
          rcases Hyes.out h16 with h | ⟨h1, h2, h3⟩
          · exact .inl (byte_eq h)
          · exact .inr ⟨byte_ne h1, by simp; omega, byte_eq h3⟩
        rcases t2 with t1 | ⟨t1, t2, t3⟩
        all_goals
          go_wp2_with (go_at_call 113; refine (digit_any _ _ (by omega) (by omega)).mono ?_; rintro e w' ⟨rfl, rfl⟩; rw [Int.toNat_natCast])
          go_ret
          exact ⟨ret_int hn.out.symm, rfl⟩
      · have hn := Lib.hid (show nth16 k = -1 from if_neg h16)
        go_wp2
        go_ret
        exact ⟨ret_int hn.out.symm, rfl⟩

theorem value_hg (c : UInt8) (w : World) :
    Calls Tryd.prog 117 #[.int .u8 (c.toNat : Int), .bool true] w fun e w' => e = .returned (.int .i64 (hg c)) ∧ w = w' := by
  rcases hg_all c with ⟨h1, h2⟩ | ⟨q, h1, h2, h3, h4⟩
  · have := value_great c 16 w (by omega) h2 (fun h => absurd h (by omega))
    rw [h1]
    exact this
  · have := value_great c q w (by omega) h4 (fun _ => h3)
    rw [show nth16 q = (q : Int) from if_pos h1] at this
    rw [h2]
    exact this

theorem hg_rng (c : UInt8) : -1 ≤ hg c ∧ hg c < 16 := hv_rng _

end Go.Proofs.YtccidoigjdbepaaDoor.Hex
