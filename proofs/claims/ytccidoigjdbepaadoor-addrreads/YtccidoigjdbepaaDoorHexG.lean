
/- Contracts: hexes.ReadGroup, ref05.ReadGroup. -/
import Derived.Test.YtccidoigjdbepaaDoorHexF
namespace Go.Proofs.YtccidoigjdbepaaDoor.Hex
open Go.RowKit
set_option maxRecDepth 100000

/-- The number of digits. -/
def grpVal (S : List UInt8) : Nat := S.foldl (fun a c => 16 * a + (hg c).toNat) 0

theorem grpVal_snoc (S : List UInt8) (k : Nat) (c : UInt8) (h : S[k]? = some c) : grpVal (S.take (k + 1)) = 16 * grpVal (S.take k) + (hg c).toNat := by
  obtain ⟨hk, rfl⟩ := List.getElem?_eq_some_iff.1 h
  rw [List.take_succ_eq_append_getElem hk, grpVal, List.foldl_append]
  rfl

theorem grpVal_lt (S : List UInt8) (k : Nat) (hk : k ≤ S.length) : grpVal (S.take k) < 16 ^ k := by
  induction k with
  | zero => simp [grpVal]
  | succ k ih =>
    have e : S[k]? = some (S[k]'(by omega)) := List.getElem?_eq_getElem _
    rw [grpVal_snoc S k _ e, Nat.pow_succ]
    have := ih (by omega)
    have := hg_rng (S[k]'(by omega))
    omega

theorem or4 (v q : Nat) (hv : v < 4096) (hq : q < 16) : bits BinOp.or IntKind.u16 ((v : Int) * 16) (q : Int) = ((16 * v + q : Nat) : Int) := by
  rw [show (v : Int) * 16 = ((v * 16 : Nat) : Int) by omega, u16_or_nat _ _ (by omega) (by omega), nat_join 4 _ _ (Nat.mul_mod_left _ _) hq, Nat.mul_comm]

/-- All digits are good. -/
def AllGood (S : List UInt8) : Prop := ∀ (k : Nat) (c : UInt8), S[k]? = some c → 0 ≤ hg c
/-- The first that is none. -/
def FirstBad (S : List UInt8) (K : Nat) : Prop := (∀ (k : Nat) (c : UInt8), k < K → S[k]? = some c → 0 ≤ hg c) ∧ ∃ c, S[K]? = some c ∧ hg c < 0

theorem good_or_bad (S : List UInt8) : AllGood S ∨ ∃ K, FirstBad S K := by
  induction S with
  | nil => exact .inl fun k c h => by simp at h
  | cons a t ih =>
    by_cases ha : hg a < 0
    · exact .inr ⟨0, fun k c hk => absurd hk (by omega), a, rfl, ha⟩
    · rcases ih with h | ⟨K, h1, c, h2, h3⟩
      · refine .inl fun k c hk => ?_
        cases k with
        | zero => simp at hk; subst hk; omega
        | succ k => exact h k c (by simpa using hk)
      · refine .inr ⟨K + 1, fun k c hk h => ?_, c, by simpa using h2, h3⟩
        cases k with
        | zero => simp at h; subst h; omega
        | succ k => exact h1 k c (by omega) (by simpa using h)

theorem readGroup_len (s : ByteArray) (w : World) (h : s.size < 1 ∨ 4 < s.size) (hn : s.size ≤ 1000000) :
    Calls Tryd.prog 105 #[.string s] w fun e w' => e = .returned (.tuple #[.int .u16 0, .int .i64 5]) ∧ w = w' := by
  have dd : decide ((s.size : Int) < 1) = true ∨ (decide ((s.size : Int) < 1) = false ∧ decide ((4 : Int) < (s.size : Int)) = true) := by
    rcases h with h | h
    · exact .inl (by simp; omega)
    · exact .inr ⟨by simp; omega, by simp; omega⟩
  clear h
  rcases dd with d1 | ⟨d1, d2⟩
  all_goals
    go_enter Tryd.func105, Tryd.ntmps105
    go_wp2
    go_ret2
    exact ⟨rfl, rfl⟩

theorem refReadGroup_len (s : ByteArray) (w : World) (h : s.size < 1 ∨ 4 < s.size) (hn : s.size ≤ 1000000) :
    Calls Tryd.prog 106 #[.string s] w fun e w' => e = .returned (.int .i64 (-1)) ∧ w = w' := by
  have dd : decide ((s.size : Int) < 1) = true ∨ (decide ((s.size : Int) < 1) = false ∧ decide ((4 : Int) < (s.size : Int)) = true) := by
    rcases h with h | h
    · exact .inl (by simp; omega)
    · exact .inr ⟨by simp; omega, by simp; omega⟩
  clear h
  rcases dd with d1 | ⟨d1, d2⟩
  all_goals
    go_enter Tryd.func106, Tryd.ntmps106
    go_wp2
    go_ret
    exact ⟨rfl, rfl⟩

theorem readGroup_good (s : ByteArray) (w : World) (h1 : 1 ≤ s.size) (h4 : s.size ≤ 4) (hG : AllGood s.data.toList) :
    Calls Tryd.prog 105 #[.string s] w fun e w' => e = .returned (.tuple #[.int .u16 (grpVal s.data.toList : Int), .int .i64 0]) ∧ w = w' := by
  have HG := Lib.hid hG
  have Hlen := Lib.hid (show s.data.toList.length = s.size from rfl)
  have d1 : decide ((s.size : Int) < 1) = false := by simp; omega
  have d2 : decide ((4 : Int) < (s.size : Int)) = false := by simp; omega
  clear hG
  generalize hS : s.data.toList = S at *
  have HS := Lib.hid hS
  clear hS
  go_enter Tryd.func105, Tryd.ntmps105
  go_wp2
  go_loop [4, 17] (fun v i => ∃ k : Nat, k ≤ s.size ∧ i = .int .i64 k ∧ v = .int .u16 (grpVal (S.take k) : Int)) (fun _ i => s.size - (intOf i).toNat)
  case atStart => exact ⟨0, Nat.zero_le _, rfl, rfl⟩
  case round =>
    obtain ⟨k, hk, rfl, rfl⟩ := hrel
    by_cases hlt : k < s.size
    · obtain ⟨c, hc⟩ : ∃ c, S[k]? = some c := ⟨S[k]'(by rw [Hlen.out]; exact hlt), List.getElem?_eq_getElem _⟩
      have ha := byte_at s k c (by rw [HS.out]; exact hc)
      have hpos := HG.out k c hc
      have hr := hg_rng c
      obtain ⟨q, hq⟩ := Int.eq_ofNat_of_zero_le hpos
      have hq16 : q < 16 := by omega
      have hvl : grpVal (S.take k) < 4096 := by
        have h1 := grpVal_lt S k (by rw [Hlen.out]; exact hk)
        have h3 : 16 ^ k ≤ 16 ^ 3 := Nat.pow_le_pow_right (by omega) (by omega)
        omega
      have Hs := Lib.hid ((or4 (grpVal (S.take k)) q hvl hq16).trans (congrArg Int.ofNat (show 16 * grpVal (S.take k) + q = grpVal (S.take (k + 1)) by rw [grpVal_snoc S k c hc, hq, Int.toNat_natCast])))
      have Hq := Lib.hid (show hv (lowc c) = (q : Int) from hq)
      have d0 : decide ((q : Int) < 0) = false := by simp
      clear hc hq hpos hr
      generalize grpVal (S.take k) = V at *
      go_wp2_with fail
      refine (small_any _ _).mono ?_; rintro e w2 ⟨rfl, rfl⟩
      go_wp2_with fail
      refine (index_hv _ _).mono ?_; rintro e w2 ⟨rfl, rfl⟩
      rw [Hq.out]
      go_wp2
      go_round
      case rel => exact ⟨k + 1, by omega, by go_num, congrArg (Value.int .u16) Hs.out⟩
      case measure => simp [intOf] <;> omega
    · obtain rfl : k = s.size := by omega
      have hf : S.take s.size = S := List.take_of_length_le (by rw [Hlen.out]; exact Nat.le_refl _)
      rw [hf]
      clear hf
      go_wp2
      go_ret2
      exact ⟨rfl, rfl⟩

theorem readGroup_bad (s : ByteArray) (K : Nat) (w : World) (h1 : 1 ≤ s.size) (h4 : s.size ≤ 4) (hB : FirstBad s.data.toList K) :
    Calls Tryd.prog 105 #[.string s] w fun e w' => e = .returned (.tuple #[.int .u16 0, .int .i64 5]) ∧ w = w' := by
  obtain ⟨hgood, c, hcK, hneg⟩ := hB
  have Hgood := Lib.hid hgood
  have hKs : K < s.size := (List.getElem?_eq_some_iff.1 hcK).1
  have HcK := Lib.hid hcK
  have d1 : decide ((s.size : Int) < 1) = false := by simp; omega
  have d2 : decide ((4 : Int) < (s.size : Int)) = false := by simp; omega
  clear hgood hcK
  go_enter Tryd.func105, Tryd.ntmps105
  go_wp2
  go_loop [4, 17] (fun v i => ∃ k : Nat, k ≤ K ∧ i = .int .i64 k ∧ ∃ n : Nat, n < 16 ^ k ∧ v = .int .u16 (n : Int)) (fun _ i => s.size - (intOf i).toNat)
  case atStart => exact ⟨0, Nat.zero_le _, rfl, 0, by simp, rfl⟩
  case round =>
    obtain ⟨k, hk, rfl, V, hV, rfl⟩ := hrel
    by_cases hlt : k < K
    · obtain ⟨x, hc⟩ : ∃ x, s.data.toList[k]? = some x := ⟨s.data.toList[k]'(show k < s.size by omega), List.getElem?_eq_getElem _⟩
      have ha := byte_at s k x hc
      have hpos := Hgood.out k x hlt hc
      have hr := hg_rng x
      obtain ⟨q, hq⟩ := Int.eq_ofNat_of_zero_le hpos
      have hq16 : q < 16 := by omega
      have hvl : V < 4096 := by
        have h3 : 16 ^ k ≤ 16 ^ 3 := Nat.pow_le_pow_right (by omega) (by omega)
        omega
      have Hs := Lib.hid (or4 V q hvl hq16)
      have Hb := Lib.hid (show 16 * V + q < 16 ^ (k + 1) by rw [Nat.pow_succ]; omega)
      have Hq := Lib.hid (show hv (lowc x) = (q : Int) from hq)
      have d0 : decide ((q : Int) < 0) = false := by simp
      clear hc hq hpos hr hV
      go_wp2_with fail
      refine (small_any _ _).mono ?_; rintro e w2 ⟨rfl, rfl⟩
      go_wp2_with fail
      refine (index_hv _ _).mono ?_; rintro e w2 ⟨rfl, rfl⟩
      rw [Hq.out]
      go_wp2
      go_round
      case rel => exact ⟨k + 1, by omega, by go_num, 16 * V + q, Hb.out, congrArg (Value.int .u16) Hs.out⟩
      case measure => simp [intOf] <;> omega
    · obtain rfl : k = K := by omega
      have ha := byte_at s k c HcK.out
      have d0 : decide (hv (lowc c) < 0) = true := by
        have : hv (lowc c) < 0 := hneg
        simp; omega
      clear hV
      go_wp2_with fail
      refine (small_any _ _).mono ?_; rintro e w2 ⟨rfl, rfl⟩
      go_wp2_with fail
      refine (index_hv _ _).mono ?_; rintro e w2 ⟨rfl, rfl⟩
      go_wp2
      go_ret2
      exact ⟨rfl, rfl⟩

theorem refReadGroup_good (s : ByteArray) (w : World) (h1 : 1 ≤ s.size) (h4 : s.size ≤ 4) (hG : AllGood s.data.toList) :
    Calls Tryd.prog 106 #[.string s] w fun e w' => e = .returned (.int .i64 (grpVal s.data.toList : Int)) ∧ w = w' := by
  have HG := Lib.hid hG
  have Hlen := Lib.hid (show s.data.toList.length = s.size from rfl)
  have d1 : decide ((s.size : Int) < 1) = false := by simp; omega
  have d2 : decide ((4 : Int) < (s.size : Int)) = false := by simp; omega
  clear hG
  generalize hS : s.data.toList = S at *
  have HS := Lib.hid hS
  clear hS
  go_enter Tryd.func106, Tryd.ntmps106
  go_wp2
  go_loop [3, 4] (fun v i => ∃ k : Nat, k ≤ s.size ∧ i = .int .i64 k ∧ v = .int .i64 (grpVal (S.take k) : Int)) (fun _ i => s.size - (intOf i).toNat)
  case atStart => exact ⟨0, Nat.zero_le _, rfl, rfl⟩
  case round =>
    obtain ⟨k, hk, rfl, rfl⟩ := hrel
    by_cases hlt : k < s.size
    · obtain ⟨c, hc⟩ : ∃ c, S[k]? = some c := ⟨S[k]'(by rw [Hlen.out]; exact hlt), List.getElem?_eq_getElem _⟩
      have ha := byte_at s k c (by rw [HS.out]; exact hc)
      have hpos := HG.out k c hc
      have hr := hg_rng c
      obtain ⟨q, hq⟩ := Int.eq_ofNat_of_zero_le hpos
      have hq16 : q < 16 := by omega
      have hvl : grpVal (S.take k) < 4096 := by
        have h1 := grpVal_lt S k (by rw [Hlen.out]; exact hk)
        have h3 : 16 ^ k ≤ 16 ^ 3 := Nat.pow_le_pow_right (by omega) (by omega)
        omega
      have Hs := Lib.hid (show grpVal (S.take (k + 1)) = 16 * grpVal (S.take k) + q by rw [grpVal_snoc S k c hc, hq, Int.toNat_natCast])
      have Hq := Lib.hid hq
      have d0 : decide ((q : Int) < 0) = false := by simp
      clear hc hq hpos hr
      generalize grpVal (S.take k) = V at *
      go_wp2_with fail
      refine (value_hg _ _).mono ?_; rintro e w2 ⟨rfl, rfl⟩
      rw [Hq.out]
      go_wp2
      go_round
      case rel => exact ⟨k + 1, by omega, by go_num, by rw [Hs.out]; go_num⟩
      case measure => simp [intOf] <;> omega
    · obtain rfl : k = s.size := by omega
      have hf : S.take s.size = S := List.take_of_length_le (by rw [Hlen.out]; exact Nat.le_refl _)
      rw [hf]
      clear hf
      go_wp2
      go_ret
      exact ⟨rfl, rfl⟩

theorem refReadGroup_bad (s : ByteArray) (K : Nat) (w : World) (h1 : 1 ≤ s.size) (h4 : s.size ≤ 4) (hB : FirstBad s.data.toList K) :
    Calls Tryd.prog 106 #[.string s] w fun e w' => e = .returned (.int .i64 (-1)) ∧ w = w' := by
  obtain ⟨hgood, c, hcK, hneg⟩ := hB
  have Hgood := Lib.hid hgood
  have hKs : K < s.size := (List.getElem?_eq_some_iff.1 hcK).1
  have HcK := Lib.hid hcK
  have d1 : decide ((s.size : Int) < 1) = false := by simp; omega
  have d2 : decide ((4 : Int) < (s.size : Int)) = false := by simp; omega
  clear hgood hcK
  go_enter Tryd.func106, Tryd.ntmps106
  go_wp2
  go_loop [3, 4] (fun v i => ∃ k : Nat, k ≤ K ∧ i = .int .i64 k ∧ ∃ n : Nat, n < 16 ^ k ∧ v = .int .i64 (n : Int)) (fun _ i => s.size - (intOf i).toNat)
  case atStart => exact ⟨0, Nat.zero_le _, rfl, 0, by simp, rfl⟩
  case round =>
    obtain ⟨k, hk, rfl, V, hV, rfl⟩ := hrel
    by_cases hlt : k < K
    · obtain ⟨x, hc⟩ : ∃ x, s.data.toList[k]? = some x := ⟨s.data.toList[k]'(show k < s.size by omega), List.getElem?_eq_getElem _⟩
      have ha := byte_at s k x hc
      have hpos := Hgood.out k x hlt hc
      have hr := hg_rng x
      obtain ⟨q, hq⟩ := Int.eq_ofNat_of_zero_le hpos
      have hq16 : q < 16 := by omega
      have hvl : V < 4096 := by
        have h3 : 16 ^ k ≤ 16 ^ 3 := Nat.pow_le_pow_right (by omega) (by omega)
        omega
      have Hb := Lib.hid (show 16 * V + q < 16 ^ (k + 1) by rw [Nat.pow_succ]; omega)
      have Hq := Lib.hid hq
      have d0 : decide ((q : Int) < 0) = false := by simp
      clear hc hq hpos hr hV
      go_wp2_with fail
      refine (value_hg _ _).mono ?_; rintro e w2 ⟨rfl, rfl⟩
      rw [Hq.out]
      go_wp2
      go_round
      case rel => exact ⟨k + 1, by omega, by go_num, 16 * V + q, Hb.out, by go_num⟩
      case measure => simp [intOf] <;> omega
    · obtain rfl : k = K := by omega
      have ha := byte_at s k c HcK.out
      have d0 : decide (hg c < 0) = true := by simp; omega
      clear hV
      go_wp2_with fail
      refine (value_hg _ _).mono ?_; rintro e w2 ⟨rfl, rfl⟩
      go_wp2
      go_ret
      exact ⟨rfl, rfl⟩

end Go.Proofs.YtccidoigjdbepaaDoor.Hex
