
/- Contracts: hexes.Decode of what is no text; ref05.Decode. -/
import Derived.Test.YtfiagknmieegaaaHexC
namespace Go.Proofs.Ytfiagknmieegaaa.Hex
open Go.RowKit

/-- Two bytes of a text. -/
def Pair (S : List UInt8) (k : Nat) (a b : UInt8) : Prop := S[2 * k]? = some a ∧ S[2 * k + 1]? = some b
/-- The first pair that is no two digits. -/
def BadAt (S : List UInt8) (K : Nat) : Prop :=
  (∀ k, k < K → ∃ a b, Pair S k a b ∧ 0 ≤ hv a ∧ 0 ≤ hv b) ∧ ∃ a b, Pair S K a b ∧ (hv a < 0 ∨ (0 ≤ hv a ∧ hv b < 0))

theorem hv_rng (c : UInt8) : -1 ≤ hv c ∧ hv c < 16 := by
  rcases hv_all c with ⟨h, _⟩ | ⟨q, h1, h2, _⟩ <;> omega

theorem hv_back (c : UInt8) (h : 0 ≤ hv c) : hexd (hv c).toNat = c := by
  rcases hv_all c with ⟨h', _⟩ | ⟨q, h1, h2, h3, _⟩
  · omega
  · rw [h2, Int.toNat_natCast]; exact h3

theorem hex_cases (n : Nat) : ∀ S : List UInt8, S.length = n → n % 2 = 1 ∨ (∃ L, S = hexEnc L) ∨ (n % 2 = 0 ∧ ∃ K, BadAt S K) := by
  induction n using Nat.strongRecOn with
  | ind n ih =>
    intro S hS
    match S, hS with
    | [], _ => exact .inr (.inl ⟨[], rfl⟩)
    | [_], h => simp at h; exact .inl (by omega)
    | a :: b :: t, h =>
      simp at h
      rcases ih (n - 2) (by omega) t (by omega) with h1 | ⟨L, h1⟩ | ⟨h0, K, hK, a', b', hP, hbad⟩
      · exact .inl (by omega)
      · by_cases ha : hv a < 0
        · refine .inr (.inr ⟨?_, 0, fun k hk => absurd hk (by omega), a, b, ⟨rfl, rfl⟩, .inl ha⟩)
          rw [h1, hexEnc_len] at h
          omega
        · by_cases hb : hv b < 0
          · refine .inr (.inr ⟨?_, 0, fun k hk => absurd hk (by omega), a, b, ⟨rfl, rfl⟩, .inr ⟨by omega, hb⟩⟩)
            rw [h1, hexEnc_len] at h
            omega
          · refine .inr (.inl ⟨UInt8.ofNat (16 * (hv a).toNat + (hv b).toNat) :: L, ?_⟩)
            have r1 := hv_rng a
            have r2 := hv_rng b
            have e : (UInt8.ofNat (16 * (hv a).toNat + (hv b).toNat)).toNat = 16 * (hv a).toNat + (hv b).toNat := by
              simp
              omega
            show a :: b :: t = hexd _ :: hexd _ :: hexEnc L
            rw [e, h1, show (16 * (hv a).toNat + (hv b).toNat) / 16 = (hv a).toNat by omega, show (16 * (hv a).toNat + (hv b).toNat) % 16 = (hv b).toNat by omega,
              hv_back a (by omega), hv_back b (by omega)]
      · by_cases ha : hv a < 0
        · exact .inr (.inr ⟨by omega, 0, fun k hk => absurd hk (by omega), a, b, ⟨rfl, rfl⟩, .inl ha⟩)
        · by_cases hb : hv b < 0
          · exact .inr (.inr ⟨by omega, 0, fun k hk => absurd hk (by omega), a, b, ⟨rfl, rfl⟩, .inr ⟨by omega, hb⟩⟩)
          · refine .inr (.inr ⟨by omega, K + 1, fun k hk => ?_, a', b', ?_, hbad⟩)
            · cases k with
              | zero => exact ⟨a, b, ⟨rfl, rfl⟩, by omega, by omega⟩
              | succ k =>
                obtain ⟨x, y, hp, h2, h3⟩ := hK k (by omega)
                refine ⟨x, y, ?_, h2, h3⟩
                unfold Pair at *
                rw [show 2 * (k + 1) = 2 * k + 1 + 1 by omega]
                simpa using hp
            · unfold Pair at *
              rw [show 2 * (K + 1) = 2 * K + 1 + 1 by omega]
              simpa using hP

theorem decode_odd (s : ByteArray) (w : World) (h : s.size % 2 = 1) (hn : s.size ≤ 1000000) :
    Calls Try.prog 55 #[.string s] w fun e w' => e = .returned (.tuple #[.slice none 0 0, .int .i64 5]) ∧ Below w.heap.size w w' := by
  have hm0 : ((s.size : Int) % 2 != 0) = true := by rw [bne_iff_ne]; omega
  go_enter Try.func55, Try.ntmps55
  go_wp2
  go_ret2
  exact ⟨rfl, Below.refl _ _⟩

theorem refDecode_odd (s : ByteArray) (w : World) (h : s.size % 2 = 1) (hn : s.size ≤ 1000000) :
    Calls Try.prog 61 #[.string s] w fun e w' => e = .returned (.tuple #[.slice none 0 0, .int .i64 5]) ∧ Below w.heap.size w w' := by
  have hm0 : ((s.size : Int) % 2 != 0) = true := by rw [bne_iff_ne]; omega
  go_enter Try.func61, Try.ntmps61
  go_wp2
  go_ret2
  exact ⟨rfl, Below.refl _ _⟩

theorem mod_byte (v : Int) : ∃ y : UInt8, v % 256 = (y.toNat : Int) := ⟨UInt8.ofNat (v % 256).toNat, by simp; omega⟩

theorem decode_bad (s : ByteArray) (K : Nat) (w : World) (h : s.size % 2 = 0) (hn : s.size ≤ 1000000) (hB : BadAt s.data.toList K) :
    Calls Try.prog 55 #[.string s] w fun e w' => e = .returned (.tuple #[.slice none 0 0, .int .i64 5]) ∧ Below w.heap.size w w' := by
  obtain ⟨N, hN⟩ : ∃ N, s.size = 2 * N := ⟨s.size / 2, by omega⟩
  obtain ⟨hgood, x, y, hP, hbad⟩ := hB
  have Hgood := Lib.hid hgood
  clear hgood
  have hKN : K < N := by
    obtain ⟨h1, _⟩ := List.getElem?_eq_some_iff.1 hP.2
    have : s.data.toList.length = s.size := rfl
    omega
  have hm0 : ((2 * (N : Int)) % 2 != 0) = false := by rw [bne_eq_false_iff_eq]; omega
  have hq0 : (2 * (N : Int)) / 2 = (N : Int) := by omega
  have HbadA := byte_at s _ _ hP.1
  have HbadB := byte_at s _ _ hP.2
  clear hP h
  go_enter Try.func55, Try.ntmps55
  go_wp2_with (at_make; refine wpList_mk _ rfl _ _ rfl w.heap.size N _ _ rfl rfl (by omega) (by omega) (by omega) (Nat.le_refl _) ?_; intro w1 hown hgrow)
  go_loopw [18] (fun i wr => ∃ k : Nat, k ≤ K ∧ i = .int .i64 k ∧ (∃ l, Own wr w.heap.size (.slice (some ⟨w.heap.size, 0, none⟩) N N) N l) ∧ Below w.heap.size w wr) (fun i _ => N - (intOf i).toNat)
  case atStart => exact ⟨0, Nat.zero_le _, rfl, ⟨_, hown⟩, (Below.refl _ _).grown hgrow (Nat.le_refl _) (fun k hk => by cases hk)⟩
  case round =>
    clear hown hgrow
    obtain ⟨k, hk, rfl, ⟨l, hown⟩, hbel⟩ := hrel
    by_cases hlt : k < K
    · clear HbadA HbadB hbad
      obtain ⟨a, b, hp, h1, h2⟩ := Hgood.out k hlt
      have ha := byte_at s _ _ hp.1
      have hb := byte_at s _ _ hp.2
      obtain ⟨old, hc, _⟩ := hown.at (j := k) (by omega)
      have hf := World.ownsRow.frozenAt hown k
      obtain ⟨z, hz⟩ := mod_byte (bits BinOp.or IntKind.i64 (hv a * 16) (hv b))
      have hput := hown.put k z
      unfold bv at hput
      rw [← hz] at hput
      have Hp := Lib.hid hput
      have r1 := hv_rng a
      have r2 := hv_rng b
      clear hput hown hp hz
      have d1 : decide (hv a < 0) = false := by simp; omega
      have d2 : decide (hv b < 0) = false := by simp; omega
      go_wp2_with fail
      refine (index_hv _ _).mono ?_; rintro e w2 ⟨rfl, rfl⟩
      go_wp2_with fail
      refine (index_hv _ _).mono ?_; rintro e w2 ⟨rfl, rfl⟩
      go_wp2
      go_roundw
      case rel => exact ⟨k + 1, by omega, by go_num, ⟨_, Hp.out.1⟩, hbel.grown Hp.out.2 hbel.size (fun g hg => by injection hg with hg; omega)⟩
      case measure => simp [intOf] <;> omega
    · obtain rfl : k = K := by omega
      rcases hbad with hx | ⟨hx, hy⟩
      · have d1 : decide (hv x < 0) = true := by simp; omega
        go_wp2_with fail
        refine (index_hv _ _).mono ?_; rintro e w2 ⟨rfl, rfl⟩
        go_wp2_with fail
        refine (index_hv _ _).mono ?_; rintro e w2 ⟨rfl, rfl⟩
        go_wp2
        go_ret2
        exact ⟨rfl, hbel⟩
      · have d1 : decide (hv x < 0) = false := by simp; omega
        have d2 : decide (hv y < 0) = true := by simp; omega
        go_wp2_with fail
        refine (index_hv _ _).mono ?_; rintro e w2 ⟨rfl, rfl⟩
        go_wp2_with fail
        refine (index_hv _ _).mono ?_; rintro e w2 ⟨rfl, rfl⟩
        go_wp2
        go_ret2
        exact ⟨rfl, hbel⟩

end Go.Proofs.Ytfiagknmieegaaa.Hex
