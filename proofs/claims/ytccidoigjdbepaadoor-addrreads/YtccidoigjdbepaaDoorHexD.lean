
/- Contracts: hexes.Decode of what is no text; ref05.Decode. -/
import Derived.Test.YtccidoigjdbepaaDoorHexC
namespace Go.Proofs.YtccidoigjdbepaaDoor.Hex
open Go.RowKit
set_option maxRecDepth 100000

/-- Two bytes of a text. -/
def Pair (S : List UInt8) (k : Nat) (a b : UInt8) : Prop := S[2 * k]? = some a ∧ S[2 * k + 1]? = some b
/-- The first pair that is no two digits. -/
def BadAt (S : List UInt8) (K : Nat) : Prop :=
  (∀ k, k < K → ∃ a b, Pair S k a b ∧ 0 ≤ hv a ∧ 0 ≤ hv b) ∧ ∃ a b, Pair S K a b ∧ (hv a < 0 ∨ (0 ≤ hv a ∧ hv b < 0))

theorem hv_rng (c : UInt8) : -1 ≤ hv c ∧ hv c < 16 := by
  rcases hv_all c with ⟨h, _⟩ | ⟨q, h1, h2, _⟩ <;> omega

theorem hv_back (c : UInt8) (h : 0 ≤ hv c) : hexd (hv c).toNat = c := by
  rcases hv_all c with ⟨h', _⟩ | ⟨q, h1, h2, h3, _⟩
  · omega
  · rw [h2, Int.toNat_natCast]; exact h3

theorem hex_cases (n : Nat) : ∀ S : List UInt8, S.length = n → n % 2 = 1 ∨ (∃ L, S = hexEnc L) ∨ (n % 2 = 0 ∧ ∃ K, BadAt S K) := by
  induction n using Nat.strongRecOn with
  | ind n ih =>
    intro S hS
    match S, hS with
    | [], _ => exact .inr (.inl ⟨[], rfl⟩)
    | [_], h => simp at h; exact .inl (by omega)
    | a :: b :: t, h =>
      simp at h
      rcases ih (n - 2) (by omega) t (by omega) with h1 | ⟨L, h1⟩ | ⟨h0, K, hK, a', b', hP, hbad⟩
      · exact .inl (by omega)
      · by_cases ha : hv a < 0
        · refine .inr (.inr ⟨?_, 0, fun k hk => absurd hk (by omega), a, b, ⟨rfl, rfl⟩, .inl ha⟩)
          rw [h1, hexEnc_len] at h
          omega
        · by_cases hb : hv b < 0
          · refine .inr (.inr ⟨?_, 0, fun k hk => absurd hk (by omega), a, b, ⟨rfl, rfl⟩, .inr ⟨by omega, hb⟩⟩)
            rw [h1, hexEnc_len] at h
            omega
          · refine .inr (.inl ⟨UInt8.ofNat (16 * (hv a).toNat + (hv b).toNat) :: L, ?_⟩)
            have r1 := hv_rng a
            have r2 := hv_rng b
            have e : (UInt8.ofNat (16 * (hv a).toNat + (hv b).toNat)).toNat = 16 * (hv a).toNat + (hv b).toNat := by
              simp
              omega
            show a :: b :: t = hexd _ :: hexd _ :: hexEnc L
            rw [e, h1, show (16 * (hv a).toNat + (hv b).toNat) / 16 = (hv a).toNat by omega, show (16 * (hv a).toNat + (hv b).toNat) % 16 = (hv b).toNat by omega,
              hv_back a (by omega), hv_back b (by omega)]
      · by_cases ha : hv a < 0
        · exact .inr (.inr ⟨by omega, 0, fun k hk => absurd hk (by omega), a, b, ⟨rfl, rfl⟩, .inl ha⟩)
        · by_cases hb : hv b < 0
          · exact .inr (.inr ⟨by omega, 0, fun k hk => absurd hk (by omega), a, b, ⟨rfl, rfl⟩, .inr ⟨by omega, hb⟩⟩)
          · refine .inr (.inr ⟨by omega, K + 1, fun k hk => ?_, a', b', ?_, hbad⟩)
            · cases k with
              | zero => exact ⟨a, b, ⟨rfl, rfl⟩, by omega, by omega⟩
              | succ k =>
                obtain ⟨x, y, hp, h2, h3⟩ := hK k (by omega)
                refine ⟨x, y, ?_, h2, h3⟩
                unfold Pair at *
                rw [show 2 * (k + 1) = 2 * k + 1 + 1 by omega]
                simpa using hp
            · unfold Pair at *
              rw [show 2 * (K + 1) = 2 * K + 1 + 1 by omega]
              simpa using hP

theorem mod_byte (v : Int) : ∃ y : UInt8, v % 256 = (y.toNat : Int) := ⟨UInt8.ofNat (v % 256).toNat, by simp; omega⟩

end Go.Proofs.YtccidoigjdbepaaDoor.Hex
