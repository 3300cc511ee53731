
/- Contracts: packet.tellsError, IsError, Later; crawlwayref21.IsError, Later. -/
import Derived.Test.YtkokgoodpibboaaPkA
import Derived.Test.YtkokgoodpibboaaWIpfourTurned
namespace Go.Proofs.Ytkokgoodpibboaa
open Go.RowKit
set_option maxRecDepth 100000
set_option linter.unusedSimpArgs false
set_option linter.unusedVariables false

/-- What is so of the numbers of a packet's head. -/
theorem kfacts {l : List UInt8} (h : kE l = 0) : 20 ≤ kX l 1 ∧ kX l 1 ≤ 60 ∧ kX l 1 ≤ kX l 2 ∧ kX l 2 ≤ l.length ∧ (kX l 0 = 4 ∨ kX l 0 = 6 ∧ kX l 1 = 40) := by
  unfold kE at h
  split at h
  · cases h
  · rename_i h0
    split at h
    · rename_i h4
      have eH : kH l = hdL l := by unfold kH; rw [if_neg h0, if_pos h4]; unfold pH; rw [if_pos h]
      obtain ⟨h20, hw⟩ := pE_zero h
      obtain ⟨w0, w1, w2, w3, w4, w5⟩ := wE_zero hw
      have e0 : kX l 0 = n1 l / 1152921504606846976 := by unfold kX; rw [eH]; unfold hdL hdN; rw [hdv_num _ _ _ 0 _ rfl]; rfl
      have e1 : kX l 1 = n1 l / 72057594037927936 % 16 * 4 := by unfold kX; rw [eH]; unfold hdL hdN; rw [hdv_num _ _ _ 1 _ rfl]; rfl
      have e2 : kX l 2 = n1 l / 4294967296 % 65536 := by unfold kX; rw [eH]; unfold hdL hdN; rw [hdv_num _ _ _ 2 _ rfl]; rfl
      rw [e0, e1, e2]
      exact ⟨w1, by omega, w3, w4, .inl w0⟩
    · split at h
      · rename_i h4 h6
        have eH : kH l = hdL6 l := by unfold kH; rw [if_neg h0, if_neg h4, if_pos h6]; unfold pH6; rw [if_pos h]
        have h40 := pH6_len h
        have e0 : kX l 0 = n1 l / 1152921504606846976 := by unfold kX; rw [eH]; unfold hdL6 hd6; rw [hdv_num _ _ _ 0 _ rfl]; rfl
        have e1 : kX l 1 = 40 := by unfold kX; rw [eH]; unfold hdL6 hd6; rw [hdv_num _ _ _ 1 _ rfl]; rfl
        have e2 : kX l 2 = n1 l / 65536 % 65536 + 40 := by unfold kX; rw [eH]; unfold hdL6 hd6; rw [hdv_num _ _ _ 2 _ rfl]; rfl
        unfold pE6 at h
        rw [if_neg (by omega)] at h
        unfold wE6 at h
        rw [e0, e1, e2]
        split at h
        · rename_i hv
          split at h
          · cases h
          · exact ⟨by omega, by omega, by omega, by omega, .inr ⟨hv, rfl⟩⟩
        · cases h
      · cases h

def byt (l : List UInt8) (i : Nat) : Nat := ((l[i]?).getD 0).toNat
theorem byt_lt (l : List UInt8) (i : Nat) : byt l i < 256 := by unfold byt; exact UInt8.toNat_lt _
theorem Shows.byt {w : World} {B b off n : Nat} {l : List UInt8} (h : Shows w B (some ⟨b, off, none⟩) n l) (i : Nat) (hi : i < n) : w.cell? ⟨b, off + i, none⟩ = some (.int .u8 (byt l i : Int)) := by
  obtain ⟨b', off', x, e, _, hcx, hx, hxl⟩ := h.byte hi
  injection e with e
  injection e with e1 e2
  subst e1
  subst e2
  have e : Go.Proofs.Ytkokgoodpibboaa.byt l i = x.toNat := by unfold Go.Proofs.Ytkokgoodpibboaa.byt; rw [hxl]; rfl
  rw [e]
  exact hcx

/-- The first byte behind the head. -/
def kB (l : List UInt8) : Nat := byt l (kX l 1)
def isT (k : Nat) : Bool := decide (k = 3 ∨ k = 4 ∨ k = 5 ∨ k = 11 ∨ k = 12)
def kI (l : List UInt8) : Bool := decide (kE l = 0) && (decide (kX l 1 < kX l 2) && (if kX l 0 = 4 then decide (kX l 8 = 1) && (decide (kX l 6 = 0) && isT (kB l)) else decide (kX l 8 = 58) && decide (kB l < 128)))

theorem tells_any (k : Nat) (hk : k < 256) (w : World) : Calls Try.prog 118 #[.int .u8 (k : Int)] w fun e w' => e = .returned (.bool (isT k)) ∧ w = w' := by
  by_cases q3 : k = 3
  · subst q3
    go_enter Try.func118, Try.ntmps118
    go_wp2
    go_ret
    exact ⟨rfl, rfl⟩
  have d3 : (((k : Int)) == 3) = false := by simp; omega
  have e3 : decide ((k : Int) = 3) = false := decide_eq_false (by omega)
  by_cases q4 : k = 4
  · subst q4
    go_enter Try.func118, Try.ntmps118
    go_wp2
    go_ret
    exact ⟨rfl, rfl⟩
  have d4 : (((k : Int)) == 4) = false := by simp; omega
  have e4 : decide ((k : Int) = 4) = false := decide_eq_false (by omega)
  by_cases q5 : k = 5
  · subst q5
    go_enter Try.func118, Try.ntmps118
    go_wp2
    go_ret
    exact ⟨rfl, rfl⟩
  have d5 : (((k : Int)) == 5) = false := by simp; omega
  have e5 : decide ((k : Int) = 5) = false := decide_eq_false (by omega)
  by_cases q11 : k = 11
  · subst q11
    go_enter Try.func118, Try.ntmps118
    go_wp2
    go_ret
    exact ⟨rfl, rfl⟩
  have d11 : (((k : Int)) == 11) = false := by simp; omega
  have e11 : decide ((k : Int) = 11) = false := decide_eq_false (by omega)
  by_cases q12 : k = 12
  · subst q12
    go_enter Try.func118, Try.ntmps118
    go_wp2
    go_ret
    exact ⟨rfl, rfl⟩
  have d12 : (((k : Int)) == 12) = false := by simp; omega
  have e12 : decide ((k : Int) = 12) = false := decide_eq_false (by omega)
  have hB : isT k = false := by unfold isT; exact decide_eq_false (by omega)
  rw [hB]
  go_enter Try.func118, Try.ntmps118
  go_wp2
  go_ret
  exact ⟨rfl, rfl⟩

end Go.Proofs.Ytkokgoodpibboaa
