
/- The walk of law19.IpfourTurned. -/
import Derived.Test.YtkokgoodpibboaaHdE
import Derived.Test.YtkokgoodpibboaaWOnesumCheck
namespace Go.Proofs.Ytkokgoodpibboaa
open Go.RowKit
set_option maxRecDepth 100000
set_option linter.unusedSimpArgs false
set_option linter.unusedVariables false

theorem wE_zero {V S T n : Nat} {l : List UInt8} (h : wE V S T n l = 0) : V = 4 ∧ 20 ≤ S ∧ S ≤ n ∧ S ≤ T ∧ T ≤ n ∧ osum (l.take S) = 65535 := by
  unfold wE at h
  split at h
  · split at h
    · cases h
    · split at h
      · cases h
      · split at h
        · cases h
        · split at h
          · cases h
          · split at h
            · rename_i h0 h1 h2 h3 h4 h5
              exact ⟨h0, by omega, by omega, by omega, by omega, h5⟩
            · cases h
  · cases h
theorem pE_zero {l : List UInt8} (h : pE l = 0) : 20 ≤ l.length ∧ wE (n1 l / 1152921504606846976) (n1 l / 72057594037927936 % 16 * 4) (n1 l / 4294967296 % 65536) l.length l = 0 := by
  unfold pE at h
  split at h
  · cases h
  · exact ⟨by omega, h⟩
def sizeL (l : List UInt8) : Nat := n1 l / 72057594037927936 % 16 * 4
theorem turned_take (l : List UInt8) (bit S : Nat) (h : bit / 8 < S) : (turned l bit).take S = turned (l.take S) bit := by
  unfold turned
  rw [List.take_set, List.getElem?_take, if_pos h]
theorem turned_pE (l : List UInt8) (bit : Nat) (h : pE l = 0) (h8 : 8 ≤ bit) (hb : bit < 8 * sizeL l) : ¬ pE (turned l bit) = 0 := by
  intro h'
  obtain ⟨h20, hw⟩ := pE_zero h
  obtain ⟨h20', hw'⟩ := pE_zero h'
  obtain ⟨_, h1, h2, _, _, h5⟩ := wE_zero hw
  obtain ⟨_, _, _, _, _, h5'⟩ := wE_zero hw'
  have hS : n1 (turned l bit) / 72057594037927936 % 16 * 4 = sizeL l := by
    unfold sizeL
    obtain ⟨b0, b1, b2, b3, b4, b5, b6, b7, b8, b9, ⟨g0, _⟩, _, fS, _⟩ := head_fields l h20
    obtain ⟨c0, c1, c2, c3, c4, c5, c6, c7, c8, c9, ⟨k0, _⟩, _, fS', _⟩ := head_fields (turned l bit) h20'
    have e : (turned l bit)[0]? = l[0]? := by unfold turned; rw [List.getElem?_set_ne (by omega)]
    rw [e, g0] at k0
    injection k0 with k0
    subst k0
    rw [fS, fS']
  rw [hS, turned_take l bit _ (by omega)] at h5'
  refine turned_bad (l.take (sizeL l)) bit ?_ h5 h5'
  have : sizeL l ≤ l.length := h2
  simp [Nat.min_eq_left this]
  omega
theorem pH_one1 (l : List UInt8) (h : pE l = 0) : (pH l)[1]? = some (.int .i64 (sizeL l : Int)) := by
  unfold pH
  rw [if_pos h]
  unfold hdL hdN
  exact hdv_num _ _ _ 1 _ rfl

end Go.Proofs.Ytkokgoodpibboaa
