
/- Contract: packet.Strip; what is left of a packet without what stands behind it. -/
import Derived.Test.YtkokgoodpibboaaPkG
namespace Go.Proofs.Ytkokgoodpibboaa
open Go.RowKit
set_option maxRecDepth 100000
set_option linter.unusedSimpArgs false
set_option linter.unusedVariables false

theorem n1_take (l : List UInt8) (T : Nat) (h : 8 ≤ T) : n1 (l.take T) = n1 l := by unfold n1; rw [List.take_take, Nat.min_eq_left h]
theorem fam_take (l : List UInt8) (T : Nat) (h : 0 < T) : fam (l.take T) = fam l := by unfold fam; rw [List.getElem?_take, if_pos h]
theorem kW_take {l : List UInt8} (h : kE l = 0) (hn : l.length ≤ 65535) : kW (l.take (kX l 2)) = true := by
  obtain ⟨f1, f2, f3, f4, f5⟩ := kfacts h
  have hlen : (l.take (kX l 2)).length = kX l 2 := by simp; omega
  have h0 : ¬ l.length = 0 := by omega
  have key : kE (l.take (kX l 2)) = 0 ∧ kX (l.take (kX l 2)) 2 = kX l 2 := by
    unfold kE at h
    rw [if_neg h0] at h
    by_cases h4 : fam l = 4
    · rw [if_pos h4] at h
      have eH : kH l = hdL l := by unfold kH; rw [if_neg h0, if_pos h4]; unfold pH; rw [if_pos h]
      obtain ⟨h20, hw⟩ := pE_zero h
      obtain ⟨w0, w1, w2, w3, w4, w5⟩ := wE_zero hw
      have e1 : kX l 1 = n1 l / 72057594037927936 % 16 * 4 := by unfold kX; rw [eH]; unfold hdL hdN; rw [hdv_num _ _ _ 1 _ rfl]; rfl
      have e2 : kX l 2 = n1 l / 4294967296 % 65536 := by unfold kX; rw [eH]; unfold hdL hdN; rw [hdv_num _ _ _ 2 _ rfl]; rfl
      have p : pE (l.take (kX l 2)) = 0 := by
        unfold pE
        rw [if_neg (by omega), n1_take l _ (by omega), hlen]
        unfold wE
        rw [if_pos w0, if_neg (by omega), if_neg (by omega), if_neg (by omega), if_neg (by omega), List.take_take, Nat.min_eq_left (by omega), if_pos w5]
      have k : kE (l.take (kX l 2)) = 0 := by unfold kE; rw [if_neg (by omega), fam_take l _ (by omega), if_pos h4]; exact p
      have eH' : kH (l.take (kX l 2)) = hdL (l.take (kX l 2)) := by unfold kH; rw [if_neg (by omega), fam_take l _ (by omega), if_pos h4]; unfold pH; rw [if_pos p]
      refine ⟨k, ?_⟩
      have e3 : kX (l.take (kX l 2)) 2 = n1 (l.take (kX l 2)) / 4294967296 % 65536 := by rw [kX, eH']; unfold hdL hdN; rw [hdv_num _ _ _ 2 _ rfl]; rfl
      rw [e3, n1_take l _ (by omega), ← e2]
    · rw [if_neg h4] at h
      by_cases h6 : fam l = 6
      · rw [if_pos h6] at h
        have eH : kH l = hdL6 l := by unfold kH; rw [if_neg h0, if_neg h4, if_pos h6]; unfold pH6; rw [if_pos h]
        have h40 := pH6_len h
        have e2 : kX l 2 = n1 l / 65536 % 65536 + 40 := by unfold kX; rw [eH]; unfold hdL6 hd6; rw [hdv_num _ _ _ 2 _ rfl]; rfl
        have hv : n1 l / 1152921504606846976 = 6 := by
          unfold pE6 at h
          rw [if_neg (by omega)] at h
          unfold wE6 at h
          split at h
          · assumption
          · cases h
        have p : pE6 (l.take (kX l 2)) = 0 := by
          unfold pE6
          rw [if_neg (by omega), n1_take l _ (by omega), hlen]
          unfold wE6
          rw [if_pos hv, if_neg (by omega)]
        have k : kE (l.take (kX l 2)) = 0 := by unfold kE; rw [if_neg (by omega), fam_take l _ (by omega), if_neg h4, if_pos h6]; exact p
        have eH' : kH (l.take (kX l 2)) = hdL6 (l.take (kX l 2)) := by unfold kH; rw [if_neg (by omega), fam_take l _ (by omega), if_neg h4, if_pos h6]; unfold pH6; rw [if_pos p]
        refine ⟨k, ?_⟩
        have e3 : kX (l.take (kX l 2)) 2 = n1 (l.take (kX l 2)) / 65536 % 65536 + 40 := by rw [kX, eH']; unfold hdL6 hd6; rw [hdv_num _ _ _ 2 _ rfl]; rfl
        rw [e3, n1_take l _ (by omega), ← e2]
      · rw [if_neg h6] at h; cases h
  unfold kW
  rw [hlen]
  exact decide_eq_true ⟨key.1, key.2, by omega⟩

end Go.Proofs.Ytkokgoodpibboaa
