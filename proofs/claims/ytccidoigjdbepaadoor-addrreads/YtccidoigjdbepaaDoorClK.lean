
/- Layer 9. Mathematics of Parse; contract: crawlwayref09.gap. -/
import Derived.Test.YtccidoigjdbepaaDoorClJ
import Derived.Lib.IndexMore
namespace Go.Proofs.YtccidoigjdbepaaDoor.Cl
open Go.RowKit Lin
set_option maxRecDepth 100000
set_option linter.unusedVariables false

/-- The place of the first gap, -1 if there is none. -/
def gp (l : List UInt8) : Int := Lib.index l [58, 58]
theorem occ_two (l : List UInt8) (k : Nat) : Lib.occAt l [58, 58] k = (l[k]? == some 58 && l[k + 1]? == some 58) := by
  unfold Lib.occAt
  rcases hd : l.drop k with _ | ⟨a, t⟩
  · have h0 : l[k]? = none := by rw [List.getElem?_eq_none_iff]; exact List.drop_eq_nil_iff.1 hd
    rw [h0]; rfl
  · have h0 : l[k]? = some a := by have := List.getElem?_drop (xs := l) (i := k) (j := 0); rw [hd] at this; simpa using this.symm
    rcases t with _ | ⟨b, u⟩
    · have h1 : l[k + 1]? = none := by have := List.getElem?_drop (xs := l) (i := k) (j := 1); rw [hd] at this; simpa using this.symm
      rw [h0, h1]
      simp [List.isPrefixOf]
    · have h1 : l[k + 1]? = some b := by have := List.getElem?_drop (xs := l) (i := k) (j := 1); rw [hd] at this; simpa using this.symm
      rw [h0, h1]
      simp [List.isPrefixOf, Bool.beq_comm]
theorem gp_at (l : List UInt8) (k : Nat) (hk : k + 1 < l.length) (h0 : l[k]? = some 58) (h1 : l[k + 1]? = some 58) (hn : ∀ j < k, Lib.occAt l [58, 58] j = false) : gp l = (k : Int) :=
  Lib.index_first (by omega) (by rw [occ_two, h0, h1]; rfl) hn
theorem gp_none (l : List UInt8) (k : Nat) (hk : l.length ≤ k + 1) (hn : ∀ j < k, Lib.occAt l [58, 58] j = false) : gp l = -1 := by
  refine Lib.index_none fun j hj => ?_
  rcases Nat.lt_or_ge j k with h | h
  · exact hn j h
  · rw [occ_two, show l[j + 1]? = none by rw [List.getElem?_eq_none_iff]; omega]
    simp
theorem occ_next (l : List UInt8) (k : Nat) (h : ¬ (l[k]? = some 58 ∧ l[k + 1]? = some 58)) (hn : ∀ j < k, Lib.occAt l [58, 58] j = false) : ∀ j < k + 1, Lib.occAt l [58, 58] j = false := by
  intro j hj
  rcases Nat.lt_or_ge j k with h' | h'
  · exact hn j h'
  · obtain rfl : j = k := by omega
    rw [occ_two]
    simpa using h

theorem refGap_any (l : List UInt8) (w : World) (hn : l.length ≤ 1000000) :
    Calls Tryd.prog 89 #[sv l] w fun e w' => e = .returned (.int .i64 (gp l)) ∧ w = w' := by
  have HA := Lib.hid (fun k hk h0 h1 hj => gp_at l k hk h0 h1 hj)
  have HN := Lib.hid (fun k hk hj => gp_none l k hk hj)
  have HO := Lib.hid (fun k h hj => occ_next l k h hj)
  have hsz : (ByteArray.mk ⟨l⟩).size = l.length := rfl
  have Hat := Lib.hid (fun i c => byte_at (ByteArray.mk ⟨l⟩) i c)
  have HL := Lib.hid (show (ByteArray.mk ⟨l⟩).data.toList = l from rfl)
  unfold sv
  generalize ByteArray.mk ⟨l⟩ = s at *
  generalize gp l = G at *
  generalize hN : l.length = N at *
  have HNl := Lib.hid hN
  clear hN
  go_enter Tryd.func89, Tryd.ntmps89
  go_wp2
  go_loopw [3] (fun i wr => ∃ k : Nat, k ≤ N ∧ i = .int .i64 (k : Int) ∧ Hid (∀ j < k, Lib.occAt l [58, 58] j = false) ∧ w = wr) (fun i _ => N - (intOf i).toNat)
  case atStart => exact ⟨0, Nat.zero_le _, rfl, Lib.hid (fun j hj => absurd hj (by omega)), rfl⟩
  case round =>
    obtain ⟨k, hkN, rfl, hj, rfl⟩ := hrel
    by_cases hlt : k + 1 < N
    · obtain ⟨c, hc⟩ : ∃ c, l[k]? = some c := ⟨l[k]'(by rw [HNl.out]; omega), List.getElem?_eq_getElem _⟩
      obtain ⟨d, hd⟩ : ∃ d, l[k + 1]? = some d := ⟨l[k + 1]'(by rw [HNl.out]; omega), List.getElem?_eq_getElem _⟩
      have ha := Hat.out k c (by rw [HL.out]; exact hc)
      have hb := Hat.out (k + 1) d (by rw [HL.out]; exact hd)
      have hkI : (k : Int) + 1 < (N : Int) := by omega
      have hk0 : (0 : Int) ≤ (k : Int) + 1 := by omega
      have hkt : ((k : Int) + 1).toNat = k + 1 := by omega
      have Hc := Lib.hid hc
      have Hd := Lib.hid hd
      clear hc hd
      by_cases h1 : c = 58
      · subst h1
        by_cases h2 : d = 58
        · subst h2
          have HG := Lib.hid (HA.out k hlt Hc.out Hd.out hj.out)
          go_wp2
          go_ret
          exact ⟨by rw [HG.out]; rfl, rfl⟩
        · have hne : ((d.toNat : Int) == 58) = false := byte_ne (c := 58) h2
          have HJ := Lib.hid (HO.out k (fun h => h2 (by have := h.2; rw [Hd.out] at this; injection this)) hj.out)
          go_wp2
          go_roundw
          case rel => exact ⟨k + 1, by omega, by go_num, HJ, trivial⟩
          case measure => simp [intOf] <;> omega
      · have hne : ((c.toNat : Int) == 58) = false := byte_ne (c := 58) h1
        have HJ := Lib.hid (HO.out k (fun h => h1 (by have := h.1; rw [Hc.out] at this; injection this)) hj.out)
        go_wp2
        go_roundw
        case rel => exact ⟨k + 1, by omega, by go_num, HJ, trivial⟩
        case measure => simp [intOf] <;> omega
    · have hkI : ¬ (k : Int) + 1 < (N : Int) := by omega
      have HG := Lib.hid (HN.out k (by omega) hj.out)
      go_wp2
      go_ret
      exact ⟨by rw [HG.out]; rfl, rfl⟩
end Go.Proofs.YtccidoigjdbepaaDoor.Cl
