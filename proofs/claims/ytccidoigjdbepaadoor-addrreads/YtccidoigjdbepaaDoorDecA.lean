
/- Contracts: decimal.digit, Prefix, formed; ref03.Prefix. -/
import Derived.Test.YtccidoigjdbepaaDoorGen2
import Derived.Test.YtccidoigjdbepaaDoorDecN
import Derived.Deep.QuietTactic
import Derived.BigQuiet
import Derived.WalkSpells
import Derived.WalkLawsBesides
import Derived.Outline
import Derived.Laws.RangeAny
namespace Go.Proofs.YtccidoigjdbepaaDoor.Dec
open Go.RowKit
set_option maxRecDepth 100000

theorem digit_yes (r : Int) (w : World) (h1 : 48 ≤ r) (h2 : r ≤ 57) : Calls Tryd.prog 122 #[.int .i32 r] w fun e w' => e = .returned (.bool true) ∧ w = w' := by
  go_enter Tryd.func122, Tryd.ntmps122
  go_wp2
  go_ret
  exact ⟨rfl, rfl⟩

theorem digit_no (r : Int) (w : World) (h : r < 48 ∨ 57 < r) : Calls Tryd.prog 122 #[.int .i32 r] w fun e w' => e = .returned (.bool false) ∧ w = w' := by
  have dd : decide ((48 : Int) ≤ r) = false ∨ (decide ((48 : Int) ≤ r) = true ∧ decide (r ≤ 57) = false) := by
    rcases h with h | h
    · exact .inl (by simp; omega)
    · exact .inr ⟨by simp; omega, by simp; omega⟩
  clear h
  rcases dd with d1 | ⟨d1, d2⟩
  all_goals
    go_enter Tryd.func122, Tryd.ntmps122
    go_wp2
    go_ret
    exact ⟨rfl, rfl⟩

/-- The rune at a byte: a digit's own number, or none of a digit. -/
theorem rune_at (s : ByteArray) (k : Nat) (c : UInt8) (h : k < s.size) (hc : s.data.toList[k]? = some c) :
    (isD c = true → Utf8.decode s k = (c.toNat, 1)) ∧ (isD c = false → ((Utf8.decode s k).1 : Int) < 48 ∨ 57 < ((Utf8.decode s k).1 : Int)) := by
  have e : s[k]'h = c := byte_at s k c hc h
  unfold isD
  simp only [Bool.and_eq_true, decide_eq_true_eq, Bool.and_eq_false_iff, decide_eq_false_iff_not]
  refine ⟨fun hd => ?_, fun hd => ?_⟩
  · rw [decode_ascii s k h (by rw [e]; omega), e]
  · by_cases ha : (s[k]'h).toNat < 128
    · rw [decode_ascii s k h ha, e]
      show (c.toNat : Int) < 48 ∨ 57 < (c.toNat : Int)
      omega
    · have := (decode_high s k h (by omega)).1
      omega

theorem prefix_any (s : ByteArray) (D : Nat) (w : World) (_hs : s.size ≤ 1000000000) (hD : LeadD s.data.toList D) :
    Calls Tryd.prog 109 #[.string s] w fun e w' => e = .returned (.int .i64 (D : Int)) ∧ Below w.heap.size w w' := by
  obtain ⟨h1, h2, h3⟩ := hD
  have hlen : s.data.toList.length = s.size := rfl
  rw [hlen] at h1
  have H2 := Lib.hid h2
  have H3 := Lib.hid h3
  have Hlen := Lib.hid hlen
  clear h2 h3 hlen
  go_enter Tryd.func109, Tryd.ntmps109
  go_wp2
  go_loopw [7] (fun _ wr => ∃ k : Nat, k ≤ D ∧ wr = w.iter s k) (fun _ wr => s.size - wr.iterPos w.heap.size)
  case atStart => exact ⟨0, Nat.zero_le _, rfl⟩
  case round =>
    obtain ⟨k, hk, rfl⟩ := hrel
    by_cases hks : k < s.size
    · obtain ⟨c, hc⟩ : ∃ c, s.data.toList[k]? = some c := ⟨s.data.toList[k]'(by rw [Hlen.out]; exact hks), List.getElem?_eq_getElem _⟩
      obtain ⟨r1, r2⟩ := rune_at s k c hks hc
      have hnx := fun ty => run_next_any (P := Tryd.prog) w s k ty hks
      by_cases hlt : k < D
      · have hcd := H2.out k c hlt hc
        rw [r1 hcd] at hnx
        have hb : 48 ≤ c.toNat ∧ c.toNat ≤ 57 := by unfold isD at hcd; simpa using hcd
        obtain ⟨hb1, hb2⟩ := hb
        clear r1 r2 hcd hc
        go_wp2_with (go_at_call 122; refine (digit_yes _ _ (by omega) (by omega)).mono ?_; rintro e w' ⟨rfl, rfl⟩)
        go_roundw
        case rel => exact ⟨k + 1, by omega, rfl⟩
        case measure => simp <;> omega
      · obtain rfl : k = D := by omega
        have hcd := H3.out c hc
        have hr := r2 hcd
        clear r1 r2 hcd hc
        generalize hr1 : (Utf8.decode s k).1 = R at *
        generalize hr2 : (Utf8.decode s k).2 = R2 at *
        clear hr1 hr2
        go_wp2_with (go_at_call 122; refine (digit_no _ _ hr).mono ?_; rintro e w' ⟨rfl, rfl⟩)
        go_ret
        exact ⟨rfl, (Below.refl _ _).alloc (Nat.le_refl _) _⟩
    · obtain rfl : k = D := by omega
      obtain rfl : k = s.size := by omega
      have hnx := fun ty => run_next_end (P := Tryd.prog) w s s.size ty hks
      go_wp2
      go_ret
      exact ⟨rfl, (Below.refl _ _).alloc (Nat.le_refl _) _⟩

theorem refPrefix_any (s : ByteArray) (D : Nat) (w : World) (hs : s.size ≤ 1000000000) (hD : LeadD s.data.toList D) :
    Calls Tryd.prog 95 #[.string s] w fun e w' => e = .returned (.int .i64 (D : Int)) ∧ w = w' := by
  obtain ⟨h1, h2, h3⟩ := hD
  have hlen : s.data.toList.length = s.size := rfl
  rw [hlen] at h1
  have H2 := Lib.hid h2
  have H3 := Lib.hid h3
  have Hlen := Lib.hid hlen
  clear h2 h3 hlen
  go_enter Tryd.func95, Tryd.ntmps95
  go_wp2
  go_loop [3] (fun i => ∃ k : Nat, k ≤ D ∧ i = .int .i64 k) (fun i => s.size - (intOf i).toNat)
  case atStart => exact ⟨0, Nat.zero_le _, rfl⟩
  case round =>
    obtain ⟨k, hk, rfl⟩ := hrel
    by_cases hks : k < s.size
    · obtain ⟨c, hc⟩ : ∃ c, s.data.toList[k]? = some c := ⟨s.data.toList[k]'(by rw [Hlen.out]; exact hks), List.getElem?_eq_getElem _⟩
      have ha := byte_at s k c hc
      have t0 : decide ((k : Int) < (s.size : Int)) = true := by simp; omega
      by_cases hlt : k < D
      · have hcd := H2.out k c hlt hc
        have hb : 48 ≤ c.toNat ∧ c.toNat ≤ 57 := by unfold isD at hcd; simpa using hcd
        obtain ⟨hb1, hb2⟩ := hb
        clear hcd hc
        go_wp2
        go_round
        case rel => exact ⟨k + 1, by omega, by go_num⟩
        case measure => simp [intOf] <;> omega
      · obtain rfl : k = D := by omega
        have hcd := H3.out c hc
        have dd : decide ((48 : Int) ≤ (c.toNat : Int)) = false ∨ (decide ((48 : Int) ≤ (c.toNat : Int)) = true ∧ decide ((c.toNat : Int) ≤ 57) = false) := by
          unfold isD at hcd
          simp only [Bool.and_eq_false_iff, decide_eq_false_iff_not] at hcd
          by_cases h : 48 ≤ c.toNat
          · exact .inr ⟨by simp; omega, by simp; omega⟩
          · exact .inl (by simp; omega)
        clear hcd hc
        rcases dd with d1 | ⟨d1, d2⟩
        all_goals
          go_wp2
          go_ret
          exact ⟨rfl, rfl⟩
    · obtain rfl : k = D := by omega
      have t0 : decide ((k : Int) < (s.size : Int)) = false := by simp; omega
      go_wp2
      go_ret
      exact ⟨rfl, rfl⟩

end Go.Proofs.YtccidoigjdbepaaDoor.Dec
