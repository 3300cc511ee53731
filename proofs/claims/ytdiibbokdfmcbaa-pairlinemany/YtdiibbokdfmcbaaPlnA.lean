
/- Contracts: has, Text and Parse of pairline and of its reference. -/
import Derived.Test.YtdiibbokdfmcbaaPlnN
import Derived.Test.YtdiibbokdfmcbaaLinE
namespace Go.Proofs.Ytdiibbokdfmcbaa.Pln
open Go.RowKit Lin
set_option maxRecDepth 100000

theorem has_any (l : List UInt8) (c : UInt8) (w : World) : Calls Try.prog 17 #[sv l, .int .u8 (c.toNat : Int)] w fun e w' => e = .returned (.bool (decide (c ∈ l))) ∧ w = w' := by
  by_cases h : c ∈ l
  · obtain ⟨a, b, hl, ha⟩ : ∃ a b, l = a ++ c :: b ∧ c ∉ a := by
      rcases cut_cases c l with h1 | h1
      · exact absurd h h1
      · exact h1
    have H := Lib.hid (show Lib.indexByte l c = (a.length : Int) by rw [hl]; exact index_yes c a b ha)
    have d0 : decide ((0 : Int) ≤ (a.length : Int)) = true := by simp
    rw [decide_eq_true h]
    clear hl ha h
    go_enter Try.func17, Try.ntmps17
    go_wp2_with fail
    refine (indexByte_any _ _ _).mono ?_; rintro e w1 ⟨rfl, rfl⟩
    rw [H.out]
    go_wp2
    go_ret
    exact ⟨rfl, rfl⟩
  · have H := Lib.hid (index_no c l h)
    rw [decide_eq_false h]
    clear h
    go_enter Try.func17, Try.ntmps17
    go_wp2_with fail
    refine (indexByte_any _ _ _).mono ?_; rintro e w1 ⟨rfl, rfl⟩
    rw [H.out]
    go_wp2
    go_ret
    exact ⟨rfl, rfl⟩

theorem refHas_any (l : List UInt8) (c : UInt8) (w : World) (hn : l.length ≤ 1000000) : Calls Try.prog 18 #[sv l, .int .u8 (c.toNat : Int)] w fun e w' => e = .returned (.bool (decide (c ∈ l))) ∧ Below w.heap.size w w' := by
  have hd : decide ((1 : Int) < ((parts c l).length : Int)) = decide (c ∈ l) := by
    rcases cut_cases c l with h | ⟨a, b, rfl, h⟩
    · rw [parts_no c l h, decide_eq_false h]; rfl
    · rw [parts_yes c a b h]
      obtain ⟨x, y, e⟩ := parts_ne c b
      rw [e]
      simp
      omega
  have hp := parts_len c l
  have HC := Lib.hid (fun W => refParts_any l c W hn)
  rw [← hd]
  clear hd
  generalize parts c l = L at *
  go_enter Try.func18, Try.ntmps18
  go_wp2_with fail
  refine (HC.out _).mono ?_; rintro e w1 ⟨⟨v, rfl, ho⟩, hb1⟩
  obtain ⟨A1, c1, rfl, _, _, _⟩ := ho.sh
  clear ho
  go_wp2
  go_ret
  exact ⟨by simp, hb1⟩

end Go.Proofs.Ytdiibbokdfmcbaa.Pln
