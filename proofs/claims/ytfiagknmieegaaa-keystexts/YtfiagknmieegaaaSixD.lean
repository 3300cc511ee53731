
/- Contracts: strings.HasSuffix, TrimSuffix; sixtyfour.appendLast, Decode. -/
import Derived.Test.YtfiagknmieegaaaSixC
namespace Go.Proofs.Ytfiagknmieegaaa.Six
open Go.RowKit

theorem liteSuffix_walk (s u t : ByteArray) (n m : Nat) (r : Bool) (w : World) (hs : s.size = n + m) (hu : u.size = m) (hn : n + m ≤ 1000000) (ht : s.extract n (n + m) = t) (hr : (t.toList == u.toList) = r) :
    Calls Try.prog 109 #[.string s, .string u] w fun e w' => e = .returned (.bool r) ∧ w = w' := by
  have d1 : decide ((m : Int) ≤ (n : Int) + (m : Int)) = true := decide_eq_true (by omega)
  have hw : IntKind.i64.wrap ((n : Int) + (m : Int) - (m : Int)) = (n : Int) := by rw [Int.add_sub_cancel]; exact IntWalk.i64_in _ (by omega)
  go_enter Try.func109, Try.ntmps109
  go_wp2
  go_ret
  exact ⟨rfl, rfl⟩
theorem liteSuffix_short (s u : ByteArray) (w : World) (h : s.size < u.size) :
    Calls Try.prog 109 #[.string s, .string u] w fun e w' => e = .returned (.bool false) ∧ w = w' := by
  have d1 : decide ((u.size : Int) ≤ (s.size : Int)) = false := decide_eq_false (by omega)
  go_enter Try.func109, Try.ntmps109
  go_wp2
  go_ret
  exact ⟨rfl, rfl⟩
theorem liteSuffix_any (l u : List UInt8) (r : Bool) (w : World) (hn : l.length ≤ 1000000) (_hu : u.length ≤ 1000000) (hr : decide (u <:+ l) = r) :
    Calls Try.prog 109 #[sv l, sv u] w fun e w' => e = .returned (.bool r) ∧ w = w' := by
  by_cases h : l.length < u.length
  · have : ¬ u <:+ l := fun hh => by have := hh.length_le; omega
    rw [← hr, decide_eq_false this]
    exact liteSuffix_short _ _ w h
  · refine liteSuffix_walk _ _ ⟨⟨l.drop (l.length - u.length)⟩⟩ (l.length - u.length) u.length r w (by show l.length = _; omega) rfl (by omega) ?_ ?_
    · rw [text_cut, List.take_of_length_le (by omega)]
    · rw [← hr, Lib.toList_data, Lib.toList_data, Bool.eq_iff_iff]
      simp only [beq_iff_eq, decide_eq_true_eq]
      rw [List.suffix_iff_eq_drop]
      exact eq_comm
theorem hasSuffix_any (l u : List UInt8) (r : Bool) (w : World) (hn : l.length ≤ 1000000) (hu : u.length ≤ 1000000) (hr : decide (u <:+ l) = r) :
    Calls Try.prog 98 #[sv l, sv u] w fun e w' => e = .returned (.bool r) ∧ w = w' := by
  have H := Lib.hid (fun W => liteSuffix_any l u r W hn hu hr)
  clear hr
  go_enter Try.func98, Try.ntmps98
  go_wp2_with fail
  refine (H.out _).mono ?_; rintro e w1 ⟨rfl, rfl⟩
  go_wp2
  go_ret
  exact ⟨rfl, rfl⟩
theorem trimSuffix_yes (l u : List UInt8) (w : World) (hn : (l ++ u).length ≤ 1000000) :
    Calls Try.prog 99 #[sv (l ++ u), sv u] w fun e w' => e = .returned (sv l) ∧ w = w' := by
  have H := Lib.hid (fun W => liteSuffix_any (l ++ u) u true W hn (by simp at hn; omega) (decide_eq_true (List.suffix_append _ _)))
  have HC := Lib.hid (text_cut (l ++ u) 0 l.length)
  have hsz : (ByteArray.mk ⟨l ++ u⟩).size = l.length + u.length := by show (l ++ u).length = _; simp
  have hsu : (ByteArray.mk ⟨u⟩).size = u.length := rfl
  simp only [List.length_append] at hn
  have hw : IntKind.i64.wrap ((l.length : Int) + (u.length : Int) - (u.length : Int)) = (l.length : Int) := by rw [Int.add_sub_cancel]; exact IntWalk.i64_in _ (by omega)
  have K : Calls Try.prog 110 #[sv (l ++ u), sv u] w fun e w' => e = .returned (sv l) ∧ w = w' := by
    go_enter Try.func110, Try.ntmps110
    go_wp2_with fail
    refine (H.out _).mono ?_; rintro e w1 ⟨rfl, rfl⟩
    go_wp2
    go_ret
    exact ⟨congrArg (fun x => Ending.returned (.string x)) (by rw [HC.out]; simp), rfl⟩
  go_enter Try.func99, Try.ntmps99
  go_wp2_with fail
  refine K.mono ?_; rintro e w1 ⟨rfl, rfl⟩
  go_wp2
  go_ret
  exact ⟨rfl, rfl⟩
theorem trimSuffix_no (l u : List UInt8) (w : World) (hn : l.length ≤ 1000000) (hu : u.length ≤ 1000000) (h : ¬ u <:+ l) :
    Calls Try.prog 99 #[sv l, sv u] w fun e w' => e = .returned (sv l) ∧ w = w' := by
  have H := Lib.hid (fun W => liteSuffix_any l u false W hn hu (decide_eq_false h))
  have K : Calls Try.prog 110 #[sv l, sv u] w fun e w' => e = .returned (sv l) ∧ w = w' := by
    go_enter Try.func110, Try.ntmps110
    go_wp2_with fail
    refine (H.out _).mono ?_; rintro e w1 ⟨rfl, rfl⟩
    go_wp2
    go_ret
    exact ⟨rfl, rfl⟩
  go_enter Try.func99, Try.ntmps99
  go_wp2_with fail
  refine K.mono ?_; rintro e w1 ⟨rfl, rfl⟩
  go_wp2
  go_ret
  exact ⟨rfl, rfl⟩

/-- appendLast, where = = ends the text. -/
theorem last_two (v : Value) (a b : UInt8) (Q : Ending → World → Prop) (w : World)
    (h : Calls Try.prog 79 #[v, sv [a, b]] w fun e w' => (∃ x y, e = .returned (.tuple #[x, y])) ∧ Q e w') :
    Calls Try.prog 80 #[v, sv [a, b, 61, 61]] w Q := by
  have HS := Lib.hid (fun W => hasSuffix_any [a, b, 61, 61] [61, 61] true W (by simp) (by simp) (decide_eq_true ⟨[a, b], rfl⟩))
  have HC := Lib.hid (text_cut [a, b, 61, 61] 0 2)
  have H := Lib.hid h
  have hsz : (ByteArray.mk ⟨[a, b, 61, 61]⟩).size = 4 := rfl
  clear h
  go_enter Try.func80, Try.ntmps80
  go_wp2_with fail
  refine (HS.out _).mono ?_; rintro e w1 ⟨rfl, rfl⟩
  go_wp2_with fail
  rw [HC.out]
  refine H.out.mono ?_; rintro e w1 ⟨⟨x, y, rfl⟩, hQ⟩
  go_wp2
  exact hQ
/-- appendLast, where one = does. -/
theorem last_one (v : Value) (a b c : UInt8) (hc : c ≠ 61) (Q : Ending → World → Prop) (w : World)
    (h : Calls Try.prog 79 #[v, sv [a, b, c]] w fun e w' => (∃ x y, e = .returned (.tuple #[x, y])) ∧ Q e w') :
    Calls Try.prog 80 #[v, sv [a, b, c, 61]] w Q := by
  have HS := Lib.hid (fun W => hasSuffix_any [a, b, c, 61] [61, 61] false W (by simp) (by simp) (decide_eq_false (by rw [List.suffix_iff_eq_drop]; simp; exact fun e => hc e.symm)))
  have HT := Lib.hid (fun W => trimSuffix_yes [a, b, c] [61] W (by simp))
  have H := Lib.hid h
  clear h
  go_enter Try.func80, Try.ntmps80
  go_wp2_with fail
  refine (HS.out _).mono ?_; rintro e w1 ⟨rfl, rfl⟩
  go_wp2_with fail
  refine (HT.out _).mono ?_; rintro e w1 ⟨rfl, rfl⟩
  go_wp2_with fail
  refine H.out.mono ?_; rintro e w1 ⟨⟨x, y, rfl⟩, hQ⟩
  go_wp2
  exact hQ
/-- appendLast, where none does. -/
theorem last_none (v : Value) (t : List UInt8) (hl : t.length ≤ 4) (ht : ¬ [61] <:+ t) (Q : Ending → World → Prop) (w : World)
    (h : Calls Try.prog 79 #[v, sv t] w fun e w' => (∃ x y, e = .returned (.tuple #[x, y])) ∧ Q e w') :
    Calls Try.prog 80 #[v, sv t] w Q := by
  have HS := Lib.hid (fun W => hasSuffix_any t [61, 61] false W (by omega) (by simp) (decide_eq_false (fun hh => ht (List.IsSuffix.trans ⟨[61], rfl⟩ hh))))
  have HT := Lib.hid (fun W => trimSuffix_no t [61] W (by omega) (by simp) ht)
  have H := Lib.hid h
  clear h
  go_enter Try.func80, Try.ntmps80
  go_wp2_with fail
  refine (HS.out _).mono ?_; rintro e w1 ⟨rfl, rfl⟩
  go_wp2_with fail
  refine (HT.out _).mono ?_; rintro e w1 ⟨rfl, rfl⟩
  go_wp2_with fail
  refine H.out.mono ?_; rintro e w1 ⟨⟨x, y, rfl⟩, hQ⟩
  go_wp2
  exact hQ

end Go.Proofs.Ytfiagknmieegaaa.Six
