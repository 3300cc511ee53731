
/- Contracts of layer 29: (*counter.Counter).Left, Next, counter.New, Sum; crawlwayref29.Sum; law29.alive. The walks of law29. -/
import Derived.Test.YtibpbgfliccacaaRepD
namespace Go.Proofs.Ytibpbgfliccacaa
open Go.RowKit

theorem left_nil (w : World) : Calls Try.prog 24 #[.pointer none] w fun e w' => e = .returned (.int .u64 0) ∧ w = w' := by
  go_enter Try.func24, Try.ntmps24
  go_wp2
  go_ret
  exact ⟨rfl, rfl⟩
theorem left_none (g o n : Nat) (w : World) (hc : w.cell? ⟨g, o, none⟩ = some (.int .u64 (n : Int))) (h : 18446744073709543423 ≤ n) :
    Calls Try.prog 24 #[.pointer (some ⟨g, o, none⟩)] w fun e w' => e = .returned (.int .u64 0) ∧ w = w' := by
  have hd : decide ((18446744073709543423 : Int) ≤ (n : Int)) = true := by simp; omega
  clear h
  go_enter Try.func24, Try.ntmps24
  go_wp2
  go_ret
  exact ⟨rfl, rfl⟩
theorem left_some (g o n D : Nat) (w : World) (hc : w.cell? ⟨g, o, none⟩ = some (.int .u64 (n : Int))) (h : n < 18446744073709543423) (hD : D = 18446744073709543423 - n) :
    Calls Try.prog 24 #[.pointer (some ⟨g, o, none⟩)] w fun e w' => e = .returned (.int .u64 (D : Int)) ∧ w = w' := by
  have hd : decide ((18446744073709543423 : Int) ≤ (n : Int)) = false := by simp; omega
  have hx : (18446744073709543423 : Int) - (n : Int) = (D : Int) := by omega
  have hw : IntKind.u64.wrap ((18446744073709543423 : Int) - (n : Int)) = (D : Int) := by rw [IntKind.wrap_u64]; omega
  have hw2 : IntKind.u64.wrap (D : Int) = (D : Int) := by rw [IntKind.wrap_u64]; omega
  clear h hD
  go_enter Try.func24, Try.ntmps24
  go_wp2
  go_ret
  exact ⟨rfl, rfl⟩

theorem next_nil (w : World) : Calls Try.prog 25 #[.pointer none] w fun e w' => e = .returned (.tuple #[.int .u64 0, .int .i64 2]) ∧ w = w' := by
  go_enter Try.func25, Try.ntmps25
  go_wp2
  go_ret2
  exact ⟨rfl, rfl⟩
theorem next_spent (g o n : Nat) (w : World) (hc : w.cell? ⟨g, o, none⟩ = some (.int .u64 (n : Int))) (h : 18446744073709543423 ≤ n) :
    Calls Try.prog 25 #[.pointer (some ⟨g, o, none⟩)] w fun e w' => e = .returned (.tuple #[.int .u64 0, .int .i64 18]) ∧ w = w' := by
  have HL := Lib.hid (left_none g o n w hc h)
  clear h
  go_enter Try.func25, Try.ntmps25
  go_wp2_with (go_at_call 24; (with_reducible refine HL.out.mono ?_); rintro e w' ⟨rfl, rfl⟩)
  go_ret2
  exact ⟨rfl, rfl⟩
theorem next_ok (g o n : Nat) (w : World) (hc : w.cell? ⟨g, o, none⟩ = some (.int .u64 (n : Int))) (hf : w.frozen? ⟨g, o, none⟩ = false) (h : n < 18446744073709543423) :
    Calls Try.prog 25 #[.pointer (some ⟨g, o, none⟩)] w fun e w' => e = .returned (.tuple #[.int .u64 (n : Int), .int .i64 0]) ∧ w.setCell ⟨g, o, none⟩ (u6 (n + 1)) = w' := by
  obtain ⟨D, hD⟩ : ∃ D : Nat, D = 18446744073709543423 - n := ⟨_, rfl⟩
  have HL := Lib.hid (left_some g o n D w hc h hD)
  have hD0 : ((D : Int) == 0) = false := by simp; omega
  have hnI : IntKind.u64.wrap ((n : Int) + 1) = (n : Int) + 1 := by rw [IntKind.wrap_u64]; omega
  clear h hD
  go_enter Try.func25, Try.ntmps25
  go_wp2_with fail
  (with_reducible refine HL.out.mono ?_)
  rintro e w' ⟨rfl, rfl⟩
  clear HL
  go_wp2_with fail
  go_ret2
  exact ⟨rfl, rfl⟩

theorem cnew_any (n : Int) (w : World) : Calls Try.prog 22 #[.int .u64 n] w fun e w' => e = .returned (.pointer (some ⟨w.heap.size, 0, none⟩)) ∧ w.alloc (.cells #[.int .u64 n] 47) = w' := by
  go_enter Try.func22, Try.ntmps22
  go_wp2
  go_ret
  exact ⟨rfl, rfl⟩
theorem limit_any (w : World) : Calls Try.prog 23 #[] w fun e w' => e = .returned (.int .u64 18446744073709543423) ∧ w = w' := by
  go_enter Try.func23, Try.ntmps23
  go_wp2
  go_ret
  exact ⟨rfl, rfl⟩

/-- A sum that stays at its greatest. -/
def satS (a : Nat) : List Nat → Nat
  | [] => a
  | x :: t => if 18446744073709551615 - a < x then 18446744073709551615 else satS (a + x) t

theorem drop6 {l : List Nat} {k y : Nat} (h : l[k]? = some y) : l.drop k = y :: l.drop (k + 1) := by
  obtain ⟨hk, rfl⟩ := List.getElem?_eq_some_iff.1 h
  exact List.drop_eq_getElem_cons hk

theorem sum_any (A : Option Addr) (n c : Nat) (l : List Nat) (a B : Nat) (w : World) (h : Sh6 w B A n l) (hn : n ≤ 1000000) (ha : a < 18446744073709551616) (hb : ∀ x ∈ l, x < 18446744073709551616) :
    Calls Try.prog 26 #[.int .u64 (a : Int), .slice A n c] w fun e w' => e = .returned (.int .u64 (satS a l : Int)) ∧ w = w' := by
  have hl := h.len
  have HB := Lib.hid hb
  have HA := Lib.hid ha
  clear hb ha
  go_enter Try.func26, Try.ntmps26
  go_wp2
  go_loop [0, 6, 9] (fun v _ i => ∃ k s : Nat, k ≤ n ∧ i = .int .i64 (k : Int) ∧ v = .int .u64 (s : Int) ∧ s < 18446744073709551616 ∧ satS a l = satS s (l.drop k)) (fun _ _ i => n - (intOf i).toNat)
  case atStart => exact ⟨0, a, Nat.zero_le _, rfl, rfl, HA.out, rfl⟩
  case round =>
    obtain ⟨k, s, hk, rfl, rfl, hs, he⟩ := hrel
    have HE := Lib.hid he
    clear he
    by_cases hlt : k < n
    · obtain ⟨b, off, y, rfl, hbb, hcell, hy⟩ := h.elem hlt
      have hy64 := HB.out y (List.mem_of_getElem? hy)
      have HD := Lib.hid (drop6 hy)
      have hsI : (s : Int) < 18446744073709551616 := by omega
      have hs0 : 0 ≤ (18446744073709551615 : Int) - (s : Int) := by omega
      by_cases hbig : 18446744073709551615 - s < y
      · have hd : decide ((18446744073709551615 : Int) - (s : Int) < (y : Int)) = true := by simp; omega
        have HR : Hid (satS a l = 18446744073709551615) := Lib.hid (by rw [HE.out, HD.out]; unfold satS; rw [if_pos hbig])
        clear hs hy hy64 hbig h
        go_wp2
        go_ret
        exact ⟨by rw [HR.out]; rfl, rfl⟩
      · have hd : decide ((18446744073709551615 : Int) - (s : Int) < (y : Int)) = false := by simp; omega
        have HR : Hid (satS a l = satS (s + y) (l.drop (k + 1))) := Lib.hid (by rw [HE.out, HD.out, satS, if_neg hbig])
        have hsy : (s : Int) + (y : Int) < 18446744073709551616 := by omega
        clear hs hy hy64 hbig h
        go_wp2
        go_round
        case rel => exact ⟨k + 1, s + y, by omega, by go_num, by go_num, by omega, HR.out⟩
        case measure => simp [intOf]; omega
    · obtain rfl : k = n := by omega
      have HR : Hid (satS a l = s) := Lib.hid (by rw [HE.out, List.drop_of_length_le (by omega)]; rfl)
      clear hs h
      go_wp2
      go_ret
      exact ⟨by rw [HR.out]; rfl, rfl⟩

theorem refSum29_any (A : Option Addr) (n c : Nat) (l : List Nat) (a B : Nat) (w : World) (h : Sh6 w B A n l) (hn : n ≤ 1000000) (ha : a < 18446744073709551616) (hb : ∀ x ∈ l, x < 18446744073709551616) :
    Calls Try.prog 27 #[.int .u64 (a : Int), .slice A n c] w fun e w' => e = .returned (.int .u64 (satS a l : Int)) ∧ w = w' := by
  have hl := h.len
  have HB := Lib.hid hb
  have HA := Lib.hid ha
  clear hb ha
  go_enter Try.func27, Try.ntmps27
  go_wp2
  go_loop [0, 5] (fun v i => ∃ k s : Nat, k ≤ n ∧ i = .int .i64 (k : Int) ∧ v = .int .u64 (s : Int) ∧ s < 18446744073709551616 ∧ satS a l = satS s (l.drop k)) (fun _ i => n - (intOf i).toNat)
  case atStart => exact ⟨0, a, Nat.zero_le _, rfl, rfl, HA.out, rfl⟩
  case round =>
    obtain ⟨k, s, hk, rfl, rfl, hs, he⟩ := hrel
    have HE := Lib.hid he
    clear he
    by_cases hlt : k < n
    · obtain ⟨b, off, y, rfl, hbb, hcell, hy⟩ := h.elem hlt
      have hy64 := HB.out y (List.mem_of_getElem? hy)
      have HD := Lib.hid (drop6 hy)
      have hsI : (s : Int) < 18446744073709551616 := by omega
      have hs0 : 0 ≤ (18446744073709551615 : Int) - (s : Int) := by omega
      by_cases hbig : 18446744073709551615 - s < y
      · have hd : decide ((18446744073709551615 : Int) - (s : Int) < (y : Int)) = true := by simp; omega
        have HR : Hid (satS a l = 18446744073709551615) := Lib.hid (by rw [HE.out, HD.out]; unfold satS; rw [if_pos hbig])
        clear hs hy hy64 hbig h
        go_wp2
        go_ret
        exact ⟨by rw [HR.out]; rfl, rfl⟩
      · have hd : decide ((18446744073709551615 : Int) - (s : Int) < (y : Int)) = false := by simp; omega
        have HR : Hid (satS a l = satS (s + y) (l.drop (k + 1))) := Lib.hid (by rw [HE.out, HD.out, satS, if_neg hbig])
        have hsy : (s : Int) + (y : Int) < 18446744073709551616 := by omega
        clear hs hy hy64 hbig h
        go_wp2
        go_round
        case rel => exact ⟨k + 1, s + y, by omega, by go_num, by go_num, by omega, HR.out⟩
        case measure => simp [intOf]; omega
    · obtain rfl : k = n := by omega
      have HR : Hid (satS a l = s) := Lib.hid (by rw [HE.out, List.drop_of_length_le (by omega)]; rfl)
      clear hs h
      go_wp2
      go_ret
      exact ⟨by rw [HR.out]; rfl, rfl⟩

theorem alive29 (w : World) : Calls Try.prog 21 #[] w fun e w' => e = .returned (.bool true) ∧ Below w.heap.size w w' := by
  go_enter Try.func21, Try.ntmps21
  go_wp2_with fail
  refine (cnew_any _ _).mono ?_
  rintro e w1 ⟨rfl, hw1⟩
  have hB : Blk w1 w.heap.size 47 #[.int .u64 ((18446744073709543422 : Nat) : Int)] := by rw [← hw1]; exact blk_new _ _ _
  have hb : Below w.heap.size w w1 := by rw [← hw1]; exact (Below.refl _ _).alloc (Nat.le_refl _) _
  clear hw1
  have hc1 : w1.cell? ⟨w.heap.size, 0, none⟩ = some (.int .u64 ((18446744073709543422 : Nat) : Int)) := by rw [cell_of_row w1 _ 0 _ _ _ hB]; rfl
  have hf1 := frozen_of_row w1 _ 0 _ _ hB
  have HN := Lib.hid (next_ok w.heap.size 0 18446744073709543422 w1 hc1 hf1 (by decide +kernel))
  have HB := Lib.hid hB
  have Hb := Lib.hid hb
  clear hB hb hc1 hf1
  go_wp2_with fail
  refine HN.out.mono ?_
  rintro e w2 ⟨rfl, hw2⟩
  have hB2 : Blk w2 w.heap.size 47 #[.int .u64 ((18446744073709543423 : Nat) : Int)] := by rw [← hw2]; exact HB.out.setCell 0 (u6 18446744073709543423)
  have hb2 : Below w.heap.size w w2 := by rw [← hw2]; exact Hb.out.setCell (Nat.le_refl _) _
  clear hw2
  have hc2 : w2.cell? ⟨w.heap.size, 0, none⟩ = some (.int .u64 ((18446744073709543423 : Nat) : Int)) := by rw [cell_of_row w2 _ 0 _ _ _ hB2]; rfl
  have HN2 := Lib.hid (next_spent w.heap.size 0 18446744073709543423 w2 hc2 (by decide +kernel))
  have Hb2 := Lib.hid hb2
  clear hB2 hb2 hc2
  go_wp2_with fail
  refine HN2.out.mono ?_
  rintro e w3 ⟨rfl, rfl⟩
  go_wp2
  go_ret
  exact ⟨rfl, Hb2.out⟩

theorem walk_CounterSum (a0 : Int) (A : Option Addr) (n c : Nat) (l : List Nat) (w : World) (w0 : (Lit.int .u64 a0).wf = true) (hc : n ≤ c ∧ c ≤ maxLen) (hs : Sh6 w w.heap.size A n l) (hb : ∀ x ∈ l, x < 18446744073709551616) :
    Calls Try.prog 8 #[.int .u64 a0, .slice A n c] w fun e w' => e = .returned (.bool true) ∧ Below w.heap.size w w' := by
  obtain ⟨h0, h1⟩ := bounds_u64 w0
  obtain ⟨f, rfl⟩ := Int.eq_ofNat_of_zero_le h0
  have hm : n ≤ 9223372036854775807 := by have := Nat.le_trans hc.1 hc.2; unfold maxLen at this; omega
  have hf : f < 18446744073709551616 := by omega
  clear w0 h0 h1 hc
  by_cases hbig : 100 < n
  · clear hs hb
    go_enter Try.func8, Try.ntmps8
    go_wp2_with (go_at_call 21; refine (alive29 _).mono ?_; rintro e w' ⟨rfl, hb⟩)
    go_ret
    exact ⟨rfl, hb⟩
  · have H1 := Lib.hid (sum_any A n c l f _ w hs (by omega) hf hb)
    have H2 := Lib.hid (refSum29_any A n c l f _ w hs (by omega) hf hb)
    clear hs hb hf
    generalize satS f l = s at *
    go_enter Try.func8, Try.ntmps8
    go_wp2_with (first
      | (go_at_call 26; (with_reducible refine H1.out.mono ?_); rintro e w' ⟨rfl, rfl⟩)
      | (go_at_call 27; (with_reducible refine H2.out.mono ?_); rintro e w' ⟨rfl, rfl⟩)
      | (go_at_call 21; refine (alive29 _).mono ?_; rintro e w' ⟨rfl, hb⟩))
    go_ret
    exact ⟨rfl, hb⟩

end Go.Proofs.Ytibpbgfliccacaa
