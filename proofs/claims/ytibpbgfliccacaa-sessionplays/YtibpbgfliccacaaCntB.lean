
/- The walks of law29.CounterNext, CounterNobody. -/
import Derived.Test.YtibpbgfliccacaaCntA
namespace Go.Proofs.Ytibpbgfliccacaa
open Go.RowKit

theorem blk_cell {w : World} {g : Nat} {ty : TypeId} {cs : Array Value} (h : Blk w g ty cs) (j : Nat) (v : Value) (hv : cs[j]? = some v) : w.cell? ⟨g, j, none⟩ = some v := by
  rw [cell_of_row w g j _ ty _ h]; exact hv
theorem below_set {w w' : World} {g j : Nat} {v : Value} (h : Below g w w') : Below g w (w'.setCell ⟨g, j, none⟩ v) := h.setCell (Nat.le_refl _) _

set_option maxHeartbeats 1000000 in
theorem walk_CounterNext (a0 a1 : Int) (w : World) (w0 : (Lit.int .u64 a0).wf = true) (_ : (Lit.int .i64 a1).wf = true) :
    Calls Try.prog 7 #[.int .u64 a0, .int .i64 a1] w fun e w' => e = .returned (.bool true) ∧ Below w.heap.size w w' := by
  by_cases hn : a1 < 0
  · clear w0
    go_enter Try.func7, Try.ntmps7
    go_wp2_with (go_at_call 21; refine (alive29 _).mono ?_; rintro e w' ⟨rfl, hb⟩)
    go_ret
    exact ⟨rfl, hb⟩
  by_cases hbig : 100 < a1
  · clear w0
    go_enter Try.func7, Try.ntmps7
    go_wp2_with (go_at_call 21; refine (alive29 _).mono ?_; rintro e w' ⟨rfl, hb⟩)
    go_ret
    exact ⟨rfl, hb⟩
  obtain ⟨M, rfl⟩ := Int.eq_ofNat_of_zero_le (show 0 ≤ a1 by omega)
  obtain ⟨h0, h1⟩ := bounds_u64 w0
  obtain ⟨f, rfl⟩ := Int.eq_ofNat_of_zero_le h0
  have HF : Hid (f < 18446744073709551616) := Lib.hid (by omega)
  clear w0 h0 h1
  go_enter Try.func7, Try.ntmps7
  go_wp2_with fail
  refine (cnew_any _ _).mono ?_
  rintro e w1 ⟨rfl, hw1⟩
  have HB : Hid (Blk w1 w.heap.size 47 #[.int .u64 (f : Int)]) := Lib.hid (by rw [← hw1]; exact blk_new _ _ _)
  have Hb : Hid (Below w.heap.size w w1) := Lib.hid (by rw [← hw1]; exact (Below.refl _ _).alloc (Nat.le_refl _) _)
  clear hw1
  generalize hg : w.heap.size = g at *
  have HG := Lib.hid hg
  clear hg
  go_wp2
  go_loopw [0, 6] (fun v i wr => ∃ k m : Nat, k ≤ M ∧ i = .int .i64 (k : Int) ∧ v = .int .u64 (m : Int) ∧ m < 18446744073709551616 ∧ Blk wr g 47 #[.int .u64 (m : Int)] ∧ Below g w wr) (fun _ i _ => M - (intOf i).toNat)
  case atStart => exact ⟨0, f, Nat.zero_le _, rfl, rfl, HF.out, HB.out, Hb.out⟩
  case round =>
    obtain ⟨k, m, hk, rfl, rfl, hm, hB, bel⟩ := hrel
    by_cases hlt : k < M
    · have hc := blk_cell hB 0 _ rfl
      have hf := frozen_of_row _ _ 0 _ _ hB
      by_cases hL : m < 18446744073709543423
      · obtain ⟨D, hD⟩ : ∃ D : Nat, D = 18446744073709543423 - m := ⟨_, rfl⟩
        have HL := Lib.hid (left_some g 0 m D wr hc hL hD)
        have HN := Lib.hid (next_ok g 0 m wr hc hf hL)
        have hx : (18446744073709543423 : Int) - (m : Int) = (D : Int) := by omega
        have hd : decide ((m : Int) < 18446744073709543423) = true := by simp; omega
        have hD0 : ((D : Int) == 0) = false := by simp; omega
        have hwd : IntKind.u64.wrap (D : Int) = (D : Int) := by rw [IntKind.wrap_u64]; omega
        have hnI : IntKind.u64.wrap ((m : Int) + 1) = (m : Int) + 1 := by rw [IntKind.wrap_u64]; omega
        have HX := Lib.hid (And.intro (show Blk (wr.setCell ⟨g, 0, none⟩ (u6 (m + 1))) g 47 #[.int .u64 ((m + 1 : Nat) : Int)] from hB.setCell 0 _) (below_set (j := 0) (v := u6 (m + 1)) bel))
        have hm1 : m + 1 < 18446744073709551616 := by omega
        have HM1 := Lib.hid hm1
        clear hc hf hB bel hL hD hm hm1
        go_wp2_with (first
          | (go_at_call 23; (with_reducible refine (limit_any _).mono ?_); rintro e w' ⟨rfl, rfl⟩)
          | (go_at_call 24; (with_reducible refine HL.out.mono ?_); rintro e w' ⟨rfl, rfl⟩))
        refine HN.out.mono ?_
        rintro e w2 ⟨rfl, hw2⟩
        rw [hw2] at HX
        clear hw2
        go_wp2
        go_roundw
        case rel => exact ⟨k + 1, m + 1, by omega, by go_num, by go_num, HM1.out, HX.out.1, HX.out.2⟩
        case measure => simp [intOf]; omega
      · have HL := Lib.hid (left_none g 0 m wr hc (by omega))
        have HN := Lib.hid (next_spent g 0 m wr hc (by omega))
        have hd : decide ((m : Int) < 18446744073709543423) = false := by simp; omega
        have HX := Lib.hid (And.intro hm (And.intro hB bel))
        clear hc hf hB bel hL hm
        go_wp2_with (first
          | (go_at_call 23; (with_reducible refine (limit_any _).mono ?_); rintro e w' ⟨rfl, rfl⟩)
          | (go_at_call 24; (with_reducible refine HL.out.mono ?_); rintro e w' ⟨rfl, rfl⟩)
          | (go_at_call 25; (with_reducible refine HN.out.mono ?_); rintro e w' ⟨rfl, rfl⟩))
        go_roundw
        case rel => exact ⟨k + 1, m, by omega, by go_num, rfl, HX.out.1, HX.out.2.1, HX.out.2.2⟩
        case measure => simp [intOf]; omega
    · obtain rfl : k = M := by omega
      have Hb2 := Lib.hid bel
      clear hB bel hm
      go_wp2_with (go_at_call 21; refine (alive29 _).mono ?_; rintro e w' ⟨rfl, hb⟩)
      go_ret
      exact ⟨rfl, by rw [HG.out]; exact Below.on Hb2.out (by have h1 := Hb2.out.size; have h2 := HG.out; omega) hb⟩

set_option maxHeartbeats 1000000 in
theorem walk_CounterNobody (a1 : Int) (w : World) (_ : (Lit.int .i64 a1).wf = true) :
    Calls Try.prog 9 #[.int .i64 a1] w fun e w' => e = .returned (.bool true) ∧ Below w.heap.size w w' := by
  by_cases hn : a1 < 0
  · go_enter Try.func9, Try.ntmps9
    go_wp2_with (go_at_call 21; refine (alive29 _).mono ?_; rintro e w' ⟨rfl, hb⟩)
    go_ret
    exact ⟨rfl, hb⟩
  by_cases hbig : 100 < a1
  · go_enter Try.func9, Try.ntmps9
    go_wp2_with (go_at_call 21; refine (alive29 _).mono ?_; rintro e w' ⟨rfl, hb⟩)
    go_ret
    exact ⟨rfl, hb⟩
  obtain ⟨M, rfl⟩ := Int.eq_ofNat_of_zero_le (show 0 ≤ a1 by omega)
  have HB0 : Hid (Blk (w.alloc (.cells #[.int .u64 0] 47)) w.heap.size 47 #[.int .u64 ((0 : Nat) : Int)]) := Lib.hid (blk_new _ _ _)
  have Hb0 : Hid (Below w.heap.size w (w.alloc (.cells #[.int .u64 0] 47))) := Lib.hid ((Below.refl _ _).alloc (Nat.le_refl _) _)
  go_enter Try.func9, Try.ntmps9
  go_wp2
  generalize hg : w.heap.size = g at *
  have HG := Lib.hid hg
  clear hg
  go_loopw [5] (fun i wr => ∃ k : Nat, k ≤ M ∧ i = .int .i64 (k : Int) ∧ Blk wr g 47 #[.int .u64 (k : Int)] ∧ Below g w wr) (fun i _ => M - (intOf i).toNat)
  case atStart => exact ⟨0, Nat.zero_le _, rfl, (HB0.out), (Hb0.out)⟩
  case round =>
    obtain ⟨k, hk, rfl, hB, bel⟩ := hrel
    by_cases hlt : k < M
    · have hc := blk_cell hB 0 _ rfl
      have hf := frozen_of_row _ _ 0 _ _ hB
      have HN := Lib.hid (next_ok g 0 k wr hc hf (by omega))
      have HX := Lib.hid (And.intro (show Blk (wr.setCell ⟨g, 0, none⟩ (.int .u64 ((k + 1 : Nat) : Int))) g 47 #[.int .u64 ((k + 1 : Nat) : Int)] from hB.setCell 0 _) (below_set (j := 0) (v := .int .u64 ((k + 1 : Nat) : Int)) bel))
      clear hc hf hB bel
      go_wp2_with fail
      refine HN.out.mono ?_
      rintro e w2 ⟨rfl, hw2⟩
      rw [hw2] at HX
      clear hw2
      go_wp2
      go_roundw
      case rel => exact ⟨k + 1, by omega, by go_num, HX.out.1, HX.out.2⟩
      case measure => simp [intOf]; omega
    · obtain rfl : k = M := by omega
      have Hb2 := Lib.hid bel
      clear hB bel
      go_wp2_with (first
        | (go_at_call 25; (with_reducible refine (next_nil _).mono ?_); rintro e w' ⟨rfl, rfl⟩)
        | (go_at_call 24; (with_reducible refine (left_nil _).mono ?_); rintro e w' ⟨rfl, rfl⟩)
        | (go_at_call 21; refine (alive29 _).mono ?_; rintro e w' ⟨rfl, hb⟩))
      go_ret
      exact ⟨rfl, by rw [HG.out]; exact Below.on Hb2.out (by have h1 := Hb2.out.size; have h2 := HG.out; omega) hb⟩

end Go.Proofs.Ytibpbgfliccacaa
