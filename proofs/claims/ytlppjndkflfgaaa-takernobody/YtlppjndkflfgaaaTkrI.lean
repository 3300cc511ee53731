
/- The walks of law02.TakerPlays, TakerNobody. -/
import Derived.Test.YtlppjndkflfgaaaTkrH
namespace Go.Proofs.Ytlppjndkflfgaaa
open Go.RowKit
set_option linter.unusedSimpArgs false

set_option maxHeartbeats 1000000 in
theorem walk_TakerPlays (A : Option Addr) (n c : Nat) (l : List UInt8) (dA : Option Addr) (dn dc : Nat) (D : List (Int × Int)) (w : World) (hc : n ≤ c ∧ c ≤ maxLen) (h : Shows w w.heap.size A n l) (hdc : dn ≤ dc ∧ dc ≤ maxLen) (hD : ShC w w.heap.size dA dn D) (hD64 : ∀ d ∈ D, -9223372036854775808 ≤ d.2 ∧ d.2 ≤ 9223372036854775807) :
    Calls Try.prog 3 #[.slice A n c, .slice dA dn dc] w fun e w' => e = .returned (.bool true) ∧ Below w.heap.size w w' := by
  have hm : n ≤ 9223372036854775807 := by have := Nat.le_trans hc.1 hc.2; unfold maxLen at this; omega
  have hm2 : dn ≤ 9223372036854775807 := by have := Nat.le_trans hdc.1 hdc.2; unfold maxLen at this; omega
  by_cases hbig : 300 < n
  · clear h hD hD64
    go_enter Try.func3, Try.ntmps3
    go_wp2_with (go_at_call 5; refine (alive2 _).mono ?_; rintro e w' ⟨rfl, hb⟩)
    go_ret
    exact ⟨rfl, hb⟩
  by_cases hbig2 : 40 < dn
  · clear h hD hD64
    go_enter Try.func3, Try.ntmps3
    go_wp2_with (go_at_call 5; refine (alive2 _).mono ?_; rintro e w' ⟨rfl, hb⟩)
    go_ret
    exact ⟨rfl, hb⟩
  have HN := Lib.hid (new_any A n c l w (by omega) h)
  have HS := Lib.hid h
  have HD := Lib.hid hD
  have HD64 := Lib.hid hD64
  have HC := Lib.hid hc.1
  clear h hD hD64 hc hdc
  go_enter Try.func3, Try.ntmps3
  go_wp2_with fail
  refine HN.out.mono ?_
  rintro e w1 ⟨g, rfl, hge, hT, hb1⟩
  have HP := Lib.hid (plays2 g (some ⟨w.heap.size, 0, none⟩) n A n c l dA dn dc D w.heap.size w1 (by omega) HC.out (by omega) hT (HS.out.below hb1) hge (HD.out.gr (grown_of hb1 (some g)) hge (Nat.le_refl _)) HD64.out)
  have HLf := Lib.hid (left_any g _ n n 0 l w1 hT)
  have HFl := Lib.hid (fail_any g _ n n 0 l w1 hT)
  have Hb1 := Lib.hid hb1
  clear hT hb1 HN
  go_wp2_with (first
    | (go_at_call 7; (with_reducible refine HLf.out.mono ?_); rintro e w' ⟨rfl, rfl⟩)
    | (go_at_call 8; (with_reducible refine HFl.out.mono ?_); rintro e w' ⟨rfl, rfl⟩))
  refine HP.out.mono ?_
  rintro e w2 ⟨rfl, hg2⟩
  have Hb2 := Lib.hid (Below.grown Hb1.out hg2 Hb1.out.size (fun k hk => by injection hk with hk; omega))
  clear hg2
  go_wp2_with (go_at_call 5; refine (alive2 _).mono ?_; rintro e w' ⟨rfl, hb⟩)
  go_ret
  exact ⟨rfl, Below.on Hb2.out Hb2.out.size hb⟩

theorem tk_zero (w : World) : Tk (w.alloc (.cells #[.slice none 0 0, .int .i64 0] 33)) w.heap.size none 0 0 0 [] :=
  ⟨by show (w.heap.push _)[w.heap.size]? = _; simp, Nat.le_refl _, by simp [maxLen], shows_none _ _⟩

set_option maxHeartbeats 1000000 in
theorem walk_TakerNobody (dA : Option Addr) (dn dc : Nat) (D : List (Int × Int)) (w : World) (hdc : dn ≤ dc ∧ dc ≤ maxLen) (hD : ShC w w.heap.size dA dn D) (hD64 : ∀ d ∈ D, -9223372036854775808 ≤ d.2 ∧ d.2 ≤ 9223372036854775807) :
    Calls Try.prog 4 #[.slice dA dn dc] w fun e w' => e = .returned (.bool true) ∧ Below w.heap.size w w' := by
  have hm2 : dn ≤ 9223372036854775807 := by have := Nat.le_trans hdc.1 hdc.2; unfold maxLen at this; omega
  by_cases hbig2 : 40 < dn
  · clear hD hD64
    go_enter Try.func4, Try.ntmps4
    go_wp2_with (go_at_call 5; refine (alive2 _).mono ?_; rintro e w' ⟨rfl, hb⟩)
    go_ret
    exact ⟨rfl, hb⟩
  have HT0 := Lib.hid (tk_zero w)
  have Hb0 : Hid (Below w.heap.size w (w.alloc (.cells #[.slice none 0 0, .int .i64 0] 33))) := Lib.hid ((Below.refl _ _).alloc (Nat.le_refl _) _)
  have HD := Lib.hid hD
  have HD64 := Lib.hid hD64
  clear hD hD64 hdc
  go_enter Try.func4, Try.ntmps4
  go_wp2
  generalize w.alloc (.cells #[.slice none 0 0, .int .i64 0] 33) = W at *
  go_loopw [13] (fun i wr => ∃ k : Nat, k ≤ dn ∧ i = .int .i64 (k : Int) ∧ Tk wr w.heap.size none 0 0 0 [] ∧ Below w.heap.size w wr) (fun i _ => dn - (intOf i).toNat)
  case atStart => exact ⟨0, Nat.zero_le _, rfl, HT0.out, Hb0.out⟩
  case round =>
    obtain ⟨k, hk, rfl, hT, bel⟩ := hrel
    by_cases hlt : k < dn
    · obtain ⟨b, off, kd, m, rfl, hbb, hcd, hcx, hmem⟩ := (HD.out.gr (grown_of bel (some w.heap.size)) (Nat.le_refl _) (Nat.le_refl _)).elem hlt
      have a1 : Below wr.heap.size wr (wr.alloc (.cells #[.int .i64 kd, .int .i64 m] 35)) := (Below.refl _ _).alloc (Nat.le_refl _) _
      have HX := Lib.hid (And.intro (hT.on a1) (Below.on bel bel.size a1))
      have kc : Blk (wr.alloc (.cells #[.int .i64 kd, .int .i64 m] 35)) wr.heap.size 35 #[.int .i64 kd, .int .i64 m] := blk_new _ _ _
      have d1 := blk_cell2 kc 1 _ rfl
      clear hT bel a1 kc hmem
      go_wp2_with (first
        | (refine wpList_allocStore (cs := #[.int .i64 kd, .int .i64 m]) rfl rfl 35 ?ho (.tmp 6) (.tmp 16) ?ho2 Try.zeroCall ?hz ?hx ?hy ?hn ?h1 ?_
           case ho => with_reducible rfl
           case ho2 => rfl
           case hz => rfl
           case hx => rfl
           case hy => rfl
           case hn => rfl
           case h1 => rfl)
        | (go_at_call 10; (with_reducible refine (little_nil _ _).mono ?_); rintro e w' ⟨rfl, rfl⟩)
        | (go_at_call 11; (with_reducible refine (big_nil _ _).mono ?_); rintro e w' ⟨rfl, rfl⟩)
        | (go_at_call 12; (with_reducible refine (bytes_nil _ _).mono ?_); rintro e w' ⟨rfl, rfl⟩)
        | (go_at_call 13; (with_reducible refine (zeros_nil _ _).mono ?_); rintro e w' ⟨rfl, rfl⟩)
        | (go_at_call 7; (with_reducible refine (tleft_nil _).mono ?_); rintro e w' ⟨rfl, rfl⟩)
        | (go_at_call 8; (with_reducible refine (tfail_nil _).mono ?_); rintro e w' ⟨rfl, rfl⟩))
      go_roundw
      case rel => exact ⟨k + 1, by omega, by go_num, HX.out.1, HX.out.2⟩
      case measure => simp [intOf]; omega
    · obtain rfl : k = dn := by omega
      have HP := Lib.hid (plays2 w.heap.size none 0 none 0 0 [] dA k dc D w.heap.size wr (by omega) (Nat.le_refl _) (by omega) hT (shows_none _ _) (Nat.le_refl _) (HD.out.gr (grown_of bel (some w.heap.size)) (Nat.le_refl _) (Nat.le_refl _)) HD64.out)
      have HLf := Lib.hid (left_any w.heap.size none 0 0 0 [] wr hT)
      have HFl := Lib.hid (fail_any w.heap.size none 0 0 0 [] wr hT)
      have Hb1 := Lib.hid bel
      clear hT bel
      go_wp2_with (first
        | (go_at_call 7; (with_reducible refine HLf.out.mono ?_); rintro e w' ⟨rfl, rfl⟩)
        | (go_at_call 8; (with_reducible refine HFl.out.mono ?_); rintro e w' ⟨rfl, rfl⟩))
      refine HP.out.mono ?_
      rintro e w2 ⟨rfl, hg2⟩
      have Hb2 := Lib.hid (Below.grown Hb1.out hg2 Hb1.out.size (fun k hk => by injection hk with hk; omega))
      clear hg2
      go_wp2_with (go_at_call 5; refine (alive2 _).mono ?_; rintro e w' ⟨rfl, hb⟩)
      go_ret
      exact ⟨rfl, Below.on Hb2.out Hb2.out.size hb⟩

end Go.Proofs.Ytlppjndkflfgaaa
