
/- Contracts: ref01.Put, Bit, Ones; endian.Ones. -/
import Derived.Test.YtlllakjimgomjaaEndD
namespace Go.Proofs.Ytlllakjimgomjaa
open Go.RowKit

theorem ones_256 (size : Nat) (h : size ≤ 8) : ones (8 * (size : Int)) = 256 ^ size - 1 := by
  unfold ones
  rw [show (8 * (size : Int)).toNat = 8 * size by omega, Nat.min_eq_left (by omega), two_pow_8]

theorem put_arg (n size : Int) (w : World) (h : size < 1 ∨ 8 < size) :
    Calls Try.prog 60 #[.int .u64 n, .int .i64 size] w fun e w' => e = .returned (.tuple #[.slice none 0 0, .int .i64 1]) ∧ w = w' := by
  rcases h with h | h
  · go_enter Try.func60, Try.ntmps60
    go_wp2
    go_ret2
    exact ⟨rfl, rfl⟩
  · have h0 : decide (size < 1) = false := by simp; omega
    go_enter Try.func60, Try.ntmps60
    go_wp2
    go_ret2
    exact ⟨rfl, rfl⟩

theorem put_range (n size : Nat) (w : World) (h1 : 1 ≤ size) (h8 : size ≤ 7) (hn : 256 ^ size ≤ n) :
    Calls Try.prog 60 #[.int .u64 (n : Int), .int .i64 (size : Int)] w fun e w' => e = .returned (.tuple #[.slice none 0 0, .int .i64 6]) ∧ w = w' := by
  have h0 : decide ((size : Int) < 1) = false := by simp; omega
  have h0' : decide ((8 : Int) < (size : Int)) = false := by simp; omega
  generalize hP : 256 ^ size = P at *
  have HP := Lib.hid hP
  clear hP
  go_enter Try.func60, Try.ntmps60
  go_wp2_with (go_at_call 68; refine (power_any size _ (by omega)).mono ?_; rintro e w' ⟨rfl, rfl⟩; rw [HP.out])
  go_ret2
  exact ⟨rfl, rfl⟩

theorem put_ok (n size : Nat) (w : World) (h1 : 1 ≤ size) (h8 : size ≤ 8) (hn : size = 8 ∨ n < 256 ^ size) (h64 : n ≤ 18446744073709551615) :
    Calls Try.prog 60 #[.int .u64 (n : Int), .int .i64 (size : Int)] w fun e w' =>
      (∃ v, e = .returned (.tuple #[v, .int .i64 0]) ∧ Own w' w.heap.size v size (leBytes n size)) ∧ Below w.heap.size w w' := by
  have h0 : decide ((size : Int) < 1) = false := by simp; omega
  have h0' : decide ((8 : Int) < (size : Int)) = false := by simp; omega
  have key : decide ((size : Int) < 8) = false ∨ (decide ((size : Int) < 8) = true ∧ size ≤ 7 ∧ decide (256 ^ size ≤ n) = false) := by
    by_cases h : size = 8
    · exact .inl (by simp; omega)
    · exact .inr ⟨by simp; omega, by omega, by simp; omega⟩
  generalize hP : 256 ^ size = P at *
  have HP := Lib.hid hP
  clear hP
  go_enter Try.func60, Try.ntmps60
  clear hn
  rcases key with hd | ⟨hd, h7, hlt⟩
  all_goals go_wp2_with (go_at_call 68; refine (power_any size _ (by omega)).mono ?_; rintro e w' ⟨rfl, rfl⟩; rw [HP.out])
  all_goals
    go_loopw [6, 7] (fun v i wr => ∃ k : Nat, k ≤ size ∧ i = .int .i64 k ∧ Own wr w.heap.size v k (leBytes n k) ∧ Below w.heap.size w wr) (fun _ i _ => size - (intOf i).toNat)
    case atStart => exact ⟨0, Nat.zero_le _, rfl, World.ownsRow_nil _ _ _ _, Below.refl _ _⟩
    case round =>
      obtain ⟨k, hk, rfl, hown, hbel⟩ := hrel
      by_cases hk' : k < size
      · have hP1 : 1 ≤ 256 ^ k := Nat.one_le_pow _ _ (by omega)
        have HB := Lib.hid (byteAt_toNat n k)
        have hle : n / 256 ^ k ≤ n := Nat.div_le_self _ _
        have hw : IntKind.u64.wrap ((n : Int) / ((256 ^ k : Nat) : Int)) = ((n / 256 ^ k : Nat) : Int) := by
          rw [← Int.natCast_ediv]; generalize n / 256 ^ k = d at *; exact IntWalk.u64_in _ (by omega)
        generalize n / 256 ^ k = d at *
        generalize hR : 256 ^ k = R at *
        have HR := Lib.hid hR
        clear hR
        have hsz := hbel.size
        go_wp2_with (first | (go_at_call 68; refine (power_any k _ (by omega)).mono ?_; rintro e w' ⟨rfl, rfl⟩; rw [HR.out]) | (at_builtin; refine wpList_app1 _ rfl _ _ rfl w.heap.size _ _ _ rfl (hown.alloc _) ⟨wr.heap.size, 0, none⟩ 1 (byteAt n k) rfl ?c1 ?c2 ?c3 ?_))
        case c1 => simp [bv, HB.out] <;> omega
        case c2 => omega
        case c3 => simp; omega
        intro v' w1 hown' hgrow
        have hb1 : Below w.heap.size w w1 := (hbel.alloc hsz _).grown hgrow (by simp; omega) (fun g hg => (hown.lt g hg).1)
        clear hown hbel hgrow
        go_wp2
        go_roundw
        case rel => exact ⟨k + 1, by omega, by go_num, by rw [leBytes_succ]; exact hown', hb1⟩
        case measure => simp [intOf] <;> omega
      · obtain rfl : k = size := by omega
        go_wp2
        go_ret2
        exact ⟨⟨_, rfl, hown⟩, hbel⟩

end Go.Proofs.Ytlllakjimgomjaa
