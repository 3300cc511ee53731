
/- The walk of law42.InilexReads. -/
import Derived.Test.YtglghfbdchcihaaDoorInxH
import Derived.Test.YtglghfbdchcihaaDoorInxI
namespace Go.Proofs.YtglghfbdchcihaaDoor
open Go.RowKit Lin Inx
set_option maxRecDepth 100000
set_option linter.unusedVariables false

set_option maxHeartbeats 1000000 in
theorem walk_InilexReads (s : ByteArray) (hs : s.size ≤ maxLen) (w : World) :
    Calls Tryd.prog 3 #[.string s] w fun e w' => e = .returned (.bool true) ∧ Below w.heap.size w w' := by
  unfold maxLen at hs
  obtain ⟨l, rfl⟩ : ∃ l, s = ⟨⟨l⟩⟩ := ⟨s.data.toList, by cases s with | mk d => cases d with | mk t => rfl⟩
  have hz : (ByteArray.mk ⟨l⟩).size = l.length := rfl
  by_cases hlen : 2000 < l.length
  · rw [hz] at hs
    go_enter Tryd.func3, Tryd.ntmps3
    go_wp2_with fail
    refine (alive42 _).mono ?_; rintro e w3 ⟨rfl, hb3⟩
    go_wp2
    go_ret
    exact ⟨rfl, hb3⟩
  · have HA := Lib.hid (fun W => lex_any l W (by omega))
    have HB := Lib.hid (fun W => refLex_any l W (by omega))
    clear hs
    rw [← hz] at hlen
    unfold sv at HA HB
    generalize loose l = ls at *
    generalize ByteArray.mk ⟨l⟩ = L at *
    clear hz
    go_enter Tryd.func3, Tryd.ntmps3
    go_wp2_with fail
    refine (HA.out _).mono ?_; rintro e w1 ⟨⟨A, n, c, E, k, I, rfl, h1, h2, h3, h4⟩, hb1⟩
    go_wp2_with fail
    refine (HB.out _).mono ?_; rintro e w2 ⟨⟨A', n', c', E', k', I', rfl, h1', h2', h3', h4'⟩, hb2⟩
    obtain ⟨rfl, rfl, rfl⟩ := h3.one h3'
    have hnn := h4.len
    obtain rfl : n' = n := by have := h4'.len; omega
    have g4 := h4.on hb2
    have b2 := Below.on hb1 hb1.size hb2
    unfold maxLen at h2 h2'
    clear h3 h3' h4 hb1 hb2 hnn HA HB
    go_wp2
    go_loopw [9] (fun i wr => ∃ j m : Nat, j ≤ n' ∧ i = .int .i64 j ∧ wr = w2.drewN m) (fun i _ => n' - (intOf i).toNat)
    case atStart => exact ⟨0, 0, Nat.zero_le _, rfl, rfl⟩
    case round =>
      obtain ⟨j, m, hj, rfl, rfl⟩ := hrel
      by_cases hlt : j < n'
      · obtain ⟨b, off, p, rfl, hb, p0, p1, p2, p3, hp⟩ := g4.elem hlt
        obtain ⟨b', off', p', rfl, hb', q0, q1, q2, q3, hp'⟩ := h4'.elem hlt
        obtain rfl : p = p' := by rw [hp] at hp'; injection hp'
        clear hp hp' g4 h4'
        unfold sv at *
        generalize ByteArray.mk ⟨p.n⟩ = N at *
        generalize ByteArray.mk ⟨p.v⟩ = V at *
        generalize p.s = S at *
        generalize p.k = K at *
        go_wp2
        go_quiet (fail)
        go_wp2
        go_roundw
        case rel => exact ⟨j + 1, _, by omega, by go_num, rfl⟩
        case measure => simp [intOf] <;> omega
      · go_wp2_with fail
        refine (alive42 _).mono ?_; rintro e w3 ⟨rfl, hb3⟩
        have b3 := Below.on (below_draw b2 m) (below_draw b2 m).size (by exact hb3)
        go_wp2
        go_ret
        exact ⟨rfl, b3⟩

end Go.Proofs.YtglghfbdchcihaaDoor
