
/- law36's alike and alive. -/
import Derived.Test.YtdiibbokdfmcbaaPlnF
namespace Go.Proofs.Ytdiibbokdfmcbaa.Pln
open Go.RowKit Lin
set_option maxRecDepth 100000

theorem alike_yes (A A' : Option Addr) (n c c' : Nat) (ps : List Pr) (w : World) (hn : n ≤ 1000000) (h : ShP w w.heap.size A n ps) (h' : ShP w w.heap.size A' n ps) :
    Calls Try.prog 15 #[.slice A n c, .slice A' n c'] w fun e w' => e = .returned (.bool true) ∧ Below w.heap.size w w' := by
  go_enter Try.func15, Try.ntmps15
  go_wp2
  go_loopw [5] (fun i wr => ∃ k m : Nat, k ≤ n ∧ i = .int .i64 k ∧ wr = w.drewN m) (fun i _ => n - (intOf i).toNat)
  case atStart => exact ⟨0, 0, Nat.zero_le _, rfl, rfl⟩
  case round =>
    obtain ⟨k, m, hk, rfl, rfl⟩ := hrel
    by_cases hlt : k < n
    · obtain ⟨b, off, p, rfl, hb, p0, p1, hp⟩ := h.elem hlt
      obtain ⟨b', off', p', rfl, hb', p0', p1', hp'⟩ := h'.elem hlt
      obtain rfl : p = p' := by rw [hp] at hp'; injection hp'
      clear hp hp' h h'
      unfold sv at *
      generalize ByteArray.mk ⟨p.1⟩ = K at *
      generalize ByteArray.mk ⟨p.2⟩ = V at *
      go_wp2
      go_quiet (fail)
      go_wp2
      go_roundw
      case rel => exact ⟨k + 1, _, by omega, by go_num, rfl⟩
      case measure => simp [intOf] <;> omega
    · go_wp2
      go_ret
      exact ⟨rfl, below_draw (Below.refl _ _) m⟩

theorem read_lit (w : World) : Calls Try.prog 14 #[.string ⟨#[97, 61, 98, 10, 10]⟩] w fun e w' =>
    (∃ A c, e = .returned (.tuple #[.slice A 1 c, .int .i64 0]) ∧ 1 ≤ c ∧ c ≤ maxLen ∧ ShP w' w'.heap.size A 1 [([97], [98])]) ∧ Below w.heap.size w w' := by
  have h := read_any [97, 61, 98, 10, 10] w (by decide)
  have h2 := r_b [([97], [98])] (by decide)
  rw [show bT [([97], [98])] = [97, 61, 98, 10, 10] by decide] at h2
  rw [h2.1, h2.2] at h
  exact h
theorem read_none (w : World) : Calls Try.prog 14 #[.string ⟨#[]⟩] w fun e w' =>
    e = .returned (.tuple #[.slice none 0 0, .int .i64 5]) ∧ Below w.heap.size w w' := by
  go_enter Try.func14, Try.ntmps14
  go_wp2_with fail
  refine (split_yes [] _ (.inl rfl) (by decide)).mono ?_; rintro e w1 ⟨⟨A1, c1, rfl, h1, h2, s1⟩, hb1⟩
  rw [loose_nil] at *
  go_wp2
  go_ret2
  exact ⟨rfl, hb1⟩

theorem alive36 (w : World) : Calls Try.prog 7 #[] w fun e w' => e = .returned (.bool true) ∧ Below w.heap.size w w' := by
  go_enter Try.func7, Try.ntmps7
  go_wp2_with fail
  refine (read_lit _).mono ?_; rintro e w1 ⟨⟨A1, c1, rfl, _, _, s1⟩, hb1⟩
  go_wp2_with fail
  refine (read_none _).mono ?_; rintro e w2 ⟨rfl, hb2⟩
  have b2 := Below.on hb1 hb1.size hb2
  have s2 := s1.on hb2
  obtain ⟨b, off, p, rfl, hb, p0, p1, hp⟩ := s2.elem (k := 0) (by omega)
  obtain rfl : p = ([97], [98]) := by simpa using hp.symm
  rw [Nat.zero_mul, Nat.add_zero] at p0 p1
  clear s1 s2 hp
  go_wp2
  go_ret
  exact ⟨rfl, b2⟩

end Go.Proofs.Ytdiibbokdfmcbaa.Pln
