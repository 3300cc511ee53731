/- Contracts: ref06.Parts, Same; lines.Loose, ref06.Loose, lines.Split. -/
import Derived.Test.YtmnkikkffmhnjabDoorLinA
namespace Go.Proofs.YtmnkikkffmhnjabDoor
open Go.RowKit

theorem byte_at (s : ByteArray) (i : Nat) (c : UInt8) (h : s.data.toList[i]? = some c) : ∀ h' : i < s.size, s[i]'h' = c := by
  intro h'
  obtain ⟨_, e⟩ := List.getElem?_eq_some_iff.1 h
  exact e
theorem byte_ne {x c : UInt8} (h : x ≠ c) : ((x.toNat : Int) == (c.toNat : Int)) = false := by
  rw [beq_eq_false_iff_ne]; exact fun e => h (UInt8.toNat_inj.1 (Int.ofNat.inj e))

/-- The state of the reference's loop: what is done, and where the part that is open began. -/
def Open (sep : UInt8) (l : List UInt8) (fr k : Nat) (done : List (List UInt8)) : Prop :=
  parts sep l = done ++ parts sep (l.drop fr) ∧ sep ∉ (l.take k).drop fr

theorem Open.start (sep : UInt8) (l : List UInt8) : Open sep l 0 0 [] := ⟨rfl, by simp⟩

theorem Open.skip {sep : UInt8} {l : List UInt8} {fr k : Nat} {done : List (List UInt8)} (h : Open sep l fr k done) (c : UInt8) (hc : l[k]? = some c) (hne : c ≠ sep) : Open sep l fr (k + 1) done := by
  refine ⟨h.1, ?_⟩
  obtain ⟨hk, rfl⟩ := List.getElem?_eq_some_iff.1 hc
  rw [List.take_succ_eq_append_getElem hk]
  intro hm
  have hm2 := List.mem_of_mem_drop hm
  by_cases hf : fr ≤ (l.take k).length
  · rw [List.drop_append_of_le_length hf] at hm
    rcases List.mem_append.1 hm with h1 | h1
    · exact h.2 h1
    · simp at h1; exact hne h1.symm
  · rw [List.drop_append, List.drop_of_length_le (by omega), List.nil_append] at hm
    have := List.mem_of_mem_drop hm
    simp at this
    exact hne this.symm

theorem Open.hit {sep : UInt8} {l : List UInt8} {fr k : Nat} {done : List (List UInt8)} (h : Open sep l fr k done) (hf : fr ≤ k) (hc : l[k]? = some sep) :
    Open sep l (k + 1) (k + 1) (done ++ [(l.take k).drop fr]) := by
  obtain ⟨hk, e⟩ := List.getElem?_eq_some_iff.1 hc
  refine ⟨?_, by rw [List.drop_of_length_le (by simp; omega)]; simp⟩
  have hs : l.drop fr = (l.take k).drop fr ++ sep :: l.drop (k + 1) := by
    have h1 : l = l.take k ++ sep :: l.drop (k + 1) := by
      rw [← e, ← List.drop_eq_getElem_cons hk, List.take_append_drop]
    conv => lhs; rw [h1]
    rw [List.drop_append_of_le_length (by simp; omega)]
  rw [h.1, hs, parts_yes sep _ _ h.2]
  simp

theorem Open.last {sep : UInt8} {l : List UInt8} {fr : Nat} {done : List (List UInt8)} (h : Open sep l fr l.length done) : parts sep l = done ++ [l.drop fr] := by
  have h2 := h.2
  rw [List.take_of_length_le (Nat.le_refl _)] at h2
  rw [h.1, parts_no sep _ h2]

theorem sameS_yes (A A' : Option Addr) (n c c' : Nat) (l : List (List UInt8)) (w : World) (hn : n ≤ 1000000000) (h : Sh sv w w.heap.size A n l) (h' : Sh sv w w.heap.size A' n l) :
    Calls Tryd.prog 10 #[.slice A n c, .slice A' n c'] w fun e w' => e = .returned (.bool true) ∧ Below w.heap.size w w' := by
  go_enter Tryd.func10, Tryd.ntmps10
  go_wp2
  go_loopw [5] (fun i wr => ∃ k m : Nat, k ≤ n ∧ i = .int .i64 k ∧ wr = w.drewN m) (fun i _ => n - (intOf i).toNat)
  case atStart => exact ⟨0, 0, Nat.zero_le _, rfl, rfl⟩
  case round =>
    obtain ⟨k, m, hk, rfl, rfl⟩ := hrel
    by_cases hlt : k < n
    · obtain ⟨b, off, x, rfl, hb, hc, hlx⟩ := h.elem hlt
      obtain ⟨b', off', x', rfl, hb', hc', hlx'⟩ := h'.elem hlt
      obtain rfl : x = x' := by rw [hlx] at hlx'; injection hlx'
      clear hlx hlx' h h'
      go_wp2
      go_quiet (fail)
      go_wp2
      go_roundw
      case rel => exact ⟨k + 1, _, by omega, by go_num, rfl⟩
      case measure => simp [intOf] <;> omega
    · go_wp2
      go_ret
      exact ⟨rfl, below_draw (Below.refl _ _) m⟩

end Go.Proofs.YtmnkikkffmhnjabDoor
