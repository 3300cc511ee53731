
/- law42's alive. -/
import Derived.Test.YtglghfbdchcihaaDoorInxG
namespace Go.Proofs.YtglghfbdchcihaaDoor.Inx
open Go.RowKit Lin
set_option maxRecDepth 100000

def lit42 : List UInt8 := [91, 32, 80, 101, 101, 114, 32, 93, 10, 65, 32, 61, 32, 98, 32, 35, 32, 99, 10]
def l1 : List UInt8 := [91, 32, 80, 101, 101, 114, 32, 93]
def l2 : List UInt8 := [65, 32, 61, 32, 98, 32, 35, 32, 99]
theorem lit_loose : loose lit42 = [l1, l2] := by decide +kernel
theorem lit_1 : lineE l1 = 0 := by decide +kernel
theorem lit_2 : lineE l2 = 0 := by decide +kernel
theorem lit_its : its 0 [l1, l2] = [⟨true, [112, 101, 101, 114], [], 1⟩, ⟨false, [97], [98], 2⟩] := by rfl
theorem lit_lexes : Lexes (loose lit42) 0 0 [⟨true, [112, 101, 101, 114], [], 1⟩, ⟨false, [97], [98], 2⟩] := by
  rw [lit_loose]
  refine .inr (.inr ⟨by decide, ?_, rfl, rfl, lit_its.symm⟩)
  intro j hj x hx
  match j, hj with
  | 0, _ => injection hx with hx; rw [← hx]; exact lit_1
  | 1, _ => injection hx with hx; rw [← hx]; exact lit_2

theorem lex_lit (w : World) : Calls Tryd.prog 7 #[.string ⟨#[91, 32, 80, 101, 101, 114, 32, 93, 10, 65, 32, 61, 32, 98, 32, 35, 32, 99, 10]⟩] w fun e w' =>
    (∃ (b off c : Nat), e = .returned (.tuple #[.slice (some ⟨b, off, none⟩) 2 c, .int .i64 0, .int .i64 0]) ∧ 2 ≤ c ∧ c ≤ maxLen ∧
      w'.cell? ⟨b, off, none⟩ = some (.bool true) ∧ w'.cell? ⟨b, off + 1, none⟩ = some (.string ⟨#[112, 101, 101, 114]⟩) ∧
      w'.cell? ⟨b, off + 5, none⟩ = some (.string ⟨#[97]⟩) ∧ w'.cell? ⟨b, off + 6, none⟩ = some (.string ⟨#[98]⟩) ∧ w'.cell? ⟨b, off + 7, none⟩ = some (.int .i64 2)) ∧ Below w.heap.size w w' := by
  refine (lex_any lit42 w (by decide)).mono ?_
  rintro e w' ⟨⟨A, n, c, E, k, I, rfl, h1, h2, h3, h4⟩, hB⟩
  obtain ⟨rfl, rfl, rfl⟩ := h3.one lit_lexes
  obtain rfl : n = 2 := h4.len.symm
  obtain ⟨b, off, e, hb, hc⟩ := h4.2 (by omega)
  obtain ⟨c0, c1, _, _⟩ := hc 0 (by decide)
  obtain ⟨_, d1, d2, d3⟩ := hc 1 (by decide)
  subst e
  refine ⟨⟨b, off, c, rfl, h1, h2, ?_, ?_, ?_, ?_, ?_⟩, hB⟩
  · simpa using c0
  · simpa [sv] using c1
  · simpa [sv, Nat.add_assoc] using d1
  · simpa [sv, Nat.add_assoc] using d2
  · simpa [Nat.add_assoc] using d3

theorem alive42 (w : World) : Calls Tryd.prog 6 #[] w fun e w' => e = .returned (.bool true) ∧ Below w.heap.size w w' := by
  go_enter Tryd.func6, Tryd.ntmps6
  go_wp2_with fail
  refine (lex_lit _).mono ?_; rintro e w1 ⟨⟨b, off, c, rfl, h1, h2, c0, c1, d1, d2, d3⟩, hb1⟩
  unfold maxLen at h2
  go_wp2
  go_ret
  exact ⟨rfl, hb1⟩

end Go.Proofs.YtglghfbdchcihaaDoor.Inx
