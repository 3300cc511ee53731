
/- Contracts: crawlwayref10.Right of an address of family 4; crawlwayref22.summed, Read. -/
import Derived.Test.YtkokgoodpibboaaNtC
namespace Go.Proofs.Ytkokgoodpibboaa
open Go.RowKit
set_option maxRecDepth 100000
set_option linter.unusedSimpArgs false
set_option linter.unusedVariables false

theorem refRight4 (s : List UInt8) (hs : s.length = 4) (w : World) :
    Calls Try.prog 73 #[.agg (adv 4 (s ++ zb 12))] w fun e w' => e = .returned (.bool true) ∧ Below w.heap.size w w' := by
  have k0 : Blk (w.alloc (.cells (adv 4 (s ++ zb 12)) 32)) w.heap.size 32 (adv 4 (s ++ zb 12)) := blk_new _ _ _
  have hb0 : Below w.heap.size w (w.alloc (.cells (adv 4 (s ++ zb 12)) 32)) := (Below.refl _ _).alloc (Nat.le_refl _) _
  have c0 := k0.adv0
  have cz : ∀ j : Nat, 4 ≤ j → j < 16 → (w.alloc (.cells (adv 4 (s ++ zb 12)) 32)).cell? ⟨w.heap.size, 1 + j, none⟩ = some (.int .u8 0) := by
    intro j h1 h2
    rw [k0.cellA]
    refine adv_b _ _ j 0 ?_
    rw [List.getElem?_append_right (by omega)]
    simp only [zb, List.getElem?_replicate]
    rw [if_pos (by omega)]
  have HZ := Lib.hid cz
  clear cz k0
  generalize hX : adv 4 (s ++ zb 12) = X at *
  clear hX
  go_enter Try.func73, Try.ntmps73
  go_wp2
  go_loop [3] (fun i => ∃ k : Nat, 4 ≤ k ∧ k ≤ 16 ∧ i = .int .i64 k) (fun i => 16 - (intOf i).toNat)
  case atStart => exact ⟨4, by omega, by omega, rfl⟩
  case round =>
    obtain ⟨k, h1, h2, rfl⟩ := hrel
    by_cases hlt : k < 16
    · have hcell := HZ.out k h1 hlt
      have ki : (k : Int) < 16 := by omega
      go_wp2
      go_round
      case rel => exact ⟨k + 1, by omega, by omega, by go_num⟩
      case measure => simp [intOf] <;> omega
    · obtain rfl : k = 16 := by omega
      go_wp2
      go_ret
      exact ⟨rfl, hb0⟩

theorem summed4 (xs : List Int) (s : List UInt8) (hs : s.length = 4) (d : Array Value) (hx : xs.length = 9) (hd : d.size = 17) (A : Option Addr) (n c : Nat) (w : World) :
    Calls Try.prog 83 #[.agg (hdv xs (adv 4 (s ++ zb 12)) d), .slice A n c] w fun e w' => e = .returned (.slice A n c) ∧ Below w.heap.size w w' := by
  have zl : (s ++ zb 12).length = 16 := by simp [zb, hs]
  have k0 : Blk (w.alloc (.cells (hdv xs (adv 4 (s ++ zb 12)) d) 42)) w.heap.size 42 (hdv xs (adv 4 (s ++ zb 12)) d) := blk_new _ _ _
  have hb0 : Below w.heap.size w (w.alloc (.cells (hdv xs (adv 4 (s ++ zb 12)) d) 42)) := (Below.refl _ _).alloc (Nat.le_refl _) _
  have R1 := hdv_src hx k0
  have z1 := Adr_size 4 (s ++ zb 12) zl
  have H1 := Lib.hid (fun W => refRight4 s hs W)
  generalize hdv xs (adv 4 (s ++ zb 12)) d = M at *
  generalize adv 4 (s ++ zb 12) = X at *
  go_enter Try.func83, Try.ntmps83
  go_wp2_with (first
    | (refine wpList_loadPart (g := w.heap.size) rfl 32 (.tmp 5) ?ho 9 ?hx X _ R1 Try.underlying32 rfl ?hi ?_
       case ho => with_reducible rfl
       case hx => rfl
       case hi => exact z1)
    | fail)
  refine (H1.out _).mono ?_
  rintro e w1 ⟨rfl, hb1⟩
  have b1 := Below.on hb0 hb0.size hb1
  clear k0 hb0 hb1 R1
  go_wp2
  go_ret
  exact ⟨rfl, b1⟩

end Go.Proofs.Ytkokgoodpibboaa
