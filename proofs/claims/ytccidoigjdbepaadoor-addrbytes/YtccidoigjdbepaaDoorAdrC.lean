
/- Contracts: addr.size, Bytes. -/
import Derived.Test.YtccidoigjdbepaaDoorAdrB
namespace Go.Proofs.YtccidoigjdbepaaDoor
open Go.RowKit
set_option maxRecDepth 100000
set_option linter.unusedSimpArgs false
set_option linter.unusedVariables false

theorem sizeA_le (v : Int) (l : List UInt8) : sizeA v l ≤ 16 := by unfold sizeA; split <;> (try split) <;> omega

theorem size_any (v : Int) (l : List UInt8) (hl : l.length = 16) (w : World) :
    Calls Tryd.prog 53 #[.agg (adv v l)] w fun e w' => e = .returned (.int .i64 (sizeA v l : Int)) ∧ Below w.heap.size w w' := by
  have k0 : Blk (w.alloc (.cells (adv v l) 24)) w.heap.size 24 (adv v l) := blk_new _ _ _
  have hb0 : Below w.heap.size w (w.alloc (.cells (adv v l) 24)) := (Below.refl _ _).alloc (Nat.le_refl _) _
  have hz := Adr_size v l hl
  go_enter Tryd.func53, Tryd.ntmps53
  go_wp2_with (first
    | (refine wpList_loadBlk (g := w.heap.size) (t := 24) (cs := adv v l) rfl 24 (.tmp 1) ?ho ?hx ?hA _ Tryd.underlying24 rfl ?hi ?_
       case ho => with_reducible rfl
       case hx => rfl
       case hA => exact k0
       case hi => exact hz)
    | fail)
  refine (right_any v l hl _).mono ?_
  rintro e w1 ⟨rfl, hb1⟩
  have k1 := k0.on hb1
  have c1 := k1.adv0
  have b1 := Below.on hb0 hb0.size hb1
  clear k0 hb0 hb1
  cases hok : okA v l
  · have e0 : (sizeA v l : Int) = 0 := by simp [sizeA, hok]
    go_wp2
    go_ret
    exact ⟨by rw [e0]; rfl, b1⟩
  · by_cases h4 : v = 4
    · subst h4
      have e0 : (sizeA 4 l : Int) = 4 := by simp [sizeA, hok]
      go_wp2
      go_ret
      exact ⟨by rw [e0]; rfl, b1⟩
    · have h4' : decide (v = 4) = false := decide_eq_false h4
      have e0 : (sizeA v l : Int) = 16 := by simp [sizeA, hok, h4]
      go_wp2
      go_ret
      exact ⟨by rw [e0]; rfl, b1⟩

theorem abytes_any (v : Int) (l : List UInt8) (hl : l.length = 16) (w : World) :
    Calls Tryd.prog 13 #[.agg (adv v l)] w fun e w' => ∃ x, e = .returned x ∧ Own w' w.heap.size x (sizeA v l) (l.take (sizeA v l)) ∧ Below w.heap.size w w' := by
  have k0 : Blk (w.alloc (.cells (adv v l) 24)) w.heap.size 24 (adv v l) := blk_new _ _ _
  have hb0 : Below w.heap.size w (w.alloc (.cells (adv v l) 24)) := (Below.refl _ _).alloc (Nat.le_refl _) _
  have hz := Adr_size v l hl
  have hm := sizeA_le v l
  have HS := Lib.hid (fun W => size_any v l hl W)
  generalize sizeA v l = m at *
  have hmi : (m : Int) ≤ 16 := by omega
  have hmn : (0 : Int) ≤ m := by omega
  go_enter Tryd.func13, Tryd.ntmps13
  go_wp2_with (first
    | (refine wpList_loadBlk (g := w.heap.size) (t := 24) (cs := adv v l) rfl 24 (.tmp 1) ?ho ?hx ?hA _ Tryd.underlying24 rfl ?hi ?_
       case ho => with_reducible rfl
       case hx => rfl
       case hA => exact k0
       case hi => exact hz)
    | fail)
  refine (HS.out _).mono ?_
  rintro e w1 ⟨rfl, hb1⟩
  have k1 := k0.on hb1
  have s1 := k1.advShows m (by omega)
  have b1 := Below.on hb0 hb0.size hb1
  clear k0 hb0 hb1
  go_wp2_with fail
  refine (bclone_any _ _ _ _ _ (by omega) s1).mono ?_
  rintro e w2 ⟨x, rfl, ho, hb2⟩
  have ho2 := ho.base (b' := w.heap.size) (by have := b1.size; omega)
  have b2 := Below.on b1 b1.size hb2
  clear k1 s1 b1 hb2
  go_wp2
  go_ret
  exact ⟨_, rfl, ho2, b2⟩

end Go.Proofs.YtccidoigjdbepaaDoor
