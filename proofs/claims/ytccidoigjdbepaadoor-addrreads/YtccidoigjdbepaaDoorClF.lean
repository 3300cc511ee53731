
/- Layer 9. The reference's run and row. -/
import Derived.Test.YtccidoigjdbepaaDoorClE
namespace Go.Proofs.YtccidoigjdbepaaDoor.Cl
open Go.RowKit
set_option maxRecDepth 100000
set_option linter.unusedVariables false

theorem runZ_facts (zs : List Bool) (f i : Nat) : runZ zs i f ≤ f ∧ (∀ j < runZ zs i f, zs.getD (i + j) false = true) ∧ (runZ zs i f < f → zs.getD (i + runZ zs i f) false = false) := by
  induction f generalizing i with
  | zero => exact ⟨Nat.le_refl _, fun j hj => absurd hj (by simp [runZ]), fun h => absurd h (by simp [runZ])⟩
  | succ f ih =>
    obtain ⟨h1, h2, h3⟩ := ih (i + 1)
    unfold runZ
    cases hz : zs.getD i false
    · simp only [Bool.false_eq_true, if_false]
      exact ⟨by omega, fun j hj => absurd hj (by omega), fun _ => by simpa using hz⟩
    · simp only [if_true]
      refine ⟨by omega, fun j hj => ?_, fun h => ?_⟩
      · cases j with
        | zero => simpa using hz
        | succ j =>
          have := h2 j (by omega)
          rwa [show i + 1 + j = i + (j + 1) by omega] at this
      · have := h3 (by omega)
        rwa [show i + 1 + runZ zs (i + 1) f = i + (1 + runZ zs (i + 1) f) by omega] at this
theorem zs_at (gs : List Nat) (k x : Nat) (h : gs[k]? = some x) : (zsOf gs).getD k false = decide (x = 0) := by
  unfold zsOf
  rw [List.getD_eq_getElem?_getD, List.getElem?_map, h]; rfl

set_option maxHeartbeats 1000000 in
theorem run_any (gs : List Nat) (hl : gs.length = 8) (i : Nat) (hi : i < 8) (w : World) (hg : ∀ g ∈ gs, g < 65536) :
    Calls Tryd.prog 81 #[.agg (gs.map i64v).toArray, .int .i64 (i : Int)] w fun e w' => e = .returned (.int .i64 (runOf (zsOf gs) i : Int)) ∧ Below w.heap.size w w' := by
  obtain ⟨h1, h2, h3⟩ := runZ_facts (zsOf gs) (8 - i) i
  have H2 := Lib.hid (show ∀ j < runOf (zsOf gs) i, (zsOf gs).getD (i + j) false = true from h2)
  have H3 := Lib.hid (show runOf (zsOf gs) i < 8 - i → (zsOf gs).getD (i + runOf (zsOf gs) i) false = false from h3)
  have h1' : runOf (zsOf gs) i ≤ 8 - i := h1
  have HZ := Lib.hid (fun k x h => zs_at gs k x h)
  have k0 : Blk (w.alloc (.cells (gs.map i64v).toArray 101)) w.heap.size 101 (gs.map i64v).toArray := blk_new _ _ _
  have HC := Lib.hid (fun (k x : Nat) (hx : gs[k]? = some x) => show (w.alloc (.cells (gs.map i64v).toArray 101)).cell? ⟨w.heap.size, k, none⟩ = some (i64v x) by
    rw [Lib.cell_of_heap k0, List.getElem?_toArray, List.getElem?_map, hx]; rfl)
  have b0 : Below w.heap.size w (w.alloc (.cells (gs.map i64v).toArray 101)) := (Below.refl _ _).alloc (Nat.le_refl _) _
  have HG := Lib.hid hg
  clear h1 h2 h3 k0 hg
  generalize runOf (zsOf gs) i = R at *
  generalize zsOf gs = zs at *
  generalize (gs.map i64v).toArray = X at *
  go_enter Tryd.func81, Tryd.ntmps81
  go_wp2
  generalize hW : w.alloc (.cells X 101) = W0 at *
  go_loopw [5] (fun u wr => ∃ k : Nat, k ≤ R ∧ u = .int .i64 (k : Int) ∧ wr = W0) (fun u _ => R - (intOf u).toNat)
  case atStart => exact ⟨0, Nat.zero_le _, rfl, rfl⟩
  case round =>
    obtain ⟨k, hk, rfl, hww⟩ := hrel
    have hww' := hww.symm
    clear hww
    subst hww'
    by_cases h8 : i + k = 8
    · obtain rfl : k = R := by omega
      have hI : ¬ ((i : Int) + (k : Int) < 8) := by omega
      go_wp2
      go_ret
      exact ⟨rfl, b0⟩
    · have hI : (i : Int) + (k : Int) < 8 := by omega
      have hI0 : (0 : Int) ≤ (i : Int) + (k : Int) := by omega
      have hIt : ((i : Int) + (k : Int)).toNat = i + k := by omega
      have hIw : IntKind.i64.wrap ((i : Int) + (k : Int)) = (i : Int) + (k : Int) := IntWalk.i64_in _ (by omega)
      obtain ⟨x, hx⟩ : ∃ x, gs[i + k]? = some x := ⟨gs[i + k]'(by omega), List.getElem?_eq_getElem _⟩
      have hcell := HC.out (i + k) x hx
      have hz := HZ.out (i + k) x hx
      have hx16 := HG.out x (List.mem_of_getElem? hx)
      by_cases hlt : k < R
      · have hx0 : x = 0 := by
          have := H2.out k hlt
          rw [hz] at this
          simpa using this
        subst hx0
        clear hz hx
        go_wp2
        go_roundw
        case rel => exact ⟨k + 1, by omega, by go_num, trivial⟩
        case measure => simp [intOf] <;> omega
      · obtain rfl : k = R := by omega
        have hx0 : ((x : Int) == 0) = false := by
          have := H3.out (by omega)
          rw [hz] at this
          have h0 : x ≠ 0 := by simpa using this
          rw [beq_eq_false_iff_ne]; omega
        clear hz hx
        go_wp2
        go_ret
        exact ⟨rfl, b0⟩

theorem join_snoc (L : List (List UInt8)) (x : List UInt8) : Lib.join (L ++ [x]) [58] = if L = [] then x else Lib.join L [58] ++ [58] ++ x := by
  cases L with
  | nil => simp [Lib.join_one]
  | cons y r =>
    rw [if_neg (by simp), List.cons_append, Lib.join_cons, Lib.join_cons]
    simp [Lib.joinTail, List.append_assoc]
theorem refGroupA (n : Nat) (h : n < 65536) (w : World) : Calls Tryd.prog 102 #[.int .i64 (n : Int)] w fun e w' => e = .returned (sv (hx n)) ∧ w = w' :=
  Hex.refGroup_any (nd n) n w (nd_le n) (nd_digs n h)

set_option maxHeartbeats 1000000 in
theorem refRow_any (gs : List Nat) (hl : gs.length = 8) (f t : Nat) (hft : f ≤ t) (ht : t ≤ 8) (w : World) (hg : ∀ g ∈ gs, g < 65536) :
    Calls Tryd.prog 82 #[.agg (gs.map i64v).toArray, .int .i64 (f : Int), .int .i64 (t : Int)] w fun e w' => e = .returned (sv (row ((gs.drop f).take (t - f)))) ∧ Below w.heap.size w w' := by
  have k0 : Blk (w.alloc (.cells (gs.map i64v).toArray 101)) w.heap.size 101 (gs.map i64v).toArray := blk_new _ _ _
  have HC := Lib.hid (fun (k x : Nat) (hx : gs[k]? = some x) => show (w.alloc (.cells (gs.map i64v).toArray 101)).cell? ⟨w.heap.size, k, none⟩ = some (i64v x) by
    rw [Lib.cell_of_heap k0, List.getElem?_toArray, List.getElem?_map, hx]; rfl)
  have b0 : Below w.heap.size w (w.alloc (.cells (gs.map i64v).toArray 101)) := (Below.refl _ _).alloc (Nat.le_refl _) _
  have HG := Lib.hid hg
  have HS := Lib.hid (fun (i x : Nat) (hfi : f ≤ i) (hx' : gs[i]? = some x) => show row ((gs.drop f).take (i + 1 - f)) = if i = f then hx x else row ((gs.drop f).take (i - f)) ++ [58] ++ hx x by
    have h1 : (gs.drop f)[i - f]? = some x := by rw [List.getElem?_drop, show f + (i - f) = i by omega]; exact hx'
    have h2 : (gs.drop f).take (i + 1 - f) = (gs.drop f).take (i - f) ++ [x] := by
      rw [show i + 1 - f = (i - f) + 1 by omega]
      obtain ⟨hk, hk2⟩ := List.getElem?_eq_some_iff.1 h1
      rw [List.take_succ_eq_append_getElem hk, hk2]
    unfold row
    rw [h2, List.map_append, List.map_cons, List.map_nil, join_snoc]
    have hne : ((gs.drop f).take (i - f)).map hx = [] ↔ i = f := by
      have hlen : i < gs.length := (List.getElem?_eq_some_iff.1 hx').1
      rw [List.map_eq_nil_iff, List.take_eq_nil_iff, List.drop_eq_nil_iff]
      constructor
      · rintro (h | h) <;> omega
      · intro h; left; omega
    by_cases hif : i = f
    · rw [if_pos (hne.2 hif), if_pos hif]
    · rw [if_neg (fun h => hif (hne.1 h)), if_neg hif])
  have HLen := Lib.hid (fun i => row_len ((gs.drop f).take (i - f)))
  clear k0 hg
  generalize (gs.map i64v).toArray = X at *
  go_enter Tryd.func82, Tryd.ntmps82
  go_wp2
  generalize hW : w.alloc (.cells X 101) = W0 at *
  go_loopw [7, 8] (fun v u wr => ∃ i : Nat, f ≤ i ∧ i ≤ t ∧ u = .int .i64 (i : Int) ∧ v = sv (row ((gs.drop f).take (i - f))) ∧ wr = W0) (fun _ u _ => t - (intOf u).toNat)
  case atStart => exact ⟨f, Nat.le_refl _, hft, rfl, by rw [Nat.sub_self]; rfl, rfl⟩
  case round =>
    obtain ⟨i, hfi, hit, rfl, rfl, hww⟩ := hrel
    have hww' := hww.symm
    clear hww
    subst hww'
    by_cases hlt : i < t
    · obtain ⟨x, hx'⟩ : ∃ x, gs[i]? = some x := ⟨gs[i]'(by omega), List.getElem?_eq_getElem _⟩
      have hcell := HC.out i x hx'
      have hst := HS.out i x hfi hx'
      have hlen := HLen.out i
      have hlx := hx_len x
      have hrl : (row ((gs.drop f).take (i - f))).length ≤ 40 := by
        rw [List.length_take] at hlen
        have : min (i - f) (gs.drop f).length ≤ 8 := by omega
        omega
      have HX := Lib.hid (fun W => refGroupA x (HG.out x (List.mem_of_getElem? hx')) W)
      have hx16 := HG.out x (List.mem_of_getElem? hx')
      clear hx' hlen
      by_cases hif : i = f
      · subst hif
        rw [if_pos rfl] at hst
        have HSt := Lib.hid hst
        have hnil : row ((gs.drop i).take (i - i)) = [] := by rw [Nat.sub_self]; rfl
        rw [hnil]
        clear hst hrl hnil
        generalize hx x = HXX at *
        go_wp2_with fail
        refine (HX.out _).mono ?_; rintro e w4 ⟨rfl, hw4⟩
        subst hw4
        go_wp2
        go_roundw
        case rel => exact ⟨i + 1, by omega, by omega, by go_num, (by rw [HSt.out]; first | rfl | exact congrArg Value.string (str_add [] _) | exact congrArg Value.string (str_add [] _).symm | simp), trivial⟩
        case measure => simp [intOf] <;> omega
      · rw [if_neg hif] at hst
        have HSt := Lib.hid hst
        have hfI : (f : Int) < (i : Int) := by omega
        clear hst hif
        generalize row ((gs.drop f).take (i - f)) = R at *
        generalize hx x = HXX at *
        have z1 : (ByteArray.mk ⟨R⟩).size = R.length := rfl
        go_wp2_with fail
        refine (HX.out _).mono ?_; rintro e w4 ⟨rfl, hw4⟩
        subst hw4
        go_wp2
        go_roundw
        case rel => exact ⟨i + 1, by omega, by omega, by go_num, congrArg Value.string (by rw [HSt.out, str_add, str_add]), trivial⟩
        case measure => simp [intOf] <;> omega
    · obtain rfl : i = t := by omega
      go_wp2
      go_ret
      exact ⟨rfl, b0⟩

end Go.Proofs.YtccidoigjdbepaaDoor.Cl
