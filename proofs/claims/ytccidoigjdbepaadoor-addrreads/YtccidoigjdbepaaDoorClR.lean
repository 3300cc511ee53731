
/- Layer 9. The chapter's examples (law09's alive). -/
import Derived.Test.YtccidoigjdbepaaDoorClP
namespace Go.Proofs.YtccidoigjdbepaaDoor.Cl
open Go.RowKit Lin Qd Dec
set_option maxRecDepth 100000
set_option linter.unusedVariables false

theorem pG_rows (gs : List Nat) (t : List UInt8) (h : ∀ n ∈ gs, n < 65536) : pG (row gs ++ [58, 58] ++ t) = match rdS true t with | some B => if gFits true gs B = true then some (gMid gs B) else none | none => none := by
  have hg := gp_rows gs t
  unfold gp at hg
  have hc : Lib.cut (row gs ++ [58, 58] ++ t) [58, 58] = (row gs, t, true) := by
    unfold Lib.cut
    rw [if_pos (by omega), hg, Int.toNat_natCast, show ([58, 58] : List UInt8).length = 2 from rfl]
    rw [List.append_assoc, List.take_left' rfl, ← List.append_assoc, List.drop_left' (by simp)]
  unfold pG
  rw [hc]
  simp only [rdS_row _ _ h]
  cases rdS true t <;> rfl
theorem ds_lit : qT 1 2 3 4 = [49, 46, 50, 46, 51, 46, 52] := by
  rw [qT, show ds 1 = [49] from dec_small 1 (by omega), show ds 2 = [50] from dec_small 2 (by omega), show ds 3 = [51] from dec_small 3 (by omega), show ds 4 = [52] from dec_small 4 (by omega)]
  rfl
theorem rd_lit1 : rdS true [102, 102, 102, 102, 58, 49, 46, 50, 46, 51, 46, 52] = some [65535, 258, 772] := by
  have hq := q_back 1 2 3 4
  rw [ds_lit] at hq
  have h1 : gV [102, 102, 102, 102] = some 65535 := by
    have := gV_hx 65535 (by omega)
    rwa [show hx 65535 = [102, 102, 102, 102] from by decide +kernel] at this
  have h2 : gV [49, 46, 50, 46, 51, 46, 52] = none := if_neg (by simp)
  have h3 : qs [49, 46, 50, 46, 51, 46, 52] = [258, 772] := by
    unfold qs qb
    rw [hq.2]
    rfl
  unfold rdS
  rw [if_neg (by simp), show parts 58 [102, 102, 102, 102, 58, 49, 46, 50, 46, 51, 46, 52] = [[102, 102, 102, 102], [49, 46, 50, 46, 51, 46, 52]] from rfl]
  rw [rdRow, h1]
  simp only
  rw [rdRow, h2]
  simp only
  rw [if_pos (by simp [hq.1]), h3]
  rfl
theorem rd_lit2 : rdS true [50, 58, 58, 51] = none := by
  have h1 : gV [50] = some 2 := by
    have := gV_hx 2 (by omega)
    rwa [show hx 2 = [50] from by decide +kernel] at this
  have h2 : gV [] = none := if_neg (by simp)
  have h3 : Qd.qE [] = 5 := (q_not [] (by decide)).1
  unfold rdS
  rw [if_neg (by simp), show parts 58 [50, 58, 58, 51] = [[50], [], [51]] from rfl]
  rw [rdRow, h1]
  simp only
  rw [rdRow, h2]
  simp [h3]
/-- The bytes of the first example. -/
def exB : List UInt8 := [0, 0, 0, 0, 0, 0, 0, 0, 0, 0, 255, 255, 1, 2, 3, 4]
theorem p_lit1 : pB [58, 58, 102, 102, 102, 102, 58, 49, 46, 50, 46, 51, 46, 52] = exB ∧ pE [58, 58, 102, 102, 102, 102, 58, 49, 46, 50, 46, 51, 46, 52] = 0 := by
  have h := pG_rows [] [102, 102, 102, 102, 58, 49, 46, 50, 46, 51, 46, 52] (fun n hn => (List.not_mem_nil hn).elim)
  rw [rd_lit1] at h
  have h : pG [58, 58, 102, 102, 102, 102, 58, 49, 46, 50, 46, 51, 46, 52] = some [0, 0, 0, 0, 0, 65535, 258, 772] := h
  refine ⟨?_, ?_⟩
  · unfold pB; rw [h]; decide +kernel
  · unfold pE; rw [h]
theorem p_lit2 : pE [49, 58, 58, 50, 58, 58, 51] = 5 ∧ pB [49, 58, 58, 50, 58, 58, 51] = List.replicate 16 0 := by
  have h := pG_rows [1] [50, 58, 58, 51] (by simp)
  rw [rd_lit2, show row [1] = [49] from by decide +kernel] at h
  have h : pG [49, 58, 58, 50, 58, 58, 51] = none := h
  refine ⟨?_, ?_⟩
  · unfold pE; rw [h]
  · unfold pB; rw [h]
theorem cT_lit : cT exB = [58, 58, 102, 102, 102, 102, 58, 49, 48, 50, 58, 51, 48, 52] := by decide +kernel
theorem lit_one (w : World) (hm : HasM w) : Calls Tryd.prog 61 #[.string ⟨#[58, 58, 102, 102, 102, 102, 58, 49, 46, 50, 46, 51, 46, 52]⟩] w fun e w' => e = .returned (.tuple #[av exB, .int .i64 0]) ∧ Below w.heap.size w w' := by
  have h := cparse_any [58, 58, 102, 102, 102, 102, 58, 49, 46, 50, 46, 51, 46, 52] (by decide) w hm
  rw [p_lit1.1, p_lit1.2] at h
  exact h
theorem lit_two (w : World) (hm : HasM w) : Calls Tryd.prog 61 #[.string ⟨#[49, 58, 58, 50, 58, 58, 51]⟩] w fun e w' => e = .returned (.tuple #[av (List.replicate 16 0), .int .i64 5]) ∧ Below w.heap.size w w' := by
  have h := cparse_any [49, 58, 58, 50, 58, 58, 51] (by decide) w hm
  rw [p_lit2.1, p_lit2.2] at h
  exact h
theorem lit_text (w : World) : Calls Tryd.prog 55 #[av exB] w fun e w' => e = .returned (.string ⟨#[58, 58, 102, 102, 102, 102, 58, 49, 48, 50, 58, 51, 48, 52]⟩) ∧ Below w.heap.size w w' := by
  have h := (ctext exB rfl).2.1 w
  rw [cT_lit] at h
  exact h
theorem Tryd.zero16 : (Tryd.prog.info? 22).map (fun i => (i.zero, i.size)) = some (some (.agg (List.replicate 16 (Value.int .u8 0)).toArray), 16) := by kernel_rfl
theorem Tryd.plain16 : Tryd.prog.eqGuardType Tryd.prog.depth 22 = false := by kernel_rfl

end Go.Proofs.YtccidoigjdbepaaDoor.Cl
