
/- law08's alive. -/
import Derived.Test.YtccidoigjdbepaaDoorQdD
namespace Go.Proofs.YtccidoigjdbepaaDoor.Qd
open Go.RowKit Dec Lin
set_option maxRecDepth 100000

theorem Tryd.plainQ : Tryd.prog.eqGuardType Tryd.prog.depth 37 = false := by kernel_rfl
theorem eq4 (l l' : List UInt8) (hl : l.length = 4) (hl' : l'.length = 4) (w : World) : (Op.equalIn 10000 37 (.agg (l.map bv).toArray) (.agg (l'.map bv).toArray)).run Tryd.prog w = .ok (l == l') w :=
  run_equalIn_bytes (P := Tryd.prog) w 9998 37 5 4 Tryd.underlying37 Tryd.underlying5 (fun w => by
    have h := Tryd.sizeU8
    cases hq : Tryd.prog.info? 5 with
    | none => simp [hq] at h
    | some i => simp [sizeOf, typeInfo, hq] at *; exact h) l l' hl hl'
theorem eq4_self (a b c d : UInt8) (w : World) : (Op.equalIn 10000 37 (.agg #[bv a, bv b, bv c, bv d]) (.agg #[bv a, bv b, bv c, bv d])).run Tryd.prog w = .ok true w := by
  have h := eq4 [a, b, c, d] [a, b, c, d] rfl rfl w
  rw [show ([a, b, c, d] == [a, b, c, d]) = true by simp] at h
  exact h
theorem ds0 : ds 0 = [48] := dec_small 0 (by omega)
theorem ds1 : ds 1 = [49] := dec_small 1 (by omega)
theorem ds10 : ds 10 = [49, 48] := by
  show Lib.decDigits 10 = _
  rw [dec_step 10 (by omega), dec_small (10 / 10) (by omega)]; rfl
theorem dE10 : dE [49, 48] = 0 := ds10 ▸ (dE_ds 10).1
theorem dE0 : dE [48] = 0 := ds0 ▸ (dE_ds 0).1
theorem dE256 : dE [50, 53, 54] = 6 := by
  rw [dE, if_pos ⟨by simp, by decide, .inr (by decide)⟩, if_pos (by decide)]
theorem dE01 : dE [48, 49] = 5 := by
  rw [dE, if_neg]
  rintro ⟨_, _, h | h⟩
  · simp at h
  · simp at h

theorem lit_range (w : World) : Calls Tryd.prog 62 #[.string ⟨#[49, 48, 46, 48, 46, 48, 46, 50, 53, 54]⟩] w fun e w' => e = .returned (.tuple #[av [0, 0, 0, 0], .int .i64 6]) ∧ Below w.heap.size w w' := by
  have h := qparse_any [49, 48, 46, 48, 46, 48, 46, 50, 53, 54] w (by decide)
  have e : qE [49, 48, 46, 48, 46, 48, 46, 50, 53, 54] = 6 := by
    rw [(q_four _ [49, 48] [48] [48] [50, 53, 54] (by decide)).1, dE10, dE0, dE256]; rfl
  rw [q_bad _ (by omega), e] at h
  exact h
theorem lit_form (w : World) : Calls Tryd.prog 62 #[.string ⟨#[49, 48, 46, 48, 46, 48, 46, 48, 49]⟩] w fun e w' => e = .returned (.tuple #[av [0, 0, 0, 0], .int .i64 5]) ∧ Below w.heap.size w w' := by
  have h := qparse_any [49, 48, 46, 48, 46, 48, 46, 48, 49] w (by decide)
  have e : qE [49, 48, 46, 48, 46, 48, 46, 48, 49] = 5 := by
    rw [(q_four _ [49, 48] [48] [48] [48, 49] (by decide)).1, dE10, dE0, dE01]; rfl
  rw [q_bad _ (by omega), e] at h
  exact h
theorem qT_lit : qT 10 0 0 1 = [49, 48, 46, 48, 46, 48, 46, 49] := by rw [qT, ds10, ds0, ds1]; rfl
theorem lit_text (w : World) (htab : Tab w) : Calls Tryd.prog 54 #[.agg #[.int .u8 10, .int .u8 0, .int .u8 0, .int .u8 1]] w fun e w' => e = .returned (.string ⟨#[49, 48, 46, 48, 46, 48, 46, 49]⟩) ∧ Below w.heap.size w w' := by
  have h := qtext_any 10 0 0 1 w htab
  rw [qT_lit] at h
  exact h

end Go.Proofs.YtccidoigjdbepaaDoor.Qd
