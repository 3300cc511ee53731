
/- Heads held against themselves. -/
import Derived.Test.YtccidoigjdbepaaDoorHdD
import Derived.Test.YtccidoigjdbepaaDoorEqS
namespace Go.Proofs.YtccidoigjdbepaaDoor
open Go.RowKit
set_option maxRecDepth 100000
set_option linter.unusedSimpArgs false
set_option linter.unusedVariables false

theorem adr_self (v : Int) (l : List UInt8) (hl : l.length = 16) (w : World) : (Op.equalIn 9999 24 (.agg (adv v l)) (.agg (adv v l))).run Tryd.prog w = .ok true w := by
  have hfs : (Tryd.prog.fieldsOf 24).toList = (match Tryd.prog.underlying 24 with | some (.struct fs) => fs.toList | _ => []) := by kernel_rfl
  rw [run_equalIn_struct w 9998 24 _ _ (by kernel_rfl) (by kernel_rfl), hfs, Tryd.underlying24]
  have hb : ∀ w, (Op.equalIn 9998 22 (.agg (l.map bv).toArray) (.agg (l.map bv).toArray)).run Tryd.prog w = .ok true w := fun w => by
    have := run_equalIn_bytes (P := Tryd.prog) w 9996 22 5 16 Tryd.underlying22 Tryd.underlying5 (fun w => by
      have hs := Tryd.sizeU8
      cases hq : Tryd.prog.info? 5 with
      | none => simp [hq] at hs
      | some i => simp [sizeOf, typeInfo, hq] at *; exact hs) l l hl hl
    rw [beq_self_eq_true] at this
    exact this
  refine eqF_self w 9998 _ _ ?_
  intro f hf
  simp only [List.mem_cons, List.not_mem_nil, or_false] at hf
  rcases hf with rfl | rfl
  · exact ⟨_, fun w => ⟨adr_v v l w, by rw [run_equalIn_int w 9997 3 .i64 .i64 v v Tryd.underlying3]; simp⟩⟩
  · exact ⟨_, fun w => ⟨adr_b v l hl w, hb w⟩⟩

theorem hd_num (xs : List Int) (s d : Array Value) (j : Nat) (x : Int) (h : xs[j]? = some x) : ∃ v, ∀ w, (part 3 (hdv xs s d) j).run Tryd.prog w = .ok v w ∧ (Op.equalIn 9999 3 v v).run Tryd.prog w = .ok true w := by
  have h' := hdv_num xs s d j x h
  refine ⟨.int .i64 x, fun w => ⟨?_, ?_⟩⟩
  · simp [part, isAgg, run_underlying Tryd.underlying3, h']
  · rw [run_equalIn_int w 9998 3 .i64 .i64 _ _ Tryd.underlying3]; simp
theorem hdv_ext9 (xs : List Int) (s d : Array Value) (hx : xs.length = 9) (hs : s.size = 17) : (hdv xs s d).extract 9 26 = s := by
  cases s with | mk s =>
  simp at hs
  have e : List.drop 9 (xs.map (fun x => Value.int .i64 x)) = [] := List.drop_eq_nil_of_le (by simp; omega)
  simp [hdv, List.extract, List.drop_append, e, hx, List.take_append, hs]
theorem hdv_ext26 (xs : List Int) (s d : Array Value) (hx : xs.length = 9) (hs : s.size = 17) (hd : d.size = 17) : (hdv xs s d).extract 26 43 = d := by
  cases s with | mk s =>
  cases d with | mk d =>
  simp at hs hd
  have e : List.drop 26 (xs.map (fun x => Value.int .i64 x)) = [] := List.drop_eq_nil_of_le (by simp; omega)
  have e2 : List.drop 17 s = [] := List.drop_eq_nil_of_le (by omega)
  simp [hdv, List.extract, List.drop_append, e, e2, hx, List.take_append, hs, hd]
  exact List.take_of_length_le (by omega)
theorem hd_adr (xs : List Int) (v v' : Int) (l l' : List UInt8) (hx : xs.length = 9) (hl : l.length = 16) (hl' : l'.length = 16) :
    (∃ u, ∀ w, (part 24 (hdv xs (adv v l) (adv v' l')) 9).run Tryd.prog w = .ok u w ∧ (Op.equalIn 9999 24 u u).run Tryd.prog w = .ok true w) ∧
    (∃ u, ∀ w, (part 24 (hdv xs (adv v l) (adv v' l')) 26).run Tryd.prog w = .ok u w ∧ (Op.equalIn 9999 24 u u).run Tryd.prog w = .ok true w) := by
  have hi := Tryd.infoAddr
  cases hq : Tryd.prog.info? 24 with
  | none => simp [hq] at hi
  | some i =>
    have hsz : i.size = 17 := by simpa [hq] using hi
    have z1 := adv_size v l hl
    have z2 := adv_size v' l' hl'
    refine ⟨⟨.agg (adv v l), fun w => ⟨?_, adr_self v l hl w⟩⟩, ⟨.agg (adv v' l'), fun w => ⟨?_, adr_self v' l' hl' w⟩⟩⟩
    · simp [part, isAgg, run_underlying Tryd.underlying24, sizeOf, typeInfo, hq, hsz, hdv_ext9 xs _ _ hx z1]
    · simp [part, isAgg, run_underlying Tryd.underlying24, sizeOf, typeInfo, hq, hsz, hdv_ext26 xs _ _ hx z1 z2]

theorem pH_size (l : List UInt8) : (pH l).size = 43 := by
  unfold pH
  split
  · rename_i h
    have h20 : 20 ≤ l.length := by
      rcases Nat.lt_or_ge l.length 20 with h1 | h1
      · simp [pE, h1] at h
      · exact h1
    exact hdL_size l h20
  · exact zH_size
theorem pH_one (l : List UInt8) : ((pH l).all fun x => x.oneCell') = true := by
  unfold pH
  split
  · unfold hdL hdN; exact hdv_one _ _ _ _ _
  · exact zH_one

end Go.Proofs.YtccidoigjdbepaaDoor
