
/- Heads held against themselves. -/
import Derived.Test.YtkokgoodpibboaaHdD
import Derived.Test.YtkokgoodpibboaaEqS
namespace Go.Proofs.Ytkokgoodpibboaa
open Go.RowKit
set_option maxRecDepth 100000
set_option linter.unusedSimpArgs false
set_option linter.unusedVariables false

theorem adr_self (v : Int) (l : List UInt8) (hl : l.length = 16) (w : World) : (Op.equalIn 9999 32 (.agg (adv v l)) (.agg (adv v l))).run Try.prog w = .ok true w := by
  have hfs : (Try.prog.fieldsOf 32).toList = (match Try.prog.underlying 32 with | some (.struct fs) => fs.toList | _ => []) := by kernel_rfl
  rw [run_equalIn_struct w 9998 32 _ _ (by kernel_rfl) (by kernel_rfl), hfs, Try.underlying32]
  have hb : ∀ w, (Op.equalIn 9998 30 (.agg (l.map bv).toArray) (.agg (l.map bv).toArray)).run Try.prog w = .ok true w := fun w => by
    have := run_equalIn_bytes (P := Try.prog) w 9996 30 5 16 Try.underlying30 Try.underlying5 (fun w => by
      have hs := Try.sizeU8
      cases hq : Try.prog.info? 5 with
      | none => simp [hq] at hs
      | some i => simp [sizeOf, typeInfo, hq] at *; exact hs) l l hl hl
    rw [beq_self_eq_true] at this
    exact this
  refine eqF_self w 9998 _ _ ?_
  intro f hf
  simp only [List.mem_cons, List.not_mem_nil, or_false] at hf
  rcases hf with rfl | rfl
  · exact ⟨_, fun w => ⟨adr_v v l w, by rw [run_equalIn_int w 9997 3 .i64 .i64 v v Try.underlying3]; simp⟩⟩
  · exact ⟨_, fun w => ⟨adr_b v l hl w, hb w⟩⟩

theorem hd_num (xs : List Int) (s d : Array Value) (j : Nat) (x : Int) (h : xs[j]? = some x) : ∃ v, ∀ w, (part 3 (hdv xs s d) j).run Try.prog w = .ok v w ∧ (Op.equalIn 9999 3 v v).run Try.prog w = .ok true w := by
  have h' := hdv_num xs s d j x h
  refine ⟨.int .i64 x, fun w => ⟨?_, ?_⟩⟩
  · simp [part, isAgg, run_underlying Try.underlying3, h']
  · rw [run_equalIn_int w 9998 3 .i64 .i64 _ _ Try.underlying3]; simp
theorem hdv_ext9 (xs : List Int) (s d : Array Value) (hx : xs.length = 9) (hs : s.size = 17) : (hdv xs s d).extract 9 26 = s := by
  cases s with | mk s =>
  simp at hs
  have e : List.drop 9 (xs.map (fun x => Value.int .i64 x)) = [] := List.drop_eq_nil_of_le (by simp; omega)
  simp [hdv, List.extract, List.drop_append, e, hx, List.take_append, hs]
theorem hdv_ext26 (xs : List Int) (s d : Array Value) (hx : xs.length = 9) (hs : s.size = 17) (hd : d.size = 17) : (hdv xs s d).extract 26 43 = d := by
  cases s with | mk s =>
  cases d with | mk d =>
  simp at hs hd
  have e : List.drop 26 (xs.map (fun x => Value.int .i64 x)) = [] := List.drop_eq_nil_of_le (by simp; omega)
  have e2 : List.drop 17 s = [] := List.drop_eq_nil_of_le (by omega)
  simp [hdv, List.extract, List.drop_append, e, e2, hx, List.take_append, hs, hd]
  exact List.take_of_length_le (by omega)
theorem hd_adr (xs : List Int) (v v' : Int) (l l' : List UInt8) (hx : xs.length = 9) (hl : l.length = 16) (hl' : l'.length = 16) :
    (∃ u, ∀ w, (part 32 (hdv xs (adv v l) (adv v' l')) 9).run Try.prog w = .ok u w ∧ (Op.equalIn 9999 32 u u).run Try.prog w = .ok true w) ∧
    (∃ u, ∀ w, (part 32 (hdv xs (adv v l) (adv v' l')) 26).run Try.prog w = .ok u w ∧ (Op.equalIn 9999 32 u u).run Try.prog w = .ok true w) := by
  have hi := Try.infoAddr
  cases hq : Try.prog.info? 32 with
  | none => simp [hq] at hi
  | some i =>
    have hsz : i.size = 17 := by simpa [hq] using hi
    have z1 := adv_size v l hl
    have z2 := adv_size v' l' hl'
    refine ⟨⟨.agg (adv v l), fun w => ⟨?_, adr_self v l hl w⟩⟩, ⟨.agg (adv v' l'), fun w => ⟨?_, adr_self v' l' hl' w⟩⟩⟩
    · simp [part, isAgg, run_underlying Try.underlying32, sizeOf, typeInfo, hq, hsz, hdv_ext9 xs _ _ hx z1]
    · simp [part, isAgg, run_underlying Try.underlying32, sizeOf, typeInfo, hq, hsz, hdv_ext26 xs _ _ hx z1 z2]

theorem Try.plainHead : Try.prog.eqGuardType Try.prog.depth 42 = false := by kernel_rfl
theorem hd_self (x0 x1 x2 x3 x4 x5 x6 x7 x8 v v' : Int) (l l' : List UInt8) (hl : l.length = 16) (hl' : l'.length = 16) (w : World) :
    (Op.equalIn 10000 42 (.agg (hdv [x0, x1, x2, x3, x4, x5, x6, x7, x8] (adv v l) (adv v' l'))) (.agg (hdv [x0, x1, x2, x3, x4, x5, x6, x7, x8] (adv v l) (adv v' l')))).run Try.prog w = .ok true w := by
  have hfs : (Try.prog.fieldsOf 42).toList = (match Try.prog.underlying 42 with | some (.struct fs) => fs.toList | _ => []) := by kernel_rfl
  rw [run_equalIn_struct w 9999 42 _ _ (by kernel_rfl) (by kernel_rfl), hfs, Try.underlying42]
  refine eqF_self w 9999 _ _ ?_
  have hA := hd_adr [x0, x1, x2, x3, x4, x5, x6, x7, x8] v v' l l' rfl hl hl'
  have hN := fun j x h => hd_num [x0, x1, x2, x3, x4, x5, x6, x7, x8] (adv v l) (adv v' l') j x h
  generalize hdv [x0, x1, x2, x3, x4, x5, x6, x7, x8] (adv v l) (adv v' l') = M at *
  intro f hf
  simp only [List.mem_cons, List.not_mem_nil, or_false] at hf
  rcases hf with rfl | rfl | rfl | rfl | rfl | rfl | rfl | rfl | rfl | rfl | rfl
  · exact hN 0 _ rfl
  · exact hN 1 _ rfl
  · exact hN 2 _ rfl
  · exact hN 3 _ rfl
  · exact hN 4 _ rfl
  · exact hN 5 _ rfl
  · exact hN 6 _ rfl
  · exact hN 7 _ rfl
  · exact hN 8 _ rfl
  · exact hA.1
  · exact hA.2
theorem pH_self (l : List UInt8) (w : World) : (Op.equalIn 10000 42 (.agg (pH l)) (.agg (pH l))).run Try.prog w = .ok true w := by
  unfold pH
  split
  · rename_i h
    have h20 : 20 ≤ l.length := by
      rcases Nat.lt_or_ge l.length 20 with h1 | h1
      · simp [pE, h1] at h
      · exact h1
    unfold hdL hdN
    exact hd_self _ _ _ _ _ _ _ _ _ _ _ _ _ (by simp [srcL, zb]; omega) (by simp [dstL, zb]; omega) w
  · exact hd_self _ _ _ _ _ _ _ _ _ _ _ _ _ rfl rfl w
theorem pH_size (l : List UInt8) : (pH l).size = 43 := by
  unfold pH
  split
  · rename_i h
    have h20 : 20 ≤ l.length := by
      rcases Nat.lt_or_ge l.length 20 with h1 | h1
      · simp [pE, h1] at h
      · exact h1
    exact hdL_size l h20
  · exact zH_size
theorem pH_one (l : List UInt8) : ((pH l).all fun x => x.oneCell') = true := by
  unfold pH
  split
  · unfold hdL hdN; exact hdv_one _ _ _ _ _
  · exact zH_one

end Go.Proofs.Ytkokgoodpibboaa
