
/- law14: alive; messages held against themselves. -/
import Derived.Test.YtffdgknfllpnoaaAnsF
import Derived.Test.YtffdgknfllpnoaaAnsG
import Derived.Test.YtffdgknfllpnoaaAnsD
namespace Go.Proofs.Ytffdgknfllpnoaa
open Go.RowKit

theorem alive14 (w : World) : Calls Try.prog 18 #[] w fun e w' => e = .returned (.bool true) ∧ Below w.heap.size w w' := by
  have hz := (zero_of_info Try.zeroAns).1
  go_enter Try.func18, Try.ntmps18
  go_wp2_with fail
  refine (answerBytes_any 0 0 (zer 80) w (by omega) (by omega) (zer_len 80)).mono ?_
  rintro e w1 ⟨v, rfl, ho1, hb1⟩
  obtain ⟨a1, c1, rfl, hc1, hs1⟩ := ho1.at_some (by omega)
  obtain ⟨b, off, e, hb, hcell⟩ := hs1.2 (by omega)
  injection e with e
  subst e
  have c0 := hcell 0 (by rw [mbs_len, zer_len]; simp)
  simp only [mbs, List.cons_append, List.getElem_cons_zero, Nat.add_zero] at c0
  clear ho1 hs1 hcell
  go_wp2
  go_ret
  exact ⟨rfl, hb1⟩

theorem Ans_eq (r0 : Nat) (r1 : Nat) (l : List UInt8) (hl : l.length = 80) (w : World) : (Op.equalIn 10000 41 (.agg (mcs [r0, r1] l)) (.agg (mcs [r0, r1] l))).run Try.prog w = .ok true w := by
  rw [run_equalIn_struct w 9999 41 _ _ (by kernel_rfl) (by kernel_rfl)]
  refine eqFields_self w 9999 _ _ ?_
  have hfs : (Try.prog.fieldsOf 41).toList = (match Try.prog.underlying 41 with | some (.struct fs) => fs.toList | _ => []) := by kernel_rfl
  rw [hfs, Try.underlying41]
  intro f hf
  simp only [List.mem_cons, List.not_mem_nil, or_false] at hf
  rcases hf with rfl | rfl | rfl | rfl | rfl | rfl
  all_goals skip
  · exact part_num 22 0 Try.underlying22 (by simp)
  · exact part_num 22 1 Try.underlying22 (by simp)
  · exact part_arr 23 5 32 0 2 Try.underlying23 Try.underlying5 Try.sizeU8 (by kernel_rfl) rfl (by omega)
  · exact part_arr 26 5 16 32 34 Try.underlying26 Try.underlying5 Try.sizeU8 (by kernel_rfl) rfl (by omega)
  · exact part_arr 26 5 16 48 50 Try.underlying26 Try.underlying5 Try.sizeU8 (by kernel_rfl) rfl (by omega)
  · exact part_arr 26 5 16 64 66 Try.underlying26 Try.underlying5 Try.sizeU8 (by kernel_rfl) rfl (by omega)

end Go.Proofs.Ytffdgknfllpnoaa
