
/- law13: alive; messages held against themselves. -/
import Derived.Test.YtffdgknfllpnoaaIniF
import Derived.Test.YtffdgknfllpnoaaIniG
import Derived.Test.YtffdgknfllpnoaaIniD
namespace Go.Proofs.Ytffdgknfllpnoaa
open Go.RowKit

theorem alive13 (w : World) : Calls Try.prog 13 #[] w fun e w' => e = .returned (.bool true) ∧ Below w.heap.size w w' := by
  have hz := (zero_of_info Try.zeroIni).1
  go_enter Try.func13, Try.ntmps13
  go_wp2_with fail
  refine (initialBytes_any 0 (zer 140) w (by omega) (zer_len 140)).mono ?_
  rintro e w1 ⟨v, rfl, ho1, hb1⟩
  obtain ⟨a1, c1, rfl, hc1, hs1⟩ := ho1.at_some (by omega)
  obtain ⟨b, off, e, hb, hcell⟩ := hs1.2 (by omega)
  injection e with e
  subst e
  have c0 := hcell 0 (by rw [mbs_len, zer_len]; simp)
  simp only [mbs, List.cons_append, List.getElem_cons_zero, Nat.add_zero] at c0
  clear ho1 hs1 hcell
  go_wp2
  go_ret
  exact ⟨rfl, hb1⟩

theorem Ini_eq (r0 : Nat) (l : List UInt8) (hl : l.length = 140) (w : World) : (Op.equalIn 10000 28 (.agg (mcs [r0] l)) (.agg (mcs [r0] l))).run Try.prog w = .ok true w := by
  rw [run_equalIn_struct w 9999 28 _ _ (by kernel_rfl) (by kernel_rfl)]
  refine eqFields_self w 9999 _ _ ?_
  have hfs : (Try.prog.fieldsOf 28).toList = (match Try.prog.underlying 28 with | some (.struct fs) => fs.toList | _ => []) := by kernel_rfl
  rw [hfs, Try.underlying28]
  intro f hf
  simp only [List.mem_cons, List.not_mem_nil, or_false] at hf
  rcases hf with rfl | rfl | rfl | rfl | rfl | rfl
  all_goals skip
  · exact part_num 22 0 Try.underlying22 (by simp)
  · exact part_arr 23 5 32 0 1 Try.underlying23 Try.underlying5 Try.sizeU8 (by kernel_rfl) rfl (by omega)
  · exact part_arr 24 5 48 32 33 Try.underlying24 Try.underlying5 Try.sizeU8 (by kernel_rfl) rfl (by omega)
  · exact part_arr 25 5 28 80 81 Try.underlying25 Try.underlying5 Try.sizeU8 (by kernel_rfl) rfl (by omega)
  · exact part_arr 26 5 16 108 109 Try.underlying26 Try.underlying5 Try.sizeU8 (by kernel_rfl) rfl (by omega)
  · exact part_arr 26 5 16 124 125 Try.underlying26 Try.underlying5 Try.sizeU8 (by kernel_rfl) rfl (by omega)

end Go.Proofs.Ytffdgknfllpnoaa
