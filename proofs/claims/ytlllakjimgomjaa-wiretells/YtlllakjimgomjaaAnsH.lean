
/- law14: alive; messages held against themselves. -/
import Derived.Test.YtlllakjimgomjaaAnsF
import Derived.Test.YtlllakjimgomjaaAnsG
import Derived.Test.YtlllakjimgomjaaAnsD
namespace Go.Proofs.Ytlllakjimgomjaa
open Go.RowKit

theorem Ans_eq (r0 : Nat) (r1 : Nat) (l : List UInt8) (hl : l.length = 80) (w : World) : (Op.equalIn 10000 51 (.agg (mcs [r0, r1] l)) (.agg (mcs [r0, r1] l))).run Try.prog w = .ok true w := by
  rw [run_equalIn_struct w 9999 51 _ _ (by kernel_rfl) (by kernel_rfl)]
  refine eqFields_self w 9999 _ _ ?_
  have hfs : (Try.prog.fieldsOf 51).toList = (match Try.prog.underlying 51 with | some (.struct fs) => fs.toList | _ => []) := by kernel_rfl
  rw [hfs, Try.underlying51]
  intro f hf
  simp only [List.mem_cons, List.not_mem_nil, or_false] at hf
  rcases hf with rfl | rfl | rfl | rfl | rfl | rfl
  all_goals skip
  · exact part_num 43 0 Try.underlying43 (by simp)
  · exact part_num 43 1 Try.underlying43 (by simp)
  · exact part_arr 44 5 32 0 2 Try.underlying44 Try.underlying5 Try.sizeU8 (by kernel_rfl) rfl (by omega)
  · exact part_arr 47 5 16 32 34 Try.underlying47 Try.underlying5 Try.sizeU8 (by kernel_rfl) rfl (by omega)
  · exact part_arr 47 5 16 48 50 Try.underlying47 Try.underlying5 Try.sizeU8 (by kernel_rfl) rfl (by omega)
  · exact part_arr 47 5 16 64 66 Try.underlying47 Try.underlying5 Try.sizeU8 (by kernel_rfl) rfl (by omega)

end Go.Proofs.Ytlllakjimgomjaa
