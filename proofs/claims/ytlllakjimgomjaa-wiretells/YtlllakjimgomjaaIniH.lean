
/- law13: alive; messages held against themselves. -/
import Derived.Test.YtlllakjimgomjaaIniF
import Derived.Test.YtlllakjimgomjaaIniG
import Derived.Test.YtlllakjimgomjaaIniD
namespace Go.Proofs.Ytlllakjimgomjaa
open Go.RowKit

theorem Ini_eq (r0 : Nat) (l : List UInt8) (hl : l.length = 140) (w : World) : (Op.equalIn 10000 49 (.agg (mcs [r0] l)) (.agg (mcs [r0] l))).run Try.prog w = .ok true w := by
  rw [run_equalIn_struct w 9999 49 _ _ (by kernel_rfl) (by kernel_rfl)]
  refine eqFields_self w 9999 _ _ ?_
  have hfs : (Try.prog.fieldsOf 49).toList = (match Try.prog.underlying 49 with | some (.struct fs) => fs.toList | _ => []) := by kernel_rfl
  rw [hfs, Try.underlying49]
  intro f hf
  simp only [List.mem_cons, List.not_mem_nil, or_false] at hf
  rcases hf with rfl | rfl | rfl | rfl | rfl | rfl
  all_goals skip
  · exact part_num 43 0 Try.underlying43 (by simp)
  · exact part_arr 44 5 32 0 1 Try.underlying44 Try.underlying5 Try.sizeU8 (by kernel_rfl) rfl (by omega)
  · exact part_arr 45 5 48 32 33 Try.underlying45 Try.underlying5 Try.sizeU8 (by kernel_rfl) rfl (by omega)
  · exact part_arr 46 5 28 80 81 Try.underlying46 Try.underlying5 Try.sizeU8 (by kernel_rfl) rfl (by omega)
  · exact part_arr 47 5 16 108 109 Try.underlying47 Try.underlying5 Try.sizeU8 (by kernel_rfl) rfl (by omega)
  · exact part_arr 47 5 16 124 125 Try.underlying47 Try.underlying5 Try.sizeU8 (by kernel_rfl) rfl (by omega)

end Go.Proofs.Ytlllakjimgomjaa
