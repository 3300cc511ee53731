
/- law15: alive; messages held against themselves. -/
import Derived.Test.YtlllakjimgomjaaCokF
import Derived.Test.YtlllakjimgomjaaCokC
import Derived.Test.YtlllakjimgomjaaCokD
namespace Go.Proofs.Ytlllakjimgomjaa
open Go.RowKit

theorem Cok_eq (r0 : Nat) (l : List UInt8) (hl : l.length = 56) (w : World) : (Op.equalIn 10000 54 (.agg (mcs [r0] l)) (.agg (mcs [r0] l))).run Try.prog w = .ok true w := by
  rw [run_equalIn_struct w 9999 54 _ _ (by kernel_rfl) (by kernel_rfl)]
  refine eqFields_self w 9999 _ _ ?_
  have hfs : (Try.prog.fieldsOf 54).toList = (match Try.prog.underlying 54 with | some (.struct fs) => fs.toList | _ => []) := by kernel_rfl
  rw [hfs, Try.underlying54]
  intro f hf
  simp only [List.mem_cons, List.not_mem_nil, or_false] at hf
  rcases hf with rfl | rfl | rfl
  all_goals skip
  · exact part_num 43 0 Try.underlying43 (by simp)
  · exact part_arr 52 5 24 0 1 Try.underlying52 Try.underlying5 Try.sizeU8 (by kernel_rfl) rfl (by omega)
  · exact part_arr 44 5 32 24 25 Try.underlying44 Try.underlying5 Try.sizeU8 (by kernel_rfl) rfl (by omega)

end Go.Proofs.Ytlllakjimgomjaa
