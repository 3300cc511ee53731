
/- law15: alive; messages held against themselves. -/
import Derived.Test.YtffdgknfllpnoaaCokF
import Derived.Test.YtffdgknfllpnoaaCokC
import Derived.Test.YtffdgknfllpnoaaCokD
namespace Go.Proofs.Ytffdgknfllpnoaa
open Go.RowKit

theorem alive15 (w : World) : Calls Try.prog 23 #[] w fun e w' => e = .returned (.bool true) ∧ Below w.heap.size w w' := by
  have hz := (zero_of_info Try.zeroCok).1
  go_enter Try.func23, Try.ntmps23
  go_wp2_with fail
  refine (cookieBytes_any 0 (zer 56) w (by omega) (zer_len 56)).mono ?_
  rintro e w1 ⟨v, rfl, ho1, hb1⟩
  obtain ⟨a1, c1, rfl, hc1, hs1⟩ := ho1.at_some (by omega)
  obtain ⟨b, off, e, hb, hcell⟩ := hs1.2 (by omega)
  injection e with e
  subst e
  have c0 := hcell 0 (by rw [mbs_len, zer_len]; simp)
  simp only [mbs, List.cons_append, List.getElem_cons_zero, Nat.add_zero] at c0
  clear ho1 hs1 hcell
  go_wp2
  go_ret
  exact ⟨rfl, hb1⟩

theorem Cok_eq (r0 : Nat) (l : List UInt8) (hl : l.length = 56) (w : World) : (Op.equalIn 10000 50 (.agg (mcs [r0] l)) (.agg (mcs [r0] l))).run Try.prog w = .ok true w := by
  rw [run_equalIn_struct w 9999 50 _ _ (by kernel_rfl) (by kernel_rfl)]
  refine eqFields_self w 9999 _ _ ?_
  have hfs : (Try.prog.fieldsOf 50).toList = (match Try.prog.underlying 50 with | some (.struct fs) => fs.toList | _ => []) := by kernel_rfl
  rw [hfs, Try.underlying50]
  intro f hf
  simp only [List.mem_cons, List.not_mem_nil, or_false] at hf
  rcases hf with rfl | rfl | rfl
  all_goals skip
  · exact part_num 22 0 Try.underlying22 (by simp)
  · exact part_arr 48 5 24 0 1 Try.underlying48 Try.underlying5 Try.sizeU8 (by kernel_rfl) rfl (by omega)
  · exact part_arr 23 5 32 24 25 Try.underlying23 Try.underlying5 Try.sizeU8 (by kernel_rfl) rfl (by omega)

end Go.Proofs.Ytffdgknfllpnoaa
