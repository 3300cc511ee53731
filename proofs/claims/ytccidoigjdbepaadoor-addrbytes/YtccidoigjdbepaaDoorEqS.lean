
/- Structs held against themselves (as MsgC has it, for seats without takers). -/
import Derived.Test.YtccidoigjdbepaaDoorArrA
namespace Go.Proofs.YtccidoigjdbepaaDoor
open Go.RowKit
set_option maxRecDepth 100000

theorem eqF_self {P : Program} (w : World) (d : Nat) (xs : Array Value) : ∀ (fs : List Field), (∀ f ∈ fs, ∃ v, ∀ w, (part f.type xs f.offset).run P w = .ok v w ∧ (Op.equalIn d f.type v v).run P w = .ok true w) →
    (Op.eqFields d xs xs fs).run P w = .ok true w
  | [], _ => by simp [Op.eqFields]
  | f :: fs, h => by
    obtain ⟨v, hv⟩ := h f (by simp)
    have ih := eqF_self w d xs fs (fun f hf => h f (by simp [hf]))
    simp only [Op.eqFields, Sem.run_ite]
    split
    · simp only [Bool.not_true, Bool.false_eq_true, if_false, ih, Sem.run_bind, (hv w).1, (hv w).2, Result.andThen_ok]
    · exact ih

section
variable {P : Program} {w : World} {o : Oper} {a : Act} {ops : Array Oper} {rest : List Oper} {cs : Array Value}
/-- A struct, held against itself. -/
theorem wpList_eqS {Q : Exit → Act → World → Prop} (hw : Region.wanted o (yielded ops a.tmps) = true) (ty rt : TypeId) (x y : Operand) (ho : o.op = .binOp .eql ty x y rt)
    (hx : a.eval x = .agg cs) (hy : a.eval y = .agg cs) (hm : P.eqGuardType P.depth ty = false) (he : ∀ w, (Op.equalIn 10000 ty (.agg cs) (.agg cs)).run P w = .ok true w)
    (h : wpList P ops Q rest (a.put o.dst (.bool true)) w) : wpList P ops Q (o :: rest) a w := by
  refine wpList_on hw ?_
  unfold Oper.wp execOp
  simp only [ho, hx, hy, Sem.run_bind, run_eqGuard_agg w .eql ty x y _ _ hm, Result.andThen_ok, run_eql_struct, he w, Sem.run_pure]
  exact h
end

end Go.Proofs.YtccidoigjdbepaaDoor
