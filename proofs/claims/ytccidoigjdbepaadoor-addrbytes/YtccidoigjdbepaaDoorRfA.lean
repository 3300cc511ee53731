
/- Contracts: addr.Unspecified, addr.Multicast, crawlwayref10.Unspecified, crawlwayref10.Multicast. -/
import Derived.Test.YtccidoigjdbepaaDoorZAdr
import Derived.Test.YtccidoigjdbepaaDoorZHd
namespace Go.Proofs.YtccidoigjdbepaaDoor
open Go.RowKit
set_option maxRecDepth 100000
set_option linter.unusedSimpArgs false
set_option linter.unusedVariables false

/-- An address of nobody; of many. -/
def unsB (v : Int) (l : List UInt8) : Bool := (v == 4 && l == zb 4 ++ zb 12) || (v == 6 && l == zb 16)
def mulB (v : Int) (x : Nat) : Bool := if v = 6 then decide (x = 255) else decide (224 ≤ x ∧ x ≤ 239)

theorem eqlAny {P : Program} {w : World} {o : Oper} {a : Act} {ops : Array Oper} {rest : List Oper} {cs ds : Array Value} {b : Bool} {Q : Exit → Act → World → Prop} (hw : Region.wanted o (yielded ops a.tmps) = true) (ty rt : TypeId) (x y : Operand) (ho : o.op = .binOp .eql ty x y rt)
    (hx : a.eval x = .agg cs) (hy : a.eval y = .agg ds) (hm : P.eqGuardType P.depth ty = false) (he : ∀ w, (Op.equalIn 10000 ty (.agg cs) (.agg ds)).run P w = .ok b w)
    (h : wpList P ops Q rest (a.put o.dst (.bool b)) w) : wpList P ops Q (o :: rest) a w := by
  refine wpList_on hw ?_
  unfold Oper.wp execOp
  simp only [ho, hx, hy, Sem.run_bind, run_eqGuard_agg w .eql ty x y _ _ hm, Result.andThen_ok, run_eql_struct, he w, Sem.run_pure]
  exact h
theorem Tryd.infoA16 : (Tryd.prog.info? 22).map (·.size) = some 16 := by kernel_rfl
theorem Tryd.plainA16 : Tryd.prog.eqGuardType Tryd.prog.depth 22 = false := by kernel_rfl
theorem adr_e0 (l l' : List UInt8) (hl : l.length = 16) (hl' : l'.length = 16) (w : World) : (Op.equalIn 10000 22 (.agg (l.map bv).toArray) (.agg (l'.map bv).toArray)).run Tryd.prog w = .ok (l == l') w :=
  run_equalIn_bytes (P := Tryd.prog) w 9998 22 5 16 Tryd.underlying22 Tryd.underlying5 (fun w => by
    have hs := Tryd.sizeU8
    cases hq : Tryd.prog.info? 5 with
    | none => simp [hq] at hs
    | some i => simp [sizeOf, typeInfo, hq] at *; exact hs) l l' hl hl'

end Go.Proofs.YtccidoigjdbepaaDoor
