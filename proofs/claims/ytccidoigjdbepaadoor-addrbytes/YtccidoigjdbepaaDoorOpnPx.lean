
/- Prefixes and endpoints as arguments. -/
import Derived.Test.YtccidoigjdbepaaDoorOpnR
import Derived.Test.YtccidoigjdbepaaDoorCxA
namespace Go.Proofs.YtccidoigjdbepaaDoor
open Go.ChangeShapes Go.WideShapes Go.ChangeAt Go.RowKit
set_option maxRecDepth 100000
set_option linter.unusedVariables false

theorem open_Prefix {H : Type} {enc : TypeId × Value → H} {w : World} {b0 : Nat} {r : Reach} {v : Value} {d : DataW H} {ps : List MemPlace}
    (hval : Value.okWide Tryd.prog w r b0 45 v) (hd : DataW.Trod enc Tryd.prog w 0 (fun _ => true) true 45 v d ps) :
    ∃ p : Pfx, v = .agg (pf p) ∧ pfxOk p := by
  obtain ⟨cs, rfl, hs⟩ := okWide_struct Tryd.underlying45 hval
  obtain ⟨fuel, hf⟩ := hd
  obtain ⟨p, e, hp⟩ := trod_Prefix hf
  refine ⟨p, ?_, hp⟩
  congr 1
  exact Array.ext' e
theorem open_Endpoint {H : Type} {enc : TypeId × Value → H} {w : World} {b0 : Nat} {r : Reach} {v : Value} {d : DataW H} {ps : List MemPlace}
    (hval : Value.okWide Tryd.prog w r b0 60 v) (hd : DataW.Trod enc Tryd.prog w 0 (fun _ => true) true 60 v d ps) :
    ∃ p : Pfx, v = .agg (pf p) ∧ pfxOk p := by
  obtain ⟨cs, rfl, hs⟩ := okWide_struct Tryd.underlying60 hval
  obtain ⟨fuel, hf⟩ := hd
  obtain ⟨p, e, hp⟩ := trod_Endpoint hf
  refine ⟨p, ?_, hp⟩
  congr 1
  exact Array.ext' e
end Go.Proofs.YtccidoigjdbepaaDoor
