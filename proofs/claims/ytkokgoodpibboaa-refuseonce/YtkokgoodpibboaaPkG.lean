
/- law21's alive; the walk of law21.PacketTells. -/
import Derived.Test.YtkokgoodpibboaaPkC
namespace Go.Proofs.Ytkokgoodpibboaa
open Go.RowKit
set_option maxRecDepth 100000
set_option linter.unusedSimpArgs false
set_option linter.unusedVariables false

def exP6 : List UInt8 := pkt6 0 0 0 0 (zb 16) (zb 16) []
theorem exP6_len : exP6.length = 40 := by decide +kernel
theorem exP6_w : kW exP6 = true := by decide +kernel
theorem exP6_w2 : kW (exP6 ++ [0]) = false := by decide +kernel
theorem exNil : kE [] = 3 := rfl

theorem wpList_app1G {ops : Array Oper} {rest : List Oper} {o : Oper} {a : Act} {Q : Exit → Act → World → Prop} (w : World) (hw : Region.wanted o (yielded ops a.tmps) = true) (s x : Operand)
    (ho : o.op = .call { callee := .builtin .append, args := #[s, x], argTypes := #[43, 43] })
    (base : Nat) (v : Value) (n : Nat) (l : List UInt8) (hs : a.eval s = v) (hown : Own w base v n l)
    (ad : Addr) (c' : Nat) (c : UInt8) (hx : a.eval x = .slice (some ad) 1 c') (hc : w.cell? ad = some (bv c))
    (h63 : n + 1 ≤ 140737488355328) (hbase : base ≤ w.heap.size)
    (h : ∀ v' w', Own w' base v' (n + 1) (l ++ [c]) → w.grownBy w' v.ownBlock → wpList Try.prog ops Q rest (a.put o.dst v') w') : wpList Try.prog ops Q (o :: rest) a w := by
  refine wpList_on hw ?_
  obtain ⟨i, hi, hz, hsz, hby⟩ := info_parts Try.infoU8
  refine wp_append_own w s x 43 ho base 5 i (.int .u8 0) 1 1 Try.underlying43 hi hz hsz hby rfl (by decide) v n _ hs hown ad 1 c' [bv c] hx rfl ?_ ?_ (by simp only [maxLen]; omega) (by omega) hbase ?_
  · intro j u hj
    match j, hj with
    | 0, hj => simp at hj; subst hj; simpa [Addr.add] using hc
  · intro u hu; simp at hu; subst hu; rfl
  · intro v' w' h2 h3 _
    exact h v' w' (by unfold Own; simpa using h2) h3

end Go.Proofs.Ytkokgoodpibboaa
