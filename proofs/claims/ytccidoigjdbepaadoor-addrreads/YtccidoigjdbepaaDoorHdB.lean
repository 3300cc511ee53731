
/- Contracts: ipfour.wrong, Parse; crawlwayref19.two. -/
import Derived.Test.YtccidoigjdbepaaDoorHdA
namespace Go.Proofs.YtccidoigjdbepaaDoor
open Go.RowKit
set_option maxRecDepth 100000
set_option linter.unusedSimpArgs false
set_option linter.unusedVariables false

/-- What is wrong with a head. -/
def wE (V S T n : Nat) (l : List UInt8) : Nat := if V = 4 then (if S < 20 then 5 else if n < S then 3 else if T < S then 5 else if n < T then 3 else if osum (l.take S) = 65535 then 0 else 11) else 9
theorem wE_le (V S T n : Nat) (l : List UInt8) : wE V S T n l ≤ 11 := by unfold wE; (repeat' split) <;> omega

/-- Why bytes are no packet of family 4; their head. -/
def pE (l : List UInt8) : Nat := if l.length < 20 then 3 else wE (n1 l / 1152921504606846976) (n1 l / 72057594037927936 % 16 * 4) (n1 l / 4294967296 % 65536) l.length l
def pH (l : List UInt8) : Array Value := if pE l = 0 then hdL l else zH
theorem pE_le (l : List UInt8) : pE l ≤ 11 := by unfold pE; split; omega; exact wE_le _ _ _ _ _

theorem hdL_size (l : List UInt8) (h : 20 ≤ l.length) : (hdL l).size = 43 := by
  unfold hdL hdN
  exact hdv_size _ _ _ rfl (adv_size _ _ (by simp [srcL, zb]; omega)) (adv_size _ _ (by simp [dstL, zb]; omega))

end Go.Proofs.YtccidoigjdbepaaDoor
