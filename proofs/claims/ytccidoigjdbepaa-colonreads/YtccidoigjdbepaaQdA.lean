
/- Layer 8. Contracts: quad.Text and its reference. -/
import Derived.Test.YtccidoigjdbepaaDecD
import Derived.Test.YtccidoigjdbepaaLinB
import Derived.Test.YtccidoigjdbepaaArrA
namespace Go.Proofs.Ytccidoigjdbepaa.Qd
open Go.RowKit Dec
set_option maxRecDepth 100000

/-- The digits of a byte; the text of four bytes. -/
def ds (c : UInt8) : List UInt8 := Lib.decDigits c.toNat
def qT (a b c d : UInt8) : List UInt8 := ds a ++ [46] ++ ds b ++ [46] ++ ds c ++ [46] ++ ds d
def cellsAt (a b c d : UInt8) (k : Nat) : Array Value := ([sv (ds a), sv (ds b), sv (ds c), sv (ds d)].take k ++ List.replicate (4 - k) (sv [])).toArray

theorem ds_len (c : UInt8) : (ds c).length ≤ 20 := dec_len c.toNat (by have := c.toNat_lt; omega)
end Go.Proofs.Ytccidoigjdbepaa.Qd
