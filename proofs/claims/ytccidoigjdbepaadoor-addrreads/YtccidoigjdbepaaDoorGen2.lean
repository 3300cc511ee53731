
/- Small words for texts. -/
import Derived.Test.YtccidoigjdbepaaDoorGen
namespace Go.Proofs.YtccidoigjdbepaaDoor
open Go.RowKit
set_option maxRecDepth 100000

theorem byte_at (s : ByteArray) (i : Nat) (c : UInt8) (h : s.data.toList[i]? = some c) : ∀ h' : i < s.size, s[i]'h' = c := by
  intro h'
  obtain ⟨_, e⟩ := List.getElem?_eq_some_iff.1 h
  exact e
theorem byte_ne {x c : UInt8} (h : x ≠ c) : ((x.toNat : Int) == (c.toNat : Int)) = false := by
  rw [beq_eq_false_iff_ne]; exact fun e => h (UInt8.toNat_inj.1 (Int.ofNat.inj e))
theorem ret_string {a b : ByteArray} (h : a = b) : Ending.returned (.string a) = .returned (.string b) := by rw [h]
theorem ret_int {k : IntKind} {a b : Int} (h : a = b) : Ending.returned (.int k a) = .returned (.int k b) := by rw [h]

end Go.Proofs.YtccidoigjdbepaaDoor
