
/- Contracts: endian.Little, Big. -/
import Derived.Test.YtccidoigjdbepaaDoorEndC
namespace Go.Proofs.YtccidoigjdbepaaDoor
open Go.RowKit
set_option maxRecDepth 100000

theorem byte_of (n i : Nat) : (n : Int) / 2 ^ (8 * i) % 256 = (((byteAt n i).toNat : Nat) : Int) := by
  rw [two_pow_8i, byteAt_toNat]
  rw [← Int.natCast_ediv]
  omega

theorem fill_next (L : List UInt8) (size k : Nat) (x : UInt8) (hL : L.length = size) (h : L[k]? = some x) :
    (L.take k ++ List.replicate (size - k) 0).set k x = L.take (k + 1) ++ List.replicate (size - (k + 1)) 0 := by
  obtain ⟨hk, rfl⟩ := List.getElem?_eq_some_iff.1 h
  have hl : (L.take k).length = k := by simp; omega
  rw [show size - k = size - (k + 1) + 1 by omega, List.take_succ_eq_append_getElem hk]
  have := set_next (L.take k) (size - (k + 1)) L[k]
  rw [hl] at this
  exact this

theorem leBytes_at (n size k : Nat) (h : k < size) : (leBytes n size)[k]? = some (byteAt n k) := by simp [leBytes, h]
theorem beBytes_at (n size k : Nat) (h : k < size) : (leBytes n size).reverse[k]? = some (byteAt n (size - 1 - k)) := by
  rw [List.getElem?_reverse (by rw [leBytes_len]; exact h), leBytes_len, leBytes_at _ _ _ (by omega)]

end Go.Proofs.YtccidoigjdbepaaDoor
