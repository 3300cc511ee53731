
/- Contracts: hexes.Decode. -/
import Derived.Test.YtccidoigjdbepaaDoorHexB
namespace Go.Proofs.YtccidoigjdbepaaDoor.Hex
open Go.RowKit
set_option maxRecDepth 100000

theorem hexEnc_at (L : List UInt8) : ∀ (k : Nat) (x : UInt8), L[k]? = some x → (hexEnc L)[2 * k]? = some (hexd (x.toNat / 16)) ∧ (hexEnc L)[2 * k + 1]? = some (hexd (x.toNat % 16)) := by
  induction L with
  | nil => intro k x h; simp at h
  | cons c t ih =>
    intro k x h
    have e : hexEnc (c :: t) = hexd (c.toNat / 16) :: hexd (c.toNat % 16) :: hexEnc t := rfl
    rw [e]
    cases k with
    | zero => simp at h; subst h; exact ⟨rfl, rfl⟩
    | succ k =>
      have := ih k x (by simpa using h)
      rw [show 2 * (k + 1) = 2 * k + 1 + 1 by omega]
      simpa using this

theorem join_hex (x : UInt8) : bits BinOp.or IntKind.i64 (((x.toNat / 16 : Nat) : Int) * 16) ((x.toNat % 16 : Nat) : Int) % 256 = (x.toNat : Int) := by
  have : ∀ x : Fin 256, bits BinOp.or IntKind.i64 (((x.val / 16 : Nat) : Int) * 16) ((x.val % 16 : Nat) : Int) % 256 = (x.val : Int) := by decide +kernel
  exact this ⟨x.toNat, x.toNat_lt⟩

theorem fill_next (L : List UInt8) (size k : Nat) (x : UInt8) (hL : L.length = size) (h : L[k]? = some x) :
    (L.take k ++ List.replicate (size - k) 0).set k x = L.take (k + 1) ++ List.replicate (size - (k + 1)) 0 := by
  obtain ⟨hk, rfl⟩ := List.getElem?_eq_some_iff.1 h
  have hl : (L.take k).length = k := by simp; omega
  rw [show size - k = size - (k + 1) + 1 by omega, List.take_succ_eq_append_getElem hk]
  have := set_next (L.take k) (size - (k + 1)) L[k]
  rw [hl] at this
  exact this

end Go.Proofs.YtccidoigjdbepaaDoor.Hex
