
/- Contract: crawlwayref19.Parse. -/
import Derived.Test.YtccidoigjdbepaaDoorZHd
namespace Go.Proofs.YtccidoigjdbepaaDoor
open Go.RowKit
set_option maxRecDepth 100000
set_option linter.unusedSimpArgs false
set_option linter.unusedVariables false

/-- What the numbers of a head are, byte by byte. -/
theorem head_fields (l : List UInt8) (h : 20 ≤ l.length) : ∃ b0 b1 b2 b3 b4 b5 b6 b7 b8 b9 : UInt8, (l[0]? = some b0 ∧ l[1]? = some b1 ∧ l[2]? = some b2 ∧ l[3]? = some b3 ∧ l[4]? = some b4 ∧ l[5]? = some b5 ∧ l[6]? = some b6 ∧ l[7]? = some b7 ∧ l[8]? = some b8 ∧ l[9]? = some b9) ∧
    n1 l / 1152921504606846976 = b0.toNat / 16 ∧ n1 l / 72057594037927936 % 16 * 4 = 4 * (b0.toNat % 16) ∧ n1 l / 4294967296 % 65536 = 256 * b2.toNat + b3.toNat ∧ n1 l / 281474976710656 % 256 = b1.toNat ∧ n1 l / 65536 % 65536 = 256 * b4.toNat + b5.toNat ∧ n1 l / 8192 % 8 = b6.toNat / 32 ∧ n1 l % 8192 = (256 * b6.toNat + b7.toNat) % 8192 ∧ n2 l / 16777216 = b8.toNat ∧ n2 l / 65536 % 256 = b9.toNat := by
  match l, h with
  | b0 :: b1 :: b2 :: b3 :: b4 :: b5 :: b6 :: b7 :: b8 :: b9 :: b10 :: b11 :: t, _ =>
    refine ⟨b0, b1, b2, b3, b4, b5, b6, b7, b8, b9, ⟨rfl, rfl, rfl, rfl, rfl, rfl, rfl, rfl, rfl, rfl⟩, ?_⟩
    have e1 : n1 (b0 :: b1 :: b2 :: b3 :: b4 :: b5 :: b6 :: b7 :: b8 :: b9 :: b10 :: b11 :: t) = b7.toNat + 256 * (b6.toNat + 256 * (b5.toNat + 256 * (b4.toNat + 256 * (b3.toNat + 256 * (b2.toNat + 256 * (b1.toNat + 256 * (b0.toNat + 256 * 0))))))) := rfl
    have e2 : n2 (b0 :: b1 :: b2 :: b3 :: b4 :: b5 :: b6 :: b7 :: b8 :: b9 :: b10 :: b11 :: t) = b11.toNat + 256 * (b10.toNat + 256 * (b9.toNat + 256 * (b8.toNat + 256 * 0))) := rfl
    rw [e1, e2]
    have h0 := b0.toNat_lt; have h1 := b1.toNat_lt; have h2 := b2.toNat_lt; have h3 := b3.toNat_lt; have h4 := b4.toNat_lt; have h5 := b5.toNat_lt
    have h6 := b6.toNat_lt; have h7 := b7.toNat_lt; have h8 := b8.toNat_lt; have h9 := b9.toNat_lt; have h10 := b10.toNat_lt; have h11 := b11.toNat_lt
    clear e1 e2
    generalize b0.toNat = x0 at *; generalize b1.toNat = x1 at *; generalize b2.toNat = x2 at *; generalize b3.toNat = x3 at *; generalize b4.toNat = x4 at *; generalize b5.toNat = x5 at *
    generalize b6.toNat = x6 at *; generalize b7.toNat = x7 at *; generalize b8.toNat = x8 at *; generalize b9.toNat = x9 at *; generalize b10.toNat = x10 at *; generalize b11.toNat = x11 at *
    refine ⟨?_, ?_, ?_, ?_, ?_, ?_, ?_, ?_, ?_⟩ <;> omega

end Go.Proofs.YtccidoigjdbepaaDoor
