
/- Layer 9, mathematics: groups, runs of zeros, texts. -/
import Derived.Test.YtccidoigjdbepaaDoorHexH
import Derived.Test.YtccidoigjdbepaaDoorLinB
import Derived.Test.YtccidoigjdbepaaDoorArrA
import Derived.Lib.Join
namespace Go.Proofs.YtccidoigjdbepaaDoor.Cl
open Go.RowKit
set_option maxRecDepth 100000

/-- The groups of bytes. -/
def gOf : List UInt8 → List Nat
  | x :: y :: t => (256 * x.toNat + y.toNat) :: gOf t
  | _ => []
/-- Which groups are 0. -/
def zsOf (g : List Nat) : List Bool := g.map fun n => decide (n = 0)

/-- Where the longest run of zeros begins and ends, and where the one that is looked at begins: behind the first k groups. -/
def lz : List Bool → Nat → Nat × Nat × Nat
  | _, 0 => (0, 0, 0)
  | zs, k + 1 =>
    let (f, t, s) := lz zs k
    if zs.getD k false then (if t - f < k + 1 - s then (s, k + 1, s) else (f, t, s)) else (f, t, k + 1)
/-- How many zeros stand from a place on. -/
def runZ (zs : List Bool) : Nat → Nat → Nat
  | _, 0 => 0
  | i, f + 1 => if zs.getD i false then 1 + runZ zs (i + 1) f else 0
def runOf (zs : List Bool) (i : Nat) : Nat := runZ zs i (8 - i)
/-- The longest run, as the reference finds it: where, and how long. -/
def rz : List Bool → Nat → Nat × Nat
  | _, 0 => (0, 0)
  | zs, k + 1 => if (rz zs k).2 < runOf zs k then (k, runOf zs k) else rz zs k

/-- Both find the same. -/
theorem lz_rz (a b c d e f g h : Bool) : let zs := [a, b, c, d, e, f, g, h]
    ((lz zs 8).2.1 - (lz zs 8).1 < 2 ↔ (rz zs 8).2 < 2) ∧ ((rz zs 8).2 ≥ 2 → (lz zs 8).1 = (rz zs 8).1 ∧ (lz zs 8).2.1 = (rz zs 8).1 + (rz zs 8).2) ∧ (lz zs 8).1 ≤ (lz zs 8).2.1 ∧ (lz zs 8).2.1 ≤ 8 ∧ (rz zs 8).1 + (rz zs 8).2 ≤ 8 := by
  revert a b c d e f g h; decide

/-- How many digits a group has; its text. -/
def nd (n : Nat) : Nat := if n < 16 then 1 else if n < 256 then 2 else if n < 4096 then 3 else 4
def hx (n : Nat) : List UInt8 := Hex.gd n (nd n) (nd n)
theorem nd_le (n : Nat) : nd n ≤ 4 := by unfold nd; repeat (split <;> try omega)
theorem nd_digs (n : Nat) (h : n < 65536) : Hex.Digs n (nd n) := by
  unfold nd Hex.Digs
  split
  · exact ⟨by omega, by omega, by omega⟩
  · split
    · exact ⟨by omega, by omega, by omega⟩
    · split
      · exact ⟨by omega, by omega, by omega⟩
      · exact ⟨by omega, by omega, by omega⟩
theorem hx_len (n : Nat) : (hx n).length ≤ 4 := by unfold hx; rw [Hex.gd_len]; exact nd_le n

/-- Groups with colons between them. -/
def row (g : List Nat) : List UInt8 := Lib.join (g.map hx) [58]
/-- The text of sixteen bytes. -/
def cT (b : List UInt8) : List UInt8 :=
  let g := gOf b
  let (f, t, _) := lz (zsOf g) 8
  if t - f < 2 then row g else row (g.take f) ++ [58, 58] ++ row (g.drop t)

end Go.Proofs.YtccidoigjdbepaaDoor.Cl
