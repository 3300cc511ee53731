
/- Contracts: law18's alive; ref18.Turned. -/
import Derived.Test.YtccidoigjdbepaaDoorSumA
import Derived.Test.YtccidoigjdbepaaDoorApp
namespace Go.Proofs.YtccidoigjdbepaaDoor
open Go.RowKit
set_option maxRecDepth 100000

/-- One part, in a list of its own. -/
theorem parts1 (w : World) (A : Option Addr) (n c : Nat) (l : List UInt8) (h : Shows w w.heap.size A n l) :
    Parts (w.alloc (.cells #[.slice A n c] 26)) (w.alloc (.cells #[.slice A n c] 26)).heap.size (some ⟨w.heap.size, 0, none⟩) 1 [⟨A, n, c, l⟩] := by
  refine ⟨sh_new pv 26 w #[.slice A n c] [⟨A, n, c, l⟩] rfl, fun p hp => ?_⟩
  simp at hp
  subst hp
  exact (h.alloc (Nat.le_refl _) _).up (by simp)

/-- A byte with one bit turned, counted from the highest on. -/
def turnN (x t : Nat) : Nat := if x / 2 ^ (7 - t) % 2 = 1 then x - 2 ^ (7 - t) else x + 2 ^ (7 - t)
theorem turnN_cases (x t : Nat) (hx : x < 256) (ht : t < 8) :
    (x / 2 ^ (7 - t) % 2 = 1 ∧ turnN x t + 2 ^ (7 - t) = x) ∨ (x / 2 ^ (7 - t) % 2 = 0 ∧ turnN x t = x + 2 ^ (7 - t) ∧ x + 2 ^ (7 - t) < 256) := by
  unfold turnN
  have : t = 0 ∨ t = 1 ∨ t = 2 ∨ t = 3 ∨ t = 4 ∨ t = 5 ∨ t = 6 ∨ t = 7 := by omega
  rcases this with rfl | rfl | rfl | rfl | rfl | rfl | rfl | rfl <;> simp only [Nat.reduceSub, Nat.reducePow] <;> split <;> omega
theorem turnN_lt (x t : Nat) (hx : x < 256) (ht : t < 8) : turnN x t < 256 := by
  have := turnN_cases x t hx ht
  generalize turnN x t = a at *
  generalize 2 ^ (7 - t) = b at *
  omega
/-- Bytes with one bit turned. -/
def turned (l : List UInt8) (bit : Nat) : List UInt8 := l.set (bit / 8) (UInt8.ofNat (turnN (l[bit / 8]?.getD 0).toNat (bit % 8)))
theorem turned_len (l : List UInt8) (bit : Nat) : (turned l bit).length = l.length := by simp [turned]

theorem pow_half (t : Nat) (h : t ≤ 7) : 128 / 2 ^ t = 2 ^ (7 - t) := by
  have : t = 0 ∨ t = 1 ∨ t = 2 ∨ t = 3 ∨ t = 4 ∨ t = 5 ∨ t = 6 ∨ t = 7 := by omega
  rcases this with rfl | rfl | rfl | rfl | rfl | rfl | rfl | rfl <;> rfl

theorem vdm_num (v d : Nat) (hv : v < 256) : (wrap64 ((v : Int) / (d : Int))).tmod 2 = ((v / d % 2 : Nat) : Int) := by
  rw [← Int.natCast_ediv]
  have hle : v / d ≤ v := Nat.div_le_self _ _
  generalize v / d = q at *
  rw [IntWalk.wrap64_in _ (by omega), Int.tmod_eq_emod_of_nonneg (by omega)]
  omega

end Go.Proofs.YtccidoigjdbepaaDoor
