
/- Contracts: ipfour.Put where it puts. -/
import Derived.Test.YtccidoigjdbepaaDoorAdrD
import Derived.Test.YtccidoigjdbepaaDoorCatP
import Derived.Test.YtccidoigjdbepaaDoorEndE
import Derived.Test.YtccidoigjdbepaaDoorMsgA
import Derived.Deep.RegionHeld
namespace Go.Proofs.YtccidoigjdbepaaDoor
open Go.RowKit
set_option maxRecDepth 100000
set_option linter.unusedSimpArgs false
set_option linter.unusedVariables false

/-- Parts, in a list of their own. -/
theorem partsN (w : World) (L : List Part) (h : ∀ p ∈ L, Shows w w.heap.size p.A p.n p.l) :
    Parts (w.alloc (.cells (L.map pv).toArray 26)) (w.alloc (.cells (L.map pv).toArray 26)).heap.size (some ⟨w.heap.size, 0, none⟩) L.length L :=
  ⟨sh_new pv 26 w (L.map pv).toArray L rfl, fun p hp => ((h p hp).alloc (Nat.le_refl _) _).up (by simp)⟩

/-- The first eight bytes of a head, as one number. -/
def firstN (C n I F G : Nat) : Nat := 4971973988617027584 + C * 281474976710656 + (20 + n) * 4294967296 + I * 65536 + F * 8192 + G
/-- The next four, the check still 0. -/
def secondN (L P : Nat) : Nat := L * 16777216 + P * 65536

theorem or_56 (x y : Nat) (hx : x % 72057594037927936 = 0) (hy : y < 72057594037927936) (h : x + y < 18446744073709551616) : bits .or .u64 (x : Int) (y : Int) = ((x + y : Nat) : Int) := by rw [u64_or_nat _ _ (by omega) (by omega), nat_join56 x y hx hy]
theorem or_48 (x y : Nat) (hx : x % 281474976710656 = 0) (hy : y < 281474976710656) (h : x + y < 18446744073709551616) : bits .or .u64 (x : Int) (y : Int) = ((x + y : Nat) : Int) := by rw [u64_or_nat _ _ (by omega) (by omega), nat_join48 x y hx hy]
theorem or_32 (x y : Nat) (hx : x % 4294967296 = 0) (hy : y < 4294967296) (h : x + y < 18446744073709551616) : bits .or .u64 (x : Int) (y : Int) = ((x + y : Nat) : Int) := by rw [u64_or_nat _ _ (by omega) (by omega), nat_join32 x y hx hy]
theorem or_24 (x y : Nat) (hx : x % 16777216 = 0) (hy : y < 16777216) (h : x + y < 18446744073709551616) : bits .or .u64 (x : Int) (y : Int) = ((x + y : Nat) : Int) := by rw [u64_or_nat _ _ (by omega) (by omega), nat_join24 x y hx hy]
theorem or_16 (x y : Nat) (hx : x % 65536 = 0) (hy : y < 65536) (h : x + y < 18446744073709551616) : bits .or .u64 (x : Int) (y : Int) = ((x + y : Nat) : Int) := by rw [u64_or_nat _ _ (by omega) (by omega), nat_join16 x y hx hy]
theorem or_13 (x y : Nat) (hx : x % 8192 = 0) (hy : y < 8192) (h : x + y < 18446744073709551616) : bits .or .u64 (x : Int) (y : Int) = ((x + y : Nat) : Int) := by rw [u64_or_nat _ _ (by omega) (by omega), nat_join13 x y hx hy]

theorem first_or (C n I F G : Nat) (hn : n ≤ 65515) (bC : C < 256) (bI : I < 65536) (bF : F < 8) (bG : G < 8192) :
    bits .or .u64 (bits .or .u64 (bits .or .u64 (bits .or .u64 (bits .or .u64 4971973988617027584 ((C : Int) * 281474976710656)) ((20 + (n : Int)) * 4294967296)) ((I : Int) * 65536)) ((F : Int) * 8192)) (G : Int) = ((firstN C n I F G : Nat) : Int) := by
  have e1 : bits .or .u64 4971973988617027584 ((C : Int) * 281474976710656) = ((4971973988617027584 + C * 281474976710656 : Nat) : Int) := by
    have := or_56 4971973988617027584 (C * 281474976710656) (by omega) (by omega) (by omega)
    simpa using this
  rw [e1, show (20 + (n : Int)) * 4294967296 = (((20 + n) * 4294967296 : Nat) : Int) by omega, or_48 _ _ (by omega) (by omega) (by omega),
    show (I : Int) * 65536 = ((I * 65536 : Nat) : Int) by omega, or_32 _ _ (by omega) (by omega) (by omega),
    show (F : Int) * 8192 = ((F * 8192 : Nat) : Int) by omega, or_16 _ _ (by omega) (by omega) (by omega), or_13 _ _ (by omega) (by omega) (by omega)]
  rfl
theorem first_lt (C n I F G : Nat) (hn : n ≤ 65515) (bC : C < 256) (bI : I < 65536) (bF : F < 8) (bG : G < 8192) : firstN C n I F G ≤ 18446744073709551615 := by unfold firstN; omega
theorem second_or (L P : Nat) (bL : L < 256) (bP : P < 256) : bits .or .u64 ((L : Int) * 16777216) ((P : Int) * 65536) = ((secondN L P : Nat) : Int) := by
  rw [show (L : Int) * 16777216 = ((L * 16777216 : Nat) : Int) by omega, show (P : Int) * 65536 = ((P * 65536 : Nat) : Int) by omega, or_24 _ _ (by omega) (by omega) (by omega)]
  rfl

theorem sizeA_4 (l : List UInt8) (h : okA 4 l = true) : sizeA 4 l = 4 := by simp [sizeA, h]

/-- The packet that is put: the check, then all. -/
def ckN (LF LM s d : List UInt8) : Nat := 65535 - osum (LF ++ (LM ++ (s ++ d)))
def pkt (C I F G L P : Nat) (s d body : List UInt8) : List UInt8 :=
  (leBytes (firstN C body.length I F G) 8).reverse ++ ((leBytes (secondN L P + ckN (leBytes (firstN C body.length I F G) 8).reverse (leBytes (secondN L P) 4).reverse s d) 4).reverse ++ (s ++ (d ++ body)))

end Go.Proofs.YtccidoigjdbepaaDoor
