
/- Contracts: addr.Six, ipsix.six, fits, Put (where all is in its bounds). -/
import Derived.Test.YtccidoigjdbepaaDoorHdC
namespace Go.Proofs.YtccidoigjdbepaaDoor
open Go.RowKit
set_option maxRecDepth 100000
set_option linter.unusedSimpArgs false
set_option linter.unusedVariables false

theorem or_pow (k x y : Nat) (hx : x % 2 ^ k = 0) (hy : y < 2 ^ k) : x ||| y = x + y := by
  have h := Nat.two_pow_add_eq_or_of_lt hy (x / 2 ^ k)
  have e : 2 ^ k * (x / 2 ^ k) = x := by have := Nat.div_add_mod x (2 ^ k); omega
  rw [e] at h
  omega
theorem or_k (k x y : Nat) (hx : x % 2 ^ k = 0) (hy : y < 2 ^ k) (h : x + y < 18446744073709551616) : bits .or .u64 (x : Int) (y : Int) = ((x + y : Nat) : Int) := by rw [u64_or_nat _ _ (by omega) (by omega), or_pow k x y hx hy]

/-- An operation that builds a value: its outcome is handed in. -/
theorem wpList_build {P : Program} {w : World} {ops : Array Oper} {rest : List Oper} {o : Oper} {a : Act} {Q : Exit → Act → World → Prop} (hgd : o.guard = none) (ty : TypeId) (fs : Array (Nat × Operand)) (ho : o.op = .build ty fs) (v : Value)
    (hr : ∀ w, (execOp a.eval o).run P w = .ok (.value v) w) (h : wpList P ops Q rest (a.put o.dst v) w) : wpList P ops Q (o :: rest) a w :=
  wpList_plain hgd fun _ hK => by
    unfold Oper.wp
    rw [hr w]
    exact hK _ _ h
theorem list16 (l : List UInt8) (h : l.length = 16) : ∃ b0 b1 b2 b3 b4 b5 b6 b7 b8 b9 b10 b11 b12 b13 b14 b15, l = [b0, b1, b2, b3, b4, b5, b6, b7, b8, b9, b10, b11, b12, b13, b14, b15] := by
  match l, h with
  | [b0, b1, b2, b3, b4, b5, b6, b7, b8, b9, b10, b11, b12, b13, b14, b15], _ => exact ⟨b0, b1, b2, b3, b4, b5, b6, b7, b8, b9, b10, b11, b12, b13, b14, b15, rfl⟩

set_option maxHeartbeats 1000000 in
theorem addrSix_any (l : List UInt8) (hl : l.length = 16) (w : World) :
    Calls Tryd.prog 25 #[av l] w fun e w' => e = .returned (.agg (adv 6 l)) ∧ Below w.heap.size w w' := by
  have hz := (zero_of_info Tryd.zeroAddr).1
  have hne : ¬ adv 0 (zb 16) = #[] := by simp [adv]
  have k0 : Blk ((w.alloc (.cells (l.map bv).toArray 22)).alloc (.cells (adv 0 (zb 16)) 24)) w.heap.size 22 (l.map bv).toArray := (blk_new _ _ _).alloc _
  have k1 : Blk ((w.alloc (.cells (l.map bv).toArray 22)).alloc (.cells (adv 0 (zb 16)) 24)) (w.heap.size + 1) 24 (adv 0 (zb 16)) := blk_new' _ _ _ _ (by simp)
  have hb0 : Below w.heap.size w ((w.alloc (.cells (l.map bv).toArray 22)).alloc (.cells (adv 0 (zb 16)) 24)) := ((Below.refl _ _).alloc (Nat.le_refl _) _).alloc (by simp) _
  have zi : (Tryd.prog.info? 22).map (·.size) = some (l.map bv).toArray.size := by simp only [List.size_toArray, List.length_map, hl]; kernel_rfl
  have zs := Adr_size 6 l hl
  have o1 := adv_one 6 l
  have z17 : (adv 0 (zb 16)).size = (adv 6 l).size := by rw [adv_size 6 l hl]; rfl
  obtain ⟨b0, b1, b2, b3, b4, b5, b6, b7, b8, b9, b10, b11, b12, b13, b14, b15, e16⟩ := list16 l hl
  have HX := Lib.hid (show ([b0, b1, b2, b3, b4, b5, b6, b7, b8, b9, b10, b11, b12, b13, b14, b15].map bv).toArray = (l.map bv).toArray by rw [e16])
  have HY := Lib.hid (show adv 6 [b0, b1, b2, b3, b4, b5, b6, b7, b8, b9, b10, b11, b12, b13, b14, b15] = adv 6 l by rw [e16])
  clear e16
  generalize adv 6 l = Y at *
  have eav : av l = .agg (l.map bv).toArray := rfl
  rw [eav]
  generalize (l.map bv).toArray = X at *
  go_enter Tryd.func25, Tryd.ntmps25
  go_wp2_with (first
    | (refine wpList_loadBlk (g := w.heap.size) (t := 22) (cs := X) rfl 22 (.tmp 1) ?ho ?hx ?hA _ Tryd.underlying22 rfl ?hi ?_
       case ho => with_reducible rfl
       case hx => rfl
       case hA => exact k0
       case hi => exact zi)
    | (refine wpList_build rfl 24 ?fs ?ho (.agg Y) ?hr ?_
       case ho => with_reducible rfl
       case hr =>
         intro W
         have e1 := HX.out
         have e2 := HY.out
         rw [← e1, ← e2]
         change _ = _
         kernel_rfl)
    | (refine wpList_storeBlk (g := w.heap.size + 1) (t := 24) (cs := Y) rfl 24 (.tmp 2) (.tmp 4) ?ho ?hx2 ?hy2 (adv 0 (zb 16)) k1 ?hi ?hs ?h1 ?_
       case ho => with_reducible rfl
       case hx2 => rfl
       case hy2 => rfl
       case hi => exact zs
       case hs => exact z17
       case h1 => exact o1
       intro w5 kb hg5
       have b5 : Below w.heap.size w w5 := hb0.grown hg5 hb0.size (fun k hk => by injection hk with hk; omega)))
  refine bodyPost_blk rfl _ rfl kb Tryd.underlying24 rfl zs rfl ?_
  exact ⟨rfl, b5⟩

/-- The first eight bytes of a head of family 6, as one number. -/
def first6 (C I n P L : Nat) : Nat := 6917529027641081856 + C * 4503599627370496 + I * 4294967296 + n * 65536 + P * 256 + L
theorem first6_or (C I n P L : Nat) (hn : n ≤ 65495) (bC : C < 256) (bI : I < 1048576) (bL : L < 256) (bP : P < 256) :
    bits .or .u64 (bits .or .u64 (bits .or .u64 (bits .or .u64 (bits .or .u64 6917529027641081856 ((C : Int) * 4503599627370496)) ((I : Int) * 4294967296)) ((n : Int) * 65536)) ((P : Int) * 256)) (L : Int) = ((first6 C I n P L : Nat) : Int) := by
  have e1 : bits .or .u64 6917529027641081856 ((C : Int) * 4503599627370496) = ((6917529027641081856 + C * 4503599627370496 : Nat) : Int) := by
    have := or_k 60 6917529027641081856 (C * 4503599627370496) (by omega) (by omega) (by omega)
    simpa using this
  rw [e1, show (I : Int) * 4294967296 = ((I * 4294967296 : Nat) : Int) by omega, or_k 52 _ _ (by omega) (by omega) (by omega),
    show (n : Int) * 65536 = ((n * 65536 : Nat) : Int) by omega, or_k 32 _ _ (by omega) (by omega) (by omega),
    show (P : Int) * 256 = ((P * 256 : Nat) : Int) by omega, or_k 16 _ _ (by omega) (by omega) (by omega), or_k 8 _ _ (by omega) (by omega) (by omega)]
  rfl
theorem first6_lt (C I n P L : Nat) (hn : n ≤ 65495) (bC : C < 256) (bI : I < 1048576) (bL : L < 256) (bP : P < 256) : first6 C I n P L ≤ 18446744073709551615 := by unfold first6; omega
/-- The packet that is put. -/
def pkt6 (C I L P : Nat) (s d body : List UInt8) : List UInt8 := (leBytes (first6 C I body.length P L) 8).reverse ++ (s ++ (d ++ body))
theorem sizeA_6 (l : List UInt8) : sizeA 6 l = 16 := by simp [sizeA, okA]

end Go.Proofs.YtccidoigjdbepaaDoor
