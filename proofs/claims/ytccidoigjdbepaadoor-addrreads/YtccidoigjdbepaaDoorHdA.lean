
/- Heads of packets of family 4, read: own words; contracts: ipfour.head. -/
import Derived.Test.YtccidoigjdbepaaDoorAdrF
import Derived.Test.YtccidoigjdbepaaDoorEndC
namespace Go.Proofs.YtccidoigjdbepaaDoor
open Go.RowKit
set_option maxRecDepth 100000
set_option linter.unusedSimpArgs false
set_option linter.unusedVariables false

/-- No head at all. -/
def zH : Array Value := hdv [0, 0, 0, 0, 0, 0, 0, 0, 0] (adv 0 (zb 16)) (adv 0 (zb 16))
theorem zH_size : zH.size = 43 := by rfl
theorem hdv_one (xs : List Int) (v v' : Int) (l l' : List UInt8) : ((hdv xs (adv v l) (adv v' l')).all fun x => x.oneCell') = true := by
  unfold hdv
  rw [List.all_toArray, List.all_eq_true]
  intro x hx
  simp only [List.mem_append, List.mem_map, adv] at hx
  rcases hx with ⟨y, _, rfl⟩ | hx | hx
  · rfl
  · simp at hx; rcases hx with rfl | ⟨y, _, rfl⟩ <;> rfl
  · simp at hx; rcases hx with rfl | ⟨y, _, rfl⟩ <;> rfl
theorem zH_one : (zH.all fun x => x.oneCell') = true := hdv_one _ _ _ _ _
/-- The numbers of the first eight bytes, and of the next four. -/
def n1 (l : List UInt8) : Nat := leNat (l.take 8).reverse
def n2 (l : List UInt8) : Nat := leNat ((l.drop 8).take 4).reverse
def srcL (l : List UInt8) : List UInt8 := (l.drop 12).take 4
def dstL (l : List UInt8) : List UInt8 := (l.drop 16).take 4
def hdN (N1 N2 : Nat) (s d : List UInt8) : Array Value :=
  hdv [((N1 / 1152921504606846976 : Nat) : Int), ((N1 / 72057594037927936 % 16 * 4 : Nat) : Int), ((N1 / 4294967296 % 65536 : Nat) : Int), ((N1 / 281474976710656 % 256 : Nat) : Int), ((N1 / 65536 % 65536 : Nat) : Int), ((N1 / 8192 % 8 : Nat) : Int), ((N1 % 8192 : Nat) : Int), ((N2 / 16777216 : Nat) : Int), ((N2 / 65536 % 256 : Nat) : Int)] (adv 4 (s ++ zb 12)) (adv 4 (d ++ zb 12))
/-- The head that bytes say. -/
def hdL (l : List UInt8) : Array Value := hdN (n1 l) (n2 l) (srcL l) (dstL l)

theorem and_mask (k : Nat) (hk : k ≤ 32) (x : Nat) (h : x < 18446744073709551616) : bits BinOp.and IntKind.u64 (x : Int) ((2 ^ k - 1 : Nat) : Int) = ((x % 2 ^ k : Nat) : Int) := by
  have hp : 2 ^ k ≤ 2 ^ 32 := Nat.pow_le_pow_right (by omega) hk
  rw [u64_and_nat _ _ (by omega) (by omega), Nat.and_two_pow_sub_one_eq_mod x k]
theorem wrap_id (x : Nat) (h : x < 9223372036854775808) : IntKind.i64.wrap (x : Int) = (x : Int) := by rw [IntKind.wrap_i64]; omega

/-- A whole value, stored: one step of a region that draws its order. -/
theorem step_storeBlk {P : Program} {w : World} {g : Nat} {t : TypeId} {cs : Array Value} {ops : Array Oper} {o : Oper} {a : Act} {K : Act → World → Prop} {Q : Exit → Act → World → Prop} {E : Prop} (hgd : o.guard = none) (ty : TypeId) (x y : Operand) (ho : o.op = .store ty x y)
    (hx : a.eval x = .pointer (some ⟨g, 0, none⟩)) (hy : a.eval y = .agg cs) (old : Array Value) (hA : Blk w g t old) (hi : (P.info? ty).map (·.size) = some cs.size)
    (hs : old.size = cs.size) (h1 : cs.all (·.oneCell') = true)
    (h : ∀ w', Blk w' g t cs → w.grownBy w' (some g) → K (a.put o.dst undef) w') : if Region.wanted o (yielded ops a.tmps) = true then Oper.wp P o a w K Q else E := by
  have hw : Region.wanted o (yielded ops a.tmps) = true := by simp [Region.wanted, hgd]
  rw [if_pos hw]
  exact wp_store_row ty x y ho g cs hx hy t old hA hi hs h1 (by obtain ⟨h2, h3⟩ := setRow_grown w g t old cs hA; exact h _ h2 h3)

theorem Shows.range {w : World} {B b off n : Nat} {l : List UInt8} (h : Shows w B (some ⟨b, off, none⟩) n l) : w.rangeAt b off (l.map bv) := by
  intro j v hv
  simp at hv
  obtain ⟨y, hy, rfl⟩ := hv
  obtain ⟨hj, rfl⟩ := List.getElem?_eq_some_iff.1 hy
  obtain ⟨b', off', e, _, hc⟩ := h.2 (by have := h.len; omega)
  injection e with e
  injection e with e1 e2
  subst e1
  subst e2
  exact hc j hj
theorem run_s2a {P : Program} (w : World) (arr e : TypeId) (n : Nat) (ad : Addr) (len c : Nat) (hu : P.underlying arr = some (.array n e)) (hn : n ≤ len) : (Instr.arrayAt arr (.slice (some ad) len c)).run P w = .ok (.pointer (some ad)) w := by
  have hn' : ¬ len < n := by omega
  first
    | simp [Instr.arrayAt, run_underlying hu, hn']
    | simp [Instr.arrayAt, run_underlying hu, hn]
    | (unfold Instr.arrayAt; simp [run_underlying hu, hn', hn])
theorem list_four (l : List UInt8) (h : l.length = 4) : ∃ a b c d, l = [a, b, c, d] := by
  match l, h with
  | [a, b, c, d], _ => exact ⟨a, b, c, d, rfl⟩

end Go.Proofs.YtccidoigjdbepaaDoor
