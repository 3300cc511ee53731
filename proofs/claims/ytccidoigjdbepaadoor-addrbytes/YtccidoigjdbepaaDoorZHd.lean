
/- Out of the texts HdA, HdB, HdC, SxA. -/
import Derived.Test.YtccidoigjdbepaaDoorZAdr
import Derived.Test.YtccidoigjdbepaaDoorZSum
/- HdA -/
namespace Go.Proofs.YtccidoigjdbepaaDoor
open Go.RowKit
set_option maxRecDepth 100000
set_option linter.unusedSimpArgs false
set_option linter.unusedVariables false

/-- No head at all. -/
def zH : Array Value := hdv [0, 0, 0, 0, 0, 0, 0, 0, 0] (adv 0 (zb 16)) (adv 0 (zb 16))
theorem zH_size : zH.size = 43 := by rfl
theorem hdv_one (xs : List Int) (v v' : Int) (l l' : List UInt8) : ((hdv xs (adv v l) (adv v' l')).all fun x => x.oneCell') = true := by
  unfold hdv
  rw [List.all_toArray, List.all_eq_true]
  intro x hx
  simp only [List.mem_append, List.mem_map, adv] at hx
  rcases hx with ⟨y, _, rfl⟩ | hx | hx
  · rfl
  · simp at hx; rcases hx with rfl | ⟨y, _, rfl⟩ <;> rfl
  · simp at hx; rcases hx with rfl | ⟨y, _, rfl⟩ <;> rfl
theorem zH_one : (zH.all fun x => x.oneCell') = true := hdv_one _ _ _ _ _
/-- The numbers of the first eight bytes, and of the next four. -/
def n1 (l : List UInt8) : Nat := leNat (l.take 8).reverse
def n2 (l : List UInt8) : Nat := leNat ((l.drop 8).take 4).reverse
def srcL (l : List UInt8) : List UInt8 := (l.drop 12).take 4
def dstL (l : List UInt8) : List UInt8 := (l.drop 16).take 4
def hdN (N1 N2 : Nat) (s d : List UInt8) : Array Value :=
  hdv [((N1 / 1152921504606846976 : Nat) : Int), ((N1 / 72057594037927936 % 16 * 4 : Nat) : Int), ((N1 / 4294967296 % 65536 : Nat) : Int), ((N1 / 281474976710656 % 256 : Nat) : Int), ((N1 / 65536 % 65536 : Nat) : Int), ((N1 / 8192 % 8 : Nat) : Int), ((N1 % 8192 : Nat) : Int), ((N2 / 16777216 : Nat) : Int), ((N2 / 65536 % 256 : Nat) : Int)] (adv 4 (s ++ zb 12)) (adv 4 (d ++ zb 12))
/-- The head that bytes say. -/
def hdL (l : List UInt8) : Array Value := hdN (n1 l) (n2 l) (srcL l) (dstL l)

theorem and_mask (k : Nat) (hk : k ≤ 32) (x : Nat) (h : x < 18446744073709551616) : bits BinOp.and IntKind.u64 (x : Int) ((2 ^ k - 1 : Nat) : Int) = ((x % 2 ^ k : Nat) : Int) := by
  have hp : 2 ^ k ≤ 2 ^ 32 := Nat.pow_le_pow_right (by omega) hk
  rw [u64_and_nat _ _ (by omega) (by omega), Nat.and_two_pow_sub_one_eq_mod x k]
theorem wrap_id (x : Nat) (h : x < 9223372036854775808) : IntKind.i64.wrap (x : Int) = (x : Int) := by rw [IntKind.wrap_i64]; omega

/-- A whole value, stored: one step of a region that draws its order. -/
theorem step_storeBlk {P : Program} {w : World} {g : Nat} {t : TypeId} {cs : Array Value} {ops : Array Oper} {o : Oper} {a : Act} {K : Act → World → Prop} {Q : Exit → Act → World → Prop} {E : Prop} (hgd : o.guard = none) (ty : TypeId) (x y : Operand) (ho : o.op = .store ty x y)
    (hx : a.eval x = .pointer (some ⟨g, 0, none⟩)) (hy : a.eval y = .agg cs) (old : Array Value) (hA : Blk w g t old) (hi : (P.info? ty).map (·.size) = some cs.size)
    (hs : old.size = cs.size) (h1 : cs.all (·.oneCell') = true)
    (h : ∀ w', Blk w' g t cs → w.grownBy w' (some g) → K (a.put o.dst undef) w') : if Region.wanted o (yielded ops a.tmps) = true then Oper.wp P o a w K Q else E := by
  have hw : Region.wanted o (yielded ops a.tmps) = true := by simp [Region.wanted, hgd]
  rw [if_pos hw]
  exact wp_store_row ty x y ho g cs hx hy t old hA hi hs h1 (by obtain ⟨h2, h3⟩ := setRow_grown w g t old cs hA; exact h _ h2 h3)

theorem Shows.range {w : World} {B b off n : Nat} {l : List UInt8} (h : Shows w B (some ⟨b, off, none⟩) n l) : w.rangeAt b off (l.map bv) := by
  intro j v hv
  simp at hv
  obtain ⟨y, hy, rfl⟩ := hv
  obtain ⟨hj, rfl⟩ := List.getElem?_eq_some_iff.1 hy
  obtain ⟨b', off', e, _, hc⟩ := h.2 (by have := h.len; omega)
  injection e with e
  injection e with e1 e2
  subst e1
  subst e2
  exact hc j hj
theorem run_s2a {P : Program} (w : World) (arr e : TypeId) (n : Nat) (ad : Addr) (len c : Nat) (hu : P.underlying arr = some (.array n e)) (hn : n ≤ len) : (Instr.arrayAt arr (.slice (some ad) len c)).run P w = .ok (.pointer (some ad)) w := by
  have hn' : ¬ len < n := by omega
  first
    | simp [Instr.arrayAt, run_underlying hu, hn']
    | simp [Instr.arrayAt, run_underlying hu, hn]
    | (unfold Instr.arrayAt; simp [run_underlying hu, hn', hn])
theorem list_four (l : List UInt8) (h : l.length = 4) : ∃ a b c d, l = [a, b, c, d] := by
  match l, h with
  | [a, b, c, d], _ => exact ⟨a, b, c, d, rfl⟩

end Go.Proofs.YtccidoigjdbepaaDoor

/- HdB -/
namespace Go.Proofs.YtccidoigjdbepaaDoor
open Go.RowKit
set_option maxRecDepth 100000
set_option linter.unusedSimpArgs false
set_option linter.unusedVariables false

/-- What is wrong with a head. -/
def wE (V S T n : Nat) (l : List UInt8) : Nat := if V = 4 then (if S < 20 then 5 else if n < S then 3 else if T < S then 5 else if n < T then 3 else if osum (l.take S) = 65535 then 0 else 11) else 9
theorem wE_le (V S T n : Nat) (l : List UInt8) : wE V S T n l ≤ 11 := by unfold wE; (repeat' split) <;> omega

/-- Why bytes are no packet of family 4; their head. -/
def pE (l : List UInt8) : Nat := if l.length < 20 then 3 else wE (n1 l / 1152921504606846976) (n1 l / 72057594037927936 % 16 * 4) (n1 l / 4294967296 % 65536) l.length l
def pH (l : List UInt8) : Array Value := if pE l = 0 then hdL l else zH
theorem pE_le (l : List UInt8) : pE l ≤ 11 := by unfold pE; split; omega; exact wE_le _ _ _ _ _

theorem hdL_size (l : List UInt8) (h : 20 ≤ l.length) : (hdL l).size = 43 := by
  unfold hdL hdN
  exact hdv_size _ _ _ rfl (adv_size _ _ (by simp [srcL, zb]; omega)) (adv_size _ _ (by simp [dstL, zb]; omega))

end Go.Proofs.YtccidoigjdbepaaDoor

/- HdC -/
namespace Go.Proofs.YtccidoigjdbepaaDoor
open Go.RowKit
set_option maxRecDepth 100000
set_option linter.unusedSimpArgs false
set_option linter.unusedVariables false

theorem adv_fill (V : Int) (x : List UInt8) (m k : Nat) (c : UInt8) (hk : x[k]? = some c) (hm : k < 16) :
    (adv V (x.take k ++ zb (16 - k))).setIfInBounds (1 + k) (bv c) = adv V (x.take (k + 1) ++ zb (16 - (k + 1))) := by
  obtain ⟨h1, rfl⟩ := List.getElem?_eq_some_iff.1 hk
  have e : (x.take k ++ zb (16 - k)).set k x[k] = x.take (k + 1) ++ zb (16 - (k + 1)) := by
    have := set_next (x.take k) (16 - (k + 1)) x[k]
    rw [show (x.take k).length = k by simp; omega, show 16 - (k + 1) + 1 = 16 - k by omega] at this
    unfold zb
    rw [this, List.take_succ_eq_append_getElem h1]
  rw [← e]
  simp [adv, Nat.add_comm 1 k]
theorem adv_set0 (v V : Int) (l : List UInt8) : (adv v l).setIfInBounds 0 (.int .i64 V) = adv V l := by simp [adv]

set_option maxHeartbeats 1000000 in
theorem refOf4 (b off c : Nat) (x : List UInt8) (w : World) (hs : Shows w w.heap.size (some ⟨b, off, none⟩) 4 x) :
    Calls Tryd.prog 27 #[.slice (some ⟨b, off, none⟩) 4 c] w fun e w' => e = .returned (.tuple #[.agg (adv 4 (x ++ zb 12)), .bool true]) ∧ Below w.heap.size w w' := by
  have hz := (zero_of_info Tryd.zeroAddr).1
  have hne : ¬ adv 0 (zb 16) = #[] := by simp [adv]
  have hl := hs.len
  have hx16 : (adv 4 (x ++ zb 12)).size = 17 := adv_size _ _ (by simp [hl, zb])
  have zs : (Tryd.prog.info? 24).map (·.size) = some (adv 4 (x ++ zb 12)).size := by rw [hx16]; exact Tryd.infoAddr
  have e0 := adv_set0 0 4 (zb 16)
  have e1 := adv_set0 4 6 (zb 16)
  go_enter Tryd.func27, Tryd.ntmps27
  go_wp2_with fail
  have k1 : Blk ((w.alloc (.cells (adv 0 (zb 16)) 24)).alloc (.cells (adv 4 (zb 16)) 24)) w.heap.size 24 (adv 0 (zb 16)) := (blk_new _ _ _).alloc _
  have k2 : Blk ((w.alloc (.cells (adv 0 (zb 16)) 24)).alloc (.cells (adv 4 (zb 16)) 24)) (w.heap.size + 1) 24 (adv 4 (zb 16)) := blk_new' _ _ _ _ (by simp)
  have b2 : Below w.heap.size w ((w.alloc (.cells (adv 0 (zb 16)) 24)).alloc (.cells (adv 4 (zb 16)) 24)) := ((Below.refl _ _).alloc (Nat.le_refl _) _).alloc (by simp) _
  generalize (w.alloc (.cells (adv 0 (zb 16)) 24)).alloc (.cells (adv 4 (zb 16)) 24) = W2 at *
  go_loopw [5] (fun i wr => ∃ k : Nat, k ≤ 4 ∧ i = .int .i64 k ∧ Blk wr (w.heap.size + 1) 24 (adv 4 (x.take k ++ zb (16 - k))) ∧ Blk wr w.heap.size 24 (adv 0 (zb 16)) ∧ Below w.heap.size w wr) (fun i _ => 4 - (intOf i).toNat)
  case atStart => exact ⟨0, Nat.zero_le _, rfl, by simpa using k2, k1, b2⟩
  case round =>
    clear k1 k2 b2 W2
    obtain ⟨k, hk, rfl, k2, k1, b2⟩ := hrel
    by_cases hlt : k < 4
    · obtain ⟨b', off', d, e, hb, hcell, _, hd⟩ := (hs.below b2).byte hlt
      injection e with e
      injection e with eb eo
      subst eb
      subst eo
      have hf := k2.frz (1 + k)
      have hold : wr.cell? ⟨w.heap.size + 1, 1 + k, none⟩ = some (.int .u8 0) := by
        rw [k2.cellA]
        refine adv_b _ _ k 0 ?_
        have hkl : (x.take k).length = k := by simp; omega
        rw [List.getElem?_append_right (by omega), hkl, Nat.sub_self]
        simp only [zb, List.getElem?_replicate]
        rw [if_pos (by omega)]
      have h3 := k2.setCell (1 + k) (bv d)
      rw [adv_fill 4 x 4 k d hd (by omega)] at h3
      have h4 := k1.other ⟨w.heap.size + 1, 1 + k, none⟩ (bv d) (by simp)
      have h5 : Below w.heap.size w (wr.setCell ⟨w.heap.size + 1, 1 + k, none⟩ (bv d)) := b2.grown (setCell_grown _ _ _ _) b2.size (fun j hj => by injection hj with hj; omega)
      clear k1 k2 hd
      have hki : (k : Int) < 4 := by omega
      go_wp2
      go_roundw
      case rel => exact ⟨k + 1, by omega, by go_num, h3, h4, h5⟩
      case measure => simp [intOf] <;> omega
    · obtain rfl : k = 4 := by omega
      rw [List.take_of_length_le (by omega)] at k2
      clear hs hl
      generalize hXe : adv 4 (x ++ zb 12) = X at *
      have h1c : (X.all fun v => v.oneCell') = true := by rw [← hXe]; exact adv_one _ _
      have k2' : Blk wr (w.heap.size + 1) 24 X := k2
      clear k2
      have HX := Lib.hid hXe
      clear hXe
      go_wp2_with (first
        | (refine wpList_loadBlk (g := w.heap.size + 1) (t := 24) (cs := X) rfl 24 (.tmp 4) ?ho ?hx ?hA _ Tryd.underlying24 rfl ?hi ?_
           case ho => with_reducible rfl
           case hx => rfl
           case hA => exact k2'
           case hi => exact zs)
        | (refine wpList_storeBlk (g := w.heap.size) (t := 24) (cs := X) rfl 24 (.tmp 2) (.tmp 33) ?ho ?hx2 ?hy2 (adv 0 (zb 16)) k1 ?hi ?hs ?h1 ?_
           case ho => with_reducible rfl
           case hx2 => rfl
           case hy2 => rfl
           case hi => exact zs
           case hs => rw [hx16]; rfl
           case h1 => exact h1c
           intro w5 kb hg5
           have b5 : Below w.heap.size w w5 := b2.grown hg5 b2.size (fun k hk => by injection hk with hk; omega)
           clear b2 k1 k2' hg5))
      refine bodyPost_blk2 rfl _ rfl kb Tryd.underlying24 rfl zs rfl ?_
      exact ⟨by rw [HX.out]; rfl, b5⟩

set_option maxHeartbeats 1000000 in
theorem refOf16 (b off c : Nat) (x : List UInt8) (w : World) (hs : Shows w w.heap.size (some ⟨b, off, none⟩) 16 x) :
    Calls Tryd.prog 27 #[.slice (some ⟨b, off, none⟩) 16 c] w fun e w' => e = .returned (.tuple #[.agg (adv 6 (x ++ zb 0)), .bool true]) ∧ Below w.heap.size w w' := by
  have hz := (zero_of_info Tryd.zeroAddr).1
  have hne : ¬ adv 0 (zb 16) = #[] := by simp [adv]
  have hl := hs.len
  have hx16 : (adv 6 (x ++ zb 0)).size = 17 := adv_size _ _ (by simp [hl, zb])
  have zs : (Tryd.prog.info? 24).map (·.size) = some (adv 6 (x ++ zb 0)).size := by rw [hx16]; exact Tryd.infoAddr
  have e0 := adv_set0 0 4 (zb 16)
  have e1 := adv_set0 4 6 (zb 16)
  go_enter Tryd.func27, Tryd.ntmps27
  go_wp2_with fail
  have k1 : Blk ((w.alloc (.cells (adv 0 (zb 16)) 24)).alloc (.cells (adv 6 (zb 16)) 24)) w.heap.size 24 (adv 0 (zb 16)) := (blk_new _ _ _).alloc _
  have k2 : Blk ((w.alloc (.cells (adv 0 (zb 16)) 24)).alloc (.cells (adv 6 (zb 16)) 24)) (w.heap.size + 1) 24 (adv 6 (zb 16)) := blk_new' _ _ _ _ (by simp)
  have b2 : Below w.heap.size w ((w.alloc (.cells (adv 0 (zb 16)) 24)).alloc (.cells (adv 6 (zb 16)) 24)) := ((Below.refl _ _).alloc (Nat.le_refl _) _).alloc (by simp) _
  generalize (w.alloc (.cells (adv 0 (zb 16)) 24)).alloc (.cells (adv 6 (zb 16)) 24) = W2 at *
  go_loopw [5] (fun i wr => ∃ k : Nat, k ≤ 16 ∧ i = .int .i64 k ∧ Blk wr (w.heap.size + 1) 24 (adv 6 (x.take k ++ zb (16 - k))) ∧ Blk wr w.heap.size 24 (adv 0 (zb 16)) ∧ Below w.heap.size w wr) (fun i _ => 16 - (intOf i).toNat)
  case atStart => exact ⟨0, Nat.zero_le _, rfl, by simpa using k2, k1, b2⟩
  case round =>
    clear k1 k2 b2 W2
    obtain ⟨k, hk, rfl, k2, k1, b2⟩ := hrel
    by_cases hlt : k < 16
    · obtain ⟨b', off', d, e, hb, hcell, _, hd⟩ := (hs.below b2).byte hlt
      injection e with e
      injection e with eb eo
      subst eb
      subst eo
      have hf := k2.frz (1 + k)
      have hold : wr.cell? ⟨w.heap.size + 1, 1 + k, none⟩ = some (.int .u8 0) := by
        rw [k2.cellA]
        refine adv_b _ _ k 0 ?_
        have hkl : (x.take k).length = k := by simp; omega
        rw [List.getElem?_append_right (by omega), hkl, Nat.sub_self]
        simp only [zb, List.getElem?_replicate]
        rw [if_pos (by omega)]
      have h3 := k2.setCell (1 + k) (bv d)
      rw [adv_fill 6 x 16 k d hd (by omega)] at h3
      have h4 := k1.other ⟨w.heap.size + 1, 1 + k, none⟩ (bv d) (by simp)
      have h5 : Below w.heap.size w (wr.setCell ⟨w.heap.size + 1, 1 + k, none⟩ (bv d)) := b2.grown (setCell_grown _ _ _ _) b2.size (fun j hj => by injection hj with hj; omega)
      clear k1 k2 hd
      have hki : (k : Int) < 16 := by omega
      go_wp2
      go_roundw
      case rel => exact ⟨k + 1, by omega, by go_num, h3, h4, h5⟩
      case measure => simp [intOf] <;> omega
    · obtain rfl : k = 16 := by omega
      rw [List.take_of_length_le (by omega)] at k2
      clear hs hl
      generalize hXe : adv 6 (x ++ zb 0) = X at *
      have h1c : (X.all fun v => v.oneCell') = true := by rw [← hXe]; exact adv_one _ _
      have k2' : Blk wr (w.heap.size + 1) 24 X := k2
      clear k2
      have HX := Lib.hid hXe
      clear hXe
      go_wp2_with (first
        | (refine wpList_loadBlk (g := w.heap.size + 1) (t := 24) (cs := X) rfl 24 (.tmp 4) ?ho ?hx ?hA _ Tryd.underlying24 rfl ?hi ?_
           case ho => with_reducible rfl
           case hx => rfl
           case hA => exact k2'
           case hi => exact zs)
        | (refine wpList_storeBlk (g := w.heap.size) (t := 24) (cs := X) rfl 24 (.tmp 2) (.tmp 33) ?ho ?hx2 ?hy2 (adv 0 (zb 16)) k1 ?hi ?hs ?h1 ?_
           case ho => with_reducible rfl
           case hx2 => rfl
           case hy2 => rfl
           case hi => exact zs
           case hs => rw [hx16]; rfl
           case h1 => exact h1c
           intro w5 kb hg5
           have b5 : Below w.heap.size w w5 := b2.grown hg5 b2.size (fun k hk => by injection hk with hk; omega)
           clear b2 k1 k2' hg5))
      refine bodyPost_blk2 rfl _ rfl kb Tryd.underlying24 rfl zs rfl ?_
      exact ⟨by rw [HX.out]; rfl, b5⟩

end Go.Proofs.YtccidoigjdbepaaDoor

/- SxA -/
namespace Go.Proofs.YtccidoigjdbepaaDoor
open Go.RowKit
set_option maxRecDepth 100000
set_option linter.unusedSimpArgs false
set_option linter.unusedVariables false

theorem or_pow (k x y : Nat) (hx : x % 2 ^ k = 0) (hy : y < 2 ^ k) : x ||| y = x + y := by
  have h := Nat.two_pow_add_eq_or_of_lt hy (x / 2 ^ k)
  have e : 2 ^ k * (x / 2 ^ k) = x := by have := Nat.div_add_mod x (2 ^ k); omega
  rw [e] at h
  omega
theorem or_k (k x y : Nat) (hx : x % 2 ^ k = 0) (hy : y < 2 ^ k) (h : x + y < 18446744073709551616) : bits .or .u64 (x : Int) (y : Int) = ((x + y : Nat) : Int) := by rw [u64_or_nat _ _ (by omega) (by omega), or_pow k x y hx hy]

/-- An operation that builds a value: its outcome is handed in. -/
theorem wpList_build {P : Program} {w : World} {ops : Array Oper} {rest : List Oper} {o : Oper} {a : Act} {Q : Exit → Act → World → Prop} (hgd : o.guard = none) (ty : TypeId) (fs : Array (Nat × Operand)) (ho : o.op = .build ty fs) (v : Value)
    (hr : ∀ w, (execOp a.eval o).run P w = .ok (.value v) w) (h : wpList P ops Q rest (a.put o.dst v) w) : wpList P ops Q (o :: rest) a w :=
  wpList_plain hgd fun _ hK => by
    unfold Oper.wp
    rw [hr w]
    exact hK _ _ h
theorem list16 (l : List UInt8) (h : l.length = 16) : ∃ b0 b1 b2 b3 b4 b5 b6 b7 b8 b9 b10 b11 b12 b13 b14 b15, l = [b0, b1, b2, b3, b4, b5, b6, b7, b8, b9, b10, b11, b12, b13, b14, b15] := by
  match l, h with
  | [b0, b1, b2, b3, b4, b5, b6, b7, b8, b9, b10, b11, b12, b13, b14, b15], _ => exact ⟨b0, b1, b2, b3, b4, b5, b6, b7, b8, b9, b10, b11, b12, b13, b14, b15, rfl⟩

set_option maxHeartbeats 1000000 in
theorem addrSix_any (l : List UInt8) (hl : l.length = 16) (w : World) :
    Calls Tryd.prog 25 #[av l] w fun e w' => e = .returned (.agg (adv 6 l)) ∧ Below w.heap.size w w' := by
  have hz := (zero_of_info Tryd.zeroAddr).1
  have hne : ¬ adv 0 (zb 16) = #[] := by simp [adv]
  have k0 : Blk ((w.alloc (.cells (l.map bv).toArray 22)).alloc (.cells (adv 0 (zb 16)) 24)) w.heap.size 22 (l.map bv).toArray := (blk_new _ _ _).alloc _
  have k1 : Blk ((w.alloc (.cells (l.map bv).toArray 22)).alloc (.cells (adv 0 (zb 16)) 24)) (w.heap.size + 1) 24 (adv 0 (zb 16)) := blk_new' _ _ _ _ (by simp)
  have hb0 : Below w.heap.size w ((w.alloc (.cells (l.map bv).toArray 22)).alloc (.cells (adv 0 (zb 16)) 24)) := ((Below.refl _ _).alloc (Nat.le_refl _) _).alloc (by simp) _
  have zi : (Tryd.prog.info? 22).map (·.size) = some (l.map bv).toArray.size := by simp only [List.size_toArray, List.length_map, hl]; kernel_rfl
  have zs := Adr_size 6 l hl
  have o1 := adv_one 6 l
  have z17 : (adv 0 (zb 16)).size = (adv 6 l).size := by rw [adv_size 6 l hl]; rfl
  obtain ⟨b0, b1, b2, b3, b4, b5, b6, b7, b8, b9, b10, b11, b12, b13, b14, b15, e16⟩ := list16 l hl
  have HX := Lib.hid (show ([b0, b1, b2, b3, b4, b5, b6, b7, b8, b9, b10, b11, b12, b13, b14, b15].map bv).toArray = (l.map bv).toArray by rw [e16])
  have HY := Lib.hid (show adv 6 [b0, b1, b2, b3, b4, b5, b6, b7, b8, b9, b10, b11, b12, b13, b14, b15] = adv 6 l by rw [e16])
  clear e16
  generalize adv 6 l = Y at *
  have eav : av l = .agg (l.map bv).toArray := rfl
  rw [eav]
  generalize (l.map bv).toArray = X at *
  go_enter Tryd.func25, Tryd.ntmps25
  go_wp2_with (first
    | (refine wpList_loadBlk (g := w.heap.size) (t := 22) (cs := X) rfl 22 (.tmp 1) ?ho ?hx ?hA _ Tryd.underlying22 rfl ?hi ?_
       case ho => with_reducible rfl
       case hx => rfl
       case hA => exact k0
       case hi => exact zi)
    | (refine wpList_build rfl 24 ?fs ?ho (.agg Y) ?hr ?_
       case ho => with_reducible rfl
       case hr =>
         intro W
         have e1 := HX.out
         have e2 := HY.out
         rw [← e1, ← e2]
         change _ = _
         kernel_rfl)
    | (refine wpList_storeBlk (g := w.heap.size + 1) (t := 24) (cs := Y) rfl 24 (.tmp 2) (.tmp 4) ?ho ?hx2 ?hy2 (adv 0 (zb 16)) k1 ?hi ?hs ?h1 ?_
       case ho => with_reducible rfl
       case hx2 => rfl
       case hy2 => rfl
       case hi => exact zs
       case hs => exact z17
       case h1 => exact o1
       intro w5 kb hg5
       have b5 : Below w.heap.size w w5 := hb0.grown hg5 hb0.size (fun k hk => by injection hk with hk; omega)))
  refine bodyPost_blk rfl _ rfl kb Tryd.underlying24 rfl zs rfl ?_
  exact ⟨rfl, b5⟩

/-- The first eight bytes of a head of family 6, as one number. -/
def first6 (C I n P L : Nat) : Nat := 6917529027641081856 + C * 4503599627370496 + I * 4294967296 + n * 65536 + P * 256 + L
theorem first6_or (C I n P L : Nat) (hn : n ≤ 65495) (bC : C < 256) (bI : I < 1048576) (bL : L < 256) (bP : P < 256) :
    bits .or .u64 (bits .or .u64 (bits .or .u64 (bits .or .u64 (bits .or .u64 6917529027641081856 ((C : Int) * 4503599627370496)) ((I : Int) * 4294967296)) ((n : Int) * 65536)) ((P : Int) * 256)) (L : Int) = ((first6 C I n P L : Nat) : Int) := by
  have e1 : bits .or .u64 6917529027641081856 ((C : Int) * 4503599627370496) = ((6917529027641081856 + C * 4503599627370496 : Nat) : Int) := by
    have := or_k 60 6917529027641081856 (C * 4503599627370496) (by omega) (by omega) (by omega)
    simpa using this
  rw [e1, show (I : Int) * 4294967296 = ((I * 4294967296 : Nat) : Int) by omega, or_k 52 _ _ (by omega) (by omega) (by omega),
    show (n : Int) * 65536 = ((n * 65536 : Nat) : Int) by omega, or_k 32 _ _ (by omega) (by omega) (by omega),
    show (P : Int) * 256 = ((P * 256 : Nat) : Int) by omega, or_k 16 _ _ (by omega) (by omega) (by omega), or_k 8 _ _ (by omega) (by omega) (by omega)]
  rfl
theorem first6_lt (C I n P L : Nat) (hn : n ≤ 65495) (bC : C < 256) (bI : I < 1048576) (bL : L < 256) (bP : P < 256) : first6 C I n P L ≤ 18446744073709551615 := by unfold first6; omega
/-- The packet that is put. -/
def pkt6 (C I L P : Nat) (s d body : List UInt8) : List UInt8 := (leBytes (first6 C I body.length P L) 8).reverse ++ (s ++ (d ++ body))
theorem sizeA_6 (l : List UInt8) : sizeA 6 l = 16 := by simp [sizeA, okA]

end Go.Proofs.YtccidoigjdbepaaDoor
