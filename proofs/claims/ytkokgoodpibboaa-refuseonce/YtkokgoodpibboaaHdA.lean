
/- Heads of packets of family 4, read: own words; contracts: ipfour.head. -/
import Derived.Test.YtkokgoodpibboaaAdrF
import Derived.Test.YtkokgoodpibboaaEndC
namespace Go.Proofs.Ytkokgoodpibboaa
open Go.RowKit
set_option maxRecDepth 100000
set_option linter.unusedSimpArgs false
set_option linter.unusedVariables false

/-- No head at all. -/
def zH : Array Value := hdv [0, 0, 0, 0, 0, 0, 0, 0, 0] (adv 0 (zb 16)) (adv 0 (zb 16))
theorem Try.zeroHead : (Try.prog.info? 42).map (fun i => (i.zero, i.size)) = some (some (.agg zH), 43) := by kernel_rfl
theorem zH_size : zH.size = 43 := by rfl
theorem hdv_one (xs : List Int) (v v' : Int) (l l' : List UInt8) : ((hdv xs (adv v l) (adv v' l')).all fun x => x.oneCell') = true := by
  unfold hdv
  rw [List.all_toArray, List.all_eq_true]
  intro x hx
  simp only [List.mem_append, List.mem_map, adv] at hx
  rcases hx with ⟨y, _, rfl⟩ | hx | hx
  · rfl
  · simp at hx; rcases hx with rfl | ⟨y, _, rfl⟩ <;> rfl
  · simp at hx; rcases hx with rfl | ⟨y, _, rfl⟩ <;> rfl
theorem zH_one : (zH.all fun x => x.oneCell') = true := hdv_one _ _ _ _ _
/-- The numbers of the first eight bytes, and of the next four. -/
def n1 (l : List UInt8) : Nat := leNat (l.take 8).reverse
def n2 (l : List UInt8) : Nat := leNat ((l.drop 8).take 4).reverse
def srcL (l : List UInt8) : List UInt8 := (l.drop 12).take 4
def dstL (l : List UInt8) : List UInt8 := (l.drop 16).take 4
def hdN (N1 N2 : Nat) (s d : List UInt8) : Array Value :=
  hdv [((N1 / 1152921504606846976 : Nat) : Int), ((N1 / 72057594037927936 % 16 * 4 : Nat) : Int), ((N1 / 4294967296 % 65536 : Nat) : Int), ((N1 / 281474976710656 % 256 : Nat) : Int), ((N1 / 65536 % 65536 : Nat) : Int), ((N1 / 8192 % 8 : Nat) : Int), ((N1 % 8192 : Nat) : Int), ((N2 / 16777216 : Nat) : Int), ((N2 / 65536 % 256 : Nat) : Int)] (adv 4 (s ++ zb 12)) (adv 4 (d ++ zb 12))
/-- The head that bytes say. -/
def hdL (l : List UInt8) : Array Value := hdN (n1 l) (n2 l) (srcL l) (dstL l)

theorem and_mask (k : Nat) (hk : k ≤ 32) (x : Nat) (h : x < 18446744073709551616) : bits BinOp.and IntKind.u64 (x : Int) ((2 ^ k - 1 : Nat) : Int) = ((x % 2 ^ k : Nat) : Int) := by
  have hp : 2 ^ k ≤ 2 ^ 32 := Nat.pow_le_pow_right (by omega) hk
  rw [u64_and_nat _ _ (by omega) (by omega), Nat.and_two_pow_sub_one_eq_mod x k]
theorem wrap_id (x : Nat) (h : x < 9223372036854775808) : IntKind.i64.wrap (x : Int) = (x : Int) := by rw [IntKind.wrap_i64]; omega

/-- A whole value, stored: one step of a region that draws its order. -/
theorem step_storeBlk {P : Program} {w : World} {g : Nat} {t : TypeId} {cs : Array Value} {ops : Array Oper} {o : Oper} {a : Act} {K : Act → World → Prop} {Q : Exit → Act → World → Prop} {E : Prop} (hgd : o.guard = none) (ty : TypeId) (x y : Operand) (ho : o.op = .store ty x y)
    (hx : a.eval x = .pointer (some ⟨g, 0, none⟩)) (hy : a.eval y = .agg cs) (old : Array Value) (hA : Blk w g t old) (hi : (P.info? ty).map (·.size) = some cs.size)
    (hs : old.size = cs.size) (h1 : cs.all (·.oneCell') = true)
    (h : ∀ w', Blk w' g t cs → w.grownBy w' (some g) → K (a.put o.dst undef) w') : if Region.wanted o (yielded ops a.tmps) = true then Oper.wp P o a w K Q else E := by
  have hw : Region.wanted o (yielded ops a.tmps) = true := by simp [Region.wanted, hgd]
  rw [if_pos hw]
  exact wp_store_row ty x y ho g cs hx hy t old hA hi hs h1 (by obtain ⟨h2, h3⟩ := setRow_grown w g t old cs hA; exact h _ h2 h3)

theorem Shows.range {w : World} {B b off n : Nat} {l : List UInt8} (h : Shows w B (some ⟨b, off, none⟩) n l) : w.rangeAt b off (l.map bv) := by
  intro j v hv
  simp at hv
  obtain ⟨y, hy, rfl⟩ := hv
  obtain ⟨hj, rfl⟩ := List.getElem?_eq_some_iff.1 hy
  obtain ⟨b', off', e, _, hc⟩ := h.2 (by have := h.len; omega)
  injection e with e
  injection e with e1 e2
  subst e1
  subst e2
  exact hc j hj
theorem run_s2a {P : Program} (w : World) (arr e : TypeId) (n : Nat) (ad : Addr) (len c : Nat) (hu : P.underlying arr = some (.array n e)) (hn : n ≤ len) : (Instr.arrayAt arr (.slice (some ad) len c)).run P w = .ok (.pointer (some ad)) w := by
  have hn' : ¬ len < n := by omega
  first
    | simp [Instr.arrayAt, run_underlying hu, hn']
    | simp [Instr.arrayAt, run_underlying hu, hn]
    | (unfold Instr.arrayAt; simp [run_underlying hu, hn', hn])
theorem list_four (l : List UInt8) (h : l.length = 4) : ∃ a b c d, l = [a, b, c, d] := by
  match l, h with
  | [a, b, c, d], _ => exact ⟨a, b, c, d, rfl⟩

set_option maxHeartbeats 4000000 in
set_option maxRecDepth 100000 in
theorem head_any (b off n c : Nat) (l : List UInt8) (w : World) (h20 : 20 ≤ n) (hc : n ≤ c) (hcm : c ≤ maxLen) (hs : Shows w w.heap.size (some ⟨b, off, none⟩) n l) :
    Calls Try.prog 76 #[.slice (some ⟨b, off, none⟩) n c] w fun e w' => e = .returned (.agg (hdL l)) ∧ Below w.heap.size w w' := by
  have hz := (zero_of_info Try.zeroHead).1
  have hne : ¬ zH = #[] := by intro h; have := zH_size; rw [h] at this; cases this
  have hc20 : 20 ≤ c := by omega
  have hl := hs.len
  have k0 : Blk (w.alloc (.cells zH 42)) w.heap.size 42 zH := blk_new _ _ _
  have hb0 : Below w.heap.size w (w.alloc (.cells zH 42)) := (Below.refl _ _).alloc (Nat.le_refl _) _
  have s0 := (hs.below hb0).up hb0.size
  have s1 : Shows (w.alloc (.cells zH 42)) (w.alloc (.cells zH 42)).heap.size (some ⟨b, off, none⟩) 8 (l.take 8) := by simpa using s0.piece 0 8 (by omega)
  have s2 := s0.piece 8 4 (by omega)
  have r3 := hs.piece 12 4 (by omega)
  have r4 := hs.piece 16 4 (by omega)
  have l3 := r3.len
  have l4 := r4.len
  have i16 : (16 : Int) ≤ (c : Int) := by omega
  have i20 : (20 : Int) ≤ (c : Int) := by omega
  have nc12 : ¬ c = 12 := by omega
  have nc16 : ¬ c = 16 := by omega
  have HO1 := Lib.hid (ofBig_any (some ⟨b, off, none⟩) 8 c (l.take 8) _ (by omega) (by omega) s1)
  have HO2 := Lib.hid (ofBig_any (some ⟨b, off + 8, none⟩) 4 (c - 8) ((l.drop 8).take 4) _ (by omega) (by omega) s2)
  have b1 : n1 l < 18446744073709551616 := by have := leNat_lt (l.take 8).reverse; simp [hl, Nat.min_eq_left (show 8 ≤ n by omega)] at this; exact this
  have b2 : n2 l < 4294967296 := by have := leNat_lt ((l.drop 8).take 4).reverse; rw [List.length_reverse, s2.len] at this; exact this
  have HL := Lib.hid (show hdL l = hdN (n1 l) (n2 l) (srcL l) (dstL l) from rfl)
  rw [show leNat (l.take 8).reverse = n1 l from rfl] at HO1
  rw [show leNat ((l.drop 8).take 4).reverse = n2 l from rfl] at HO2
  rw [show (l.drop 12).take 4 = srcL l from rfl] at r3 l3
  rw [show (l.drop 16).take 4 = dstL l from rfl] at r4 l4
  generalize n1 l = N1 at *
  generalize n2 l = N2 at *
  generalize srcL l = S4 at *
  generalize dstL l = D4 at *
  have HR3 := Lib.hid (fun W (hW : Below w.heap.size w W) => (r3.below hW).range)
  have HR4 := Lib.hid (fun W (hW : Below w.heap.size w W) => (r4.below hW).range)
  have e0 : (N1 : Int) / 1152921504606846976 = ((N1 / 1152921504606846976 : Nat) : Int) := by omega
  have e1 : bits BinOp.and IntKind.u64 ((N1 : Int) / 72057594037927936) 15 = ((N1 / 72057594037927936 % 16 : Nat) : Int) := by
    have := and_mask 4 (by omega) (N1 / 72057594037927936) (by omega)
    simpa using this
  have e2 : bits BinOp.and IntKind.u64 ((N1 : Int) / 281474976710656) 255 = ((N1 / 281474976710656 % 256 : Nat) : Int) := by
    have := and_mask 8 (by omega) (N1 / 281474976710656) (by omega)
    simpa using this
  have e3 : bits BinOp.and IntKind.u64 ((N1 : Int) / 4294967296) 65535 = ((N1 / 4294967296 % 65536 : Nat) : Int) := by
    have := and_mask 16 (by omega) (N1 / 4294967296) (by omega)
    simpa using this
  have e4 : bits BinOp.and IntKind.u64 ((N1 : Int) / 65536) 65535 = ((N1 / 65536 % 65536 : Nat) : Int) := by
    have := and_mask 16 (by omega) (N1 / 65536) (by omega)
    simpa using this
  have e5 : bits BinOp.and IntKind.u64 ((N1 : Int) / 8192) 7 = ((N1 / 8192 % 8 : Nat) : Int) := by
    have := and_mask 3 (by omega) (N1 / 8192) (by omega)
    simpa using this
  have e6 : bits BinOp.and IntKind.u64 (N1 : Int) 8191 = ((N1 % 8192 : Nat) : Int) := by
    have := and_mask 13 (by omega) (N1) (by omega)
    simpa using this
  have e7 : bits BinOp.and IntKind.u64 ((N2 : Int) / 65536) 255 = ((N2 / 65536 % 256 : Nat) : Int) := by
    have := and_mask 8 (by omega) (N2 / 65536) (by omega)
    simpa using this
  have e8 : (N2 : Int) / 16777216 = ((N2 / 16777216 : Nat) : Int) := by omega
  have HH := Lib.hid (show hdN N1 N2 S4 D4 = hdv [((N1 / 1152921504606846976 : Nat) : Int), ((N1 / 72057594037927936 % 16 * 4 : Nat) : Int), ((N1 / 4294967296 % 65536 : Nat) : Int), ((N1 / 281474976710656 % 256 : Nat) : Int), ((N1 / 65536 % 65536 : Nat) : Int), ((N1 / 8192 % 8 : Nat) : Int), ((N1 % 8192 : Nat) : Int), ((N2 / 16777216 : Nat) : Int), ((N2 / 65536 % 256 : Nat) : Int)] (adv 4 (S4 ++ zb 12)) (adv 4 (D4 ++ zb 12)) from rfl)
  have lV : N1 / 1152921504606846976 ≤ 15 := by omega
  have lS0 : N1 / 72057594037927936 % 16 ≤ 15 := by omega
  have lT : N1 / 4294967296 % 65536 ≤ 65535 := by omega
  have lC : N1 / 281474976710656 % 256 ≤ 255 := by omega
  have lI : N1 / 65536 % 65536 ≤ 65535 := by omega
  have lF : N1 / 8192 % 8 ≤ 7 := by omega
  have lG : N1 % 8192 ≤ 8191 := by omega
  have lL : N2 / 16777216 ≤ 255 := by omega
  have lP : N2 / 65536 % 256 ≤ 255 := by omega
  have wV := wrap_id (N1 / 1152921504606846976) (by omega)
  have wS0 := wrap_id (N1 / 72057594037927936 % 16) (by omega)
  have wT := wrap_id (N1 / 4294967296 % 65536) (by omega)
  have wC := wrap_id (N1 / 281474976710656 % 256) (by omega)
  have wI := wrap_id (N1 / 65536 % 65536) (by omega)
  have wF := wrap_id (N1 / 8192 % 8) (by omega)
  have wG := wrap_id (N1 % 8192) (by omega)
  have wL := wrap_id (N2 / 16777216) (by omega)
  have wP := wrap_id (N2 / 65536 % 256) (by omega)
  have wS1 : IntKind.i64.wrap (((N1 / 72057594037927936 % 16 : Nat) : Int) * 4) = (((N1 / 72057594037927936 % 16) * 4 : Nat) : Int) := by rw [IntKind.wrap_i64]; omega
  generalize N1 / 1152921504606846976 = V at *
  generalize N1 / 72057594037927936 % 16 = S0 at *
  generalize N1 / 4294967296 % 65536 = T at *
  generalize N1 / 281474976710656 % 256 = C at *
  generalize N1 / 65536 % 65536 = I at *
  generalize N1 / 8192 % 8 = F at *
  generalize N1 % 8192 = G at *
  generalize N2 / 16777216 = L at *
  generalize N2 / 65536 % 256 = P at *
  have lS1 : S0 * 4 ≤ 60 := by omega
  generalize S0 * 4 = S1 at *
  obtain ⟨x0, x1, x2, x3, rfl⟩ := list_four S4 l3
  obtain ⟨y0, y1, y2, y3, rfl⟩ := list_four D4 l4
  have HF1 := Lib.hid (fun W => four_any [x0, x1, x2, x3] rfl W)
  have HF2 := Lib.hid (fun W => four_any [y0, y1, y2, y3] rfl W)
  clear s0 s1 s2 r3 r4 l3 l4 hs hl b1 b2
  go_enter Try.func76, Try.ntmps76
  go_wp2_with fail
  refine HO1.out.mono ?_
  rintro e w' ⟨rfl, rfl⟩
  go_wp2_with fail
  refine HO2.out.mono ?_
  rintro e w' ⟨rfl, rfl⟩
  clear HO1 HO2
  go_wp2_with fail
  generalize w.alloc (.cells zH 42) = W1 at *
  have p1 : Below W1.heap.size W1 W1.drew := (Below.refl _ _).drew
  have q1 : Below w.heap.size w W1.drew := hb0.drew
  refine wp_region_held_drew (S := fun W => Below w.heap.size w W) (by kernel_rfl) q1 ?_
  intro hS
  refine wpAnyH_take (i := 0) (oi := ?o1) (v := ?vo1) ?hio1 (by kernel_rfl) (by kernel_rfl) (by kernel_rfl) ?hQo1 ?hyo1 hS ?_
  case hio1 => (simp only [List.getElem?_toArray, List.getElem?_cons_succ, List.getElem?_cons_zero]; rfl)
  case hQo1 => exact fun _ _ _ h => h
  case hyo1 =>
    refine Or.inl ⟨by rfl, ?_⟩
    intro W hW
    go_simp
    first | done | with_reducible rfl
  try simp only [Act.put, List.setIfInBounds_toArray, List.set_cons_zero, List.set_cons_succ]
  refine wpAnyH_take (i := 1) (oi := ?o2) (v := ?vo2) ?hio2 (by kernel_rfl) (by kernel_rfl) (by kernel_rfl) ?hQo2 ?hyo2 hS ?_
  case hio2 => (simp only [List.getElem?_toArray, List.getElem?_cons_succ, List.getElem?_cons_zero]; rfl)
  case hQo2 => exact fun _ _ _ h => h
  case hyo2 =>
    refine Or.inl ⟨by rfl, ?_⟩
    intro W hW
    go_simp
    first | done | with_reducible rfl
  try simp only [Act.put, List.setIfInBounds_toArray, List.set_cons_zero, List.set_cons_succ]
  refine wpAnyH_take (i := 2) (oi := ?o3) (v := ?vo3) ?hio3 (by kernel_rfl) (by kernel_rfl) (by kernel_rfl) ?hQo3 ?hyo3 hS ?_
  case hio3 => (simp only [List.getElem?_toArray, List.getElem?_cons_succ, List.getElem?_cons_zero]; rfl)
  case hQo3 => exact fun _ _ _ h => h
  case hyo3 =>
    refine Or.inl ⟨by rfl, ?_⟩
    intro W hW
    go_simp
    first | done | with_reducible rfl
  try simp only [Act.put, List.setIfInBounds_toArray, List.set_cons_zero, List.set_cons_succ]
  refine wpAnyH_take (i := 3) (oi := ?o4) (v := ?vo4) ?hio4 (by kernel_rfl) (by kernel_rfl) (by kernel_rfl) ?hQo4 ?hyo4 hS ?_
  case hio4 => (simp only [List.getElem?_toArray, List.getElem?_cons_succ, List.getElem?_cons_zero]; rfl)
  case hQo4 => exact fun _ _ _ h => h
  case hyo4 =>
    refine Or.inl ⟨by rfl, ?_⟩
    intro W hW
    go_simp
    first | done | with_reducible rfl
  try simp only [Act.put, List.setIfInBounds_toArray, List.set_cons_zero, List.set_cons_succ]
  refine wpAnyH_take (i := 4) (oi := ?o5) (v := ?vo5) ?hio5 (by kernel_rfl) (by kernel_rfl) (by kernel_rfl) ?hQo5 ?hyo5 hS ?_
  case hio5 => (simp only [List.getElem?_toArray, List.getElem?_cons_succ, List.getElem?_cons_zero]; rfl)
  case hQo5 => exact fun _ _ _ h => h
  case hyo5 =>
    refine Or.inl ⟨by rfl, ?_⟩
    intro W hW
    go_simp
    first | done | with_reducible rfl
  try simp only [Act.put, List.setIfInBounds_toArray, List.set_cons_zero, List.set_cons_succ]
  refine wpAnyH_take (i := 5) (oi := ?o6) (v := ?vo6) ?hio6 (by kernel_rfl) (by kernel_rfl) (by kernel_rfl) ?hQo6 ?hyo6 hS ?_
  case hio6 => (simp only [List.getElem?_toArray, List.getElem?_cons_succ, List.getElem?_cons_zero]; rfl)
  case hQo6 => exact fun _ _ _ h => h
  case hyo6 =>
    refine Or.inl ⟨by rfl, ?_⟩
    intro W hW
    go_simp
    first | done | with_reducible rfl
  try simp only [Act.put, List.setIfInBounds_toArray, List.set_cons_zero, List.set_cons_succ]
  refine wpAnyH_take (i := 6) (oi := ?o7) (v := ?vo7) ?hio7 (by kernel_rfl) (by kernel_rfl) (by kernel_rfl) ?hQo7 ?hyo7 hS ?_
  case hio7 => (simp only [List.getElem?_toArray, List.getElem?_cons_succ, List.getElem?_cons_zero]; rfl)
  case hQo7 => exact fun _ _ _ h => h
  case hyo7 =>
    refine Or.inl ⟨by rfl, ?_⟩
    intro W hW
    go_simp
    first | done | with_reducible rfl
  try simp only [Act.put, List.setIfInBounds_toArray, List.set_cons_zero, List.set_cons_succ]
  refine wpAnyH_take (i := 7) (oi := ?o8) (v := ?vo8) ?hio8 (by kernel_rfl) (by kernel_rfl) (by kernel_rfl) ?hQo8 ?hyo8 hS ?_
  case hio8 => (simp only [List.getElem?_toArray, List.getElem?_cons_succ, List.getElem?_cons_zero]; rfl)
  case hQo8 => exact fun _ _ _ h => h
  case hyo8 =>
    refine Or.inl ⟨by rfl, ?_⟩
    intro W hW
    go_simp
    first | done | with_reducible rfl
  try simp only [Act.put, List.setIfInBounds_toArray, List.set_cons_zero, List.set_cons_succ]
  refine wpAnyH_take (i := 8) (oi := ?o9) (v := ?vo9) ?hio9 (by kernel_rfl) (by kernel_rfl) (by kernel_rfl) ?hQo9 ?hyo9 hS ?_
  case hio9 => (simp only [List.getElem?_toArray, List.getElem?_cons_succ, List.getElem?_cons_zero]; rfl)
  case hQo9 => exact fun _ _ _ h => h
  case hyo9 =>
    refine Or.inl ⟨by rfl, ?_⟩
    intro W hW
    go_simp
    first | done | with_reducible rfl
  try simp only [Act.put, List.setIfInBounds_toArray, List.set_cons_zero, List.set_cons_succ]
  refine wpAnyH_take (i := 9) (oi := ?o10) (v := ?vo10) ?hio10 (by kernel_rfl) (by kernel_rfl) (by kernel_rfl) ?hQo10 ?hyo10 hS ?_
  case hio10 => (simp only [List.getElem?_toArray, List.getElem?_cons_succ, List.getElem?_cons_zero]; rfl)
  case hQo10 => exact fun _ _ _ h => h
  case hyo10 =>
    refine Or.inl ⟨by rfl, ?_⟩
    intro W hW
    go_simp
    first | done | with_reducible rfl
  try simp only [Act.put, List.setIfInBounds_toArray, List.set_cons_zero, List.set_cons_succ]
  refine wpAnyH_take (i := 10) (oi := ?o11) (v := ?vo11) ?hio11 (by kernel_rfl) (by kernel_rfl) (by kernel_rfl) ?hQo11 ?hyo11 hS ?_
  case hio11 => (simp only [List.getElem?_toArray, List.getElem?_cons_succ, List.getElem?_cons_zero]; rfl)
  case hQo11 => exact fun _ _ _ h => h
  case hyo11 =>
    refine Or.inl ⟨by rfl, ?_⟩
    intro W hW
    go_simp
    first | done | with_reducible rfl
  try simp only [Act.put, List.setIfInBounds_toArray, List.set_cons_zero, List.set_cons_succ]
  refine wpAnyH_take (i := 11) (oi := ?o12) (v := ?vo12) ?hio12 (by kernel_rfl) (by kernel_rfl) (by kernel_rfl) ?hQo12 ?hyo12 hS ?_
  case hio12 => (simp only [List.getElem?_toArray, List.getElem?_cons_succ, List.getElem?_cons_zero]; rfl)
  case hQo12 => exact fun _ _ _ h => h
  case hyo12 =>
    refine Or.inl ⟨by rfl, ?_⟩
    intro W hW
    go_simp
    first | done | with_reducible rfl
  try simp only [Act.put, List.setIfInBounds_toArray, List.set_cons_zero, List.set_cons_succ]
  refine wpAnyH_take (i := 12) (oi := ?o13) (v := ?vo13) ?hio13 (by kernel_rfl) (by kernel_rfl) (by kernel_rfl) ?hQo13 ?hyo13 hS ?_
  case hio13 => (simp only [List.getElem?_toArray, List.getElem?_cons_succ, List.getElem?_cons_zero]; rfl)
  case hQo13 => exact fun _ _ _ h => h
  case hyo13 =>
    refine Or.inl ⟨by rfl, ?_⟩
    intro W hW
    go_simp
    first | done | with_reducible rfl
  try simp only [Act.put, List.setIfInBounds_toArray, List.set_cons_zero, List.set_cons_succ]
  refine wpAnyH_take (i := 13) (oi := ?o14) (v := ?vo14) ?hio14 (by kernel_rfl) (by kernel_rfl) (by kernel_rfl) ?hQo14 ?hyo14 hS ?_
  case hio14 => (simp only [List.getElem?_toArray, List.getElem?_cons_succ, List.getElem?_cons_zero]; rfl)
  case hQo14 => exact fun _ _ _ h => h
  case hyo14 =>
    refine Or.inl ⟨by rfl, ?_⟩
    intro W hW
    go_simp
    first | done | with_reducible rfl
  try simp only [Act.put, List.setIfInBounds_toArray, List.set_cons_zero, List.set_cons_succ]
  refine wpAnyH_take (i := 14) (oi := ?o15) (v := ?vo15) ?hio15 (by kernel_rfl) (by kernel_rfl) (by kernel_rfl) ?hQo15 ?hyo15 hS ?_
  case hio15 => (simp only [List.getElem?_toArray, List.getElem?_cons_succ, List.getElem?_cons_zero]; rfl)
  case hQo15 => exact fun _ _ _ h => h
  case hyo15 =>
    refine Or.inl ⟨by rfl, ?_⟩
    intro W hW
    go_simp
    first | done | with_reducible rfl
  try simp only [Act.put, List.setIfInBounds_toArray, List.set_cons_zero, List.set_cons_succ]
  refine wpAnyH_take (i := 15) (oi := ?o16) (v := ?vo16) ?hio16 (by kernel_rfl) (by kernel_rfl) (by kernel_rfl) ?hQo16 ?hyo16 hS ?_
  case hio16 => (simp only [List.getElem?_toArray, List.getElem?_cons_succ, List.getElem?_cons_zero]; rfl)
  case hQo16 => exact fun _ _ _ h => h
  case hyo16 =>
    refine Or.inl ⟨by rfl, ?_⟩
    intro W hW
    go_simp
    first | done | with_reducible rfl
  try simp only [Act.put, List.setIfInBounds_toArray, List.set_cons_zero, List.set_cons_succ]
  refine wpAnyH_take (i := 16) (oi := ?o17) (v := ?vo17) ?hio17 (by kernel_rfl) (by kernel_rfl) (by kernel_rfl) ?hQo17 ?hyo17 hS ?_
  case hio17 => (simp only [List.getElem?_toArray, List.getElem?_cons_succ, List.getElem?_cons_zero]; rfl)
  case hQo17 => exact fun _ _ _ h => h
  case hyo17 =>
    refine Or.inl ⟨by rfl, ?_⟩
    intro W hW
    go_simp
    first | done | with_reducible rfl
  try simp only [Act.put, List.setIfInBounds_toArray, List.set_cons_zero, List.set_cons_succ]
  refine wpAnyH_take (i := 17) (oi := ?o18) (v := ?vo18) ?hio18 (by kernel_rfl) (by kernel_rfl) (by kernel_rfl) ?hQo18 ?hyo18 hS ?_
  case hio18 => (simp only [List.getElem?_toArray, List.getElem?_cons_succ, List.getElem?_cons_zero]; rfl)
  case hQo18 => exact fun _ _ _ h => h
  case hyo18 =>
    refine Or.inl ⟨by rfl, ?_⟩
    intro W hW
    go_simp
    first | done | with_reducible rfl
  try simp only [Act.put, List.setIfInBounds_toArray, List.set_cons_zero, List.set_cons_succ]
  refine wpAnyH_take (i := 18) (oi := ?o19) (v := ?vo19) ?hio19 (by kernel_rfl) (by kernel_rfl) (by kernel_rfl) ?hQo19 ?hyo19 hS ?_
  case hio19 => (simp only [List.getElem?_toArray, List.getElem?_cons_succ, List.getElem?_cons_zero]; rfl)
  case hQo19 => exact fun _ _ _ h => h
  case hyo19 =>
    refine Or.inl ⟨by rfl, ?_⟩
    intro W hW
    go_simp
    first | done | with_reducible rfl
  try simp only [Act.put, List.setIfInBounds_toArray, List.set_cons_zero, List.set_cons_succ]
  refine wpAnyH_take (i := 19) (oi := ?o20) (v := ?vo20) ?hio20 (by kernel_rfl) (by kernel_rfl) (by kernel_rfl) ?hQo20 ?hyo20 hS ?_
  case hio20 => (simp only [List.getElem?_toArray, List.getElem?_cons_succ, List.getElem?_cons_zero]; rfl)
  case hQo20 => exact fun _ _ _ h => h
  case hyo20 =>
    refine Or.inl ⟨by rfl, ?_⟩
    intro W hW
    go_simp
    first | done | with_reducible rfl
  try simp only [Act.put, List.setIfInBounds_toArray, List.set_cons_zero, List.set_cons_succ]
  refine wpAnyH_take (i := 20) (oi := ?o21) (v := ?vo21) ?hio21 (by kernel_rfl) (by kernel_rfl) (by kernel_rfl) ?hQo21 ?hyo21 hS ?_
  case hio21 => (simp only [List.getElem?_toArray, List.getElem?_cons_succ, List.getElem?_cons_zero]; rfl)
  case hQo21 => exact fun _ _ _ h => h
  case hyo21 =>
    refine Or.inl ⟨by rfl, ?_⟩
    intro W hW
    go_simp
    first | done | with_reducible rfl
  try simp only [Act.put, List.setIfInBounds_toArray, List.set_cons_zero, List.set_cons_succ]
  refine wpAnyH_take (i := 21) (oi := ?o22) (v := ?vo22) ?hio22 (by kernel_rfl) (by kernel_rfl) (by kernel_rfl) ?hQo22 ?hyo22 hS ?_
  case hio22 => (simp only [List.getElem?_toArray, List.getElem?_cons_succ, List.getElem?_cons_zero]; rfl)
  case hQo22 => exact fun _ _ _ h => h
  case hyo22 =>
    refine Or.inl ⟨by rfl, ?_⟩
    intro W hW
    go_simp
    first | done | with_reducible rfl
  try simp only [Act.put, List.setIfInBounds_toArray, List.set_cons_zero, List.set_cons_succ]
  refine wpAnyH_take (i := 22) (oi := ?o23) (v := ?vo23) ?hio23 (by kernel_rfl) (by kernel_rfl) (by kernel_rfl) ?hQo23 ?hyo23 hS ?_
  case hio23 => (simp only [List.getElem?_toArray, List.getElem?_cons_succ, List.getElem?_cons_zero]; rfl)
  case hQo23 => exact fun _ _ _ h => h
  case hyo23 =>
    refine Or.inl ⟨by rfl, ?_⟩
    intro W hW
    go_simp
    first | done | with_reducible rfl
  try simp only [Act.put, List.setIfInBounds_toArray, List.set_cons_zero, List.set_cons_succ]
  refine wpAnyH_take (i := 23) (oi := ?o24) (v := ?vo24) ?hio24 (by kernel_rfl) (by kernel_rfl) (by kernel_rfl) ?hQo24 ?hyo24 hS ?_
  case hio24 => (simp only [List.getElem?_toArray, List.getElem?_cons_succ, List.getElem?_cons_zero]; rfl)
  case hQo24 => exact fun _ _ _ h => h
  case hyo24 =>
    refine Or.inl ⟨by rfl, ?_⟩
    intro W hW
    go_simp
    first | done | with_reducible rfl
  try simp only [Act.put, List.setIfInBounds_toArray, List.set_cons_zero, List.set_cons_succ]
  refine wpAnyH_take (i := 24) (oi := ?o25) (v := ?vo25) ?hio25 (by kernel_rfl) (by kernel_rfl) (by kernel_rfl) ?hQo25 ?hyo25 hS ?_
  case hio25 => (simp only [List.getElem?_toArray, List.getElem?_cons_succ, List.getElem?_cons_zero]; rfl)
  case hQo25 => exact fun _ _ _ h => h
  case hyo25 =>
    refine Or.inl ⟨by rfl, ?_⟩
    intro W hW
    go_simp
    first | done | with_reducible rfl
  try simp only [Act.put, List.setIfInBounds_toArray, List.set_cons_zero, List.set_cons_succ]
  refine wpAnyH_take (i := 25) (oi := ?o26) (v := ?vo26) ?hio26 (by kernel_rfl) (by kernel_rfl) (by kernel_rfl) ?hQo26 ?hyo26 hS ?_
  case hio26 => (simp only [List.getElem?_toArray, List.getElem?_cons_succ, List.getElem?_cons_zero]; rfl)
  case hQo26 => exact fun _ _ _ h => h
  case hyo26 =>
    refine Or.inl ⟨by rfl, ?_⟩
    intro W hW
    go_simp
    first | done | with_reducible rfl
  try simp only [Act.put, List.setIfInBounds_toArray, List.set_cons_zero, List.set_cons_succ]
  refine wpAnyH_take (i := 26) (oi := ?o27) (v := ?vo27) ?hio27 (by kernel_rfl) (by kernel_rfl) (by kernel_rfl) ?hQo27 ?hyo27 hS ?_
  case hio27 => (simp only [List.getElem?_toArray, List.getElem?_cons_succ, List.getElem?_cons_zero]; rfl)
  case hQo27 => exact fun _ _ _ h => h
  case hyo27 =>
    refine Or.inl ⟨by rfl, ?_⟩
    intro W hW
    go_simp
    first | done | with_reducible rfl
  try simp only [Act.put, List.setIfInBounds_toArray, List.set_cons_zero, List.set_cons_succ]
  refine wpAnyH_take (i := 27) (oi := ?o28) (v := ?vo28) ?hio28 (by kernel_rfl) (by kernel_rfl) (by kernel_rfl) ?hQo28 ?hyo28 hS ?_
  case hio28 => (simp only [List.getElem?_toArray, List.getElem?_cons_succ, List.getElem?_cons_zero]; rfl)
  case hQo28 => exact fun _ _ _ h => h
  case hyo28 =>
    refine Or.inl ⟨by rfl, ?_⟩
    intro W hW
    go_simp
    first | done | with_reducible rfl
  try simp only [Act.put, List.setIfInBounds_toArray, List.set_cons_zero, List.set_cons_succ]
  refine wpAnyH_take (i := 28) (oi := ?o29) (v := ?vo29) ?hio29 (by kernel_rfl) (by kernel_rfl) (by kernel_rfl) ?hQo29 ?hyo29 hS ?_
  case hio29 => (simp only [List.getElem?_toArray, List.getElem?_cons_succ, List.getElem?_cons_zero]; rfl)
  case hQo29 => exact fun _ _ _ h => h
  case hyo29 =>
    refine Or.inl ⟨by rfl, ?_⟩
    intro W hW
    go_simp
    first | done | with_reducible rfl
  try simp only [Act.put, List.setIfInBounds_toArray, List.set_cons_zero, List.set_cons_succ]
  refine wpAnyH_take (i := 29) (oi := ?o30) (v := ?vo30) ?hio30 (by kernel_rfl) (by kernel_rfl) (by kernel_rfl) ?hQo30 ?hyo30 hS ?_
  case hio30 => (simp only [List.getElem?_toArray, List.getElem?_cons_succ, List.getElem?_cons_zero]; rfl)
  case hQo30 => exact fun _ _ _ h => h
  case hyo30 =>
    refine Or.inl ⟨by rfl, ?_⟩
    intro W hW
    go_simp
    first | done | with_reducible rfl
  try simp only [Act.put, List.setIfInBounds_toArray, List.set_cons_zero, List.set_cons_succ]
  refine wpAnyH_take (i := 30) (oi := ?o31) (v := ?vo31) ?hio31 (by kernel_rfl) (by kernel_rfl) (by kernel_rfl) ?hQo31 ?hyo31 hS ?_
  case hio31 => (simp only [List.getElem?_toArray, List.getElem?_cons_succ, List.getElem?_cons_zero]; rfl)
  case hQo31 => exact fun _ _ _ h => h
  case hyo31 =>
    refine Or.inl ⟨by rfl, ?_⟩
    intro W hW
    go_simp
    first | done | with_reducible rfl
  try simp only [Act.put, List.setIfInBounds_toArray, List.set_cons_zero, List.set_cons_succ]
  refine wpAnyH_take (i := 31) (oi := ?o32) (v := ?vo32) ?hio32 (by kernel_rfl) (by kernel_rfl) (by kernel_rfl) ?hQo32 ?hyo32 hS ?_
  case hio32 => (simp only [List.getElem?_toArray, List.getElem?_cons_succ, List.getElem?_cons_zero]; rfl)
  case hQo32 => exact fun _ _ _ h => h
  case hyo32 =>
    refine Or.inl ⟨by rfl, ?_⟩
    intro W hW
    go_simp
    first | done | with_reducible rfl
  try simp only [Act.put, List.setIfInBounds_toArray, List.set_cons_zero, List.set_cons_succ]
  refine wpAnyH_take (i := 32) (oi := ?o33) (v := ?vo33) ?hio33 (by kernel_rfl) (by kernel_rfl) (by kernel_rfl) ?hQo33 ?hyo33 hS ?_
  case hio33 => (simp only [List.getElem?_toArray, List.getElem?_cons_succ, List.getElem?_cons_zero]; rfl)
  case hQo33 => exact fun _ _ _ h => h
  case hyo33 =>
    refine Or.inl ⟨by rfl, ?_⟩
    intro W hW
    go_simp
    first | done | with_reducible rfl
  try simp only [Act.put, List.setIfInBounds_toArray, List.set_cons_zero, List.set_cons_succ]
  refine wpAnyH_take (i := 33) (oi := ?o34) (v := ?vo34) ?hio34 (by kernel_rfl) (by kernel_rfl) (by kernel_rfl) ?hQo34 ?hyo34 hS ?_
  case hio34 => (simp only [List.getElem?_toArray, List.getElem?_cons_succ, List.getElem?_cons_zero]; rfl)
  case hQo34 => exact fun _ _ _ h => h
  case hyo34 =>
    refine Or.inl ⟨by rfl, ?_⟩
    intro W hW
    go_simp
    first | done | with_reducible rfl
  try simp only [Act.put, List.setIfInBounds_toArray, List.set_cons_zero, List.set_cons_succ]
  refine wpAnyH_take (i := 34) (oi := ?o35) (v := ?vo35) ?hio35 (by kernel_rfl) (by kernel_rfl) (by kernel_rfl) ?hQo35 ?hyo35 hS ?_
  case hio35 => (simp only [List.getElem?_toArray, List.getElem?_cons_succ, List.getElem?_cons_zero]; rfl)
  case hQo35 => exact fun _ _ _ h => h
  case hyo35 =>
    refine Or.inl ⟨by rfl, ?_⟩
    intro W hW
    go_simp
    first | done | with_reducible rfl
  try simp only [Act.put, List.setIfInBounds_toArray, List.set_cons_zero, List.set_cons_succ]
  refine wpAnyH_take (i := 35) (oi := ?o36) (v := ?vo36) ?hio36 (by kernel_rfl) (by kernel_rfl) (by kernel_rfl) ?hQo36 ?hyo36 hS ?_
  case hio36 => (simp only [List.getElem?_toArray, List.getElem?_cons_succ, List.getElem?_cons_zero]; rfl)
  case hQo36 => exact fun _ _ _ h => h
  case hyo36 =>
    refine Or.inl ⟨by rfl, ?_⟩
    intro W hW
    go_simp
    first | done | with_reducible rfl
  try simp only [Act.put, List.setIfInBounds_toArray, List.set_cons_zero, List.set_cons_succ]
  refine wpAnyH_take (i := 36) (oi := ?o37) (v := .pointer (some ⟨b, off + 12, none⟩)) ?hio37 (by kernel_rfl) (by kernel_rfl) (by kernel_rfl) ?hQo37 ?hyo37 hS ?_
  case hio37 => (simp only [List.getElem?_toArray, List.getElem?_cons_succ, List.getElem?_cons_zero]; rfl)
  case hQo37 => exact fun _ _ _ h => h
  case hyo37 => exact Or.inl ⟨by rfl, fun W hW => by go_simp; rw [run_s2a W 106 5 4 _ 4 _ Try.underlying106 (by omega)]; rfl⟩
  try simp only [Act.put, List.setIfInBounds_toArray, List.set_cons_zero, List.set_cons_succ]
  refine wpAnyH_take (i := 37) (oi := ?o38) (v := av [x0, x1, x2, x3]) ?hio38 (by kernel_rfl) (by kernel_rfl) (by kernel_rfl) ?hQo38 ?hyo38 hS ?_
  case hio38 => (simp only [List.getElem?_toArray, List.getElem?_cons_succ, List.getElem?_cons_zero]; rfl)
  case hQo38 => exact fun _ _ _ h => h
  case hyo38 => exact yieldsIf_load_mid (by rfl) 106 (.tmp 55) rfl b (off + 12) rfl ([x0, x1, x2, x3].map bv) _ (fun W hW => HR3.out W hW) Try.underlying106 rfl (by kernel_rfl)
  try simp only [Act.put, List.setIfInBounds_toArray, List.set_cons_zero, List.set_cons_succ]
  refine wpAnyH_take (i := 39) (oi := ?o39) (v := ?vo39) ?hio39 (by kernel_rfl) (by kernel_rfl) (by kernel_rfl) ?hQo39 ?hyo39 hS ?_
  case hio39 => (simp only [List.getElem?_toArray, List.getElem?_cons_succ, List.getElem?_cons_zero]; rfl)
  case hQo39 => exact fun _ _ _ h => h
  case hyo39 =>
    refine Or.inl ⟨by rfl, ?_⟩
    intro W hW
    go_simp
    first | done | with_reducible rfl
  try simp only [Act.put, List.setIfInBounds_toArray, List.set_cons_zero, List.set_cons_succ]
  refine wpAnyH_take (i := 40) (oi := ?o40) (v := ?vo40) ?hio40 (by kernel_rfl) (by kernel_rfl) (by kernel_rfl) ?hQo40 ?hyo40 hS ?_
  case hio40 => (simp only [List.getElem?_toArray, List.getElem?_cons_succ, List.getElem?_cons_zero]; rfl)
  case hQo40 => exact fun _ _ _ h => h
  case hyo40 =>
    refine Or.inl ⟨by rfl, ?_⟩
    intro W hW
    go_simp
    first | done | with_reducible rfl
  try simp only [Act.put, List.setIfInBounds_toArray, List.set_cons_zero, List.set_cons_succ]
  refine wpAnyH_take (i := 41) (oi := ?o41) (v := .pointer (some ⟨b, off + 16, none⟩)) ?hio41 (by kernel_rfl) (by kernel_rfl) (by kernel_rfl) ?hQo41 ?hyo41 hS ?_
  case hio41 => (simp only [List.getElem?_toArray, List.getElem?_cons_succ, List.getElem?_cons_zero]; rfl)
  case hQo41 => exact fun _ _ _ h => h
  case hyo41 => exact Or.inl ⟨by rfl, fun W hW => by go_simp; rw [run_s2a W 106 5 4 _ 4 _ Try.underlying106 (by omega)]; rfl⟩
  try simp only [Act.put, List.setIfInBounds_toArray, List.set_cons_zero, List.set_cons_succ]
  refine wpAnyH_take (i := 42) (oi := ?o42) (v := av [y0, y1, y2, y3]) ?hio42 (by kernel_rfl) (by kernel_rfl) (by kernel_rfl) ?hQo42 ?hyo42 hS ?_
  case hio42 => (simp only [List.getElem?_toArray, List.getElem?_cons_succ, List.getElem?_cons_zero]; rfl)
  case hQo42 => exact fun _ _ _ h => h
  case hyo42 => exact yieldsIf_load_mid (by rfl) 106 (.tmp 60) rfl b (off + 16) rfl ([y0, y1, y2, y3].map bv) _ (fun W hW => HR4.out W hW) Try.underlying106 rfl (by kernel_rfl)
  try simp only [Act.put, List.setIfInBounds_toArray, List.set_cons_zero, List.set_cons_succ]
  refine wpAnyH_ready (rs := [38]) (by kernel_rfl) (by simp) ?_
  refine AllReadyH.cons (o := ?o46) ?hoo46 (fun K hK => ?ho46) AllReadyH.nil
  case hoo46 => (simp only [List.getElem?_toArray, List.getElem?_cons_succ, List.getElem?_cons_zero]; rfl)
  case ho46 =>
    go_simp
    go_at_call 112
    with_reducible refine (HF1.out _).mono ?_
    rintro e w2 ⟨rfl, hbw2⟩
    have hS2 := Below.on hS hS.size hbw2
    have p2 := Below.on p1 p1.size hbw2
    refine hK.out _ _ hS2 (fun _ => ?_)
    clear hK K hbw2
    try simp only [Act.put, List.setIfInBounds_toArray, List.set_cons_zero, List.set_cons_succ]
    refine wpAnyH_ready (rs := [43]) (by kernel_rfl) (by simp) ?_
    refine AllReadyH.cons (o := ?o45) ?hoo45 (fun K hK => ?ho45) AllReadyH.nil
    case hoo45 => (simp only [List.getElem?_toArray, List.getElem?_cons_succ, List.getElem?_cons_zero]; rfl)
    case ho45 =>
      go_simp
      go_at_call 112
      with_reducible refine (HF2.out _).mono ?_
      rintro e w3 ⟨rfl, hbw3⟩
      have hS3 := Below.on hS2 hS2.size hbw3
      have p3 := Below.on p2 p2.size hbw3
      refine hK.out _ _ hS3 (fun _ => ?_)
      clear hK K hbw3
      try simp only [Act.put, List.setIfInBounds_toArray, List.set_cons_zero, List.set_cons_succ]
      refine wpAnyH_take (i := 44) (oi := ?o43) (v := .agg (hdv [(V : Int), (S1 : Int), (T : Int), (C : Int), (I : Int), (F : Int), (G : Int), (L : Int), (P : Int)] (adv 4 ([x0, x1, x2, x3] ++ zb 12)) (adv 4 ([y0, y1, y2, y3] ++ zb 12)))) ?hio43 (by kernel_rfl) (by kernel_rfl) (by kernel_rfl) ?hQo43 ?hyo43 hS3 ?_
      case hio43 => (simp only [List.getElem?_toArray, List.getElem?_cons_succ, List.getElem?_cons_zero]; rfl)
      case hQo43 => exact fun _ _ _ h => h
      case hyo43 => exact Or.inl ⟨by rfl, fun W hW => by kernel_rfl⟩
      try simp only [Act.put, List.setIfInBounds_toArray, List.set_cons_zero, List.set_cons_succ]
      refine wpAnyH_ready (rs := [45]) (by kernel_rfl) (by simp) ?_
      refine AllReadyH.cons (o := ?o44) ?hoo44 (fun K hK => ?ho44) AllReadyH.nil
      case hoo44 => (simp only [List.getElem?_toArray, List.getElem?_cons_succ, List.getElem?_cons_zero]; rfl)
      case ho44 =>
        have kk := k0.below p3 k0.lt
        refine step_storeBlk (g := w.heap.size) (t := 42) (cs := hdv [(V : Int), (S1 : Int), (T : Int), (C : Int), (I : Int), (F : Int), (G : Int), (L : Int), (P : Int)] (adv 4 ([x0, x1, x2, x3] ++ zb 12)) (adv 4 ([y0, y1, y2, y3] ++ zb 12))) rfl 42 (.tmp 2) (.tmp 63) rfl rfl rfl zH kk ?hi ?hs ?h1 ?_
        case hi => kernel_rfl
        case hs => rfl
        case h1 => exact hdv_one _ _ _ _ _
        intro w4 kb hg4
        have b4 : Below w.heap.size w w4 := hS3.grown hg4 hS3.size (fun k hk => by injection hk with hk; omega)
        refine hK.out _ _ b4 (fun hS4 => ?_)
        clear hK K kk
        try simp only [Act.put, List.setIfInBounds_toArray, List.set_cons_zero, List.set_cons_succ]
        refine wpAnyH_done (by kernel_rfl) ?_ _
        have E := HL.out.trans HH.out
        clear HL HH
        go_wp2_with fail
        refine bodyPost_blk rfl _ rfl kb Try.underlying42 rfl (by kernel_rfl) rfl ?_
        exact ⟨by rw [E], b4⟩

end Go.Proofs.Ytkokgoodpibboaa
