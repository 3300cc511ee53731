
/- Heads of packets of family 6, read: own words; contracts: ipsix.head, Parse. -/
import Derived.Test.YtkokgoodpibboaaSxA
namespace Go.Proofs.Ytkokgoodpibboaa
open Go.RowKit
set_option maxRecDepth 100000
set_option linter.unusedSimpArgs false
set_option linter.unusedVariables false

def src6 (l : List UInt8) : List UInt8 := (l.drop 8).take 16
def dst6 (l : List UInt8) : List UInt8 := (l.drop 24).take 16
def hd6 (V T C I L P : Nat) (s d : List UInt8) : Array Value := hdv [(V : Int), 40, (T : Int), (C : Int), (I : Int), 0, 0, (L : Int), (P : Int)] (adv 6 s) (adv 6 d)
/-- The head that bytes say. -/
def hdL6 (l : List UInt8) : Array Value := hd6 (n1 l / 1152921504606846976) (n1 l / 65536 % 65536 + 40) (n1 l / 4503599627370496 % 256) (n1 l / 4294967296 % 1048576) (n1 l % 256) (n1 l / 256 % 256) (src6 l) (dst6 l)
/-- Why bytes are no packet of family 6; their head. -/
def wE6 (V T n : Nat) : Nat := if V = 6 then (if n < T then 3 else 0) else 9
def pE6 (l : List UInt8) : Nat := if l.length < 40 then 3 else wE6 (n1 l / 1152921504606846976) (n1 l / 65536 % 65536 + 40) l.length
def pH6 (l : List UInt8) : Array Value := if pE6 l = 0 then hdL6 l else zH
theorem pE6_le (l : List UInt8) : pE6 l ≤ 11 := by unfold pE6 wE6; (repeat' split) <;> omega
theorem hd6_size (V T C I L P : Nat) (s d : List UInt8) (hs : s.length = 16) (hd : d.length = 16) : (hd6 V T C I L P s d).size = 43 := hdv_size _ _ _ rfl (adv_size _ _ hs) (adv_size _ _ hd)
theorem hdL6_size (l : List UInt8) (h : 40 ≤ l.length) : (hdL6 l).size = 43 := hd6_size _ _ _ _ _ _ _ _ (by simp [src6]; omega) (by simp [dst6]; omega)

set_option maxHeartbeats 4000000 in
set_option maxRecDepth 100000 in
theorem head6_any (b off n c : Nat) (l : List UInt8) (w : World) (h40 : 40 ≤ n) (hc : n ≤ c) (hcm : c ≤ maxLen) (hs : Shows w w.heap.size (some ⟨b, off, none⟩) n l) :
    Calls Try.prog 80 #[.slice (some ⟨b, off, none⟩) n c] w fun e w' => e = .returned (.agg (hdL6 l)) ∧ Below w.heap.size w w' := by
  have hz := (zero_of_info Try.zeroHead).1
  have hne : ¬ zH = #[] := by intro h; have := zH_size; rw [h] at this; cases this
  have hc20 : 40 ≤ c := by omega
  have hl := hs.len
  have k0 : Blk (w.alloc (.cells zH 42)) w.heap.size 42 zH := blk_new _ _ _
  have hb0 : Below w.heap.size w (w.alloc (.cells zH 42)) := (Below.refl _ _).alloc (Nat.le_refl _) _
  have s0 := (hs.below hb0).up hb0.size
  have s1 : Shows (w.alloc (.cells zH 42)) (w.alloc (.cells zH 42)).heap.size (some ⟨b, off, none⟩) 8 (l.take 8) := by simpa using s0.piece 0 8 (by omega)
  have r3 := hs.piece 8 16 (by omega)
  have r4 := hs.piece 24 16 (by omega)
  have l3 := r3.len
  have l4 := r4.len
  have i24 : (24 : Int) ≤ (c : Int) := by omega
  have i40 : (40 : Int) ≤ (c : Int) := by omega
  have nc8 : ¬ c = 8 := by omega
  have nc24 : ¬ c = 24 := by omega
  have HO1 := Lib.hid (ofBig_any (some ⟨b, off, none⟩) 8 c (l.take 8) _ (by omega) (by omega) s1)
  have b1 : n1 l < 18446744073709551616 := by have := leNat_lt (l.take 8).reverse; simp [hl, Nat.min_eq_left (show 8 ≤ n by omega)] at this; exact this
  rw [show leNat (l.take 8).reverse = n1 l from rfl] at HO1
  rw [show (l.drop 8).take 16 = src6 l from rfl] at r3 l3
  rw [show (l.drop 24).take 16 = dst6 l from rfl] at r4 l4
  have HL := Lib.hid (show hdL6 l = hdv [((n1 l / 1152921504606846976 : Nat) : Int), 40, ((n1 l / 65536 % 65536 + 40 : Nat) : Int), ((n1 l / 4503599627370496 % 256 : Nat) : Int), ((n1 l / 4294967296 % 1048576 : Nat) : Int), 0, 0, ((n1 l % 256 : Nat) : Int), ((n1 l / 256 % 256 : Nat) : Int)] (adv 6 (src6 l)) (adv 6 (dst6 l)) from rfl)
  have HR3 := Lib.hid (fun W (hW : Below w.heap.size w W) => (r3.below hW).range)
  have HR4 := Lib.hid (fun W (hW : Below w.heap.size w W) => (r4.below hW).range)
  have HF1 := Lib.hid (fun W => addrSix_any (src6 l) l3 W)
  have HF2 := Lib.hid (fun W => addrSix_any (dst6 l) l4 W)
  have zi3 : (Try.prog.info? 30).map (·.size) = some ((src6 l).map bv).length := by rw [List.length_map, l3]; kernel_rfl
  have zi4 : (Try.prog.info? 30).map (·.size) = some ((dst6 l).map bv).length := by rw [List.length_map, l4]; kernel_rfl
  obtain ⟨b0, b1, b2, b3, b4, b5, b6, b7, b8, b9, b10, b11, b12, b13, b14, b15, e3⟩ := list16 _ l3
  obtain ⟨d0, d1, d2, d3, d4, d5, d6, d7, d8, d9, d10, d11, d12, d13, d14, d15, e4⟩ := list16 _ l4
  have HX := Lib.hid (show adv 6 [b0, b1, b2, b3, b4, b5, b6, b7, b8, b9, b10, b11, b12, b13, b14, b15] = adv 6 (src6 l) by rw [e3])
  have HY := Lib.hid (show adv 6 [d0, d1, d2, d3, d4, d5, d6, d7, d8, d9, d10, d11, d12, d13, d14, d15] = adv 6 (dst6 l) by rw [e4])
  have z2 : (adv 6 (src6 l)).size = 17 := adv_size _ _ l3
  have z3 : (adv 6 (dst6 l)).size = 17 := adv_size _ _ l4
  have o1 := fun xs => hdv_one xs 6 6 (src6 l) (dst6 l)
  clear e3 e4
  generalize n1 l = N1 at *
  generalize adv 6 (src6 l) = XS at *
  generalize adv 6 (dst6 l) = XD at *
  generalize src6 l = S4 at *
  generalize dst6 l = D4 at *
  have e0 : (N1 : Int) / 1152921504606846976 = ((N1 / 1152921504606846976 : Nat) : Int) := by omega
  have e1 : bits BinOp.and IntKind.u64 ((N1 : Int) / 4503599627370496) 255 = ((N1 / 4503599627370496 % 256 : Nat) : Int) := by
    have := and_mask 8 (by omega) (N1 / 4503599627370496) (by omega)
    simpa using this
  have e2 : bits BinOp.and IntKind.u64 ((N1 : Int) / 4294967296) 1048575 = ((N1 / 4294967296 % 1048576 : Nat) : Int) := by
    have := and_mask 20 (by omega) (N1 / 4294967296) (by omega)
    simpa using this
  have e3 : bits BinOp.and IntKind.u64 ((N1 : Int) / 65536) 65535 = ((N1 / 65536 % 65536 : Nat) : Int) := by
    have := and_mask 16 (by omega) (N1 / 65536) (by omega)
    simpa using this
  have e4 : bits BinOp.and IntKind.u64 ((N1 : Int) / 256) 255 = ((N1 / 256 % 256 : Nat) : Int) := by
    have := and_mask 8 (by omega) (N1 / 256) (by omega)
    simpa using this
  have e5 : bits BinOp.and IntKind.u64 (N1 : Int) 255 = ((N1 % 256 : Nat) : Int) := by
    have := and_mask 8 (by omega) (N1) (by omega)
    simpa using this
  have lV : N1 / 1152921504606846976 ≤ 15 := by omega
  have lT0 : N1 / 65536 % 65536 ≤ 65535 := by omega
  have lC : N1 / 4503599627370496 % 256 ≤ 255 := by omega
  have lI : N1 / 4294967296 % 1048576 ≤ 1048575 := by omega
  have lP : N1 / 256 % 256 ≤ 255 := by omega
  have lL : N1 % 256 ≤ 255 := by omega
  have wV := wrap_id (N1 / 1152921504606846976) (by omega)
  have wT0 := wrap_id (N1 / 65536 % 65536) (by omega)
  have wC := wrap_id (N1 / 4503599627370496 % 256) (by omega)
  have wI := wrap_id (N1 / 4294967296 % 1048576) (by omega)
  have wP := wrap_id (N1 / 256 % 256) (by omega)
  have wL := wrap_id (N1 % 256) (by omega)
  have wT1 : IntKind.i64.wrap (((N1 / 65536 % 65536 : Nat) : Int) + 40) = ((N1 / 65536 % 65536 + 40 : Nat) : Int) := by rw [IntKind.wrap_i64]; omega
  generalize N1 / 1152921504606846976 = V at *
  generalize N1 / 65536 % 65536 = T0 at *
  generalize N1 / 4503599627370496 % 256 = C at *
  generalize N1 / 4294967296 % 1048576 = I at *
  generalize N1 / 256 % 256 = P at *
  generalize N1 % 256 = L at *
  have lT1 : T0 + 40 ≤ 65575 := by omega
  generalize T0 + 40 = T1 at *
  clear s0 s1 r3 r4 l3 l4 hs hl b1
  go_enter Try.func80, Try.ntmps80
  go_wp2_with fail
  refine HO1.out.mono ?_
  rintro e w' ⟨rfl, rfl⟩
  clear HO1
  go_wp2_with fail
  generalize w.alloc (.cells zH 42) = W1 at *
  have p1 : Below W1.heap.size W1 W1.drew := (Below.refl _ _).drew
  have q1 : Below w.heap.size w W1.drew := hb0.drew
  refine wp_region_held_drew (S := fun W => Below w.heap.size w W) (by kernel_rfl) q1 ?_
  intro hS
  refine wpAnyH_take (i := 0) (oi := ?o301) (v := ?vo301) ?hio301 (by kernel_rfl) (by kernel_rfl) (by kernel_rfl) ?hQo301 ?hyo301 hS ?_
  case hio301 => (simp only [List.getElem?_toArray, List.getElem?_cons_succ, List.getElem?_cons_zero]; rfl)
  case hQo301 => exact fun _ _ _ h => h
  case hyo301 =>
    refine Or.inl ⟨by rfl, ?_⟩
    intro W hW
    go_simp
    first | done | with_reducible rfl
  try simp only [Act.put, List.setIfInBounds_toArray, List.set_cons_zero, List.set_cons_succ]
  refine wpAnyH_take (i := 1) (oi := ?o302) (v := ?vo302) ?hio302 (by kernel_rfl) (by kernel_rfl) (by kernel_rfl) ?hQo302 ?hyo302 hS ?_
  case hio302 => (simp only [List.getElem?_toArray, List.getElem?_cons_succ, List.getElem?_cons_zero]; rfl)
  case hQo302 => exact fun _ _ _ h => h
  case hyo302 =>
    refine Or.inl ⟨by rfl, ?_⟩
    intro W hW
    go_simp
    first | done | with_reducible rfl
  try simp only [Act.put, List.setIfInBounds_toArray, List.set_cons_zero, List.set_cons_succ]
  refine wpAnyH_take (i := 2) (oi := ?o303) (v := ?vo303) ?hio303 (by kernel_rfl) (by kernel_rfl) (by kernel_rfl) ?hQo303 ?hyo303 hS ?_
  case hio303 => (simp only [List.getElem?_toArray, List.getElem?_cons_succ, List.getElem?_cons_zero]; rfl)
  case hQo303 => exact fun _ _ _ h => h
  case hyo303 =>
    refine Or.inl ⟨by rfl, ?_⟩
    intro W hW
    go_simp
    first | done | with_reducible rfl
  try simp only [Act.put, List.setIfInBounds_toArray, List.set_cons_zero, List.set_cons_succ]
  refine wpAnyH_take (i := 3) (oi := ?o304) (v := ?vo304) ?hio304 (by kernel_rfl) (by kernel_rfl) (by kernel_rfl) ?hQo304 ?hyo304 hS ?_
  case hio304 => (simp only [List.getElem?_toArray, List.getElem?_cons_succ, List.getElem?_cons_zero]; rfl)
  case hQo304 => exact fun _ _ _ h => h
  case hyo304 =>
    refine Or.inl ⟨by rfl, ?_⟩
    intro W hW
    go_simp
    first | done | with_reducible rfl
  try simp only [Act.put, List.setIfInBounds_toArray, List.set_cons_zero, List.set_cons_succ]
  refine wpAnyH_take (i := 4) (oi := ?o305) (v := ?vo305) ?hio305 (by kernel_rfl) (by kernel_rfl) (by kernel_rfl) ?hQo305 ?hyo305 hS ?_
  case hio305 => (simp only [List.getElem?_toArray, List.getElem?_cons_succ, List.getElem?_cons_zero]; rfl)
  case hQo305 => exact fun _ _ _ h => h
  case hyo305 =>
    refine Or.inl ⟨by rfl, ?_⟩
    intro W hW
    go_simp
    first | done | with_reducible rfl
  try simp only [Act.put, List.setIfInBounds_toArray, List.set_cons_zero, List.set_cons_succ]
  refine wpAnyH_take (i := 5) (oi := ?o306) (v := ?vo306) ?hio306 (by kernel_rfl) (by kernel_rfl) (by kernel_rfl) ?hQo306 ?hyo306 hS ?_
  case hio306 => (simp only [List.getElem?_toArray, List.getElem?_cons_succ, List.getElem?_cons_zero]; rfl)
  case hQo306 => exact fun _ _ _ h => h
  case hyo306 =>
    refine Or.inl ⟨by rfl, ?_⟩
    intro W hW
    go_simp
    first | done | with_reducible rfl
  try simp only [Act.put, List.setIfInBounds_toArray, List.set_cons_zero, List.set_cons_succ]
  refine wpAnyH_take (i := 6) (oi := ?o307) (v := ?vo307) ?hio307 (by kernel_rfl) (by kernel_rfl) (by kernel_rfl) ?hQo307 ?hyo307 hS ?_
  case hio307 => (simp only [List.getElem?_toArray, List.getElem?_cons_succ, List.getElem?_cons_zero]; rfl)
  case hQo307 => exact fun _ _ _ h => h
  case hyo307 =>
    refine Or.inl ⟨by rfl, ?_⟩
    intro W hW
    go_simp
    first | done | with_reducible rfl
  try simp only [Act.put, List.setIfInBounds_toArray, List.set_cons_zero, List.set_cons_succ]
  refine wpAnyH_take (i := 7) (oi := ?o308) (v := ?vo308) ?hio308 (by kernel_rfl) (by kernel_rfl) (by kernel_rfl) ?hQo308 ?hyo308 hS ?_
  case hio308 => (simp only [List.getElem?_toArray, List.getElem?_cons_succ, List.getElem?_cons_zero]; rfl)
  case hQo308 => exact fun _ _ _ h => h
  case hyo308 =>
    refine Or.inl ⟨by rfl, ?_⟩
    intro W hW
    go_simp
    first | done | with_reducible rfl
  try simp only [Act.put, List.setIfInBounds_toArray, List.set_cons_zero, List.set_cons_succ]
  refine wpAnyH_take (i := 8) (oi := ?o309) (v := ?vo309) ?hio309 (by kernel_rfl) (by kernel_rfl) (by kernel_rfl) ?hQo309 ?hyo309 hS ?_
  case hio309 => (simp only [List.getElem?_toArray, List.getElem?_cons_succ, List.getElem?_cons_zero]; rfl)
  case hQo309 => exact fun _ _ _ h => h
  case hyo309 =>
    refine Or.inl ⟨by rfl, ?_⟩
    intro W hW
    go_simp
    first | done | with_reducible rfl
  try simp only [Act.put, List.setIfInBounds_toArray, List.set_cons_zero, List.set_cons_succ]
  refine wpAnyH_take (i := 9) (oi := ?o310) (v := ?vo310) ?hio310 (by kernel_rfl) (by kernel_rfl) (by kernel_rfl) ?hQo310 ?hyo310 hS ?_
  case hio310 => (simp only [List.getElem?_toArray, List.getElem?_cons_succ, List.getElem?_cons_zero]; rfl)
  case hQo310 => exact fun _ _ _ h => h
  case hyo310 =>
    refine Or.inl ⟨by rfl, ?_⟩
    intro W hW
    go_simp
    first | done | with_reducible rfl
  try simp only [Act.put, List.setIfInBounds_toArray, List.set_cons_zero, List.set_cons_succ]
  refine wpAnyH_take (i := 10) (oi := ?o311) (v := ?vo311) ?hio311 (by kernel_rfl) (by kernel_rfl) (by kernel_rfl) ?hQo311 ?hyo311 hS ?_
  case hio311 => (simp only [List.getElem?_toArray, List.getElem?_cons_succ, List.getElem?_cons_zero]; rfl)
  case hQo311 => exact fun _ _ _ h => h
  case hyo311 =>
    refine Or.inl ⟨by rfl, ?_⟩
    intro W hW
    go_simp
    first | done | with_reducible rfl
  try simp only [Act.put, List.setIfInBounds_toArray, List.set_cons_zero, List.set_cons_succ]
  refine wpAnyH_take (i := 11) (oi := ?o312) (v := ?vo312) ?hio312 (by kernel_rfl) (by kernel_rfl) (by kernel_rfl) ?hQo312 ?hyo312 hS ?_
  case hio312 => (simp only [List.getElem?_toArray, List.getElem?_cons_succ, List.getElem?_cons_zero]; rfl)
  case hQo312 => exact fun _ _ _ h => h
  case hyo312 =>
    refine Or.inl ⟨by rfl, ?_⟩
    intro W hW
    go_simp
    first | done | with_reducible rfl
  try simp only [Act.put, List.setIfInBounds_toArray, List.set_cons_zero, List.set_cons_succ]
  refine wpAnyH_take (i := 12) (oi := ?o313) (v := ?vo313) ?hio313 (by kernel_rfl) (by kernel_rfl) (by kernel_rfl) ?hQo313 ?hyo313 hS ?_
  case hio313 => (simp only [List.getElem?_toArray, List.getElem?_cons_succ, List.getElem?_cons_zero]; rfl)
  case hQo313 => exact fun _ _ _ h => h
  case hyo313 =>
    refine Or.inl ⟨by rfl, ?_⟩
    intro W hW
    go_simp
    first | done | with_reducible rfl
  try simp only [Act.put, List.setIfInBounds_toArray, List.set_cons_zero, List.set_cons_succ]
  refine wpAnyH_take (i := 13) (oi := ?o314) (v := ?vo314) ?hio314 (by kernel_rfl) (by kernel_rfl) (by kernel_rfl) ?hQo314 ?hyo314 hS ?_
  case hio314 => (simp only [List.getElem?_toArray, List.getElem?_cons_succ, List.getElem?_cons_zero]; rfl)
  case hQo314 => exact fun _ _ _ h => h
  case hyo314 =>
    refine Or.inl ⟨by rfl, ?_⟩
    intro W hW
    go_simp
    first | done | with_reducible rfl
  try simp only [Act.put, List.setIfInBounds_toArray, List.set_cons_zero, List.set_cons_succ]
  refine wpAnyH_take (i := 14) (oi := ?o315) (v := ?vo315) ?hio315 (by kernel_rfl) (by kernel_rfl) (by kernel_rfl) ?hQo315 ?hyo315 hS ?_
  case hio315 => (simp only [List.getElem?_toArray, List.getElem?_cons_succ, List.getElem?_cons_zero]; rfl)
  case hQo315 => exact fun _ _ _ h => h
  case hyo315 =>
    refine Or.inl ⟨by rfl, ?_⟩
    intro W hW
    go_simp
    first | done | with_reducible rfl
  try simp only [Act.put, List.setIfInBounds_toArray, List.set_cons_zero, List.set_cons_succ]
  refine wpAnyH_take (i := 15) (oi := ?o316) (v := ?vo316) ?hio316 (by kernel_rfl) (by kernel_rfl) (by kernel_rfl) ?hQo316 ?hyo316 hS ?_
  case hio316 => (simp only [List.getElem?_toArray, List.getElem?_cons_succ, List.getElem?_cons_zero]; rfl)
  case hQo316 => exact fun _ _ _ h => h
  case hyo316 =>
    refine Or.inl ⟨by rfl, ?_⟩
    intro W hW
    go_simp
    first | done | with_reducible rfl
  try simp only [Act.put, List.setIfInBounds_toArray, List.set_cons_zero, List.set_cons_succ]
  refine wpAnyH_take (i := 16) (oi := ?o317) (v := ?vo317) ?hio317 (by kernel_rfl) (by kernel_rfl) (by kernel_rfl) ?hQo317 ?hyo317 hS ?_
  case hio317 => (simp only [List.getElem?_toArray, List.getElem?_cons_succ, List.getElem?_cons_zero]; rfl)
  case hQo317 => exact fun _ _ _ h => h
  case hyo317 =>
    refine Or.inl ⟨by rfl, ?_⟩
    intro W hW
    go_simp
    first | done | with_reducible rfl
  try simp only [Act.put, List.setIfInBounds_toArray, List.set_cons_zero, List.set_cons_succ]
  refine wpAnyH_take (i := 17) (oi := ?o318) (v := ?vo318) ?hio318 (by kernel_rfl) (by kernel_rfl) (by kernel_rfl) ?hQo318 ?hyo318 hS ?_
  case hio318 => (simp only [List.getElem?_toArray, List.getElem?_cons_succ, List.getElem?_cons_zero]; rfl)
  case hQo318 => exact fun _ _ _ h => h
  case hyo318 =>
    refine Or.inl ⟨by rfl, ?_⟩
    intro W hW
    go_simp
    first | done | with_reducible rfl
  try simp only [Act.put, List.setIfInBounds_toArray, List.set_cons_zero, List.set_cons_succ]
  refine wpAnyH_take (i := 18) (oi := ?o319) (v := ?vo319) ?hio319 (by kernel_rfl) (by kernel_rfl) (by kernel_rfl) ?hQo319 ?hyo319 hS ?_
  case hio319 => (simp only [List.getElem?_toArray, List.getElem?_cons_succ, List.getElem?_cons_zero]; rfl)
  case hQo319 => exact fun _ _ _ h => h
  case hyo319 =>
    refine Or.inl ⟨by rfl, ?_⟩
    intro W hW
    go_simp
    first | done | with_reducible rfl
  try simp only [Act.put, List.setIfInBounds_toArray, List.set_cons_zero, List.set_cons_succ]
  refine wpAnyH_take (i := 19) (oi := ?o320) (v := ?vo320) ?hio320 (by kernel_rfl) (by kernel_rfl) (by kernel_rfl) ?hQo320 ?hyo320 hS ?_
  case hio320 => (simp only [List.getElem?_toArray, List.getElem?_cons_succ, List.getElem?_cons_zero]; rfl)
  case hQo320 => exact fun _ _ _ h => h
  case hyo320 =>
    refine Or.inl ⟨by rfl, ?_⟩
    intro W hW
    go_simp
    first | done | with_reducible rfl
  try simp only [Act.put, List.setIfInBounds_toArray, List.set_cons_zero, List.set_cons_succ]
  refine wpAnyH_take (i := 20) (oi := ?o321) (v := ?vo321) ?hio321 (by kernel_rfl) (by kernel_rfl) (by kernel_rfl) ?hQo321 ?hyo321 hS ?_
  case hio321 => (simp only [List.getElem?_toArray, List.getElem?_cons_succ, List.getElem?_cons_zero]; rfl)
  case hQo321 => exact fun _ _ _ h => h
  case hyo321 =>
    refine Or.inl ⟨by rfl, ?_⟩
    intro W hW
    go_simp
    first | done | with_reducible rfl
  try simp only [Act.put, List.setIfInBounds_toArray, List.set_cons_zero, List.set_cons_succ]
  refine wpAnyH_take (i := 21) (oi := ?o322) (v := ?vo322) ?hio322 (by kernel_rfl) (by kernel_rfl) (by kernel_rfl) ?hQo322 ?hyo322 hS ?_
  case hio322 => (simp only [List.getElem?_toArray, List.getElem?_cons_succ, List.getElem?_cons_zero]; rfl)
  case hQo322 => exact fun _ _ _ h => h
  case hyo322 =>
    refine Or.inl ⟨by rfl, ?_⟩
    intro W hW
    go_simp
    first | done | with_reducible rfl
  try simp only [Act.put, List.setIfInBounds_toArray, List.set_cons_zero, List.set_cons_succ]
  refine wpAnyH_take (i := 22) (oi := ?o323) (v := ?vo323) ?hio323 (by kernel_rfl) (by kernel_rfl) (by kernel_rfl) ?hQo323 ?hyo323 hS ?_
  case hio323 => (simp only [List.getElem?_toArray, List.getElem?_cons_succ, List.getElem?_cons_zero]; rfl)
  case hQo323 => exact fun _ _ _ h => h
  case hyo323 =>
    refine Or.inl ⟨by rfl, ?_⟩
    intro W hW
    go_simp
    first | done | with_reducible rfl
  try simp only [Act.put, List.setIfInBounds_toArray, List.set_cons_zero, List.set_cons_succ]
  refine wpAnyH_take (i := 23) (oi := ?o324) (v := ?vo324) ?hio324 (by kernel_rfl) (by kernel_rfl) (by kernel_rfl) ?hQo324 ?hyo324 hS ?_
  case hio324 => (simp only [List.getElem?_toArray, List.getElem?_cons_succ, List.getElem?_cons_zero]; rfl)
  case hQo324 => exact fun _ _ _ h => h
  case hyo324 =>
    refine Or.inl ⟨by rfl, ?_⟩
    intro W hW
    go_simp
    first | done | with_reducible rfl
  try simp only [Act.put, List.setIfInBounds_toArray, List.set_cons_zero, List.set_cons_succ]
  refine wpAnyH_take (i := 24) (oi := ?o325) (v := ?vo325) ?hio325 (by kernel_rfl) (by kernel_rfl) (by kernel_rfl) ?hQo325 ?hyo325 hS ?_
  case hio325 => (simp only [List.getElem?_toArray, List.getElem?_cons_succ, List.getElem?_cons_zero]; rfl)
  case hQo325 => exact fun _ _ _ h => h
  case hyo325 =>
    refine Or.inl ⟨by rfl, ?_⟩
    intro W hW
    go_simp
    first | done | with_reducible rfl
  try simp only [Act.put, List.setIfInBounds_toArray, List.set_cons_zero, List.set_cons_succ]
  refine wpAnyH_take (i := 25) (oi := ?o326) (v := .pointer (some ⟨b, off + 8, none⟩)) ?hio326 (by kernel_rfl) (by kernel_rfl) (by kernel_rfl) ?hQo326 ?hyo326 hS ?_
  case hio326 => (simp only [List.getElem?_toArray, List.getElem?_cons_succ, List.getElem?_cons_zero]; rfl)
  case hQo326 => exact fun _ _ _ h => h
  case hyo326 => exact Or.inl ⟨by rfl, fun W hW => by go_simp; rw [run_s2a W 30 5 16 _ 16 _ Try.underlying30 (by omega)]; rfl⟩
  try simp only [Act.put, List.setIfInBounds_toArray, List.set_cons_zero, List.set_cons_succ]
  refine wpAnyH_take (i := 26) (oi := ?o327) (v := av S4) ?hio327 (by kernel_rfl) (by kernel_rfl) (by kernel_rfl) ?hQo327 ?hyo327 hS ?_
  case hio327 => (simp only [List.getElem?_toArray, List.getElem?_cons_succ, List.getElem?_cons_zero]; rfl)
  case hQo327 => exact fun _ _ _ h => h
  case hyo327 => exact yieldsIf_load_mid (by rfl) 30 (.tmp 36) rfl b (off + 8) rfl (S4.map bv) _ (fun W hW => HR3.out W hW) Try.underlying30 rfl zi3
  try simp only [Act.put, List.setIfInBounds_toArray, List.set_cons_zero, List.set_cons_succ]
  refine wpAnyH_take (i := 28) (oi := ?o328) (v := ?vo328) ?hio328 (by kernel_rfl) (by kernel_rfl) (by kernel_rfl) ?hQo328 ?hyo328 hS ?_
  case hio328 => (simp only [List.getElem?_toArray, List.getElem?_cons_succ, List.getElem?_cons_zero]; rfl)
  case hQo328 => exact fun _ _ _ h => h
  case hyo328 =>
    refine Or.inl ⟨by rfl, ?_⟩
    intro W hW
    go_simp
    first | done | with_reducible rfl
  try simp only [Act.put, List.setIfInBounds_toArray, List.set_cons_zero, List.set_cons_succ]
  refine wpAnyH_take (i := 29) (oi := ?o329) (v := ?vo329) ?hio329 (by kernel_rfl) (by kernel_rfl) (by kernel_rfl) ?hQo329 ?hyo329 hS ?_
  case hio329 => (simp only [List.getElem?_toArray, List.getElem?_cons_succ, List.getElem?_cons_zero]; rfl)
  case hQo329 => exact fun _ _ _ h => h
  case hyo329 =>
    refine Or.inl ⟨by rfl, ?_⟩
    intro W hW
    go_simp
    first | done | with_reducible rfl
  try simp only [Act.put, List.setIfInBounds_toArray, List.set_cons_zero, List.set_cons_succ]
  refine wpAnyH_take (i := 30) (oi := ?o330) (v := .pointer (some ⟨b, off + 24, none⟩)) ?hio330 (by kernel_rfl) (by kernel_rfl) (by kernel_rfl) ?hQo330 ?hyo330 hS ?_
  case hio330 => (simp only [List.getElem?_toArray, List.getElem?_cons_succ, List.getElem?_cons_zero]; rfl)
  case hQo330 => exact fun _ _ _ h => h
  case hyo330 => exact Or.inl ⟨by rfl, fun W hW => by go_simp; rw [run_s2a W 30 5 16 _ 16 _ Try.underlying30 (by omega)]; rfl⟩
  try simp only [Act.put, List.setIfInBounds_toArray, List.set_cons_zero, List.set_cons_succ]
  refine wpAnyH_take (i := 31) (oi := ?o331) (v := av D4) ?hio331 (by kernel_rfl) (by kernel_rfl) (by kernel_rfl) ?hQo331 ?hyo331 hS ?_
  case hio331 => (simp only [List.getElem?_toArray, List.getElem?_cons_succ, List.getElem?_cons_zero]; rfl)
  case hQo331 => exact fun _ _ _ h => h
  case hyo331 => exact yieldsIf_load_mid (by rfl) 30 (.tmp 41) rfl b (off + 24) rfl (D4.map bv) _ (fun W hW => HR4.out W hW) Try.underlying30 rfl zi4
  try simp only [Act.put, List.setIfInBounds_toArray, List.set_cons_zero, List.set_cons_succ]
  refine wpAnyH_ready (rs := [27]) (by kernel_rfl) (by simp) ?_
  refine AllReadyH.cons (o := ?o335) ?hoo335 (fun K hK => ?ho335) AllReadyH.nil
  case hoo335 => (simp only [List.getElem?_toArray, List.getElem?_cons_succ, List.getElem?_cons_zero]; rfl)
  case ho335 =>
    go_simp
    go_at_call 115
    with_reducible refine (HF1.out _).mono ?_
    rintro e w2 ⟨rfl, hbw2⟩
    have hS2 := Below.on hS hS.size hbw2
    have p2 := Below.on p1 p1.size hbw2
    refine hK.out _ _ hS2 (fun _ => ?_)
    clear hK K hbw2
    try simp only [Act.put, List.setIfInBounds_toArray, List.set_cons_zero, List.set_cons_succ]
    refine wpAnyH_ready (rs := [32]) (by kernel_rfl) (by simp) ?_
    refine AllReadyH.cons (o := ?o334) ?hoo334 (fun K hK => ?ho334) AllReadyH.nil
    case hoo334 => (simp only [List.getElem?_toArray, List.getElem?_cons_succ, List.getElem?_cons_zero]; rfl)
    case ho334 =>
      go_simp
      go_at_call 115
      with_reducible refine (HF2.out _).mono ?_
      rintro e w3 ⟨rfl, hbw3⟩
      have hS3 := Below.on hS2 hS2.size hbw3
      have p3 := Below.on p2 p2.size hbw3
      refine hK.out _ _ hS3 (fun _ => ?_)
      clear hK K hbw3
      try simp only [Act.put, List.setIfInBounds_toArray, List.set_cons_zero, List.set_cons_succ]
      refine wpAnyH_take (i := 33) (oi := ?o332) (v := .agg (hdv [(V : Int), 40, (T1 : Int), (C : Int), (I : Int), 0, 0, (L : Int), (P : Int)] XS XD)) ?hio332 (by kernel_rfl) (by kernel_rfl) (by kernel_rfl) ?hQo332 ?hyo332 hS3 ?_
      case hio332 => (simp only [List.getElem?_toArray, List.getElem?_cons_succ, List.getElem?_cons_zero]; rfl)
      case hQo332 => exact fun _ _ _ h => h
      case hyo332 =>
        refine Or.inl ⟨by rfl, ?_⟩
        intro W hW
        have e1 := HX.out
        have e2 := HY.out
        clear hW
        rw [← e1, ← e2]
        change _ = _
        kernel_rfl
      try simp only [Act.put, List.setIfInBounds_toArray, List.set_cons_zero, List.set_cons_succ]
      refine wpAnyH_ready (rs := [34]) (by kernel_rfl) (by simp) ?_
      refine AllReadyH.cons (o := ?o333) ?hoo333 (fun K hK => ?ho333) AllReadyH.nil
      case hoo333 => (simp only [List.getElem?_toArray, List.getElem?_cons_succ, List.getElem?_cons_zero]; rfl)
      case ho333 =>
        have kk := k0.below p3 k0.lt
        refine step_storeBlk (g := w.heap.size) (t := 42) (cs := hdv [(V : Int), 40, (T1 : Int), (C : Int), (I : Int), 0, 0, (L : Int), (P : Int)] XS XD) rfl 42 (.tmp 2) (.tmp 44) rfl rfl rfl zH kk ?hi ?hs ?h1 ?_
        case hi => rw [hdv_size _ _ _ rfl z2 z3]; exact Try.infoHead
        case hs => rw [hdv_size _ _ _ rfl z2 z3]; exact zH_size
        case h1 => exact o1 _
        intro w4 kb hg4
        have b4 : Below w.heap.size w w4 := hS3.grown hg4 hS3.size (fun k hk => by injection hk with hk; omega)
        refine hK.out _ _ b4 (fun hS4 => ?_)
        clear hK K kk
        try simp only [Act.put, List.setIfInBounds_toArray, List.set_cons_zero, List.set_cons_succ]
        refine wpAnyH_done (by kernel_rfl) ?_ _
        have E := HL.out
        clear HL
        go_wp2_with fail
        refine bodyPost_blk rfl _ rfl kb Try.underlying42 rfl (by rw [hdv_size _ _ _ rfl z2 z3]; exact Try.infoHead) rfl ?_
        exact ⟨by rw [E], b4⟩

set_option maxHeartbeats 2000000 in
theorem parse6_any (A : Option Addr) (n c : Nat) (l : List UInt8) (w : World) (hn : n ≤ 1000000) (hc : n ≤ c) (hcm : c ≤ maxLen) (hs : Shows w w.heap.size A n l) :
    Calls Try.prog 31 #[.slice A n c] w fun e w' => e = .returned (.tuple #[.agg (pH6 l), .int .i64 (pE6 l : Int)]) ∧ Below w.heap.size w w' := by
  have hz := (zero_of_info Try.zeroHead).1
  have hne : ¬ zH = #[] := by intro h; have := zH_size; rw [h] at this; cases this
  have zs : (Try.prog.info? 42).map (·.size) = some zH.size := by rw [zH_size]; exact Try.infoHead
  have k0 : Blk (w.alloc (.cells zH 42)) w.heap.size 42 zH := blk_new _ _ _
  have hb0 : Below w.heap.size w (w.alloc (.cells zH 42)) := (Below.refl _ _).alloc (Nat.le_refl _) _
  have hl := hs.len
  have s0 := (hs.below hb0).up hb0.size
  by_cases q : n < 40
  · have E : pE6 l = 3 := by unfold pE6; rw [hl, if_pos q]
    have EH : pH6 l = zH := by unfold pH6; rw [E]; rfl
    have d : decide ((n : Int) < 40) = true := decide_eq_true (by omega)
    go_enter Try.func31, Try.ntmps31
    go_wp2_with (first
      | (refine wpList_storeBlk (g := w.heap.size) (t := 42) (cs := zH) rfl 42 (.tmp 2) (.tmp 8) ?ho ?hx2 ?hy2 zH k0 ?hi ?hs ?h1 ?_
         case ho => with_reducible rfl
         case hx2 => rfl
         case hy2 => rfl
         case hi => exact zs
         case hs => rfl
         case h1 => exact zH_one
         intro w5 kb hg5
         have b5 : Below w.heap.size w w5 := hb0.grown hg5 hb0.size (fun k hk => by injection hk with hk; omega)))
    refine bodyPost_blk2 rfl _ rfl kb Try.underlying42 rfl zs rfl ?_
    exact ⟨by rw [EH, E]; rfl, b5⟩
  · have d : decide ((n : Int) < 40) = false := decide_eq_false (by omega)
    obtain ⟨b, off, rfl, hbb, _⟩ := hs.2 (by omega)
    have E : pE6 l = wE6 (n1 l / 1152921504606846976) (n1 l / 65536 % 65536 + 40) n := by unfold pE6; rw [hl, if_neg q]
    have HH := Lib.hid (head6_any b off n c l _ (by omega) hc hcm s0)
    have hsz := hdL6_size l (by omega)
    have o1 : ((hdL6 l).all fun x => x.oneCell') = true := by unfold hdL6 hd6; exact hdv_one _ _ _ _ _
    have ms : (Try.prog.info? 42).map (·.size) = some (hdL6 l).size := by rw [hsz]; exact Try.infoHead
    have m0 : (hdL6 l)[0]? = some (.int .i64 ((n1 l / 1152921504606846976 : Nat) : Int)) := by unfold hdL6 hd6; exact hdv_num _ _ _ 0 _ rfl
    have m2 : (hdL6 l)[2]? = some (.int .i64 ((n1 l / 65536 % 65536 + 40 : Nat) : Int)) := by unfold hdL6 hd6; exact hdv_num _ _ _ 2 _ rfl
    have HEH := Lib.hid (show pH6 l = if pE6 l = 0 then hdL6 l else zH from rfl)
    have HE := Lib.hid E
    clear E
    generalize hdL6 l = M at *
    have lT : n1 l / 65536 % 65536 + 40 ≤ 65575 := by omega
    generalize n1 l / 1152921504606846976 = V at *
    generalize n1 l / 65536 % 65536 + 40 = T at *
    by_cases q0 : ¬ V = 6
    · have d0 : decide ((V : Int) = 6) = false := decide_eq_false (by omega)
      have d0' : ((V : Int) == 6) = false := by simp; omega
      have d0'' : ((V : Int) != 6) = true := by simp; omega
      have E : pE6 l = 9 := by rw [HE.out]; simp [wE6, q0]
      have EH : pH6 l = zH := by rw [HEH.out, E]; rfl
      go_enter Try.func31, Try.ntmps31
      go_wp2_with fail
      refine HH.out.mono ?_
      rintro e w1 ⟨rfl, hb1⟩
      have k1 := k0.on hb1
      have b1 := Below.on hb0 hb0.size hb1
      clear k0 hb0 s0 hb1 HH
      have k2 : Blk (w1.alloc (.cells M 42)) w.heap.size 42 zH := k1.alloc _
      have k3 : Blk (w1.alloc (.cells M 42)) w1.heap.size 42 M := blk_new _ _ _
      have b2 : Below w.heap.size w (w1.alloc (.cells M 42)) := b1.alloc b1.size _
      generalize hW1 : w1.heap.size = g1 at *
      have c0 := (k3.cellA 0).trans m0
      have c2 := (k3.cellA 2).trans m2
      go_wp2_with (first
        | (refine wpList_allocStore (cs := M) rfl rfl 42 ?ho (.tmp 4) (.tmp 10) ?ho2 Try.zeroHead ?hz ?hx ?hy ?hn ?h1 ?_
           case ho => with_reducible rfl
           case ho2 => rfl
           case hz => exact zH_size
           case hx => rfl
           case hy => rfl
           case hn => exact hsz
           case h1 => exact o1
           rw [hW1])
        | (refine wpList_storeBlk (g := w.heap.size) (t := 42) (cs := zH) rfl 42 (.tmp 2) (.tmp 14) ?ho ?hx2 ?hy2 zH k2 ?hi ?hs ?h1 ?_
           case ho => with_reducible rfl
           case hx2 => rfl
           case hy2 => rfl
           case hi => exact zs
           case hs => rfl
           case h1 => exact zH_one
           intro w5 kb hg5
           have b5 : Below w.heap.size w w5 := b2.grown hg5 b2.size (fun k hk => by injection hk with hk; omega)))
      refine bodyPost_blk2 rfl _ rfl kb Try.underlying42 rfl zs rfl ?_
      exact ⟨by rw [EH, E]; rfl, b5⟩
    have d0 : decide ((V : Int) = 6) = true := decide_eq_true (by omega)
    have d0' : ((V : Int) == 6) = true := by simp; omega
    have d0'' : ((V : Int) != 6) = false := by simp; omega
    have q0' : V = 6 := by omega
    by_cases q1 : n < T
    · have d1 : decide ((n : Int) < (T : Int)) = true := decide_eq_true (by omega)
      have E : pE6 l = 3 := by rw [HE.out]; simp [wE6, q0', q1]
      have EH : pH6 l = zH := by rw [HEH.out, E]; rfl
      go_enter Try.func31, Try.ntmps31
      go_wp2_with fail
      refine HH.out.mono ?_
      rintro e w1 ⟨rfl, hb1⟩
      have k1 := k0.on hb1
      have b1 := Below.on hb0 hb0.size hb1
      clear k0 hb0 s0 hb1 HH
      have k2 : Blk (w1.alloc (.cells M 42)) w.heap.size 42 zH := k1.alloc _
      have k3 : Blk (w1.alloc (.cells M 42)) w1.heap.size 42 M := blk_new _ _ _
      have b2 : Below w.heap.size w (w1.alloc (.cells M 42)) := b1.alloc b1.size _
      generalize hW1 : w1.heap.size = g1 at *
      have c0 := (k3.cellA 0).trans m0
      have c2 := (k3.cellA 2).trans m2
      go_wp2_with (first
        | (refine wpList_allocStore (cs := M) rfl rfl 42 ?ho (.tmp 4) (.tmp 10) ?ho2 Try.zeroHead ?hz ?hx ?hy ?hn ?h1 ?_
           case ho => with_reducible rfl
           case ho2 => rfl
           case hz => exact zH_size
           case hx => rfl
           case hy => rfl
           case hn => exact hsz
           case h1 => exact o1
           rw [hW1])
        | (refine wpList_storeBlk (g := w.heap.size) (t := 42) (cs := zH) rfl 42 (.tmp 2) (.tmp 20) ?ho ?hx2 ?hy2 zH k2 ?hi ?hs ?h1 ?_
           case ho => with_reducible rfl
           case hx2 => rfl
           case hy2 => rfl
           case hi => exact zs
           case hs => rfl
           case h1 => exact zH_one
           intro w5 kb hg5
           have b5 : Below w.heap.size w w5 := b2.grown hg5 b2.size (fun k hk => by injection hk with hk; omega)))
      refine bodyPost_blk2 rfl _ rfl kb Try.underlying42 rfl zs rfl ?_
      exact ⟨by rw [EH, E]; rfl, b5⟩
    have d1 : decide ((n : Int) < (T : Int)) = false := decide_eq_false (by omega)
    have E : pE6 l = 0 := by rw [HE.out]; simp [wE6, q0', q1]
    have EH : pH6 l = M := by rw [HEH.out, E]; rfl
    go_enter Try.func31, Try.ntmps31
    go_wp2_with fail
    refine HH.out.mono ?_
    rintro e w1 ⟨rfl, hb1⟩
    have k1 := k0.on hb1
    have b1 := Below.on hb0 hb0.size hb1
    clear k0 hb0 s0 hb1 HH
    have k2 : Blk (w1.alloc (.cells M 42)) w.heap.size 42 zH := k1.alloc _
    have k3 : Blk (w1.alloc (.cells M 42)) w1.heap.size 42 M := blk_new _ _ _
    have b2 : Below w.heap.size w (w1.alloc (.cells M 42)) := b1.alloc b1.size _
    generalize hW1 : w1.heap.size = g1 at *
    have c0 := (k3.cellA 0).trans m0
    have c2 := (k3.cellA 2).trans m2
    go_wp2_with (first
      | (refine wpList_allocStore (cs := M) rfl rfl 42 ?ho (.tmp 4) (.tmp 10) ?ho2 Try.zeroHead ?hz ?hx ?hy ?hn ?h1 ?_
         case ho => with_reducible rfl
         case ho2 => rfl
         case hz => exact zH_size
         case hx => rfl
         case hy => rfl
         case hn => exact hsz
         case h1 => exact o1
         rw [hW1])
      | (refine wpList_loadBlk (g := g1) (t := 42) (cs := M) rfl 42 (.tmp 4) ?ho ?hx ?hA _ Try.underlying42 rfl ?hi ?_
         case ho => with_reducible rfl
         case hx => rfl
         case hA => exact k3
         case hi => exact ms)
      | (refine wpList_storeBlk (g := w.heap.size) (t := 42) (cs := M) rfl 42 (.tmp 2) (.tmp 21) ?ho ?hx2 ?hy2 zH k2 ?hi ?hs ?h1 ?_
         case ho => with_reducible rfl
         case hx2 => rfl
         case hy2 => rfl
         case hi => exact ms
         case hs => rw [hsz]; exact zH_size
         case h1 => exact o1
         intro w5 kb hg5
         have b5 : Below w.heap.size w w5 := b2.grown hg5 b2.size (fun k hk => by injection hk with hk; omega)))
    refine bodyPost_blk2 rfl _ rfl kb Try.underlying42 rfl ms rfl ?_
    exact ⟨by rw [EH, E]; rfl, b5⟩

end Go.Proofs.Ytkokgoodpibboaa
