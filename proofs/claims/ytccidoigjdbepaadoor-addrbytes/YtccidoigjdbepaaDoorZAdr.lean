
/- Out of the texts AdrD, AdrE, AdrF, RpA, EndF. -/
import Derived.Test.YtccidoigjdbepaaDoorAdrC
import Derived.Laws.BitsAllLaws
import Derived.Test.YtccidoigjdbepaaDoorZSum
import Derived.Deep.RegionHeld
/- AdrD -/
namespace Go.Proofs.YtccidoigjdbepaaDoor
open Go.RowKit
set_option maxRecDepth 100000
set_option linter.unusedSimpArgs false
set_option linter.unusedVariables false

/-- A head's cells: nine numbers, two addresses. -/
def hdv (xs : List Int) (s d : Array Value) : Array Value := (xs.map (fun x => Value.int .i64 x) ++ (s.toList ++ d.toList)).toArray
theorem hdv_size (xs : List Int) (s d : Array Value) (hx : xs.length = 9) (hs : s.size = 17) (hd : d.size = 17) : (hdv xs s d).size = 43 := by simp [hdv, hx, hs, hd]
theorem hdv_num (xs : List Int) (s d : Array Value) (j : Nat) (x : Int) (h : xs[j]? = some x) : (hdv xs s d)[j]? = some (.int .i64 x) := by
  have hj : j < xs.length := (List.getElem?_eq_some_iff.1 h).1
  simp only [hdv, List.getElem?_toArray]
  rw [List.getElem?_append_left (by simpa using hj), List.getElem?_map, h]; rfl
theorem hdv_src {w : World} {g : Nat} {t : TypeId} {xs : List Int} {s d : Array Value} (hx : xs.length = 9) (h : Blk w g t (hdv xs s d)) : w.rangeAt g 9 s.toList := by
  intro j x hj
  have hj' : j < s.toList.length := (List.getElem?_eq_some_iff.1 hj).1
  unfold World.cell?
  rw [h]
  simp only [hdv]
  show (some _).bind _ = _ 
  simp only [Option.bind_some, List.getElem?_toArray]
  rw [List.getElem?_append_right (by simp [hx]), List.getElem?_append_left (by simp [hx]; simpa using hj')]; simp [hx]; simpa using hj
theorem hdv_dst {w : World} {g : Nat} {t : TypeId} {xs : List Int} {s d : Array Value} (hx : xs.length = 9) (hs : s.size = 17) (h : Blk w g t (hdv xs s d)) : w.rangeAt g 26 d.toList := by
  intro j x hj
  unfold World.cell?
  rw [h]
  simp only [hdv]
  show (some _).bind _ = _ 
  simp only [Option.bind_some, List.getElem?_toArray]
  rw [List.getElem?_append_right (by simp [hx]; omega), List.getElem?_append_right (by simp [hx, hs]; omega)]; simp [hx, hs]; rw [show 26 + j - 9 - 17 = j by omega]; simpa using hj

theorem wpList_loadPart {P : Program} {w : World} {g : Nat} {ops : Array Oper} {rest : List Oper} {o : Oper} {a : Act} {Q : Exit → Act → World → Prop} (hw : Region.wanted o (yielded ops a.tmps) = true) (ty : TypeId) (x : Operand) (ho : o.op = .load ty x)
    (off : Nat) (hx : a.eval x = .pointer (some ⟨g, off, none⟩)) (cs : Array Value) (d : TypeDesc) (hc : w.rangeAt g off cs.toList)
    (hu : P.underlying ty = some d) (hd : d.isRow = true) (hi : (P.info? ty).map (·.size) = some cs.size)
    (h : wpList P ops Q rest (a.put o.dst (.agg cs)) w) : wpList P ops Q (o :: rest) a w :=
  wpList_on hw (wp_load_mid ty x ho g off hx cs.toList d hc hu hd (by simpa using hi) h)

theorem Blk.cellA {w : World} {g : Nat} {t : TypeId} {cs : Array Value} (h : Blk w g t cs) (j : Nat) : w.cell? ⟨g, j, none⟩ = cs[j]? := by
  unfold World.cell?; rw [h]; rfl

theorem i64_orN (a b : Nat) (ha : a < 9223372036854775808) (hb : b < 9223372036854775808) : bits .or .i64 (a : Int) (b : Int) = ((a ||| b : Nat) : Int) := by
  have hx : a ||| b < 2 ^ 63 := Nat.or_lt_two_pow (by omega) (by omega)
  show IntKind.i64.wrap ((BitVec.ofInt 64 (a : Int) ||| BitVec.ofInt 64 (b : Int)).toNat : Int) = _
  rw [BitVec.toNat_or, ofInt_u64 a (by omega), ofInt_u64 b (by omega)]
  first
    | (rw [IntWalk.i64_in _ (by omega)])
    | (simp [IntKind.wrap, IntKind.bits, IntKind.signed]; omega)

end Go.Proofs.YtccidoigjdbepaaDoor

/- AdrE -/
namespace Go.Proofs.YtccidoigjdbepaaDoor
open Go.RowKit
set_option maxRecDepth 100000
set_option linter.unusedSimpArgs false
set_option linter.unusedVariables false

/-- Parts, in a list of their own. -/
theorem partsN (w : World) (L : List Part) (h : ∀ p ∈ L, Shows w w.heap.size p.A p.n p.l) :
    Parts (w.alloc (.cells (L.map pv).toArray 26)) (w.alloc (.cells (L.map pv).toArray 26)).heap.size (some ⟨w.heap.size, 0, none⟩) L.length L :=
  ⟨sh_new pv 26 w (L.map pv).toArray L rfl, fun p hp => ((h p hp).alloc (Nat.le_refl _) _).up (by simp)⟩

/-- The first eight bytes of a head, as one number. -/
def firstN (C n I F G : Nat) : Nat := 4971973988617027584 + C * 281474976710656 + (20 + n) * 4294967296 + I * 65536 + F * 8192 + G
/-- The next four, the check still 0. -/
def secondN (L P : Nat) : Nat := L * 16777216 + P * 65536

theorem or_56 (x y : Nat) (hx : x % 72057594037927936 = 0) (hy : y < 72057594037927936) (h : x + y < 18446744073709551616) : bits .or .u64 (x : Int) (y : Int) = ((x + y : Nat) : Int) := by rw [u64_or_nat _ _ (by omega) (by omega), nat_join56 x y hx hy]
theorem or_48 (x y : Nat) (hx : x % 281474976710656 = 0) (hy : y < 281474976710656) (h : x + y < 18446744073709551616) : bits .or .u64 (x : Int) (y : Int) = ((x + y : Nat) : Int) := by rw [u64_or_nat _ _ (by omega) (by omega), nat_join48 x y hx hy]
theorem or_32 (x y : Nat) (hx : x % 4294967296 = 0) (hy : y < 4294967296) (h : x + y < 18446744073709551616) : bits .or .u64 (x : Int) (y : Int) = ((x + y : Nat) : Int) := by rw [u64_or_nat _ _ (by omega) (by omega), nat_join32 x y hx hy]
theorem or_24 (x y : Nat) (hx : x % 16777216 = 0) (hy : y < 16777216) (h : x + y < 18446744073709551616) : bits .or .u64 (x : Int) (y : Int) = ((x + y : Nat) : Int) := by rw [u64_or_nat _ _ (by omega) (by omega), nat_join24 x y hx hy]
theorem or_16 (x y : Nat) (hx : x % 65536 = 0) (hy : y < 65536) (h : x + y < 18446744073709551616) : bits .or .u64 (x : Int) (y : Int) = ((x + y : Nat) : Int) := by rw [u64_or_nat _ _ (by omega) (by omega), nat_join16 x y hx hy]
theorem or_13 (x y : Nat) (hx : x % 8192 = 0) (hy : y < 8192) (h : x + y < 18446744073709551616) : bits .or .u64 (x : Int) (y : Int) = ((x + y : Nat) : Int) := by rw [u64_or_nat _ _ (by omega) (by omega), nat_join13 x y hx hy]

theorem first_or (C n I F G : Nat) (hn : n ≤ 65515) (bC : C < 256) (bI : I < 65536) (bF : F < 8) (bG : G < 8192) :
    bits .or .u64 (bits .or .u64 (bits .or .u64 (bits .or .u64 (bits .or .u64 4971973988617027584 ((C : Int) * 281474976710656)) ((20 + (n : Int)) * 4294967296)) ((I : Int) * 65536)) ((F : Int) * 8192)) (G : Int) = ((firstN C n I F G : Nat) : Int) := by
  have e1 : bits .or .u64 4971973988617027584 ((C : Int) * 281474976710656) = ((4971973988617027584 + C * 281474976710656 : Nat) : Int) := by
    have := or_56 4971973988617027584 (C * 281474976710656) (by omega) (by omega) (by omega)
    simpa using this
  rw [e1, show (20 + (n : Int)) * 4294967296 = (((20 + n) * 4294967296 : Nat) : Int) by omega, or_48 _ _ (by omega) (by omega) (by omega),
    show (I : Int) * 65536 = ((I * 65536 : Nat) : Int) by omega, or_32 _ _ (by omega) (by omega) (by omega),
    show (F : Int) * 8192 = ((F * 8192 : Nat) : Int) by omega, or_16 _ _ (by omega) (by omega) (by omega), or_13 _ _ (by omega) (by omega) (by omega)]
  rfl
theorem first_lt (C n I F G : Nat) (hn : n ≤ 65515) (bC : C < 256) (bI : I < 65536) (bF : F < 8) (bG : G < 8192) : firstN C n I F G ≤ 18446744073709551615 := by unfold firstN; omega
theorem second_or (L P : Nat) (bL : L < 256) (bP : P < 256) : bits .or .u64 ((L : Int) * 16777216) ((P : Int) * 65536) = ((secondN L P : Nat) : Int) := by
  rw [show (L : Int) * 16777216 = ((L * 16777216 : Nat) : Int) by omega, show (P : Int) * 65536 = ((P * 65536 : Nat) : Int) by omega, or_24 _ _ (by omega) (by omega) (by omega)]
  rfl

theorem sizeA_4 (l : List UInt8) (h : okA 4 l = true) : sizeA 4 l = 4 := by simp [sizeA, h]

/-- The packet that is put: the check, then all. -/
def ckN (LF LM s d : List UInt8) : Nat := 65535 - osum (LF ++ (LM ++ (s ++ d)))
def pkt (C I F G L P : Nat) (s d body : List UInt8) : List UInt8 :=
  (leBytes (firstN C body.length I F G) 8).reverse ++ ((leBytes (secondN L P + ckN (leBytes (firstN C body.length I F G) 8).reverse (leBytes (secondN L P) 4).reverse s d) 4).reverse ++ (s ++ (d ++ body)))

end Go.Proofs.YtccidoigjdbepaaDoor

/- AdrF -/
namespace Go.Proofs.YtccidoigjdbepaaDoor
open Go.RowKit
set_option maxRecDepth 100000
set_option linter.unusedSimpArgs false
set_option linter.unusedVariables false

theorem Own.blk {w : World} {base n : Nat} {v : Value} {l : List UInt8} (h : Own w base v n l) (hn : 0 < n) : ∃ g cap, v = .slice (some ⟨g, 0, none⟩) n cap ∧ base ≤ g := by
  rcases h.2 with ⟨_, e⟩ | ⟨g', cap, cur, e, h4, _⟩
  · omega
  · exact ⟨g', cap, e, h4⟩
theorem Blk.range0 {w : World} {g : Nat} {t : TypeId} {cs : Array Value} (h : Blk w g t cs) : w.rangeAt g 0 cs.toList := by
  intro j v hv
  rw [h.cellA, Nat.zero_add]
  simpa using hv
theorem grown_below {w w' : World} (h : w.grownBy w' none) : Below w.heap.size w w' := (Below.refl _ _).grown h (Nat.le_refl _) (fun k hk => by cases hk)

/-- So many bytes 0, made: one step of a region that draws its order. -/
theorem step_mk {ops : Array Oper} {o : Oper} {a : Act} {w : World} {K : Act → World → Prop} {Q : Exit → Act → World → Prop} {E : Prop} (hgd : o.guard = none) (s x : Operand)
    (ho : o.op = Op.makeSlice 26 s x) (n : Nat) (L C : Int) (hs : a.eval s = .int .i64 L) (hx : a.eval x = .int .i64 C) (hL : L = (n : Int)) (hC : C = (n : Int)) (h63 : n ≤ 140737488355328)
    (h : ∀ w', Own w' w.heap.size (.slice (some ⟨w.heap.size, 0, none⟩) n n) n (List.replicate n 0) → Below w.heap.size w w' → K (a.put o.dst (.slice (some ⟨w.heap.size, 0, none⟩) n n)) w') :
    if Region.wanted o (yielded ops a.tmps) = true then Oper.wp Tryd.prog o a w K Q else E := by
  have hw : Region.wanted o (yielded ops a.tmps) = true := by simp [Region.wanted, hgd]
  rw [if_pos hw]
  obtain ⟨i, hi, hz, hsz, hby⟩ := info_parts Tryd.infoU8
  obtain ⟨w', hr, ho', hg'⟩ := run_make_full (P := Tryd.prog) w w.heap.size 26 5 i (.int .u8 0) 1 Tryd.underlying26 hi hz hsz .i64 .i64 n (by rw [hby]; omega) (by simp only [maxLen]; omega) (Nat.le_refl _)
  subst hL
  subst hC
  unfold Oper.wp execOp
  simp only [ho, hs, hx, hr, Sem.run_bind, Sem.run_pure, Result.andThen_ok]
  refine h w' ?_ (grown_below hg')
  simp only [Value.cells, Nat.mul_one, toList_madeCells_one] at ho'
  unfold Own
  rw [List.map_replicate]
  exact ho'

def exPkt : List UInt8 := pkt 0 0 0 0 0 0 [10, 0, 0, 1] [10, 0, 0, 2] [7]
theorem exPkt0 : exPkt[0]? = some 69 := by decide +kernel
theorem exPkt20 : exPkt[20]? = some 7 := by decide +kernel

end Go.Proofs.YtccidoigjdbepaaDoor

/- RpA -/
namespace Go.Proofs.YtccidoigjdbepaaDoor
open Go.RowKit
set_option maxRecDepth 100000
set_option linter.unusedSimpArgs false
set_option linter.unusedVariables false

theorem okA_nz (v : Int) (l : List UInt8) (k : Nat) (c : UInt8) (h6 : ¬ v = 6) (hk : 4 ≤ k) (h : l[k]? = some c) (hc : ¬ c.toNat = 0) : okA v l = false := by
  unfold okA
  have h6' : (v == 6) = false := by simpa using h6
  rw [h6', Bool.false_or]
  have : ¬ l.drop 4 = zb 12 := by
    intro e
    have e2 : (l.drop 4)[k - 4]? = some c := by rw [List.getElem?_drop, show 4 + (k - 4) = k by omega]; exact h
    rw [e] at e2
    simp only [zb, List.getElem?_replicate] at e2
    split at e2
    · injection e2 with e2
      exact hc (by rw [← e2]; rfl)
    · cases e2
  simp [this]
theorem okA_z (v : Int) (l : List UInt8) (hl : l.length = 16) (h6 : ¬ v = 6) (h : ∀ j, 4 ≤ j → j < 16 → l[j]? = some 0) : okA v l = (v == 4) := by
  have e : l.drop 4 = zb 12 := by
    apply List.ext_getElem?
    intro i
    rw [List.getElem?_drop]
    by_cases hi : i < 12
    · rw [h (4 + i) (by omega) (by omega), zb, List.getElem?_replicate, if_pos hi]
    · rw [List.getElem?_eq_none (by omega), List.getElem?_eq_none (by simp [zb]; omega)]
  unfold okA
  have h6' : (v == 6) = false := by simpa using h6
  rw [h6', e]
  simp

set_option maxHeartbeats 1000000 in
theorem refRight_any (v : Int) (l : List UInt8) (hl : l.length = 16) (w : World) :
    Calls Tryd.prog 12 #[.agg (adv v l)] w fun e w' => e = .returned (.bool (okA v l)) ∧ Below w.heap.size w w' := by
  have k0 : Blk (w.alloc (.cells (adv v l) 24)) w.heap.size 24 (adv v l) := blk_new _ _ _
  have hb0 : Below w.heap.size w (w.alloc (.cells (adv v l) 24)) := (Below.refl _ _).alloc (Nat.le_refl _) _
  have c0 := k0.adv0
  by_cases h6 : v = 6
  · subst h6
    have hO : okA 6 l = true := by simp [okA]
    rw [hO]
    clear hO k0
    generalize adv 6 l = X at *
    go_enter Tryd.func12, Tryd.ntmps12
    go_wp2
    go_ret
    exact ⟨rfl, hb0⟩
  · have h6' : decide (v = 6) = false := decide_eq_false h6
    have h6'' : (v == 6) = false := by simpa using h6
    have HZ := Lib.hid (fun (k : Nat) (h1 : 4 ≤ k) (h2 : k < 16) => show ∃ c : UInt8, l[k]? = some c ∧ (w.alloc (.cells (adv v l) 24)).cell? ⟨w.heap.size, 1 + k, none⟩ = some (.int .u8 (c.toNat : Int)) from
      ⟨l[k], List.getElem?_eq_getElem _, (k0.cellA (1 + k)).trans (adv_b v l k _ (List.getElem?_eq_getElem (by omega)))⟩)
    have HN := Lib.hid (fun (k : Nat) (c : UInt8) => okA_nz v l k c h6)
    have HY := Lib.hid (okA_z v l hl h6)
    clear k0
    generalize hB4 : (v == 4) = B4 at *
    have hD4 : decide (v = 4) = B4 := by rw [← hB4]; rfl
    generalize okA v l = R at *
    generalize adv v l = X at *
    go_enter Tryd.func12, Tryd.ntmps12
    go_wp2
    go_loop [3] (fun i => ∃ k : Nat, 4 ≤ k ∧ k ≤ 16 ∧ (∀ j, 4 ≤ j → j < k → l[j]? = some 0) ∧ i = .int .i64 k) (fun i => 16 - (intOf i).toNat)
    case atStart => exact ⟨4, by omega, by omega, fun j h1 h2 => by omega, rfl⟩
    case round =>
      obtain ⟨k, h1, h2, hz, rfl⟩ := hrel
      have Hz := Lib.hid hz
      clear hz
      by_cases hlt : k < 16
      · obtain ⟨c, hc, hcell⟩ := HZ.out k h1 hlt
        have Hc := Lib.hid hc
        clear hc
        have ki : (k : Int) < 16 := by omega
        by_cases hc0 : c.toNat = 0
        · have hcell0 : (w.alloc (.cells X 24)).cell? ⟨w.heap.size, 1 + k, none⟩ = some (.int .u8 0) := by rw [hcell, hc0]; rfl
          have H0 := Lib.hid (show c = 0 from UInt8.toNat_inj.1 (by simpa using hc0))
          clear hcell
          go_wp2
          go_round
          case rel =>
            refine ⟨k + 1, by omega, by omega, ?_, by go_num⟩
            intro j q1 q2
            by_cases hj : j < k
            · exact Hz.out j q1 hj
            · obtain rfl : j = k := by omega
              rw [Hc.out, H0.out]
          case measure => simp [intOf] <;> omega
        · have HR := Lib.hid (HN.out k c h1 Hc.out hc0)
          have hc0' : ((c.toNat : Int) != 0) = true := by simp; omega
          have hc0'' : ((c.toNat : Int) == 0) = false := by simp; omega
          have hc0''' : decide ((c.toNat : Int) = 0) = false := decide_eq_false (by omega)
          generalize c.toNat = cn at *
          go_wp2
          go_ret
          exact ⟨by rw [HR.out]; rfl, hb0⟩
      · obtain rfl : k = 16 := by omega
        have HR := Lib.hid (HY.out (fun j q1 q2 => Hz.out j q1 q2))
        go_wp2
        go_ret
        exact ⟨by rw [HR.out]; rfl, hb0⟩

set_option maxHeartbeats 1000000 in
theorem refWidth_any (v : Int) (l : List UInt8) (hl : l.length = 16) (w : World) :
    Calls Tryd.prog 20 #[.agg (adv v l)] w fun e w' => e = .returned (.int .i64 ((8 * sizeA v l : Nat) : Int)) ∧ Below w.heap.size w w' := by
  have k0 : Blk (w.alloc (.cells (adv v l) 24)) w.heap.size 24 (adv v l) := blk_new _ _ _
  have hb0 : Below w.heap.size w (w.alloc (.cells (adv v l) 24)) := (Below.refl _ _).alloc (Nat.le_refl _) _
  have hz := Adr_size v l hl
  go_enter Tryd.func20, Tryd.ntmps20
  go_wp2_with (first
    | (refine wpList_loadBlk (g := w.heap.size) (t := 24) (cs := adv v l) rfl 24 (.tmp 1) ?ho ?hx ?hA _ Tryd.underlying24 rfl ?hi ?_
       case ho => with_reducible rfl
       case hx => rfl
       case hA => exact k0
       case hi => exact hz)
    | fail)
  refine (refRight_any v l hl _).mono ?_
  rintro e w1 ⟨rfl, hb1⟩
  have k1 := k0.on hb1
  have c1 := k1.adv0
  have b1 := Below.on hb0 hb0.size hb1
  clear k0 hb0 hb1
  cases hok : okA v l
  · have e0 : ((8 * sizeA v l : Nat) : Int) = 0 := by simp [sizeA, hok]
    go_wp2
    go_ret
    exact ⟨by rw [e0]; rfl, b1⟩
  · by_cases h4 : v = 4
    · subst h4
      have e0 : ((8 * sizeA 4 l : Nat) : Int) = 32 := by simp [sizeA, hok]
      go_wp2
      go_ret
      exact ⟨by rw [e0]; rfl, b1⟩
    · have h4' : decide (v = 4) = false := decide_eq_false h4
      have e0 : ((8 * sizeA v l : Nat) : Int) = 128 := by simp [sizeA, hok, h4]
      go_wp2
      go_ret
      exact ⟨by rw [e0]; rfl, b1⟩

set_option maxHeartbeats 1000000 in
theorem refBytes_any (v : Int) (l : List UInt8) (hl : l.length = 16) (w : World) :
    Calls Tryd.prog 17 #[.agg (adv v l)] w fun e w' => ∃ x, e = .returned x ∧ Own w' w.heap.size x (sizeA v l) (l.take (sizeA v l)) ∧ Below w.heap.size w w' := by
  have k0 : Blk (w.alloc (.cells (adv v l) 24)) w.heap.size 24 (adv v l) := blk_new _ _ _
  have hb0 : Below w.heap.size w (w.alloc (.cells (adv v l) 24)) := (Below.refl _ _).alloc (Nat.le_refl _) _
  have hz := Adr_size v l hl
  have hm := sizeA_le v l
  have HS := Lib.hid (fun W => refWidth_any v l hl W)
  have HC := Lib.hid (fun (k : Nat) (hk : k < 16) (W : World) (hW : Blk W w.heap.size 24 (adv v l)) => show ∃ c : UInt8, l[k]? = some c ∧ W.cell? ⟨w.heap.size, 1 + k, none⟩ = some (.int .u8 (c.toNat : Int)) from
      ⟨l[k], List.getElem?_eq_getElem _, (hW.cellA (1 + k)).trans (adv_b v l k _ (List.getElem?_eq_getElem (by omega)))⟩)
  generalize sizeA v l = m at *
  obtain ⟨D, hD⟩ : ∃ D : Nat, 8 * m = D := ⟨_, rfl⟩
  rw [hD] at HS
  have d1 : (D : Int) / 8 = (m : Int) := by omega
  have d2 : (D : Int).tdiv 8 = (m : Int) := by rw [Int.tdiv_eq_ediv_of_nonneg (by omega)]; exact d1
  have Dle : (D : Int) ≤ 128 := by omega
  have Hl := Lib.hid hl
  clear hD hl
  generalize adv v l = X at *
  go_enter Tryd.func17, Tryd.ntmps17
  go_wp2
  go_loopw [3, 4] (fun x i wr => ∃ k : Nat, k ≤ m ∧ i = .int .i64 k ∧ Own wr (w.heap.size + 1) x k (l.take k) ∧ Below (w.heap.size + 1) (w.alloc (.cells X 24)) wr) (fun _ i _ => m - (intOf i).toNat)
  case atStart => exact ⟨0, Nat.zero_le _, rfl, World.ownsRow_nil _ _ _ _, Below.refl _ _⟩
  case round =>
    obtain ⟨k, hk, rfl, hown, hbel⟩ := hrel
    have k1 := k0.below hbel (Nat.lt_succ_self _)
    go_wp2_with (first
      | (refine wpList_loadBlk (g := w.heap.size) (t := 24) (cs := X) rfl 24 (.tmp 1) ?ho ?hx ?hA _ Tryd.underlying24 rfl ?hi ?_
         case ho => with_reducible rfl
         case hx => rfl
         case hA => exact k1
         case hi => exact hz)
      | fail)
    refine (HS.out _).mono ?_
    rintro e w2 ⟨rfl, hb2⟩
    have hszr := hbel.size
    have o2 := hown.keep hb2
    have b2 : Below (w.heap.size + 1) (w.alloc (.cells X 24)) w2 := Below.on hbel (by simpa using hszr) hb2
    have k2 := k1.on hb2
    have hsz2 : w.heap.size + 1 ≤ w2.heap.size := by simpa using b2.size
    clear hown hbel hb2 k1
    by_cases hlt : k < m
    · obtain ⟨c, hc, hcell⟩ := HC.out k (by omega) _ k2
      have HT := Lib.hid (show l.take (k + 1) = l.take k ++ [c] by rw [List.take_add_one, hc]; rfl)
      clear hc
      have ki : (k : Int) < (m : Int) := by omega
      have ki16 : (k : Int) < 16 := by omega
      have dk : decide ((k : Int) < (m : Int)) = true := decide_eq_true ki
      go_wp2_with (at_builtin; refine wpList_app1 _ rfl _ _ rfl (w.heap.size + 1) _ _ _ rfl (by exact o2.alloc _) ⟨w2.heap.size, 0, none⟩ 1 c rfl ?c1 ?c2 ?c3 ?_)
      case c1 => exact one_new _ _ _ _ rfl
      case c2 => omega
      case c3 => simp; omega
      intro v' w3 hown' hgrow
      have b3 : Below (w.heap.size + 1) (w.alloc (.cells X 24)) w3 := by
        refine Below.grown ?_ hgrow ?_ (fun g hg => (o2.lt g hg).1)
        · exact b2.alloc (by simpa using hsz2) _
        · simp; omega
      clear hgrow o2 b2 k2 hcell
      go_wp2
      go_roundw
      case rel => exact ⟨k + 1, by omega, by go_num, by rw [HT.out]; exact hown', b3⟩
      case measure => simp [intOf] <;> omega
    · obtain rfl : k = m := by omega
      have dk : decide ((k : Int) < (k : Int)) = false := decide_eq_false (by omega)
      go_wp2
      go_ret
      exact ⟨_, rfl, o2.base (by omega), Below.on hb0 hb0.size (by simpa using b2)⟩

end Go.Proofs.YtccidoigjdbepaaDoor

/- EndF -/
namespace Go.Proofs.YtccidoigjdbepaaDoor
open Go.RowKit
set_option maxRecDepth 100000

/-- One bit of bytes, from the highest one of the first byte on. -/
def bitAt (l : List UInt8) (i : Nat) : Nat := (l[i / 8]?.getD 0).toNat / 2 ^ (7 - i % 8) % 2

/-- r bits are 1, and then comes a 0 or the end. -/
def IsLead (l : List UInt8) (r : Nat) : Prop := r ≤ 8 * l.length ∧ (∀ j, j < r → bitAt l j = 1) ∧ (r < 8 * l.length → bitAt l r = 0)

theorem lead_from (l : List UInt8) (d : Nat) : ∀ k, k + d = 8 * l.length → (∀ j, j < k → bitAt l j = 1) → ∃ r, IsLead l r := by
  induction d with
  | zero => exact fun k h hj => ⟨k, by omega, hj, fun h' => absurd h' (by omega)⟩
  | succ d ih =>
    intro k h hj
    by_cases hb : bitAt l k = 1
    · refine ih (k + 1) (by omega) fun j hj' => ?_
      by_cases e : j = k
      · rw [e]; exact hb
      · exact hj j (by omega)
    · refine ⟨k, by omega, hj, fun _ => ?_⟩
      unfold bitAt at *
      omega

theorem lead_some (l : List UInt8) : ∃ r, IsLead l r := lead_from l (8 * l.length) 0 (by omega) (fun j h => absurd h (by omega))

theorem mask_t (t : Nat) (h : t < 8) : 128 / 2 ^ t = 2 ^ (7 - t) := by
  have : t = 0 ∨ t = 1 ∨ t = 2 ∨ t = 3 ∨ t = 4 ∨ t = 5 ∨ t = 6 ∨ t = 7 := by omega
  rcases this with rfl | rfl | rfl | rfl | rfl | rfl | rfl | rfl <;> rfl

theorem end_and_mask (x : Nat) (hx : x < 256) (t : Nat) (h : t < 8) : bits BinOp.and IntKind.u8 (x : Int) ((128 / 2 ^ t : Nat) : Int) = ((x / 2 ^ (7 - t) % 2 * 2 ^ (7 - t) : Nat) : Int) := by
  have hm : 2 ^ (7 - t) ≤ 2 ^ 7 := Nat.pow_le_pow_right (by omega) (by omega)
  rw [mask_t t h, u8_and_nat _ _ hx (by omega), nat_bit]

theorem bitAt_byte (l : List UInt8) (k t : Nat) (x : UInt8) (h : l[k]? = some x) (ht : t < 8) : bitAt l (8 * k + t) = x.toNat / 2 ^ (7 - t) % 2 := by
  unfold bitAt
  rw [show (8 * k + t) / 8 = k by omega, show (8 * k + t) % 8 = t by omega, h]
  rfl

theorem ones_any (A : Option Addr) (n c r : Nat) (l : List UInt8) (w : World) (hn : n ≤ 1000000) (h : Shows w w.heap.size A n l) (hr : IsLead l r) :
    Calls Tryd.prog 83 #[.slice A n c] w fun e w' => e = .returned (.int .i64 (r : Int)) ∧ w = w' := by
  obtain ⟨hr1, hr2, hr3⟩ := hr
  have hl := h.len
  rw [hl] at hr1 hr3
  have H2 := Lib.hid hr2
  have H3 := Lib.hid hr3
  clear hr2 hr3 hl
  go_enter Tryd.func83, Tryd.ntmps83
  go_wp2
  go_loop [3, 9] (fun v i => ∃ k : Nat, k ≤ n ∧ 8 * k ≤ r ∧ i = .int .i64 k ∧ v = .int .i64 (8 * (k : Int))) (fun _ i => n - (intOf i).toNat)
  case atStart => exact ⟨0, Nat.zero_le _, Nat.zero_le _, rfl, rfl⟩
  case round =>
    obtain ⟨k, hk, hkr, rfl, rfl⟩ := hrel
    by_cases hlt : k < n
    · obtain ⟨b, off, x, rfl, hb, hc, hx, hlx⟩ := h.byte hlt
      have Hlx := Lib.hid hlx
      clear hlx
      go_wp2
      go_loop [3, 6] (fun v m => ∃ t : Nat, t ≤ 8 ∧ 8 * k + t ≤ r ∧ m = .int .u8 ((128 / 2 ^ t : Nat) : Int) ∧ v = .int .i64 (8 * (k : Int) + (t : Int))) (fun _ m => (intOf m).toNat)
      case atStart => exact ⟨0, by omega, by omega, by simp, by simp⟩
      case round =>
        obtain ⟨t, ht, htr, rfl, rfl⟩ := hrel
        by_cases ht8 : t < 8
        · have hA := end_and_mask x.toNat hx t ht8
          have HBt := Lib.hid (bitAt_byte l k t x Hlx.out ht8)
          have hm0 : 0 < 128 / 2 ^ t := by rw [mask_t t ht8]; exact Nat.two_pow_pos _
          have hm1 : 128 / 2 ^ t ≤ 128 := Nat.div_le_self _ _
          have hp : 0 < 2 ^ (7 - t) := Nat.two_pow_pos _
          have Hs := Lib.hid (show 128 / 2 ^ (t + 1) = 128 / 2 ^ t / 2 by rw [Nat.div_div_eq_div_mul, ← Nat.pow_succ])
          by_cases hb1 : 8 * k + t < r
          · have hone := H2.out _ hb1
            rw [HBt.out] at hone
            rw [hone, Nat.one_mul] at hA
            clear hone
            generalize 128 / 2 ^ t = M at *
            generalize 2 ^ (7 - t) = P at *
            go_wp2
            go_round
            case rel => exact ⟨t + 1, by omega, by omega, by rw [Hs.out]; go_num, by go_num⟩
            case measure => simp [intOf] <;> omega
          · obtain rfl : r = 8 * k + t := by omega
            have hzero := H3.out (by omega)
            rw [HBt.out] at hzero
            rw [hzero, Nat.zero_mul] at hA
            clear hzero
            generalize 128 / 2 ^ t = M at *
            generalize 2 ^ (7 - t) = P at *
            go_wp2
            go_ret
            exact ⟨ret_int (by omega), rfl⟩
        · obtain rfl : t = 8 := by omega
          go_wp2
          go_round
          case rel => exact ⟨k + 1, by omega, by omega, by go_num, by go_num⟩
          case measure => simp [intOf] <;> omega
    · obtain rfl : k = n := by omega
      go_wp2
      go_ret
      exact ⟨ret_int (by omega), rfl⟩

end Go.Proofs.YtccidoigjdbepaaDoor
