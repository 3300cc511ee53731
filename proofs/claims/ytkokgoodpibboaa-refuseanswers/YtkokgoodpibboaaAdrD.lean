
/- Heads: own words for them; contracts: ipfour.four, fits. -/
import Derived.Test.YtkokgoodpibboaaAdrC
import Derived.Laws.BitsAllLaws
namespace Go.Proofs.Ytkokgoodpibboaa
open Go.RowKit
set_option maxRecDepth 100000
set_option linter.unusedSimpArgs false
set_option linter.unusedVariables false

/-- A head's cells: nine numbers, two addresses. -/
def hdv (xs : List Int) (s d : Array Value) : Array Value := (xs.map (fun x => Value.int .i64 x) ++ (s.toList ++ d.toList)).toArray
theorem hdv_size (xs : List Int) (s d : Array Value) (hx : xs.length = 9) (hs : s.size = 17) (hd : d.size = 17) : (hdv xs s d).size = 43 := by simp [hdv, hx, hs, hd]
theorem hdv_num (xs : List Int) (s d : Array Value) (j : Nat) (x : Int) (h : xs[j]? = some x) : (hdv xs s d)[j]? = some (.int .i64 x) := by
  have hj : j < xs.length := (List.getElem?_eq_some_iff.1 h).1
  simp only [hdv, List.getElem?_toArray]
  rw [List.getElem?_append_left (by simpa using hj), List.getElem?_map, h]; rfl
theorem Try.infoHead : (Try.prog.info? 42).map (·.size) = some 43 := by kernel_rfl
theorem hdv_src {w : World} {g : Nat} {t : TypeId} {xs : List Int} {s d : Array Value} (hx : xs.length = 9) (h : Blk w g t (hdv xs s d)) : w.rangeAt g 9 s.toList := by
  intro j x hj
  have hj' : j < s.toList.length := (List.getElem?_eq_some_iff.1 hj).1
  unfold World.cell?
  rw [h]
  simp only [hdv]
  show (some _).bind _ = _ 
  simp only [Option.bind_some, List.getElem?_toArray]
  rw [List.getElem?_append_right (by simp [hx]), List.getElem?_append_left (by simp [hx]; simpa using hj')]; simp [hx]; simpa using hj
theorem hdv_dst {w : World} {g : Nat} {t : TypeId} {xs : List Int} {s d : Array Value} (hx : xs.length = 9) (hs : s.size = 17) (h : Blk w g t (hdv xs s d)) : w.rangeAt g 26 d.toList := by
  intro j x hj
  unfold World.cell?
  rw [h]
  simp only [hdv]
  show (some _).bind _ = _ 
  simp only [Option.bind_some, List.getElem?_toArray]
  rw [List.getElem?_append_right (by simp [hx]; omega), List.getElem?_append_right (by simp [hx, hs]; omega)]; simp [hx, hs]; rw [show 26 + j - 9 - 17 = j by omega]; simpa using hj

theorem four4_any (v : Int) (l : List UInt8) (hl : l.length = 16) (w : World) :
    Calls Try.prog 105 #[.agg (adv v l)] w fun e w' => e = .returned (.bool (v == 4 && okA v l)) ∧ Below w.heap.size w w' := by
  have k0 : Blk (w.alloc (.cells (adv v l) 32)) w.heap.size 32 (adv v l) := blk_new _ _ _
  have hb0 : Below w.heap.size w (w.alloc (.cells (adv v l) 32)) := (Below.refl _ _).alloc (Nat.le_refl _) _
  have hz := Adr_size v l hl
  have c0 := k0.adv0
  by_cases h4 : v = 4
  · subst h4
    go_enter Try.func105, Try.ntmps105
    go_wp2_with (first
      | (refine wpList_loadBlk (g := w.heap.size) (t := 32) (cs := adv 4 l) rfl 32 (.tmp 1) ?ho ?hx ?hA _ Try.underlying32 rfl ?hi ?_
         case ho => with_reducible rfl
         case hx => rfl
         case hA => exact k0
         case hi => exact hz)
      | fail)
    refine (right_any 4 l hl _).mono ?_
    rintro e w1 ⟨rfl, hb1⟩
    have b1 := Below.on hb0 hb0.size hb1
    clear k0 hb0 hb1 c0
    cases hB : okA 4 l
    all_goals
      go_wp2
      go_ret
      exact ⟨by simp [hB], b1⟩
  · have h4' : decide (v = 4) = false := decide_eq_false h4
    have h4'' : (v == 4) = false := by simpa using h4
    go_enter Try.func105, Try.ntmps105
    go_wp2_with fail
    go_ret
    exact ⟨by simp [h4''], hb0⟩

theorem wpList_loadPart {P : Program} {w : World} {g : Nat} {ops : Array Oper} {rest : List Oper} {o : Oper} {a : Act} {Q : Exit → Act → World → Prop} (hw : Region.wanted o (yielded ops a.tmps) = true) (ty : TypeId) (x : Operand) (ho : o.op = .load ty x)
    (off : Nat) (hx : a.eval x = .pointer (some ⟨g, off, none⟩)) (cs : Array Value) (d : TypeDesc) (hc : w.rangeAt g off cs.toList)
    (hu : P.underlying ty = some d) (hd : d.isRow = true) (hi : (P.info? ty).map (·.size) = some cs.size)
    (h : wpList P ops Q rest (a.put o.dst (.agg cs)) w) : wpList P ops Q (o :: rest) a w :=
  wpList_on hw (wp_load_mid ty x ho g off hx cs.toList d hc hu hd (by simpa using hi) h)

theorem Blk.cellA {w : World} {g : Nat} {t : TypeId} {cs : Array Value} (h : Blk w g t cs) (j : Nat) : w.cell? ⟨g, j, none⟩ = cs[j]? := by
  unfold World.cell?; rw [h]; rfl

theorem i64_orN (a b : Nat) (ha : a < 9223372036854775808) (hb : b < 9223372036854775808) : bits .or .i64 (a : Int) (b : Int) = ((a ||| b : Nat) : Int) := by
  have hx : a ||| b < 2 ^ 63 := Nat.or_lt_two_pow (by omega) (by omega)
  show IntKind.i64.wrap ((BitVec.ofInt 64 (a : Int) ||| BitVec.ofInt 64 (b : Int)).toNat : Int) = _
  rw [BitVec.toNat_or, ofInt_u64 a (by omega), ofInt_u64 b (by omega)]
  first
    | (rw [IntWalk.i64_in _ (by omega)])
    | (simp [IntKind.wrap, IntKind.bits, IntKind.signed]; omega)

set_option maxHeartbeats 1000000 in
theorem fits_in (V S T : Int) (C I F G L P : Nat) (v v' : Int) (l l' : List UInt8) (hl : l.length = 16) (hl' : l'.length = 16) (w : World)
    (bC : C < 256) (bI : I < 65536) (bF : F < 8) (bG : G < 8192) (bL : L < 256) (bP : P < 256) :
    Calls Try.prog 67 #[.agg (hdv [V, S, T, C, I, F, G, L, P] (adv v l) (adv v' l'))] w fun e w' => e = .returned (.bool ((v == 4 && okA v l) && (v' == 4 && okA v' l'))) ∧ Below w.heap.size w w' := by
  have k0 : Blk (w.alloc (.cells (hdv [V, S, T, C, I, F, G, L, P] (adv v l) (adv v' l')) 42)) w.heap.size 42 (hdv [V, S, T, C, I, F, G, L, P] (adv v l) (adv v' l')) := blk_new _ _ _
  have hb0 : Below w.heap.size w (w.alloc (.cells (hdv [V, S, T, C, I, F, G, L, P] (adv v l) (adv v' l')) 42)) := (Below.refl _ _).alloc (Nat.le_refl _) _
  have c3 := hdv_num [V, S, T, C, I, F, G, L, P] (adv v l) (adv v' l') 3 C rfl
  have c4 := hdv_num [V, S, T, C, I, F, G, L, P] (adv v l) (adv v' l') 4 I rfl
  have c5 := hdv_num [V, S, T, C, I, F, G, L, P] (adv v l) (adv v' l') 5 F rfl
  have c6 := hdv_num [V, S, T, C, I, F, G, L, P] (adv v l) (adv v' l') 6 G rfl
  have c7 := hdv_num [V, S, T, C, I, F, G, L, P] (adv v l) (adv v' l') 7 L rfl
  have c8 := hdv_num [V, S, T, C, I, F, G, L, P] (adv v l) (adv v' l') 8 P rfl
  have R1 := fun (W : World) (h : Blk W w.heap.size 42 (hdv [V, S, T, C, I, F, G, L, P] (adv v l) (adv v' l'))) => hdv_src (by rfl) h
  have R2 := fun (W : World) (h : Blk W w.heap.size 42 (hdv [V, S, T, C, I, F, G, L, P] (adv v l) (adv v' l'))) => hdv_dst (by rfl) (adv_size v l hl) h
  have z1 := Adr_size v l hl
  have z2 := Adr_size v' l' hl'
  have H1 := Lib.hid (fun W => four4_any v l hl W)
  have H2 := Lib.hid (fun W => four4_any v' l' hl' W)
  have eC : bits .or .i64 (bits .or .i64 (C : Int) (L : Int)) (P : Int) / 256 = 0 := by
    have h1 : C ||| L < 2 ^ 8 := Nat.or_lt_two_pow (by omega) (by omega)
    have h2 : C ||| L ||| P < 2 ^ 8 := Nat.or_lt_two_pow h1 (by omega)
    rw [i64_orN C L (by omega) (by omega), i64_orN _ P (by omega) (by omega)]
    omega
  have eI : (I : Int) / 65536 = 0 := by omega
  have eF : (F : Int) / 8 = 0 := by omega
  have eG : (G : Int) / 8192 = 0 := by omega
  have e00 : bits .or .i64 0 0 = 0 := i64_orN 0 0 (by omega) (by omega)
  generalize hB1 : (v == 4 && okA v l) = B1 at *
  generalize hB2 : (v' == 4 && okA v' l') = B2 at *
  generalize hdv [V, S, T, C, I, F, G, L, P] (adv v l) (adv v' l') = M at *
  generalize adv v l = s at *
  generalize adv v' l' = d at *
  clear hB1 hB2 bC bI bF bG bL bP
  cases B1
  · go_enter Try.func67, Try.ntmps67
    go_wp2_with (first
      | (refine wpList_loadPart (g := w.heap.size) rfl 32 (.tmp 28) ?ho 9 ?hx s _ (R1 _ k0) Try.underlying32 rfl ?hi ?_
         case ho => with_reducible rfl
         case hx => rfl
         case hi => exact z1)
      | fail)
    refine (H1.out _).mono ?_
    rintro e w1 ⟨rfl, hb1⟩
    have b1 := Below.on hb0 hb0.size hb1
    clear k0 hb0 hb1 R1 R2
    go_wp2
    go_ret
    exact ⟨by simp, b1⟩
  · go_enter Try.func67, Try.ntmps67
    go_wp2_with (first
      | (refine wpList_loadPart (g := w.heap.size) rfl 32 (.tmp 28) ?ho 9 ?hx s _ (R1 _ k0) Try.underlying32 rfl ?hi ?_
         case ho => with_reducible rfl
         case hx => rfl
         case hi => exact z1)
      | fail)
    refine (H1.out _).mono ?_
    rintro e w1 ⟨rfl, hb1⟩
    have k1 := k0.on hb1
    have b1 := Below.on hb0 hb0.size hb1
    clear k0 hb0 hb1
    go_wp2_with (first
      | (refine wpList_loadPart (g := w.heap.size) rfl 32 (.tmp 33) ?ho 26 ?hx d _ (R2 _ k1) Try.underlying32 rfl ?hi ?_
         case ho => with_reducible rfl
         case hx => rfl
         case hi => exact z2)
      | fail)
    refine (H2.out _).mono ?_
    rintro e w2 ⟨rfl, hb2⟩
    have b2 := Below.on b1 b1.size hb2
    clear k1 b1 hb2 R1 R2
    cases B2
    all_goals
      go_wp2
      go_ret
      exact ⟨by simp, b2⟩

end Go.Proofs.Ytkokgoodpibboaa
