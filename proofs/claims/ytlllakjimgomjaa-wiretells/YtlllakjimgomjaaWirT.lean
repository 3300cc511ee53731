
/- Out of the texts WirB, WirC, WirD, WirE, WirF, WirK, WirL, WirM (tools/merge.py). -/
import Derived.Test.YtlllakjimgomjaaWirA
import Derived.Test.YtlllakjimgomjaaIniH
import Derived.Test.YtlllakjimgomjaaAnsH
import Derived.Test.YtlllakjimgomjaaCokH
import Derived.Test.YtlllakjimgomjaaDatF
/- WirB -/
namespace Go.Proofs.Ytlllakjimgomjaa
open Go.RowKit
set_option linter.unusedVariables false
set_option linter.unusedSimpArgs false

theorem wcs_0 (k : Int) (i r c t : Array Value) : (wcs k i r c t)[0]? = some (.int .i64 k) := by simp [wcs]
theorem range_I {w : World} {g : Nat} {k : Int} {i r c t : Array Value} (h : Blk w g 58 (wcs k i r c t)) (hz : Wsz i r c t) : w.rangeAt g 1 i.toList := by
  have h1 := hz.i; have h2 := hz.r; have h3 := hz.c; have h4 := hz.t
  rw [wcs_I] at h
  have := blk_range h
  simp only [List.length_append, List.length_cons, List.length_nil, Array.length_toList, h1, h2, h3] at this
  exact this
theorem size_I : (Try.prog.info? 49).map (·.size) = some 141 := by kernel_rfl
theorem range_R {w : World} {g : Nat} {k : Int} {i r c t : Array Value} (h : Blk w g 58 (wcs k i r c t)) (hz : Wsz i r c t) : w.rangeAt g 142 r.toList := by
  have h1 := hz.i; have h2 := hz.r; have h3 := hz.c; have h4 := hz.t
  rw [wcs_R] at h
  have := blk_range h
  simp only [List.length_append, List.length_cons, List.length_nil, Array.length_toList, h1, h2, h3] at this
  exact this
theorem size_R : (Try.prog.info? 51).map (·.size) = some 82 := by kernel_rfl
theorem range_C {w : World} {g : Nat} {k : Int} {i r c t : Array Value} (h : Blk w g 58 (wcs k i r c t)) (hz : Wsz i r c t) : w.rangeAt g 224 c.toList := by
  have h1 := hz.i; have h2 := hz.r; have h3 := hz.c; have h4 := hz.t
  rw [wcs_C] at h
  have := blk_range h
  simp only [List.length_append, List.length_cons, List.length_nil, Array.length_toList, h1, h2, h3] at this
  exact this
theorem size_C : (Try.prog.info? 54).map (·.size) = some 57 := by kernel_rfl
theorem range_T {w : World} {g : Nat} {k : Int} {i r c t : Array Value} (h : Blk w g 58 (wcs k i r c t)) (hz : Wsz i r c t) : w.rangeAt g 281 t.toList := by
  have h1 := hz.i; have h2 := hz.r; have h3 := hz.c; have h4 := hz.t
  rw [wcs_T] at h
  have := blk_range h
  simp only [List.length_append, List.length_cons, List.length_nil, Array.length_toList, h1, h2, h3] at this
  exact this
theorem size_T : (Try.prog.info? 56).map (·.size) = some 3 := by kernel_rfl
theorem wpList_storeI {w : World} {g : Nat} {k : Int} {i r c t ni : Array Value} {ops : Array Oper} {rest : List Oper} {o : Oper} {a : Act} {Q : Exit → Act → World → Prop} (hgd : o.guard = none) (x y : Operand) (ho : o.op = .store 49 x y)
    (hx : a.eval x = .pointer (some ⟨g, 1, none⟩)) (hy : a.eval y = .agg ni) (hB : Blk w g 58 (wcs k i r c t)) (hz : Wsz i r c t) (hnew : ni.size = 141) (hone : One ni)
    (h : ∀ w', Blk w' g 58 (wcs k ni r c t) → w.grownBy w' (some g) → wpList Try.prog ops Q rest (a.put o.dst undef) w') : wpList Try.prog ops Q (o :: rest) a w := by
  have h1 := hz.i; have h2 := hz.r; have h3 := hz.c; have h4 := hz.t
  rw [wcs_I] at hB
  refine wpList_storeMid hgd 49 x y ho 1 hx ni hy hB ?_ ?_ ?_ hone ?_
  · simp only [List.length_append, List.length_cons, List.length_nil, Array.length_toList, h1, h2, h3]
  · rw [Array.length_toList, hnew, hz.i]
  · rw [size_I, hnew]
  · rw [← wcs_I]; exact h
theorem wpList_storeR {w : World} {g : Nat} {k : Int} {i r c t nr : Array Value} {ops : Array Oper} {rest : List Oper} {o : Oper} {a : Act} {Q : Exit → Act → World → Prop} (hgd : o.guard = none) (x y : Operand) (ho : o.op = .store 51 x y)
    (hx : a.eval x = .pointer (some ⟨g, 142, none⟩)) (hy : a.eval y = .agg nr) (hB : Blk w g 58 (wcs k i r c t)) (hz : Wsz i r c t) (hnew : nr.size = 82) (hone : One nr)
    (h : ∀ w', Blk w' g 58 (wcs k i nr c t) → w.grownBy w' (some g) → wpList Try.prog ops Q rest (a.put o.dst undef) w') : wpList Try.prog ops Q (o :: rest) a w := by
  have h1 := hz.i; have h2 := hz.r; have h3 := hz.c; have h4 := hz.t
  rw [wcs_R] at hB
  refine wpList_storeMid hgd 51 x y ho 142 hx nr hy hB ?_ ?_ ?_ hone ?_
  · simp only [List.length_append, List.length_cons, List.length_nil, Array.length_toList, h1, h2, h3]
  · rw [Array.length_toList, hnew, hz.r]
  · rw [size_R, hnew]
  · rw [← wcs_R]; exact h
theorem wpList_storeC {w : World} {g : Nat} {k : Int} {i r c t nc : Array Value} {ops : Array Oper} {rest : List Oper} {o : Oper} {a : Act} {Q : Exit → Act → World → Prop} (hgd : o.guard = none) (x y : Operand) (ho : o.op = .store 54 x y)
    (hx : a.eval x = .pointer (some ⟨g, 224, none⟩)) (hy : a.eval y = .agg nc) (hB : Blk w g 58 (wcs k i r c t)) (hz : Wsz i r c t) (hnew : nc.size = 57) (hone : One nc)
    (h : ∀ w', Blk w' g 58 (wcs k i r nc t) → w.grownBy w' (some g) → wpList Try.prog ops Q rest (a.put o.dst undef) w') : wpList Try.prog ops Q (o :: rest) a w := by
  have h1 := hz.i; have h2 := hz.r; have h3 := hz.c; have h4 := hz.t
  rw [wcs_C] at hB
  refine wpList_storeMid hgd 54 x y ho 224 hx nc hy hB ?_ ?_ ?_ hone ?_
  · simp only [List.length_append, List.length_cons, List.length_nil, Array.length_toList, h1, h2, h3]
  · rw [Array.length_toList, hnew, hz.c]
  · rw [size_C, hnew]
  · rw [← wcs_C]; exact h
theorem wpList_storeT {w : World} {g : Nat} {k : Int} {i r c t nt : Array Value} {ops : Array Oper} {rest : List Oper} {o : Oper} {a : Act} {Q : Exit → Act → World → Prop} (hgd : o.guard = none) (x y : Operand) (ho : o.op = .store 56 x y)
    (hx : a.eval x = .pointer (some ⟨g, 281, none⟩)) (hy : a.eval y = .agg nt) (hB : Blk w g 58 (wcs k i r c t)) (hz : Wsz i r c t) (hnew : nt.size = 3) (hone : One nt)
    (h : ∀ w', Blk w' g 58 (wcs k i r c nt) → w.grownBy w' (some g) → wpList Try.prog ops Q rest (a.put o.dst undef) w') : wpList Try.prog ops Q (o :: rest) a w := by
  have h1 := hz.i; have h2 := hz.r; have h3 := hz.c; have h4 := hz.t
  rw [wcs_T] at hB
  refine wpList_storeMid hgd 56 x y ho 281 hx nt hy hB ?_ ?_ ?_ hone ?_
  · simp only [List.length_append, List.length_cons, List.length_nil, Array.length_toList, h1, h2, h3]
  · rw [Array.length_toList, hnew, hz.t]
  · rw [size_T, hnew]
  · rw [← wcs_T]; exact h
theorem wireBytes_I (i r c t : Array Value) (n : Nat) (l : List UInt8) (w : World) (hz : Wsz i r c t)
    (hS : ∀ W : World, Below w.heap.size w W → Calls Try.prog 35 #[.agg i] W fun e w' => ∃ v, e = .returned v ∧ Own w' W.heap.size v n l ∧ Below W.heap.size W w') :
    Calls Try.prog 20 #[.agg (wcs 1 i r c t)] w fun e w' => ∃ v, e = .returned (.tuple #[v, .int .i64 0]) ∧ Own w' w.heap.size v n l ∧ Below w.heap.size w w' := by
  have HS := Lib.hid hS
  have hB0 := blk_new w 58 (wcs 1 i r c t)
  have hk0 := wcs_0 1 i r c t
  have hb0 : Below w.heap.size w (w.alloc (.cells (wcs 1 i r c t) 58)) := (Below.refl _ _).alloc (Nat.le_refl _) _
  have hrg := range_I hB0 hz
  clear hS
  go_enter Try.func20, Try.ntmps20
  go_wp2_with (
    refine wpList_loadMid (g := w.heap.size) rfl 49 (.tmp 8) ?ho 1 ?hx i _ hrg Try.underlying49 rfl ?hi ?_
    case ho => with_reducible rfl
    case hx => rfl
    case hi => rw [size_I, hz.i])
  generalize w.alloc (.cells (wcs 1 i r c t) 58) = w0 at *
  refine (HS.out w0 hb0).mono ?_
  rintro e w1 ⟨v, rfl, ho1, hb1⟩
  have hb01 := Below.on hb0 hb0.size hb1
  have ho2 := ho1.base hb0.size
  obtain ⟨A2, c2, rfl, _, _, _⟩ := ho2.shows
  clear HS hB0 hk0 hrg ho1 hb0 hb1
  go_wp2
  go_ret2
  exact ⟨_, rfl, ho2, hb01⟩

theorem wireBytes_R (i r c t : Array Value) (n : Nat) (l : List UInt8) (w : World) (hz : Wsz i r c t)
    (hS : ∀ W : World, Below w.heap.size w W → Calls Try.prog 36 #[.agg r] W fun e w' => ∃ v, e = .returned v ∧ Own w' W.heap.size v n l ∧ Below W.heap.size W w') :
    Calls Try.prog 20 #[.agg (wcs 2 i r c t)] w fun e w' => ∃ v, e = .returned (.tuple #[v, .int .i64 0]) ∧ Own w' w.heap.size v n l ∧ Below w.heap.size w w' := by
  have HS := Lib.hid hS
  have hB0 := blk_new w 58 (wcs 2 i r c t)
  have hk0 := wcs_0 2 i r c t
  have hb0 : Below w.heap.size w (w.alloc (.cells (wcs 2 i r c t) 58)) := (Below.refl _ _).alloc (Nat.le_refl _) _
  have hrg := range_R hB0 hz
  clear hS
  go_enter Try.func20, Try.ntmps20
  go_wp2_with (
    refine wpList_loadMid (g := w.heap.size) rfl 51 (.tmp 13) ?ho 142 ?hx r _ hrg Try.underlying51 rfl ?hi ?_
    case ho => with_reducible rfl
    case hx => rfl
    case hi => rw [size_R, hz.r])
  generalize w.alloc (.cells (wcs 2 i r c t) 58) = w0 at *
  refine (HS.out w0 hb0).mono ?_
  rintro e w1 ⟨v, rfl, ho1, hb1⟩
  have hb01 := Below.on hb0 hb0.size hb1
  have ho2 := ho1.base hb0.size
  obtain ⟨A2, c2, rfl, _, _, _⟩ := ho2.shows
  clear HS hB0 hk0 hrg ho1 hb0 hb1
  go_wp2
  go_ret2
  exact ⟨_, rfl, ho2, hb01⟩

theorem wireBytes_C (i r c t : Array Value) (n : Nat) (l : List UInt8) (w : World) (hz : Wsz i r c t)
    (hS : ∀ W : World, Below w.heap.size w W → Calls Try.prog 37 #[.agg c] W fun e w' => ∃ v, e = .returned v ∧ Own w' W.heap.size v n l ∧ Below W.heap.size W w') :
    Calls Try.prog 20 #[.agg (wcs 3 i r c t)] w fun e w' => ∃ v, e = .returned (.tuple #[v, .int .i64 0]) ∧ Own w' w.heap.size v n l ∧ Below w.heap.size w w' := by
  have HS := Lib.hid hS
  have hB0 := blk_new w 58 (wcs 3 i r c t)
  have hk0 := wcs_0 3 i r c t
  have hb0 : Below w.heap.size w (w.alloc (.cells (wcs 3 i r c t) 58)) := (Below.refl _ _).alloc (Nat.le_refl _) _
  have hrg := range_C hB0 hz
  clear hS
  go_enter Try.func20, Try.ntmps20
  go_wp2_with (
    refine wpList_loadMid (g := w.heap.size) rfl 54 (.tmp 18) ?ho 224 ?hx c _ hrg Try.underlying54 rfl ?hi ?_
    case ho => with_reducible rfl
    case hx => rfl
    case hi => rw [size_C, hz.c])
  generalize w.alloc (.cells (wcs 3 i r c t) 58) = w0 at *
  refine (HS.out w0 hb0).mono ?_
  rintro e w1 ⟨v, rfl, ho1, hb1⟩
  have hb01 := Below.on hb0 hb0.size hb1
  have ho2 := ho1.base hb0.size
  obtain ⟨A2, c2, rfl, _, _, _⟩ := ho2.shows
  clear HS hB0 hk0 hrg ho1 hb0 hb1
  go_wp2
  go_ret2
  exact ⟨_, rfl, ho2, hb01⟩

theorem wireBytes_T (i r c t : Array Value) (n : Nat) (l : List UInt8) (E : Int) (w : World) (hz : Wsz i r c t)
    (hS : ∀ W : World, Below w.heap.size w W → Calls Try.prog 38 #[.agg t] W fun e w' => ∃ v, e = .returned (.tuple #[v, .int .i64 E]) ∧ Own w' W.heap.size v n l ∧ Below W.heap.size W w') :
    Calls Try.prog 20 #[.agg (wcs 4 i r c t)] w fun e w' => ∃ v, e = .returned (.tuple #[v, .int .i64 E]) ∧ Own w' w.heap.size v n l ∧ Below w.heap.size w w' := by
  have HS := Lib.hid hS
  have hB0 := blk_new w 58 (wcs 4 i r c t)
  have hk0 := wcs_0 4 i r c t
  have hb0 : Below w.heap.size w (w.alloc (.cells (wcs 4 i r c t) 58)) := (Below.refl _ _).alloc (Nat.le_refl _) _
  have hrg := range_T hB0 hz
  clear hS
  go_enter Try.func20, Try.ntmps20
  go_wp2_with (
    refine wpList_loadMid (g := w.heap.size) rfl 56 (.tmp 23) ?ho 281 ?hx t _ hrg Try.underlying56 rfl ?hi ?_
    case ho => with_reducible rfl
    case hx => rfl
    case hi => rw [size_T, hz.t])
  generalize w.alloc (.cells (wcs 4 i r c t) 58) = w0 at *
  refine (HS.out w0 hb0).mono ?_
  rintro e w1 ⟨v, rfl, ho1, hb1⟩
  have hb01 := Below.on hb0 hb0.size hb1
  have ho2 := ho1.base hb0.size
  obtain ⟨A2, c2, rfl, _, _, _⟩ := ho2.shows
  clear HS hB0 hk0 hrg ho1 hb0 hb1
  go_wp2
  go_ret2
  exact ⟨_, rfl, ho2, hb01⟩

set_option maxRecDepth 100000 in
theorem wireBytes_none (k : Int) (i r c t : Array Value) (w : World) (hk : k < 1 ∨ 4 < k) :
    Calls Try.prog 20 #[.agg (wcs k i r c t)] w fun e w' => e = .returned (.tuple #[.slice none 0 0, .int .i64 9]) ∧ Below w.heap.size w w' := by
  have hk0 := wcs_0 k i r c t
  have hb0 : Below w.heap.size w (w.alloc (.cells (wcs k i r c t) 58)) := (Below.refl _ _).alloc (Nat.le_refl _) _
  have d1 : decide (k = 1) = false := decide_eq_false (by omega)
  have d2 : decide (k = 2) = false := decide_eq_false (by omega)
  have d3 : decide (k = 3) = false := decide_eq_false (by omega)
  have d4 : decide (k = 4) = false := decide_eq_false (by omega)
  have n1 : ¬ k = 1 := by omega
  have n2 : ¬ k = 2 := by omega
  have n3 : ¬ k = 3 := by omega
  have n4 : ¬ k = 4 := by omega
  clear hk
  go_enter Try.func20, Try.ntmps20
  go_wp2_with fail
  go_ret2
  exact ⟨rfl, hb0⟩

theorem ref17Bytes_I (i r c t : Array Value) (n : Nat) (l : List UInt8) (w : World) (hz : Wsz i r c t)
    (hS : ∀ W : World, Below w.heap.size w W → Calls Try.prog 39 #[.agg i] W fun e w' => ∃ v, e = .returned v ∧ Own w' W.heap.size v n l ∧ Below W.heap.size W w') :
    Calls Try.prog 21 #[.agg (wcs 1 i r c t)] w fun e w' => ∃ v, e = .returned (.tuple #[v, .int .i64 0]) ∧ Own w' w.heap.size v n l ∧ Below w.heap.size w w' := by
  have HS := Lib.hid hS
  have hB0 := blk_new w 58 (wcs 1 i r c t)
  have hk0 := wcs_0 1 i r c t
  have hb0 : Below w.heap.size w (w.alloc (.cells (wcs 1 i r c t) 58)) := (Below.refl _ _).alloc (Nat.le_refl _) _
  have hrg := range_I hB0 hz
  clear hS
  go_enter Try.func21, Try.ntmps21
  go_wp2_with (
    refine wpList_loadMid (g := w.heap.size) rfl 49 (.tmp 7) ?ho 1 ?hx i _ hrg Try.underlying49 rfl ?hi ?_
    case ho => with_reducible rfl
    case hx => rfl
    case hi => rw [size_I, hz.i])
  generalize w.alloc (.cells (wcs 1 i r c t) 58) = w0 at *
  refine (HS.out w0 hb0).mono ?_
  rintro e w1 ⟨v, rfl, ho1, hb1⟩
  have hb01 := Below.on hb0 hb0.size hb1
  have ho2 := ho1.base hb0.size
  obtain ⟨A2, c2, rfl, _, _, _⟩ := ho2.shows
  clear HS hB0 hk0 hrg ho1 hb0 hb1
  go_wp2
  go_ret2
  exact ⟨_, rfl, ho2, hb01⟩

theorem ref17Bytes_R (i r c t : Array Value) (n : Nat) (l : List UInt8) (w : World) (hz : Wsz i r c t)
    (hS : ∀ W : World, Below w.heap.size w W → Calls Try.prog 40 #[.agg r] W fun e w' => ∃ v, e = .returned v ∧ Own w' W.heap.size v n l ∧ Below W.heap.size W w') :
    Calls Try.prog 21 #[.agg (wcs 2 i r c t)] w fun e w' => ∃ v, e = .returned (.tuple #[v, .int .i64 0]) ∧ Own w' w.heap.size v n l ∧ Below w.heap.size w w' := by
  have HS := Lib.hid hS
  have hB0 := blk_new w 58 (wcs 2 i r c t)
  have hk0 := wcs_0 2 i r c t
  have hb0 : Below w.heap.size w (w.alloc (.cells (wcs 2 i r c t) 58)) := (Below.refl _ _).alloc (Nat.le_refl _) _
  have hrg := range_R hB0 hz
  clear hS
  go_enter Try.func21, Try.ntmps21
  go_wp2_with (
    refine wpList_loadMid (g := w.heap.size) rfl 51 (.tmp 13) ?ho 142 ?hx r _ hrg Try.underlying51 rfl ?hi ?_
    case ho => with_reducible rfl
    case hx => rfl
    case hi => rw [size_R, hz.r])
  generalize w.alloc (.cells (wcs 2 i r c t) 58) = w0 at *
  refine (HS.out w0 hb0).mono ?_
  rintro e w1 ⟨v, rfl, ho1, hb1⟩
  have hb01 := Below.on hb0 hb0.size hb1
  have ho2 := ho1.base hb0.size
  obtain ⟨A2, c2, rfl, _, _, _⟩ := ho2.shows
  clear HS hB0 hk0 hrg ho1 hb0 hb1
  go_wp2
  go_ret2
  exact ⟨_, rfl, ho2, hb01⟩

theorem ref17Bytes_C (i r c t : Array Value) (n : Nat) (l : List UInt8) (w : World) (hz : Wsz i r c t)
    (hS : ∀ W : World, Below w.heap.size w W → Calls Try.prog 41 #[.agg c] W fun e w' => ∃ v, e = .returned v ∧ Own w' W.heap.size v n l ∧ Below W.heap.size W w') :
    Calls Try.prog 21 #[.agg (wcs 3 i r c t)] w fun e w' => ∃ v, e = .returned (.tuple #[v, .int .i64 0]) ∧ Own w' w.heap.size v n l ∧ Below w.heap.size w w' := by
  have HS := Lib.hid hS
  have hB0 := blk_new w 58 (wcs 3 i r c t)
  have hk0 := wcs_0 3 i r c t
  have hb0 : Below w.heap.size w (w.alloc (.cells (wcs 3 i r c t) 58)) := (Below.refl _ _).alloc (Nat.le_refl _) _
  have hrg := range_C hB0 hz
  clear hS
  go_enter Try.func21, Try.ntmps21
  go_wp2_with (
    refine wpList_loadMid (g := w.heap.size) rfl 54 (.tmp 19) ?ho 224 ?hx c _ hrg Try.underlying54 rfl ?hi ?_
    case ho => with_reducible rfl
    case hx => rfl
    case hi => rw [size_C, hz.c])
  generalize w.alloc (.cells (wcs 3 i r c t) 58) = w0 at *
  refine (HS.out w0 hb0).mono ?_
  rintro e w1 ⟨v, rfl, ho1, hb1⟩
  have hb01 := Below.on hb0 hb0.size hb1
  have ho2 := ho1.base hb0.size
  obtain ⟨A2, c2, rfl, _, _, _⟩ := ho2.shows
  clear HS hB0 hk0 hrg ho1 hb0 hb1
  go_wp2
  go_ret2
  exact ⟨_, rfl, ho2, hb01⟩

theorem ref17Bytes_T (i r c t : Array Value) (n : Nat) (l : List UInt8) (E : Int) (w : World) (hz : Wsz i r c t)
    (hS : ∀ W : World, Below w.heap.size w W → Calls Try.prog 42 #[.agg t] W fun e w' => ∃ v, e = .returned (.tuple #[v, .int .i64 E]) ∧ Own w' W.heap.size v n l ∧ Below W.heap.size W w') :
    Calls Try.prog 21 #[.agg (wcs 4 i r c t)] w fun e w' => ∃ v, e = .returned (.tuple #[v, .int .i64 E]) ∧ Own w' w.heap.size v n l ∧ Below w.heap.size w w' := by
  have HS := Lib.hid hS
  have hB0 := blk_new w 58 (wcs 4 i r c t)
  have hk0 := wcs_0 4 i r c t
  have hb0 : Below w.heap.size w (w.alloc (.cells (wcs 4 i r c t) 58)) := (Below.refl _ _).alloc (Nat.le_refl _) _
  have hrg := range_T hB0 hz
  clear hS
  go_enter Try.func21, Try.ntmps21
  go_wp2_with (
    refine wpList_loadMid (g := w.heap.size) rfl 56 (.tmp 25) ?ho 281 ?hx t _ hrg Try.underlying56 rfl ?hi ?_
    case ho => with_reducible rfl
    case hx => rfl
    case hi => rw [size_T, hz.t])
  generalize w.alloc (.cells (wcs 4 i r c t) 58) = w0 at *
  refine (HS.out w0 hb0).mono ?_
  rintro e w1 ⟨v, rfl, ho1, hb1⟩
  have hb01 := Below.on hb0 hb0.size hb1
  have ho2 := ho1.base hb0.size
  obtain ⟨A2, c2, rfl, _, _, _⟩ := ho2.shows
  clear HS hB0 hk0 hrg ho1 hb0 hb1
  go_wp2
  go_ret2
  exact ⟨_, rfl, ho2, hb01⟩

set_option maxRecDepth 100000 in
theorem ref17Bytes_none (k : Int) (i r c t : Array Value) (w : World) (hk : k < 1 ∨ 4 < k) :
    Calls Try.prog 21 #[.agg (wcs k i r c t)] w fun e w' => e = .returned (.tuple #[.slice none 0 0, .int .i64 9]) ∧ Below w.heap.size w w' := by
  have hk0 := wcs_0 k i r c t
  have hb0 : Below w.heap.size w (w.alloc (.cells (wcs k i r c t) 58)) := (Below.refl _ _).alloc (Nat.le_refl _) _
  have d1 : decide (k = 1) = false := decide_eq_false (by omega)
  have d2 : decide (k = 2) = false := decide_eq_false (by omega)
  have d3 : decide (k = 3) = false := decide_eq_false (by omega)
  have d4 : decide (k = 4) = false := decide_eq_false (by omega)
  have n1 : ¬ k = 1 := by omega
  have n2 : ¬ k = 2 := by omega
  have n3 : ¬ k = 3 := by omega
  have n4 : ¬ k = 4 := by omega
  clear hk
  go_enter Try.func21, Try.ntmps21
  go_wp2_with fail
  go_ret2
  exact ⟨rfl, hb0⟩

end Go.Proofs.Ytlllakjimgomjaa

/- WirC -/
namespace Go.Proofs.Ytlllakjimgomjaa
open Go.RowKit
set_option linter.unusedVariables false
set_option linter.unusedSimpArgs false

set_option maxRecDepth 100000 in
theorem wireParse_empty (A : Option Addr) (c : Nat) (w : World) : Calls Try.prog 22 #[.slice A 0 c] w fun e w' => e = .returned (.tuple #[.agg (wcs 0 zI zR zC zT), .int .i64 3]) ∧ Below w.heap.size w w' := by
  have hz := (zero_of_info Try.zeroMsg).1
  have hzs : (wcs 0 zI zR zC zT).size = 284 := wcs_size 0 zsz
  have hzn : ¬ wcs 0 zI zR zC zT = #[] := fun h => by rw [h] at hzs; simp at hzs
  have k0 := blk_new w 58 (wcs 0 zI zR zC zT)
  have hb0 : Below w.heap.size w (w.alloc (.cells (wcs 0 zI zR zC zT) 58)) := (Below.refl _ _).alloc (Nat.le_refl _) _
  go_enter Try.func22, Try.ntmps22
  go_wp2_with (
    refine wpList_storeBlk (g := w.heap.size) (t := 58) (cs := wcs 0 zI zR zC zT) rfl 58 (.tmp 2) (.tmp 9) ?ho ?hx2 ?hy2 (wcs 0 zI zR zC zT) k0 ?hi ?hs ?h1 ?_
    case ho => with_reducible rfl
    case hx2 => rfl
    case hy2 => rfl
    case hi => exact msg_size 0 zsz
    case hs => rfl
    case h1 => exact wcs_one zone.1 zone.2.1 zone.2.2.1 zone.2.2.2
    intro w9 hB9 hg9)
  refine bodyPost_blk2 rfl _ rfl hB9 Try.underlying58 rfl (msg_size 0 zsz) rfl ⟨rfl, ?_⟩
  exact hb0.grown hg9 hb0.size (fun k hk => by injection hk with hk; omega)

set_option maxRecDepth 100000 in
theorem wireParse_none (b off n c : Nat) (x : UInt8) (l : List UInt8) (w : World) (hn : 0 < n) (hm : n ≤ 9223372036854775807) (hs : Shows w w.heap.size (some ⟨b, off, none⟩) n (x :: l)) (hx : x.toNat < 1 ∨ 4 < x.toNat) :
    Calls Try.prog 22 #[.slice (some ⟨b, off, none⟩) n c] w fun e w' => e = .returned (.tuple #[.agg (wcs 0 zI zR zC zT), .int .i64 9]) ∧ Below w.heap.size w w' := by
  obtain ⟨b', off', e, hb, hcell⟩ := hs.2 hn
  injection e with e
  injection e with e1 e2
  subst e1
  subst e2
  have c0 := hcell 0 (by simp)
  simp only [List.getElem_cons_zero, Nat.add_zero] at c0
  have hx8 := x.toNat_lt
  have d1 : decide ((x.toNat : Int) = 1) = false := decide_eq_false (by omega)
  have d2 : decide ((x.toNat : Int) = 2) = false := decide_eq_false (by omega)
  have d3 : decide ((x.toNat : Int) = 3) = false := decide_eq_false (by omega)
  have d4 : decide ((x.toNat : Int) = 4) = false := decide_eq_false (by omega)
  have hwr : IntKind.i64.wrap (x.toNat : Int) = (x.toNat : Int) := IntWalk.i64_in _ (by omega)
  have n1 : ¬ x.toNat = 1 := by omega
  have n2 : ¬ x.toNat = 2 := by omega
  have n3 : ¬ x.toNat = 3 := by omega
  have n4 : ¬ x.toNat = 4 := by omega
  have i1 : ¬ (x.toNat : Int) = 1 := by omega
  have i2 : ¬ (x.toNat : Int) = 2 := by omega
  have i3 : ¬ (x.toNat : Int) = 3 := by omega
  have i4 : ¬ (x.toNat : Int) = 4 := by omega
  have hni : ¬ (n : Int) = 0 := by omega
  clear hcell hs hx
  have hz := (zero_of_info Try.zeroMsg).1
  have hzs : (wcs 0 zI zR zC zT).size = 284 := wcs_size 0 zsz
  have hzn : ¬ wcs 0 zI zR zC zT = #[] := fun h => by rw [h] at hzs; simp at hzs
  have k2 := (blk_new w 58 (wcs 0 zI zR zC zT)).alloc (.cells (wcs (x.toNat : Int) zI zR zC zT) 58)
  have m2 := blk_new' (w.alloc (.cells (wcs 0 zI zR zC zT) 58)) 58 (wcs (x.toNat : Int) zI zR zC zT) (w.heap.size + 1) (by simp)
  have hb2 : Below w.heap.size w ((w.alloc (.cells (wcs 0 zI zR zC zT) 58)).alloc (.cells (wcs (x.toNat : Int) zI zR zC zT) 58)) := ((Below.refl _ _).alloc (Nat.le_refl _) _).alloc (by simp) _
  have hc2 := m2.kind
  generalize hw2 : (w.alloc (.cells (wcs 0 zI zR zC zT) 58)).alloc (.cells (wcs (x.toNat : Int) zI zR zC zT) 58) = w2 at *
  have Hw2 := Lib.hid hw2
  have Hg1 : Hid ((w.alloc (.cells (wcs 0 zI zR zC zT) 58)).heap.size = w.heap.size + 1) := by show _ = _; simp
  clear hw2
  go_enter Try.func22, Try.ntmps22
  go_wp2_with (first
   | (
    refine wpList_allocStore (cs := wcs (x.toNat : Int) zI zR zC zT) rfl rfl 58 ?ho (.tmp 4) (.tmp 14) ?ho2 Try.zeroMsg ?hz ?hx ?hy ?hn ?h1 ?_
    case ho => with_reducible rfl
    case ho2 => rfl
    case hz => exact hzs
    case hx => rfl
    case hy => exact congrArg Value.agg (wcs_set0 0 (x.toNat : Int) zI zR zC zT)
    case hn => exact wcs_size _ zsz
    case h1 => exact wcs_one zone.1 zone.2.1 zone.2.2.1 zone.2.2.2
    rw [Hw2.out, Hg1.out])
   | (
    refine wpList_storeBlk (g := w.heap.size) (t := 58) (cs := wcs 0 zI zR zC zT) rfl 58 (.tmp 2) (.tmp 51) ?ho ?hx2 ?hy2 (wcs 0 zI zR zC zT) k2 ?hi ?hs ?h1 ?_
    case ho => with_reducible rfl
    case hx2 => rfl
    case hy2 => rfl
    case hi => exact msg_size 0 zsz
    case hs => rfl
    case h1 => exact wcs_one zone.1 zone.2.1 zone.2.2.1 zone.2.2.2
    intro w9 hB9 hg9))
  refine bodyPost_blk2 rfl _ rfl hB9 Try.underlying58 rfl (msg_size 0 zsz) rfl ⟨rfl, ?_⟩
  exact hb2.grown hg9 hb2.size (fun k hk => by injection hk with hk; omega)

set_option maxRecDepth 100000 in
theorem wireParse_I_err (b off n c : Nat) (l : List UInt8) (E : Int) (w : World) (hE : (E != 0) = true) (hn : 0 < n) (hm : n ≤ 9223372036854775807) (hs : Shows w w.heap.size (some ⟨b, off, none⟩) n (1 :: l))
    (hP : ∀ W : World, Below w.heap.size w W → Calls Try.prog 43 #[.slice (some ⟨b, off, none⟩) n c] W fun e w' => e = .returned (.tuple #[.agg zI, .int .i64 E]) ∧ Below W.heap.size W w') :
    Calls Try.prog 22 #[.slice (some ⟨b, off, none⟩) n c] w fun e w' => e = .returned (.tuple #[.agg (wcs 0 zI zR zC zT), .int .i64 E]) ∧ Below w.heap.size w w' := by
  obtain ⟨b', off', e, hb, hcell⟩ := hs.2 hn
  injection e with e
  injection e with e1 e2
  subst e1
  subst e2
  have c0 := hcell 0 (by simp)
  simp only [List.getElem_cons_zero, Nat.add_zero] at c0
  have hni : ¬ (n : Int) = 0 := by omega
  have HP := Lib.hid hP
  clear hcell hs hP
  have hnew : zI.size = 141 := zsz.i
  have hone : One zI := zone.1
  have hE0 : E ≠ 0 := by simpa using hE
  have hz := (zero_of_info Try.zeroMsg).1
  have hzs : (wcs 0 zI zR zC zT).size = 284 := wcs_size 0 zsz
  have hzn : ¬ wcs 0 zI zR zC zT = #[] := fun h => by rw [h] at hzs; simp at hzs
  have k2 := (blk_new w 58 (wcs 0 zI zR zC zT)).alloc (.cells (wcs 1 zI zR zC zT) 58)
  have m2 := blk_new' (w.alloc (.cells (wcs 0 zI zR zC zT) 58)) 58 (wcs 1 zI zR zC zT) (w.heap.size + 1) (by simp)
  have hb2 : Below w.heap.size w ((w.alloc (.cells (wcs 0 zI zR zC zT) 58)).alloc (.cells (wcs 1 zI zR zC zT) 58)) := ((Below.refl _ _).alloc (Nat.le_refl _) _).alloc (by simp) _
  have hc2 := m2.kind
  generalize hw2 : (w.alloc (.cells (wcs 0 zI zR zC zT) 58)).alloc (.cells (wcs 1 zI zR zC zT) 58) = w2 at *
  have Hw2 := Lib.hid hw2
  have Hg1 : Hid ((w.alloc (.cells (wcs 0 zI zR zC zT) 58)).heap.size = w.heap.size + 1) := by show _ = _; simp
  clear hw2
  go_enter Try.func22, Try.ntmps22
  go_wp2_with (
    refine wpList_allocStore (cs := wcs 1 zI zR zC zT) rfl rfl 58 ?ho (.tmp 4) (.tmp 14) ?ho2 Try.zeroMsg ?hz ?hx ?hy ?hn ?h1 ?_
    case ho => with_reducible rfl
    case ho2 => rfl
    case hz => exact hzs
    case hx => rfl
    case hy => exact congrArg Value.agg (wcs_set0 0 1 zI zR zC zT)
    case hn => exact wcs_size _ zsz
    case h1 => exact wcs_one zone.1 zone.2.1 zone.2.2.1 zone.2.2.2
    rw [Hw2.out, Hg1.out])
  refine (HP.out w2 hb2).mono ?_
  rintro e w3 ⟨rfl, hb3⟩
  have m3 := m2.on hb3
  have k3 := k2.on hb3
  have hb03 := Below.on hb2 hb2.size hb3
  clear HP m2 k2 hc2 hb2 hb3 Hw2 Hg1
  go_wp2_with (first
    | (refine wpList_storeI (g := w.heap.size + 1) rfl (.tmp 24) (.tmp 22) ?ho ?hx (ni := zI) ?hy m3 zsz hnew hone ?_
       case ho => with_reducible rfl
       case hx => rfl
       case hy => rfl
       intro w4 m4 hg4
       have k4 := k3.grown hg4 (by omega)
       have hb04 := below_grown hb03 hg4 hb03.size (by omega))
    | (
    refine wpList_storeBlk (g := w.heap.size) (t := 58) (cs := wcs 0 zI zR zC zT) rfl 58 (.tmp 2) (.tmp 51) ?ho ?hx2 ?hy2 (wcs 0 zI zR zC zT) k4 ?hi ?hs ?h1 ?_
    case ho => with_reducible rfl
    case hx2 => rfl
    case hy2 => rfl
    case hi => exact msg_size 0 zsz
    case hs => rfl
    case h1 => exact wcs_one zone.1 zone.2.1 zone.2.2.1 zone.2.2.2
    intro w9 hB9 hg9))
  refine bodyPost_blk2 rfl _ rfl hB9 Try.underlying58 rfl (msg_size 0 zsz) rfl ⟨rfl, ?_⟩
  exact hb04.grown hg9 hb04.size (fun k hk => by injection hk with hk; omega)

set_option maxRecDepth 100000 in
theorem wireParse_R_err (b off n c : Nat) (l : List UInt8) (E : Int) (w : World) (hE : (E != 0) = true) (hn : 0 < n) (hm : n ≤ 9223372036854775807) (hs : Shows w w.heap.size (some ⟨b, off, none⟩) n (2 :: l))
    (hP : ∀ W : World, Below w.heap.size w W → Calls Try.prog 44 #[.slice (some ⟨b, off, none⟩) n c] W fun e w' => e = .returned (.tuple #[.agg zR, .int .i64 E]) ∧ Below W.heap.size W w') :
    Calls Try.prog 22 #[.slice (some ⟨b, off, none⟩) n c] w fun e w' => e = .returned (.tuple #[.agg (wcs 0 zI zR zC zT), .int .i64 E]) ∧ Below w.heap.size w w' := by
  obtain ⟨b', off', e, hb, hcell⟩ := hs.2 hn
  injection e with e
  injection e with e1 e2
  subst e1
  subst e2
  have c0 := hcell 0 (by simp)
  simp only [List.getElem_cons_zero, Nat.add_zero] at c0
  have hni : ¬ (n : Int) = 0 := by omega
  have HP := Lib.hid hP
  clear hcell hs hP
  have hnew : zR.size = 82 := zsz.r
  have hone : One zR := zone.2.1
  have hE0 : E ≠ 0 := by simpa using hE
  have hz := (zero_of_info Try.zeroMsg).1
  have hzs : (wcs 0 zI zR zC zT).size = 284 := wcs_size 0 zsz
  have hzn : ¬ wcs 0 zI zR zC zT = #[] := fun h => by rw [h] at hzs; simp at hzs
  have k2 := (blk_new w 58 (wcs 0 zI zR zC zT)).alloc (.cells (wcs 2 zI zR zC zT) 58)
  have m2 := blk_new' (w.alloc (.cells (wcs 0 zI zR zC zT) 58)) 58 (wcs 2 zI zR zC zT) (w.heap.size + 1) (by simp)
  have hb2 : Below w.heap.size w ((w.alloc (.cells (wcs 0 zI zR zC zT) 58)).alloc (.cells (wcs 2 zI zR zC zT) 58)) := ((Below.refl _ _).alloc (Nat.le_refl _) _).alloc (by simp) _
  have hc2 := m2.kind
  generalize hw2 : (w.alloc (.cells (wcs 0 zI zR zC zT) 58)).alloc (.cells (wcs 2 zI zR zC zT) 58) = w2 at *
  have Hw2 := Lib.hid hw2
  have Hg1 : Hid ((w.alloc (.cells (wcs 0 zI zR zC zT) 58)).heap.size = w.heap.size + 1) := by show _ = _; simp
  clear hw2
  go_enter Try.func22, Try.ntmps22
  go_wp2_with (
    refine wpList_allocStore (cs := wcs 2 zI zR zC zT) rfl rfl 58 ?ho (.tmp 4) (.tmp 14) ?ho2 Try.zeroMsg ?hz ?hx ?hy ?hn ?h1 ?_
    case ho => with_reducible rfl
    case ho2 => rfl
    case hz => exact hzs
    case hx => rfl
    case hy => exact congrArg Value.agg (wcs_set0 0 2 zI zR zC zT)
    case hn => exact wcs_size _ zsz
    case h1 => exact wcs_one zone.1 zone.2.1 zone.2.2.1 zone.2.2.2
    rw [Hw2.out, Hg1.out])
  refine (HP.out w2 hb2).mono ?_
  rintro e w3 ⟨rfl, hb3⟩
  have m3 := m2.on hb3
  have k3 := k2.on hb3
  have hb03 := Below.on hb2 hb2.size hb3
  clear HP m2 k2 hc2 hb2 hb3 Hw2 Hg1
  go_wp2_with (first
    | (refine wpList_storeR (g := w.heap.size + 1) rfl (.tmp 32) (.tmp 30) ?ho ?hx (nr := zR) ?hy m3 zsz hnew hone ?_
       case ho => with_reducible rfl
       case hx => rfl
       case hy => rfl
       intro w4 m4 hg4
       have k4 := k3.grown hg4 (by omega)
       have hb04 := below_grown hb03 hg4 hb03.size (by omega))
    | (
    refine wpList_storeBlk (g := w.heap.size) (t := 58) (cs := wcs 0 zI zR zC zT) rfl 58 (.tmp 2) (.tmp 51) ?ho ?hx2 ?hy2 (wcs 0 zI zR zC zT) k4 ?hi ?hs ?h1 ?_
    case ho => with_reducible rfl
    case hx2 => rfl
    case hy2 => rfl
    case hi => exact msg_size 0 zsz
    case hs => rfl
    case h1 => exact wcs_one zone.1 zone.2.1 zone.2.2.1 zone.2.2.2
    intro w9 hB9 hg9))
  refine bodyPost_blk2 rfl _ rfl hB9 Try.underlying58 rfl (msg_size 0 zsz) rfl ⟨rfl, ?_⟩
  exact hb04.grown hg9 hb04.size (fun k hk => by injection hk with hk; omega)

set_option maxRecDepth 100000 in
theorem wireParse_C_err (b off n c : Nat) (l : List UInt8) (E : Int) (w : World) (hE : (E != 0) = true) (hn : 0 < n) (hm : n ≤ 9223372036854775807) (hs : Shows w w.heap.size (some ⟨b, off, none⟩) n (3 :: l))
    (hP : ∀ W : World, Below w.heap.size w W → Calls Try.prog 45 #[.slice (some ⟨b, off, none⟩) n c] W fun e w' => e = .returned (.tuple #[.agg zC, .int .i64 E]) ∧ Below W.heap.size W w') :
    Calls Try.prog 22 #[.slice (some ⟨b, off, none⟩) n c] w fun e w' => e = .returned (.tuple #[.agg (wcs 0 zI zR zC zT), .int .i64 E]) ∧ Below w.heap.size w w' := by
  obtain ⟨b', off', e, hb, hcell⟩ := hs.2 hn
  injection e with e
  injection e with e1 e2
  subst e1
  subst e2
  have c0 := hcell 0 (by simp)
  simp only [List.getElem_cons_zero, Nat.add_zero] at c0
  have hni : ¬ (n : Int) = 0 := by omega
  have HP := Lib.hid hP
  clear hcell hs hP
  have hnew : zC.size = 57 := zsz.c
  have hone : One zC := zone.2.2.1
  have hE0 : E ≠ 0 := by simpa using hE
  have hz := (zero_of_info Try.zeroMsg).1
  have hzs : (wcs 0 zI zR zC zT).size = 284 := wcs_size 0 zsz
  have hzn : ¬ wcs 0 zI zR zC zT = #[] := fun h => by rw [h] at hzs; simp at hzs
  have k2 := (blk_new w 58 (wcs 0 zI zR zC zT)).alloc (.cells (wcs 3 zI zR zC zT) 58)
  have m2 := blk_new' (w.alloc (.cells (wcs 0 zI zR zC zT) 58)) 58 (wcs 3 zI zR zC zT) (w.heap.size + 1) (by simp)
  have hb2 : Below w.heap.size w ((w.alloc (.cells (wcs 0 zI zR zC zT) 58)).alloc (.cells (wcs 3 zI zR zC zT) 58)) := ((Below.refl _ _).alloc (Nat.le_refl _) _).alloc (by simp) _
  have hc2 := m2.kind
  generalize hw2 : (w.alloc (.cells (wcs 0 zI zR zC zT) 58)).alloc (.cells (wcs 3 zI zR zC zT) 58) = w2 at *
  have Hw2 := Lib.hid hw2
  have Hg1 : Hid ((w.alloc (.cells (wcs 0 zI zR zC zT) 58)).heap.size = w.heap.size + 1) := by show _ = _; simp
  clear hw2
  go_enter Try.func22, Try.ntmps22
  go_wp2_with (
    refine wpList_allocStore (cs := wcs 3 zI zR zC zT) rfl rfl 58 ?ho (.tmp 4) (.tmp 14) ?ho2 Try.zeroMsg ?hz ?hx ?hy ?hn ?h1 ?_
    case ho => with_reducible rfl
    case ho2 => rfl
    case hz => exact hzs
    case hx => rfl
    case hy => exact congrArg Value.agg (wcs_set0 0 3 zI zR zC zT)
    case hn => exact wcs_size _ zsz
    case h1 => exact wcs_one zone.1 zone.2.1 zone.2.2.1 zone.2.2.2
    rw [Hw2.out, Hg1.out])
  refine (HP.out w2 hb2).mono ?_
  rintro e w3 ⟨rfl, hb3⟩
  have m3 := m2.on hb3
  have k3 := k2.on hb3
  have hb03 := Below.on hb2 hb2.size hb3
  clear HP m2 k2 hc2 hb2 hb3 Hw2 Hg1
  go_wp2_with (first
    | (refine wpList_storeC (g := w.heap.size + 1) rfl (.tmp 40) (.tmp 38) ?ho ?hx (nc := zC) ?hy m3 zsz hnew hone ?_
       case ho => with_reducible rfl
       case hx => rfl
       case hy => rfl
       intro w4 m4 hg4
       have k4 := k3.grown hg4 (by omega)
       have hb04 := below_grown hb03 hg4 hb03.size (by omega))
    | (
    refine wpList_storeBlk (g := w.heap.size) (t := 58) (cs := wcs 0 zI zR zC zT) rfl 58 (.tmp 2) (.tmp 51) ?ho ?hx2 ?hy2 (wcs 0 zI zR zC zT) k4 ?hi ?hs ?h1 ?_
    case ho => with_reducible rfl
    case hx2 => rfl
    case hy2 => rfl
    case hi => exact msg_size 0 zsz
    case hs => rfl
    case h1 => exact wcs_one zone.1 zone.2.1 zone.2.2.1 zone.2.2.2
    intro w9 hB9 hg9))
  refine bodyPost_blk2 rfl _ rfl hB9 Try.underlying58 rfl (msg_size 0 zsz) rfl ⟨rfl, ?_⟩
  exact hb04.grown hg9 hb04.size (fun k hk => by injection hk with hk; omega)

set_option maxRecDepth 100000 in
theorem wireParse_T_err (b off n c : Nat) (l : List UInt8) (E : Int) (w : World) (hE : (E != 0) = true) (hn : 0 < n) (hm : n ≤ 9223372036854775807) (hs : Shows w w.heap.size (some ⟨b, off, none⟩) n (4 :: l))
    (hP : ∀ W : World, Below w.heap.size w W → Calls Try.prog 46 #[.slice (some ⟨b, off, none⟩) n c] W fun e w' => e = .returned (.tuple #[.agg zT, .int .i64 E]) ∧ Below W.heap.size W w') :
    Calls Try.prog 22 #[.slice (some ⟨b, off, none⟩) n c] w fun e w' => e = .returned (.tuple #[.agg (wcs 0 zI zR zC zT), .int .i64 E]) ∧ Below w.heap.size w w' := by
  obtain ⟨b', off', e, hb, hcell⟩ := hs.2 hn
  injection e with e
  injection e with e1 e2
  subst e1
  subst e2
  have c0 := hcell 0 (by simp)
  simp only [List.getElem_cons_zero, Nat.add_zero] at c0
  have hni : ¬ (n : Int) = 0 := by omega
  have HP := Lib.hid hP
  clear hcell hs hP
  have hnew : zT.size = 3 := zsz.t
  have hone : One zT := zone.2.2.2
  have hE0 : E ≠ 0 := by simpa using hE
  have hz := (zero_of_info Try.zeroMsg).1
  have hzs : (wcs 0 zI zR zC zT).size = 284 := wcs_size 0 zsz
  have hzn : ¬ wcs 0 zI zR zC zT = #[] := fun h => by rw [h] at hzs; simp at hzs
  have k2 := (blk_new w 58 (wcs 0 zI zR zC zT)).alloc (.cells (wcs 4 zI zR zC zT) 58)
  have m2 := blk_new' (w.alloc (.cells (wcs 0 zI zR zC zT) 58)) 58 (wcs 4 zI zR zC zT) (w.heap.size + 1) (by simp)
  have hb2 : Below w.heap.size w ((w.alloc (.cells (wcs 0 zI zR zC zT) 58)).alloc (.cells (wcs 4 zI zR zC zT) 58)) := ((Below.refl _ _).alloc (Nat.le_refl _) _).alloc (by simp) _
  have hc2 := m2.kind
  generalize hw2 : (w.alloc (.cells (wcs 0 zI zR zC zT) 58)).alloc (.cells (wcs 4 zI zR zC zT) 58) = w2 at *
  have Hw2 := Lib.hid hw2
  have Hg1 : Hid ((w.alloc (.cells (wcs 0 zI zR zC zT) 58)).heap.size = w.heap.size + 1) := by show _ = _; simp
  clear hw2
  go_enter Try.func22, Try.ntmps22
  go_wp2_with (
    refine wpList_allocStore (cs := wcs 4 zI zR zC zT) rfl rfl 58 ?ho (.tmp 4) (.tmp 14) ?ho2 Try.zeroMsg ?hz ?hx ?hy ?hn ?h1 ?_
    case ho => with_reducible rfl
    case ho2 => rfl
    case hz => exact hzs
    case hx => rfl
    case hy => exact congrArg Value.agg (wcs_set0 0 4 zI zR zC zT)
    case hn => exact wcs_size _ zsz
    case h1 => exact wcs_one zone.1 zone.2.1 zone.2.2.1 zone.2.2.2
    rw [Hw2.out, Hg1.out])
  refine (HP.out w2 hb2).mono ?_
  rintro e w3 ⟨rfl, hb3⟩
  have m3 := m2.on hb3
  have k3 := k2.on hb3
  have hb03 := Below.on hb2 hb2.size hb3
  clear HP m2 k2 hc2 hb2 hb3 Hw2 Hg1
  go_wp2_with (first
    | (refine wpList_storeT (g := w.heap.size + 1) rfl (.tmp 48) (.tmp 46) ?ho ?hx (nt := zT) ?hy m3 zsz hnew hone ?_
       case ho => with_reducible rfl
       case hx => rfl
       case hy => rfl
       intro w4 m4 hg4
       have k4 := k3.grown hg4 (by omega)
       have hb04 := below_grown hb03 hg4 hb03.size (by omega))
    | (
    refine wpList_storeBlk (g := w.heap.size) (t := 58) (cs := wcs 0 zI zR zC zT) rfl 58 (.tmp 2) (.tmp 51) ?ho ?hx2 ?hy2 (wcs 0 zI zR zC zT) k4 ?hi ?hs ?h1 ?_
    case ho => with_reducible rfl
    case hx2 => rfl
    case hy2 => rfl
    case hi => exact msg_size 0 zsz
    case hs => rfl
    case h1 => exact wcs_one zone.1 zone.2.1 zone.2.2.1 zone.2.2.2
    intro w9 hB9 hg9))
  refine bodyPost_blk2 rfl _ rfl hB9 Try.underlying58 rfl (msg_size 0 zsz) rfl ⟨rfl, ?_⟩
  exact hb04.grown hg9 hb04.size (fun k hk => by injection hk with hk; omega)

end Go.Proofs.Ytlllakjimgomjaa

/- WirD -/
namespace Go.Proofs.Ytlllakjimgomjaa
open Go.RowKit
set_option linter.unusedVariables false
set_option linter.unusedSimpArgs false

set_option maxRecDepth 100000 in
theorem wireParse_I_ok (b off n c : Nat) (l : List UInt8) (nx : Array Value) (w : World) (hn : 0 < n) (hm : n ≤ 9223372036854775807) (hnew : nx.size = 141) (hone : One nx) (hs : Shows w w.heap.size (some ⟨b, off, none⟩) n (1 :: l))
    (hP : ∀ W : World, Below w.heap.size w W → Calls Try.prog 43 #[.slice (some ⟨b, off, none⟩) n c] W fun e w' => e = .returned (.tuple #[.agg nx, .int .i64 0]) ∧ Below W.heap.size W w') :
    Calls Try.prog 22 #[.slice (some ⟨b, off, none⟩) n c] w fun e w' => e = .returned (.tuple #[.agg (wcs 1 nx zR zC zT), .int .i64 0]) ∧ Below w.heap.size w w' := by
  obtain ⟨b', off', e, hb, hcell⟩ := hs.2 hn
  injection e with e
  injection e with e1 e2
  subst e1
  subst e2
  have c0 := hcell 0 (by simp)
  simp only [List.getElem_cons_zero, Nat.add_zero] at c0
  have hni : ¬ (n : Int) = 0 := by omega
  have HP := Lib.hid hP
  clear hcell hs hP
  have hz := (zero_of_info Try.zeroMsg).1
  have hzs : (wcs 0 zI zR zC zT).size = 284 := wcs_size 0 zsz
  have hzn : ¬ wcs 0 zI zR zC zT = #[] := fun h => by rw [h] at hzs; simp at hzs
  have k2 := (blk_new w 58 (wcs 0 zI zR zC zT)).alloc (.cells (wcs 1 zI zR zC zT) 58)
  have m2 := blk_new' (w.alloc (.cells (wcs 0 zI zR zC zT) 58)) 58 (wcs 1 zI zR zC zT) (w.heap.size + 1) (by simp)
  have hb2 : Below w.heap.size w ((w.alloc (.cells (wcs 0 zI zR zC zT) 58)).alloc (.cells (wcs 1 zI zR zC zT) 58)) := ((Below.refl _ _).alloc (Nat.le_refl _) _).alloc (by simp) _
  have hc2 := m2.kind
  generalize hw2 : (w.alloc (.cells (wcs 0 zI zR zC zT) 58)).alloc (.cells (wcs 1 zI zR zC zT) 58) = w2 at *
  have Hw2 := Lib.hid hw2
  have Hg1 : Hid ((w.alloc (.cells (wcs 0 zI zR zC zT) 58)).heap.size = w.heap.size + 1) := by show _ = _; simp
  clear hw2
  have hsz2 : w2.heap.size = w.heap.size + 2 := by rw [← Hw2.out]; simp
  go_enter Try.func22, Try.ntmps22
  go_wp2_with (
    refine wpList_allocStore (cs := wcs 1 zI zR zC zT) rfl rfl 58 ?ho (.tmp 4) (.tmp 14) ?ho2 Try.zeroMsg ?hz ?hx ?hy ?hn ?h1 ?_
    case ho => with_reducible rfl
    case ho2 => rfl
    case hz => exact hzs
    case hx => rfl
    case hy => exact congrArg Value.agg (wcs_set0 0 1 zI zR zC zT)
    case hn => exact wcs_size _ zsz
    case h1 => exact wcs_one zone.1 zone.2.1 zone.2.2.1 zone.2.2.2
    rw [Hw2.out, Hg1.out])
  refine (HP.out w2 hb2).mono ?_
  rintro e w3 ⟨rfl, hb3⟩
  have m3 := m2.on hb3
  have k3 := k2.on hb3
  have hb03 := Below.on hb2 hb2.size hb3
  have hzz : Wsz nx zR zC zT := ⟨hnew, zsz.r, zsz.c, zsz.t⟩
  have hon : One (wcs 1 nx zR zC zT) := wcs_one hone zone.2.1 zone.2.2.1 zone.2.2.2
  clear HP m2 k2 hc2 hb2 hb3 Hw2 Hg1
  go_wp2_with (first
    | (refine wpList_storeI (g := w.heap.size + 1) rfl (.tmp 24) (.tmp 22) ?ho ?hx (ni := nx) ?hy m3 zsz hnew hone ?_
       case ho => with_reducible rfl
       case hx => rfl
       case hy => rfl
       intro w4 m4 hg4
       have k4 := k3.grown hg4 (by omega)
       have hb04 := below_grown hb03 hg4 hb03.size (by omega))
    | (refine wpList_loadBlk (g := w.heap.size + 1) (t := 58) (cs := wcs 1 nx zR zC zT) rfl 58 (.tmp 4) ?ho ?hx ?hA _ Try.underlying58 rfl ?hi ?_
       case ho => with_reducible rfl
       case hx => rfl
       case hA => exact m4
       case hi => exact msg_size _ hzz)
    | (refine wpList_storeBlk (g := w.heap.size) (t := 58) (cs := wcs 1 nx zR zC zT) rfl 58 (.tmp 2) (.tmp 53) ?ho ?hx2 ?hy2 (wcs 0 zI zR zC zT) k4 ?hi ?hs ?h1 ?_
       case ho => with_reducible rfl
       case hx2 => rfl
       case hy2 => rfl
       case hi => exact msg_size _ hzz
       case hs => rw [wcs_size _ hzz, wcs_size _ zsz]
       case h1 => exact hon
       intro w9 hB9 hg9))
  refine bodyPost_blk2 rfl _ rfl hB9 Try.underlying58 rfl (msg_size _ hzz) rfl ⟨rfl, ?_⟩
  exact hb04.grown hg9 hb04.size (fun k hk => by injection hk with hk; omega)

set_option maxRecDepth 100000 in
theorem wireParse_R_ok (b off n c : Nat) (l : List UInt8) (nx : Array Value) (w : World) (hn : 0 < n) (hm : n ≤ 9223372036854775807) (hnew : nx.size = 82) (hone : One nx) (hs : Shows w w.heap.size (some ⟨b, off, none⟩) n (2 :: l))
    (hP : ∀ W : World, Below w.heap.size w W → Calls Try.prog 44 #[.slice (some ⟨b, off, none⟩) n c] W fun e w' => e = .returned (.tuple #[.agg nx, .int .i64 0]) ∧ Below W.heap.size W w') :
    Calls Try.prog 22 #[.slice (some ⟨b, off, none⟩) n c] w fun e w' => e = .returned (.tuple #[.agg (wcs 2 zI nx zC zT), .int .i64 0]) ∧ Below w.heap.size w w' := by
  obtain ⟨b', off', e, hb, hcell⟩ := hs.2 hn
  injection e with e
  injection e with e1 e2
  subst e1
  subst e2
  have c0 := hcell 0 (by simp)
  simp only [List.getElem_cons_zero, Nat.add_zero] at c0
  have hni : ¬ (n : Int) = 0 := by omega
  have HP := Lib.hid hP
  clear hcell hs hP
  have hz := (zero_of_info Try.zeroMsg).1
  have hzs : (wcs 0 zI zR zC zT).size = 284 := wcs_size 0 zsz
  have hzn : ¬ wcs 0 zI zR zC zT = #[] := fun h => by rw [h] at hzs; simp at hzs
  have k2 := (blk_new w 58 (wcs 0 zI zR zC zT)).alloc (.cells (wcs 2 zI zR zC zT) 58)
  have m2 := blk_new' (w.alloc (.cells (wcs 0 zI zR zC zT) 58)) 58 (wcs 2 zI zR zC zT) (w.heap.size + 1) (by simp)
  have hb2 : Below w.heap.size w ((w.alloc (.cells (wcs 0 zI zR zC zT) 58)).alloc (.cells (wcs 2 zI zR zC zT) 58)) := ((Below.refl _ _).alloc (Nat.le_refl _) _).alloc (by simp) _
  have hc2 := m2.kind
  generalize hw2 : (w.alloc (.cells (wcs 0 zI zR zC zT) 58)).alloc (.cells (wcs 2 zI zR zC zT) 58) = w2 at *
  have Hw2 := Lib.hid hw2
  have Hg1 : Hid ((w.alloc (.cells (wcs 0 zI zR zC zT) 58)).heap.size = w.heap.size + 1) := by show _ = _; simp
  clear hw2
  have hsz2 : w2.heap.size = w.heap.size + 2 := by rw [← Hw2.out]; simp
  go_enter Try.func22, Try.ntmps22
  go_wp2_with (
    refine wpList_allocStore (cs := wcs 2 zI zR zC zT) rfl rfl 58 ?ho (.tmp 4) (.tmp 14) ?ho2 Try.zeroMsg ?hz ?hx ?hy ?hn ?h1 ?_
    case ho => with_reducible rfl
    case ho2 => rfl
    case hz => exact hzs
    case hx => rfl
    case hy => exact congrArg Value.agg (wcs_set0 0 2 zI zR zC zT)
    case hn => exact wcs_size _ zsz
    case h1 => exact wcs_one zone.1 zone.2.1 zone.2.2.1 zone.2.2.2
    rw [Hw2.out, Hg1.out])
  refine (HP.out w2 hb2).mono ?_
  rintro e w3 ⟨rfl, hb3⟩
  have m3 := m2.on hb3
  have k3 := k2.on hb3
  have hb03 := Below.on hb2 hb2.size hb3
  have hzz : Wsz zI nx zC zT := ⟨zsz.i, hnew, zsz.c, zsz.t⟩
  have hon : One (wcs 2 zI nx zC zT) := wcs_one zone.1 hone zone.2.2.1 zone.2.2.2
  clear HP m2 k2 hc2 hb2 hb3 Hw2 Hg1
  go_wp2_with (first
    | (refine wpList_storeR (g := w.heap.size + 1) rfl (.tmp 32) (.tmp 30) ?ho ?hx (nr := nx) ?hy m3 zsz hnew hone ?_
       case ho => with_reducible rfl
       case hx => rfl
       case hy => rfl
       intro w4 m4 hg4
       have k4 := k3.grown hg4 (by omega)
       have hb04 := below_grown hb03 hg4 hb03.size (by omega))
    | (refine wpList_loadBlk (g := w.heap.size + 1) (t := 58) (cs := wcs 2 zI nx zC zT) rfl 58 (.tmp 4) ?ho ?hx ?hA _ Try.underlying58 rfl ?hi ?_
       case ho => with_reducible rfl
       case hx => rfl
       case hA => exact m4
       case hi => exact msg_size _ hzz)
    | (refine wpList_storeBlk (g := w.heap.size) (t := 58) (cs := wcs 2 zI nx zC zT) rfl 58 (.tmp 2) (.tmp 53) ?ho ?hx2 ?hy2 (wcs 0 zI zR zC zT) k4 ?hi ?hs ?h1 ?_
       case ho => with_reducible rfl
       case hx2 => rfl
       case hy2 => rfl
       case hi => exact msg_size _ hzz
       case hs => rw [wcs_size _ hzz, wcs_size _ zsz]
       case h1 => exact hon
       intro w9 hB9 hg9))
  refine bodyPost_blk2 rfl _ rfl hB9 Try.underlying58 rfl (msg_size _ hzz) rfl ⟨rfl, ?_⟩
  exact hb04.grown hg9 hb04.size (fun k hk => by injection hk with hk; omega)

set_option maxRecDepth 100000 in
theorem wireParse_C_ok (b off n c : Nat) (l : List UInt8) (nx : Array Value) (w : World) (hn : 0 < n) (hm : n ≤ 9223372036854775807) (hnew : nx.size = 57) (hone : One nx) (hs : Shows w w.heap.size (some ⟨b, off, none⟩) n (3 :: l))
    (hP : ∀ W : World, Below w.heap.size w W → Calls Try.prog 45 #[.slice (some ⟨b, off, none⟩) n c] W fun e w' => e = .returned (.tuple #[.agg nx, .int .i64 0]) ∧ Below W.heap.size W w') :
    Calls Try.prog 22 #[.slice (some ⟨b, off, none⟩) n c] w fun e w' => e = .returned (.tuple #[.agg (wcs 3 zI zR nx zT), .int .i64 0]) ∧ Below w.heap.size w w' := by
  obtain ⟨b', off', e, hb, hcell⟩ := hs.2 hn
  injection e with e
  injection e with e1 e2
  subst e1
  subst e2
  have c0 := hcell 0 (by simp)
  simp only [List.getElem_cons_zero, Nat.add_zero] at c0
  have hni : ¬ (n : Int) = 0 := by omega
  have HP := Lib.hid hP
  clear hcell hs hP
  have hz := (zero_of_info Try.zeroMsg).1
  have hzs : (wcs 0 zI zR zC zT).size = 284 := wcs_size 0 zsz
  have hzn : ¬ wcs 0 zI zR zC zT = #[] := fun h => by rw [h] at hzs; simp at hzs
  have k2 := (blk_new w 58 (wcs 0 zI zR zC zT)).alloc (.cells (wcs 3 zI zR zC zT) 58)
  have m2 := blk_new' (w.alloc (.cells (wcs 0 zI zR zC zT) 58)) 58 (wcs 3 zI zR zC zT) (w.heap.size + 1) (by simp)
  have hb2 : Below w.heap.size w ((w.alloc (.cells (wcs 0 zI zR zC zT) 58)).alloc (.cells (wcs 3 zI zR zC zT) 58)) := ((Below.refl _ _).alloc (Nat.le_refl _) _).alloc (by simp) _
  have hc2 := m2.kind
  generalize hw2 : (w.alloc (.cells (wcs 0 zI zR zC zT) 58)).alloc (.cells (wcs 3 zI zR zC zT) 58) = w2 at *
  have Hw2 := Lib.hid hw2
  have Hg1 : Hid ((w.alloc (.cells (wcs 0 zI zR zC zT) 58)).heap.size = w.heap.size + 1) := by show _ = _; simp
  clear hw2
  have hsz2 : w2.heap.size = w.heap.size + 2 := by rw [← Hw2.out]; simp
  go_enter Try.func22, Try.ntmps22
  go_wp2_with (
    refine wpList_allocStore (cs := wcs 3 zI zR zC zT) rfl rfl 58 ?ho (.tmp 4) (.tmp 14) ?ho2 Try.zeroMsg ?hz ?hx ?hy ?hn ?h1 ?_
    case ho => with_reducible rfl
    case ho2 => rfl
    case hz => exact hzs
    case hx => rfl
    case hy => exact congrArg Value.agg (wcs_set0 0 3 zI zR zC zT)
    case hn => exact wcs_size _ zsz
    case h1 => exact wcs_one zone.1 zone.2.1 zone.2.2.1 zone.2.2.2
    rw [Hw2.out, Hg1.out])
  refine (HP.out w2 hb2).mono ?_
  rintro e w3 ⟨rfl, hb3⟩
  have m3 := m2.on hb3
  have k3 := k2.on hb3
  have hb03 := Below.on hb2 hb2.size hb3
  have hzz : Wsz zI zR nx zT := ⟨zsz.i, zsz.r, hnew, zsz.t⟩
  have hon : One (wcs 3 zI zR nx zT) := wcs_one zone.1 zone.2.1 hone zone.2.2.2
  clear HP m2 k2 hc2 hb2 hb3 Hw2 Hg1
  go_wp2_with (first
    | (refine wpList_storeC (g := w.heap.size + 1) rfl (.tmp 40) (.tmp 38) ?ho ?hx (nc := nx) ?hy m3 zsz hnew hone ?_
       case ho => with_reducible rfl
       case hx => rfl
       case hy => rfl
       intro w4 m4 hg4
       have k4 := k3.grown hg4 (by omega)
       have hb04 := below_grown hb03 hg4 hb03.size (by omega))
    | (refine wpList_loadBlk (g := w.heap.size + 1) (t := 58) (cs := wcs 3 zI zR nx zT) rfl 58 (.tmp 4) ?ho ?hx ?hA _ Try.underlying58 rfl ?hi ?_
       case ho => with_reducible rfl
       case hx => rfl
       case hA => exact m4
       case hi => exact msg_size _ hzz)
    | (refine wpList_storeBlk (g := w.heap.size) (t := 58) (cs := wcs 3 zI zR nx zT) rfl 58 (.tmp 2) (.tmp 53) ?ho ?hx2 ?hy2 (wcs 0 zI zR zC zT) k4 ?hi ?hs ?h1 ?_
       case ho => with_reducible rfl
       case hx2 => rfl
       case hy2 => rfl
       case hi => exact msg_size _ hzz
       case hs => rw [wcs_size _ hzz, wcs_size _ zsz]
       case h1 => exact hon
       intro w9 hB9 hg9))
  refine bodyPost_blk2 rfl _ rfl hB9 Try.underlying58 rfl (msg_size _ hzz) rfl ⟨rfl, ?_⟩
  exact hb04.grown hg9 hb04.size (fun k hk => by injection hk with hk; omega)

set_option maxRecDepth 100000 in
theorem wireParse_T_ok (b off n c : Nat) (l : List UInt8) (rr kk m : Nat) (lb : List UInt8) (w : World) (hn : 0 < n) (hm : n ≤ 9223372036854775807) (hs : Shows w w.heap.size (some ⟨b, off, none⟩) n (4 :: l))
    (hP : ∀ W : World, Below w.heap.size w W → Calls Try.prog 46 #[.slice (some ⟨b, off, none⟩) n c] W fun e w' => ∃ bb, e = .returned (.tuple #[.agg (trv rr kk (some ⟨bb, 0, none⟩) m m), .int .i64 0]) ∧ W.heap.size ≤ bb ∧ Shows w' w'.heap.size (some ⟨bb, 0, none⟩) m lb ∧ Below W.heap.size W w') :
    Calls Try.prog 22 #[.slice (some ⟨b, off, none⟩) n c] w fun e w' => ∃ bb, e = .returned (.tuple #[.agg (wcs 4 zI zR zC (trv rr kk (some ⟨bb, 0, none⟩) m m)), .int .i64 0]) ∧ Shows w' w'.heap.size (some ⟨bb, 0, none⟩) m lb ∧ Below w.heap.size w w' := by
  obtain ⟨b', off', e, hb, hcell⟩ := hs.2 hn
  injection e with e
  injection e with e1 e2
  subst e1
  subst e2
  have c0 := hcell 0 (by simp)
  simp only [List.getElem_cons_zero, Nat.add_zero] at c0
  have hni : ¬ (n : Int) = 0 := by omega
  have HP := Lib.hid hP
  clear hcell hs hP
  have hz := (zero_of_info Try.zeroMsg).1
  have hzs : (wcs 0 zI zR zC zT).size = 284 := wcs_size 0 zsz
  have hzn : ¬ wcs 0 zI zR zC zT = #[] := fun h => by rw [h] at hzs; simp at hzs
  have k2 := (blk_new w 58 (wcs 0 zI zR zC zT)).alloc (.cells (wcs 4 zI zR zC zT) 58)
  have m2 := blk_new' (w.alloc (.cells (wcs 0 zI zR zC zT) 58)) 58 (wcs 4 zI zR zC zT) (w.heap.size + 1) (by simp)
  have hb2 : Below w.heap.size w ((w.alloc (.cells (wcs 0 zI zR zC zT) 58)).alloc (.cells (wcs 4 zI zR zC zT) 58)) := ((Below.refl _ _).alloc (Nat.le_refl _) _).alloc (by simp) _
  have hc2 := m2.kind
  generalize hw2 : (w.alloc (.cells (wcs 0 zI zR zC zT) 58)).alloc (.cells (wcs 4 zI zR zC zT) 58) = w2 at *
  have Hw2 := Lib.hid hw2
  have Hg1 : Hid ((w.alloc (.cells (wcs 0 zI zR zC zT) 58)).heap.size = w.heap.size + 1) := by show _ = _; simp
  clear hw2
  have hsz2 : w2.heap.size = w.heap.size + 2 := by rw [← Hw2.out]; simp
  go_enter Try.func22, Try.ntmps22
  go_wp2_with (
    refine wpList_allocStore (cs := wcs 4 zI zR zC zT) rfl rfl 58 ?ho (.tmp 4) (.tmp 14) ?ho2 Try.zeroMsg ?hz ?hx ?hy ?hn ?h1 ?_
    case ho => with_reducible rfl
    case ho2 => rfl
    case hz => exact hzs
    case hx => rfl
    case hy => exact congrArg Value.agg (wcs_set0 0 4 zI zR zC zT)
    case hn => exact wcs_size _ zsz
    case h1 => exact wcs_one zone.1 zone.2.1 zone.2.2.1 zone.2.2.2
    rw [Hw2.out, Hg1.out])
  refine (HP.out w2 hb2).mono ?_
  rintro e w3 ⟨bb, rfl, hbb, s3, hb3⟩
  have hnew : (trv rr kk (some ⟨bb, 0, none⟩) m m).size = 3 := rfl
  have hone : One (trv rr kk (some ⟨bb, 0, none⟩) m m) := one_trv _ _ _ _ _
  have m3 := m2.on hb3
  have k3 := k2.on hb3
  have hb03 := Below.on hb2 hb2.size hb3
  have hzz : Wsz zI zR zC (trv rr kk (some ⟨bb, 0, none⟩) m m) := ⟨zsz.i, zsz.r, zsz.c, hnew⟩
  have hon : One (wcs 4 zI zR zC (trv rr kk (some ⟨bb, 0, none⟩) m m)) := wcs_one zone.1 zone.2.1 zone.2.2.1 hone
  clear HP m2 k2 hc2 hb2 hb3 Hw2 Hg1
  go_wp2_with (first
    | (refine wpList_storeT (g := w.heap.size + 1) rfl (.tmp 48) (.tmp 46) ?ho ?hx (nt := (trv rr kk (some ⟨bb, 0, none⟩) m m)) ?hy m3 zsz hnew hone ?_
       case ho => with_reducible rfl
       case hx => rfl
       case hy => rfl
       intro w4 m4 hg4
       have k4 := k3.grown hg4 (by omega)
       have hb04 := below_grown hb03 hg4 hb03.size (by omega)
       have s4 := s3.grown (Nat.le_refl _) hg4 (fun _ a' ha' => by injection ha' with ha'; subst ha'; show bb ≠ w.heap.size + 1; omega)
       have hsz4 := hg4.size)
    | (refine wpList_loadBlk (g := w.heap.size + 1) (t := 58) (cs := wcs 4 zI zR zC (trv rr kk (some ⟨bb, 0, none⟩) m m)) rfl 58 (.tmp 4) ?ho ?hx ?hA _ Try.underlying58 rfl ?hi ?_
       case ho => with_reducible rfl
       case hx => rfl
       case hA => exact m4
       case hi => exact msg_size _ hzz)
    | (refine wpList_storeBlk (g := w.heap.size) (t := 58) (cs := wcs 4 zI zR zC (trv rr kk (some ⟨bb, 0, none⟩) m m)) rfl 58 (.tmp 2) (.tmp 53) ?ho ?hx2 ?hy2 (wcs 0 zI zR zC zT) k4 ?hi ?hs ?h1 ?_
       case ho => with_reducible rfl
       case hx2 => rfl
       case hy2 => rfl
       case hi => exact msg_size _ hzz
       case hs => rw [wcs_size _ hzz, wcs_size _ zsz]
       case h1 => exact hon
       intro w9 hB9 hg9))
  refine bodyPost_blk2 rfl _ rfl hB9 Try.underlying58 rfl (msg_size _ hzz) rfl ⟨bb, rfl, ?_, ?_⟩
  · exact (s4.grown hsz4 hg9 (fun _ a' ha' => by injection ha' with ha'; subst ha'; show bb ≠ w.heap.size; omega)).up (by have := hg9.size; omega)
  · exact hb04.grown hg9 hb04.size (fun k hk => by injection hk with hk; omega)

end Go.Proofs.Ytlllakjimgomjaa

/- WirE -/
namespace Go.Proofs.Ytlllakjimgomjaa
open Go.RowKit
set_option linter.unusedVariables false
set_option linter.unusedSimpArgs false

set_option maxRecDepth 100000 in
theorem ref17Parse_empty (A : Option Addr) (c : Nat) (w : World) : Calls Try.prog 23 #[.slice A 0 c] w fun e w' => e = .returned (.tuple #[.agg (wcs 0 zI zR zC zT), .int .i64 3]) ∧ Below w.heap.size w w' := by
  have hz := (zero_of_info Try.zeroMsg).1
  have hzs : (wcs 0 zI zR zC zT).size = 284 := wcs_size 0 zsz
  have hzn : ¬ wcs 0 zI zR zC zT = #[] := fun h => by rw [h] at hzs; simp at hzs
  have k2 := (blk_new w 58 (wcs 0 zI zR zC zT)).alloc (.cells (wcs 0 zI zR zC zT) 58)
  have m2 := blk_new' (w.alloc (.cells (wcs 0 zI zR zC zT) 58)) 58 (wcs 0 zI zR zC zT) (w.heap.size + 1) (by simp)
  have hb2 : Below w.heap.size w ((w.alloc (.cells (wcs 0 zI zR zC zT) 58)).alloc (.cells (wcs 0 zI zR zC zT) 58)) := ((Below.refl _ _).alloc (Nat.le_refl _) _).alloc (by simp) _
  have hsz2 : ((w.alloc (.cells (wcs 0 zI zR zC zT) 58)).alloc (.cells (wcs 0 zI zR zC zT) 58)).heap.size = w.heap.size + 2 := by simp
  go_enter Try.func23, Try.ntmps23
  go_wp2_with (first
    | (refine wpList_loadBlk (g := w.heap.size + 1) (t := 58) (cs := wcs 0 zI zR zC zT) rfl 58 (.tmp 4) ?ho ?hx ?hA _ Try.underlying58 rfl ?hi ?_
       case ho => with_reducible rfl
       case hx => rfl
       case hA => exact m2
       case hi => exact msg_size _ zsz)
    | (refine wpList_storeBlk (g := w.heap.size) (t := 58) (cs := wcs 0 zI zR zC zT) rfl 58 (.tmp 2) (.tmp 17) ?ho ?hx2 ?hy2 (wcs 0 zI zR zC zT) k2 ?hi ?hs ?h1 ?_
       case ho => with_reducible rfl
       case hx2 => rfl
       case hy2 => rfl
       case hi => exact msg_size _ zsz
       case hs => first | (with_reducible rfl) | rw [wcs_size _ zsz, wcs_size _ zsz]
       case h1 => exact wcs_one zone.1 zone.2.1 zone.2.2.1 zone.2.2.2
       intro w9 hB9 hg9))
  refine bodyPost_blk2 rfl _ rfl hB9 Try.underlying58 rfl (msg_size 0 zsz) rfl ⟨rfl, ?_⟩
  exact hb2.grown hg9 hb2.size (fun k hk => by injection hk with hk; omega)

set_option maxRecDepth 100000 in
theorem ref17Parse_none (b off n c : Nat) (x : UInt8) (l : List UInt8) (w : World) (hn : 0 < n) (hm : n ≤ 9223372036854775807) (hs : Shows w w.heap.size (some ⟨b, off, none⟩) n (x :: l)) (hx : x.toNat < 1 ∨ 4 < x.toNat) :
    Calls Try.prog 23 #[.slice (some ⟨b, off, none⟩) n c] w fun e w' => e = .returned (.tuple #[.agg (wcs 0 zI zR zC zT), .int .i64 9]) ∧ Below w.heap.size w w' := by
  obtain ⟨b', off', e, hb, hcell⟩ := hs.2 hn
  injection e with e
  injection e with e1 e2
  subst e1
  subst e2
  have c0 := hcell 0 (by simp)
  simp only [List.getElem_cons_zero, Nat.add_zero] at c0
  have hni : ¬ (n : Int) = 0 := by omega
  have hx8 := x.toNat_lt
  have d1 : decide ((x.toNat : Int) = 1) = false := decide_eq_false (by omega)
  have n1 : ¬ x.toNat = 1 := by omega
  have i1 : ¬ (x.toNat : Int) = 1 := by omega
  have d2 : decide ((x.toNat : Int) = 2) = false := decide_eq_false (by omega)
  have n2 : ¬ x.toNat = 2 := by omega
  have i2 : ¬ (x.toNat : Int) = 2 := by omega
  have d3 : decide ((x.toNat : Int) = 3) = false := decide_eq_false (by omega)
  have n3 : ¬ x.toNat = 3 := by omega
  have i3 : ¬ (x.toNat : Int) = 3 := by omega
  have d4 : decide ((x.toNat : Int) = 4) = false := decide_eq_false (by omega)
  have n4 : ¬ x.toNat = 4 := by omega
  have i4 : ¬ (x.toNat : Int) = 4 := by omega
  clear hcell hs hx
  have hz := (zero_of_info Try.zeroMsg).1
  have hzs : (wcs 0 zI zR zC zT).size = 284 := wcs_size 0 zsz
  have hzn : ¬ wcs 0 zI zR zC zT = #[] := fun h => by rw [h] at hzs; simp at hzs
  have k2 := (blk_new w 58 (wcs 0 zI zR zC zT)).alloc (.cells (wcs 0 zI zR zC zT) 58)
  have m2 := blk_new' (w.alloc (.cells (wcs 0 zI zR zC zT) 58)) 58 (wcs 0 zI zR zC zT) (w.heap.size + 1) (by simp)
  have hb2 : Below w.heap.size w ((w.alloc (.cells (wcs 0 zI zR zC zT) 58)).alloc (.cells (wcs 0 zI zR zC zT) 58)) := ((Below.refl _ _).alloc (Nat.le_refl _) _).alloc (by simp) _
  have hsz2 : ((w.alloc (.cells (wcs 0 zI zR zC zT) 58)).alloc (.cells (wcs 0 zI zR zC zT) 58)).heap.size = w.heap.size + 2 := by simp
  go_enter Try.func23, Try.ntmps23
  go_wp2_with (first
    | (refine wpList_storeBlk (g := w.heap.size) (t := 58) (cs := wcs 0 zI zR zC zT) rfl 58 (.tmp 2) (.tmp 63) ?ho ?hx2 ?hy2 (wcs 0 zI zR zC zT) k2 ?hi ?hs ?h1 ?_
       case ho => with_reducible rfl
       case hx2 => rfl
       case hy2 => rfl
       case hi => exact msg_size _ zsz
       case hs => first | (with_reducible rfl) | rw [wcs_size _ zsz, wcs_size _ zsz]
       case h1 => exact wcs_one zone.1 zone.2.1 zone.2.2.1 zone.2.2.2
       intro w9 hB9 hg9))
  refine bodyPost_blk2 rfl _ rfl hB9 Try.underlying58 rfl (msg_size 0 zsz) rfl ⟨rfl, ?_⟩
  exact hb2.grown hg9 hb2.size (fun k hk => by injection hk with hk; omega)

set_option maxRecDepth 100000 in
set_option maxHeartbeats 1000000 in
theorem ref17Parse_I_err (b off n c : Nat) (l : List UInt8) (E : Int) (w : World) (hE : (E != 0) = true) (hn : 0 < n) (hm : n ≤ 9223372036854775807) (hs : Shows w w.heap.size (some ⟨b, off, none⟩) n (1 :: l))
    (hP : ∀ W : World, Below w.heap.size w W → Calls Try.prog 47 #[.slice (some ⟨b, off, none⟩) n c] W fun e w' => e = .returned (.tuple #[.agg zI, .int .i64 E]) ∧ Below W.heap.size W w') :
    Calls Try.prog 23 #[.slice (some ⟨b, off, none⟩) n c] w fun e w' => e = .returned (.tuple #[.agg (wcs 0 zI zR zC zT), .int .i64 E]) ∧ Below w.heap.size w w' := by
  obtain ⟨b', off', e, hb, hcell⟩ := hs.2 hn
  injection e with e
  injection e with e1 e2
  subst e1
  subst e2
  have c0 := hcell 0 (by simp)
  simp only [List.getElem_cons_zero, Nat.add_zero] at c0
  have hni : ¬ (n : Int) = 0 := by omega
  have HP := Lib.hid hP
  clear hcell hP
  have hE0 : E ≠ 0 := by simpa using hE
  clear hs
  have hz := (zero_of_info Try.zeroMsg).1
  have hzs : (wcs 0 zI zR zC zT).size = 284 := wcs_size 0 zsz
  have hzn : ¬ wcs 0 zI zR zC zT = #[] := fun h => by rw [h] at hzs; simp at hzs
  have k2 := (blk_new w 58 (wcs 0 zI zR zC zT)).alloc (.cells (wcs 0 zI zR zC zT) 58)
  have m2 := blk_new' (w.alloc (.cells (wcs 0 zI zR zC zT) 58)) 58 (wcs 0 zI zR zC zT) (w.heap.size + 1) (by simp)
  have hb2 : Below w.heap.size w ((w.alloc (.cells (wcs 0 zI zR zC zT) 58)).alloc (.cells (wcs 0 zI zR zC zT) 58)) := ((Below.refl _ _).alloc (Nat.le_refl _) _).alloc (by simp) _
  have hsz2 : ((w.alloc (.cells (wcs 0 zI zR zC zT) 58)).alloc (.cells (wcs 0 zI zR zC zT) 58)).heap.size = w.heap.size + 2 := by simp
  go_enter Try.func23, Try.ntmps23
  go_wp2_with fail
  generalize (w.alloc (.cells (wcs 0 zI zR zC zT) 58)).alloc (.cells (wcs 0 zI zR zC zT) 58) = w2 at *
  refine (HP.out w2 hb2).mono ?_
  rintro e w3 ⟨rfl, hb3⟩
  have hnew : zI.size = 141 := zsz.i
  have hone : One zI := zone.1
  have m3 := m2.on hb3
  have k3 := k2.on hb3
  have hb03 := Below.on hb2 hb2.size hb3
  have hsz3 := hb3.size
  have m4 := m3.alloc (.cells zI 49)
  have k4 := k3.alloc (.cells zI 49)
  have x4 := blk_new w3 49 zI
  have hb04 := hb03.alloc hb03.size (.cells zI 49)
  have hzz : Wsz zI zR zC zT := ⟨hnew, zsz.r, zsz.c, zsz.t⟩
  have hon : One (wcs 0 zI zR zC zT) := wcs_one hone zone.2.1 zone.2.2.1 zone.2.2.2
  generalize hw4 : w3.alloc (.cells zI 49) = w4 at *
  generalize hg3 : w3.heap.size = g3 at *
  have Hw4 := Lib.hid hw4
  have Hg3 := Lib.hid hg3
  clear HP m2 k2 hb2 hb3 m3 k3 hb03 hw4 hg3
  go_wp2_with (first
    | (refine wpList_allocStore (cs := zI) rfl rfl 49 ?ho (.tmp 6) (.tmp 26) ?ho2 Try.zeroIni ?hz ?hx ?hy ?hn ?h1 ?_
       case ho => with_reducible rfl
       case ho2 => rfl
       case hz => rw [mcs_size, zer_len]; rfl
       case hx => rfl
       case hy => rfl
       case hn => exact hnew
       case h1 => exact hone
       rw [Hw4.out, Hg3.out])
    | (refine wpList_loadBlk (g := g3) (t := 49) (cs := zI) rfl 49 (.tmp 6) ?ho ?hx ?hA _ Try.underlying49 rfl ?hi ?_
       case ho => with_reducible rfl
       case hx => rfl
       case hA => exact x4
       case hi => rw [size_I, hnew])
    | (refine wpList_storeI (g := w.heap.size + 1) rfl (.tmp 29) (.tmp 28) ?ho ?hx (ni := zI) ?hy m4 zsz hnew hone ?_
       case ho => with_reducible rfl
       case hx => rfl
       case hy => rfl
       intro w5 m5 hg5
       have k5 := k4.grown hg5 (by omega)
       have hb05 := below_grown hb04 hg5 hb04.size (by omega))
    | (refine wpList_storeBlk (g := w.heap.size) (t := 58) (cs := wcs 0 zI zR zC zT) rfl 58 (.tmp 2) (.tmp 63) ?ho ?hx2 ?hy2 (wcs 0 zI zR zC zT) k5 ?hi ?hs ?h1 ?_
       case ho => with_reducible rfl
       case hx2 => rfl
       case hy2 => rfl
       case hi => exact msg_size _ zsz
       case hs => first | (with_reducible rfl) | rw [wcs_size _ zsz, wcs_size _ zsz]
       case h1 => exact wcs_one zone.1 zone.2.1 zone.2.2.1 zone.2.2.2
       intro w9 hB9 hg9))
  refine bodyPost_blk2 rfl _ rfl hB9 Try.underlying58 rfl (msg_size 0 zsz) rfl ⟨rfl, ?_⟩
  exact hb05.grown hg9 hb05.size (fun k hk => by injection hk with hk; omega)

set_option maxRecDepth 100000 in
set_option maxHeartbeats 1000000 in
theorem ref17Parse_I_ok (b off n c : Nat) (l : List UInt8) (nx : Array Value) (w : World) (hnew : nx.size = 141) (hone : One nx) (hn : 0 < n) (hm : n ≤ 9223372036854775807) (hs : Shows w w.heap.size (some ⟨b, off, none⟩) n (1 :: l))
    (hP : ∀ W : World, Below w.heap.size w W → Calls Try.prog 47 #[.slice (some ⟨b, off, none⟩) n c] W fun e w' => e = .returned (.tuple #[.agg nx, .int .i64 0]) ∧ Below W.heap.size W w') :
    Calls Try.prog 23 #[.slice (some ⟨b, off, none⟩) n c] w fun e w' => e = .returned (.tuple #[.agg (wcs 1 nx zR zC zT), .int .i64 0]) ∧ Below w.heap.size w w' := by
  obtain ⟨b', off', e, hb, hcell⟩ := hs.2 hn
  injection e with e
  injection e with e1 e2
  subst e1
  subst e2
  have c0 := hcell 0 (by simp)
  simp only [List.getElem_cons_zero, Nat.add_zero] at c0
  have hni : ¬ (n : Int) = 0 := by omega
  have HP := Lib.hid hP
  clear hcell hP
  have hz := (zero_of_info Try.zeroMsg).1
  have hzs : (wcs 0 zI zR zC zT).size = 284 := wcs_size 0 zsz
  have hzn : ¬ wcs 0 zI zR zC zT = #[] := fun h => by rw [h] at hzs; simp at hzs
  have k2 := (blk_new w 58 (wcs 0 zI zR zC zT)).alloc (.cells (wcs 0 zI zR zC zT) 58)
  have m2 := blk_new' (w.alloc (.cells (wcs 0 zI zR zC zT) 58)) 58 (wcs 0 zI zR zC zT) (w.heap.size + 1) (by simp)
  have hb2 : Below w.heap.size w ((w.alloc (.cells (wcs 0 zI zR zC zT) 58)).alloc (.cells (wcs 0 zI zR zC zT) 58)) := ((Below.refl _ _).alloc (Nat.le_refl _) _).alloc (by simp) _
  have hsz2 : ((w.alloc (.cells (wcs 0 zI zR zC zT) 58)).alloc (.cells (wcs 0 zI zR zC zT) 58)).heap.size = w.heap.size + 2 := by simp
  go_enter Try.func23, Try.ntmps23
  go_wp2_with fail
  generalize (w.alloc (.cells (wcs 0 zI zR zC zT) 58)).alloc (.cells (wcs 0 zI zR zC zT) 58) = w2 at *
  refine (HP.out w2 hb2).mono ?_
  rintro e w3 ⟨rfl, hb3⟩
  have m3 := m2.on hb3
  have k3 := k2.on hb3
  have hb03 := Below.on hb2 hb2.size hb3
  have hsz3 := hb3.size
  have m4 := m3.alloc (.cells nx 49)
  have k4 := k3.alloc (.cells nx 49)
  have x4 := blk_new w3 49 nx
  have hb04 := hb03.alloc hb03.size (.cells nx 49)
  have hzz : Wsz nx zR zC zT := ⟨hnew, zsz.r, zsz.c, zsz.t⟩
  have hon : One (wcs 1 nx zR zC zT) := wcs_one hone zone.2.1 zone.2.2.1 zone.2.2.2
  generalize hw4 : w3.alloc (.cells nx 49) = w4 at *
  generalize hg3 : w3.heap.size = g3 at *
  have Hw4 := Lib.hid hw4
  have Hg3 := Lib.hid hg3
  clear HP m2 k2 hb2 hb3 m3 k3 hb03 hw4 hg3
  go_wp2_with (first
    | (refine wpList_allocStore (cs := nx) rfl rfl 49 ?ho (.tmp 6) (.tmp 26) ?ho2 Try.zeroIni ?hz ?hx ?hy ?hn ?h1 ?_
       case ho => with_reducible rfl
       case ho2 => rfl
       case hz => rw [mcs_size, zer_len]; rfl
       case hx => rfl
       case hy => rfl
       case hn => exact hnew
       case h1 => exact hone
       rw [Hw4.out, Hg3.out])
    | (refine wpList_loadBlk (g := g3) (t := 49) (cs := nx) rfl 49 (.tmp 6) ?ho ?hx ?hA _ Try.underlying49 rfl ?hi ?_
       case ho => with_reducible rfl
       case hx => rfl
       case hA => exact x4
       case hi => rw [size_I, hnew])
    | (refine wpList_storeI (g := w.heap.size + 1) rfl (.tmp 29) (.tmp 28) ?ho ?hx (ni := nx) ?hy m4 zsz hnew hone ?_
       case ho => with_reducible rfl
       case hx => rfl
       case hy => rfl
       intro w5 m5 hg5
       have k5 := k4.grown hg5 (by omega)
       have hb05 := below_grown hb04 hg5 hb04.size (by omega)
       have c05 : w5.cell? ⟨b, off, none⟩ = some (.int .u8 1) := (hb05.cell hb).trans c0
       have hc5 := m5.kind
       have hf5 := m5.frozen 0
       have m6 := m5.setCell 0 (.int .i64 1)
       rw [wcs_set0] at m6
       have k6 := k5.other ⟨w.heap.size + 1, 0, none⟩ (.int .i64 1) (by show w.heap.size ≠ w.heap.size + 1; omega)
       have hg6 := setCell_grown w5 (w.heap.size + 1) 0 (.int .i64 1)
       have hb06 := below_grown hb05 hg6 hb05.size (show w.heap.size ≤ w.heap.size + 1 by omega))
    | (refine wpList_loadBlk (g := w.heap.size + 1) (t := 58) (cs := wcs 1 nx zR zC zT) rfl 58 (.tmp 4) ?ho ?hx ?hA _ Try.underlying58 rfl ?hi ?_
       case ho => with_reducible rfl
       case hx => rfl
       case hA => exact m6
       case hi => exact msg_size _ hzz)
    | (refine wpList_storeBlk (g := w.heap.size) (t := 58) (cs := wcs 1 nx zR zC zT) rfl 58 (.tmp 2) (.tmp 70) ?ho ?hx2 ?hy2 (wcs 0 zI zR zC zT) k6 ?hi ?hs ?h1 ?_
       case ho => with_reducible rfl
       case hx2 => rfl
       case hy2 => rfl
       case hi => exact msg_size _ hzz
       case hs => first | (with_reducible rfl) | rw [wcs_size _ hzz, wcs_size _ zsz]
       case h1 => exact hon
       intro w9 hB9 hg9))
  refine bodyPost_blk2 rfl _ rfl hB9 Try.underlying58 rfl (msg_size _ hzz) rfl ⟨rfl, ?_⟩
  exact hb06.grown hg9 hb06.size (fun k hk => by injection hk with hk; omega)

set_option maxRecDepth 100000 in
set_option maxHeartbeats 1000000 in
theorem ref17Parse_R_err (b off n c : Nat) (l : List UInt8) (E : Int) (w : World) (hE : (E != 0) = true) (hn : 0 < n) (hm : n ≤ 9223372036854775807) (hs : Shows w w.heap.size (some ⟨b, off, none⟩) n (2 :: l))
    (hP : ∀ W : World, Below w.heap.size w W → Calls Try.prog 48 #[.slice (some ⟨b, off, none⟩) n c] W fun e w' => e = .returned (.tuple #[.agg zR, .int .i64 E]) ∧ Below W.heap.size W w') :
    Calls Try.prog 23 #[.slice (some ⟨b, off, none⟩) n c] w fun e w' => e = .returned (.tuple #[.agg (wcs 0 zI zR zC zT), .int .i64 E]) ∧ Below w.heap.size w w' := by
  obtain ⟨b', off', e, hb, hcell⟩ := hs.2 hn
  injection e with e
  injection e with e1 e2
  subst e1
  subst e2
  have c0 := hcell 0 (by simp)
  simp only [List.getElem_cons_zero, Nat.add_zero] at c0
  have hni : ¬ (n : Int) = 0 := by omega
  have HP := Lib.hid hP
  clear hcell hP
  have hE0 : E ≠ 0 := by simpa using hE
  clear hs
  have hz := (zero_of_info Try.zeroMsg).1
  have hzs : (wcs 0 zI zR zC zT).size = 284 := wcs_size 0 zsz
  have hzn : ¬ wcs 0 zI zR zC zT = #[] := fun h => by rw [h] at hzs; simp at hzs
  have k2 := (blk_new w 58 (wcs 0 zI zR zC zT)).alloc (.cells (wcs 0 zI zR zC zT) 58)
  have m2 := blk_new' (w.alloc (.cells (wcs 0 zI zR zC zT) 58)) 58 (wcs 0 zI zR zC zT) (w.heap.size + 1) (by simp)
  have hb2 : Below w.heap.size w ((w.alloc (.cells (wcs 0 zI zR zC zT) 58)).alloc (.cells (wcs 0 zI zR zC zT) 58)) := ((Below.refl _ _).alloc (Nat.le_refl _) _).alloc (by simp) _
  have hsz2 : ((w.alloc (.cells (wcs 0 zI zR zC zT) 58)).alloc (.cells (wcs 0 zI zR zC zT) 58)).heap.size = w.heap.size + 2 := by simp
  go_enter Try.func23, Try.ntmps23
  go_wp2_with fail
  generalize (w.alloc (.cells (wcs 0 zI zR zC zT) 58)).alloc (.cells (wcs 0 zI zR zC zT) 58) = w2 at *
  refine (HP.out w2 hb2).mono ?_
  rintro e w3 ⟨rfl, hb3⟩
  have hnew : zR.size = 82 := zsz.r
  have hone : One zR := zone.2.1
  have m3 := m2.on hb3
  have k3 := k2.on hb3
  have hb03 := Below.on hb2 hb2.size hb3
  have hsz3 := hb3.size
  have m4 := m3.alloc (.cells zR 51)
  have k4 := k3.alloc (.cells zR 51)
  have x4 := blk_new w3 51 zR
  have hb04 := hb03.alloc hb03.size (.cells zR 51)
  have hzz : Wsz zI zR zC zT := ⟨zsz.i, hnew, zsz.c, zsz.t⟩
  have hon : One (wcs 0 zI zR zC zT) := wcs_one zone.1 hone zone.2.2.1 zone.2.2.2
  generalize hw4 : w3.alloc (.cells zR 51) = w4 at *
  generalize hg3 : w3.heap.size = g3 at *
  have Hw4 := Lib.hid hw4
  have Hg3 := Lib.hid hg3
  clear HP m2 k2 hb2 hb3 m3 k3 hb03 hw4 hg3
  go_wp2_with (first
    | (refine wpList_allocStore (cs := zR) rfl rfl 51 ?ho (.tmp 8) (.tmp 36) ?ho2 Try.zeroAns ?hz ?hx ?hy ?hn ?h1 ?_
       case ho => with_reducible rfl
       case ho2 => rfl
       case hz => rw [mcs_size, zer_len]; rfl
       case hx => rfl
       case hy => rfl
       case hn => exact hnew
       case h1 => exact hone
       rw [Hw4.out, Hg3.out])
    | (refine wpList_loadBlk (g := g3) (t := 51) (cs := zR) rfl 51 (.tmp 8) ?ho ?hx ?hA _ Try.underlying51 rfl ?hi ?_
       case ho => with_reducible rfl
       case hx => rfl
       case hA => exact x4
       case hi => rw [size_R, hnew])
    | (refine wpList_storeR (g := w.heap.size + 1) rfl (.tmp 39) (.tmp 38) ?ho ?hx (nr := zR) ?hy m4 zsz hnew hone ?_
       case ho => with_reducible rfl
       case hx => rfl
       case hy => rfl
       intro w5 m5 hg5
       have k5 := k4.grown hg5 (by omega)
       have hb05 := below_grown hb04 hg5 hb04.size (by omega))
    | (refine wpList_storeBlk (g := w.heap.size) (t := 58) (cs := wcs 0 zI zR zC zT) rfl 58 (.tmp 2) (.tmp 63) ?ho ?hx2 ?hy2 (wcs 0 zI zR zC zT) k5 ?hi ?hs ?h1 ?_
       case ho => with_reducible rfl
       case hx2 => rfl
       case hy2 => rfl
       case hi => exact msg_size _ zsz
       case hs => first | (with_reducible rfl) | rw [wcs_size _ zsz, wcs_size _ zsz]
       case h1 => exact wcs_one zone.1 zone.2.1 zone.2.2.1 zone.2.2.2
       intro w9 hB9 hg9))
  refine bodyPost_blk2 rfl _ rfl hB9 Try.underlying58 rfl (msg_size 0 zsz) rfl ⟨rfl, ?_⟩
  exact hb05.grown hg9 hb05.size (fun k hk => by injection hk with hk; omega)

set_option maxRecDepth 100000 in
set_option maxHeartbeats 1000000 in
theorem ref17Parse_R_ok (b off n c : Nat) (l : List UInt8) (nx : Array Value) (w : World) (hnew : nx.size = 82) (hone : One nx) (hn : 0 < n) (hm : n ≤ 9223372036854775807) (hs : Shows w w.heap.size (some ⟨b, off, none⟩) n (2 :: l))
    (hP : ∀ W : World, Below w.heap.size w W → Calls Try.prog 48 #[.slice (some ⟨b, off, none⟩) n c] W fun e w' => e = .returned (.tuple #[.agg nx, .int .i64 0]) ∧ Below W.heap.size W w') :
    Calls Try.prog 23 #[.slice (some ⟨b, off, none⟩) n c] w fun e w' => e = .returned (.tuple #[.agg (wcs 2 zI nx zC zT), .int .i64 0]) ∧ Below w.heap.size w w' := by
  obtain ⟨b', off', e, hb, hcell⟩ := hs.2 hn
  injection e with e
  injection e with e1 e2
  subst e1
  subst e2
  have c0 := hcell 0 (by simp)
  simp only [List.getElem_cons_zero, Nat.add_zero] at c0
  have hni : ¬ (n : Int) = 0 := by omega
  have HP := Lib.hid hP
  clear hcell hP
  have hz := (zero_of_info Try.zeroMsg).1
  have hzs : (wcs 0 zI zR zC zT).size = 284 := wcs_size 0 zsz
  have hzn : ¬ wcs 0 zI zR zC zT = #[] := fun h => by rw [h] at hzs; simp at hzs
  have k2 := (blk_new w 58 (wcs 0 zI zR zC zT)).alloc (.cells (wcs 0 zI zR zC zT) 58)
  have m2 := blk_new' (w.alloc (.cells (wcs 0 zI zR zC zT) 58)) 58 (wcs 0 zI zR zC zT) (w.heap.size + 1) (by simp)
  have hb2 : Below w.heap.size w ((w.alloc (.cells (wcs 0 zI zR zC zT) 58)).alloc (.cells (wcs 0 zI zR zC zT) 58)) := ((Below.refl _ _).alloc (Nat.le_refl _) _).alloc (by simp) _
  have hsz2 : ((w.alloc (.cells (wcs 0 zI zR zC zT) 58)).alloc (.cells (wcs 0 zI zR zC zT) 58)).heap.size = w.heap.size + 2 := by simp
  go_enter Try.func23, Try.ntmps23
  go_wp2_with fail
  generalize (w.alloc (.cells (wcs 0 zI zR zC zT) 58)).alloc (.cells (wcs 0 zI zR zC zT) 58) = w2 at *
  refine (HP.out w2 hb2).mono ?_
  rintro e w3 ⟨rfl, hb3⟩
  have m3 := m2.on hb3
  have k3 := k2.on hb3
  have hb03 := Below.on hb2 hb2.size hb3
  have hsz3 := hb3.size
  have m4 := m3.alloc (.cells nx 51)
  have k4 := k3.alloc (.cells nx 51)
  have x4 := blk_new w3 51 nx
  have hb04 := hb03.alloc hb03.size (.cells nx 51)
  have hzz : Wsz zI nx zC zT := ⟨zsz.i, hnew, zsz.c, zsz.t⟩
  have hon : One (wcs 2 zI nx zC zT) := wcs_one zone.1 hone zone.2.2.1 zone.2.2.2
  generalize hw4 : w3.alloc (.cells nx 51) = w4 at *
  generalize hg3 : w3.heap.size = g3 at *
  have Hw4 := Lib.hid hw4
  have Hg3 := Lib.hid hg3
  clear HP m2 k2 hb2 hb3 m3 k3 hb03 hw4 hg3
  go_wp2_with (first
    | (refine wpList_allocStore (cs := nx) rfl rfl 51 ?ho (.tmp 8) (.tmp 36) ?ho2 Try.zeroAns ?hz ?hx ?hy ?hn ?h1 ?_
       case ho => with_reducible rfl
       case ho2 => rfl
       case hz => rw [mcs_size, zer_len]; rfl
       case hx => rfl
       case hy => rfl
       case hn => exact hnew
       case h1 => exact hone
       rw [Hw4.out, Hg3.out])
    | (refine wpList_loadBlk (g := g3) (t := 51) (cs := nx) rfl 51 (.tmp 8) ?ho ?hx ?hA _ Try.underlying51 rfl ?hi ?_
       case ho => with_reducible rfl
       case hx => rfl
       case hA => exact x4
       case hi => rw [size_R, hnew])
    | (refine wpList_storeR (g := w.heap.size + 1) rfl (.tmp 39) (.tmp 38) ?ho ?hx (nr := nx) ?hy m4 zsz hnew hone ?_
       case ho => with_reducible rfl
       case hx => rfl
       case hy => rfl
       intro w5 m5 hg5
       have k5 := k4.grown hg5 (by omega)
       have hb05 := below_grown hb04 hg5 hb04.size (by omega)
       have c05 : w5.cell? ⟨b, off, none⟩ = some (.int .u8 2) := (hb05.cell hb).trans c0
       have hc5 := m5.kind
       have hf5 := m5.frozen 0
       have m6 := m5.setCell 0 (.int .i64 2)
       rw [wcs_set0] at m6
       have k6 := k5.other ⟨w.heap.size + 1, 0, none⟩ (.int .i64 2) (by show w.heap.size ≠ w.heap.size + 1; omega)
       have hg6 := setCell_grown w5 (w.heap.size + 1) 0 (.int .i64 2)
       have hb06 := below_grown hb05 hg6 hb05.size (show w.heap.size ≤ w.heap.size + 1 by omega))
    | (refine wpList_loadBlk (g := w.heap.size + 1) (t := 58) (cs := wcs 2 zI nx zC zT) rfl 58 (.tmp 4) ?ho ?hx ?hA _ Try.underlying58 rfl ?hi ?_
       case ho => with_reducible rfl
       case hx => rfl
       case hA => exact m6
       case hi => exact msg_size _ hzz)
    | (refine wpList_storeBlk (g := w.heap.size) (t := 58) (cs := wcs 2 zI nx zC zT) rfl 58 (.tmp 2) (.tmp 70) ?ho ?hx2 ?hy2 (wcs 0 zI zR zC zT) k6 ?hi ?hs ?h1 ?_
       case ho => with_reducible rfl
       case hx2 => rfl
       case hy2 => rfl
       case hi => exact msg_size _ hzz
       case hs => first | (with_reducible rfl) | rw [wcs_size _ hzz, wcs_size _ zsz]
       case h1 => exact hon
       intro w9 hB9 hg9))
  refine bodyPost_blk2 rfl _ rfl hB9 Try.underlying58 rfl (msg_size _ hzz) rfl ⟨rfl, ?_⟩
  exact hb06.grown hg9 hb06.size (fun k hk => by injection hk with hk; omega)

set_option maxRecDepth 100000 in
set_option maxHeartbeats 1000000 in
theorem ref17Parse_C_err (b off n c : Nat) (l : List UInt8) (E : Int) (w : World) (hE : (E != 0) = true) (hn : 0 < n) (hm : n ≤ 9223372036854775807) (hs : Shows w w.heap.size (some ⟨b, off, none⟩) n (3 :: l))
    (hP : ∀ W : World, Below w.heap.size w W → Calls Try.prog 49 #[.slice (some ⟨b, off, none⟩) n c] W fun e w' => e = .returned (.tuple #[.agg zC, .int .i64 E]) ∧ Below W.heap.size W w') :
    Calls Try.prog 23 #[.slice (some ⟨b, off, none⟩) n c] w fun e w' => e = .returned (.tuple #[.agg (wcs 0 zI zR zC zT), .int .i64 E]) ∧ Below w.heap.size w w' := by
  obtain ⟨b', off', e, hb, hcell⟩ := hs.2 hn
  injection e with e
  injection e with e1 e2
  subst e1
  subst e2
  have c0 := hcell 0 (by simp)
  simp only [List.getElem_cons_zero, Nat.add_zero] at c0
  have hni : ¬ (n : Int) = 0 := by omega
  have HP := Lib.hid hP
  clear hcell hP
  have hE0 : E ≠ 0 := by simpa using hE
  clear hs
  have hz := (zero_of_info Try.zeroMsg).1
  have hzs : (wcs 0 zI zR zC zT).size = 284 := wcs_size 0 zsz
  have hzn : ¬ wcs 0 zI zR zC zT = #[] := fun h => by rw [h] at hzs; simp at hzs
  have k2 := (blk_new w 58 (wcs 0 zI zR zC zT)).alloc (.cells (wcs 0 zI zR zC zT) 58)
  have m2 := blk_new' (w.alloc (.cells (wcs 0 zI zR zC zT) 58)) 58 (wcs 0 zI zR zC zT) (w.heap.size + 1) (by simp)
  have hb2 : Below w.heap.size w ((w.alloc (.cells (wcs 0 zI zR zC zT) 58)).alloc (.cells (wcs 0 zI zR zC zT) 58)) := ((Below.refl _ _).alloc (Nat.le_refl _) _).alloc (by simp) _
  have hsz2 : ((w.alloc (.cells (wcs 0 zI zR zC zT) 58)).alloc (.cells (wcs 0 zI zR zC zT) 58)).heap.size = w.heap.size + 2 := by simp
  go_enter Try.func23, Try.ntmps23
  go_wp2_with fail
  generalize (w.alloc (.cells (wcs 0 zI zR zC zT) 58)).alloc (.cells (wcs 0 zI zR zC zT) 58) = w2 at *
  refine (HP.out w2 hb2).mono ?_
  rintro e w3 ⟨rfl, hb3⟩
  have hnew : zC.size = 57 := zsz.c
  have hone : One zC := zone.2.2.1
  have m3 := m2.on hb3
  have k3 := k2.on hb3
  have hb03 := Below.on hb2 hb2.size hb3
  have hsz3 := hb3.size
  have m4 := m3.alloc (.cells zC 54)
  have k4 := k3.alloc (.cells zC 54)
  have x4 := blk_new w3 54 zC
  have hb04 := hb03.alloc hb03.size (.cells zC 54)
  have hzz : Wsz zI zR zC zT := ⟨zsz.i, zsz.r, hnew, zsz.t⟩
  have hon : One (wcs 0 zI zR zC zT) := wcs_one zone.1 zone.2.1 hone zone.2.2.2
  generalize hw4 : w3.alloc (.cells zC 54) = w4 at *
  generalize hg3 : w3.heap.size = g3 at *
  have Hw4 := Lib.hid hw4
  have Hg3 := Lib.hid hg3
  clear HP m2 k2 hb2 hb3 m3 k3 hb03 hw4 hg3
  go_wp2_with (first
    | (refine wpList_allocStore (cs := zC) rfl rfl 54 ?ho (.tmp 10) (.tmp 46) ?ho2 Try.zeroCok ?hz ?hx ?hy ?hn ?h1 ?_
       case ho => with_reducible rfl
       case ho2 => rfl
       case hz => rw [mcs_size, zer_len]; rfl
       case hx => rfl
       case hy => rfl
       case hn => exact hnew
       case h1 => exact hone
       rw [Hw4.out, Hg3.out])
    | (refine wpList_loadBlk (g := g3) (t := 54) (cs := zC) rfl 54 (.tmp 10) ?ho ?hx ?hA _ Try.underlying54 rfl ?hi ?_
       case ho => with_reducible rfl
       case hx => rfl
       case hA => exact x4
       case hi => rw [size_C, hnew])
    | (refine wpList_storeC (g := w.heap.size + 1) rfl (.tmp 49) (.tmp 48) ?ho ?hx (nc := zC) ?hy m4 zsz hnew hone ?_
       case ho => with_reducible rfl
       case hx => rfl
       case hy => rfl
       intro w5 m5 hg5
       have k5 := k4.grown hg5 (by omega)
       have hb05 := below_grown hb04 hg5 hb04.size (by omega))
    | (refine wpList_storeBlk (g := w.heap.size) (t := 58) (cs := wcs 0 zI zR zC zT) rfl 58 (.tmp 2) (.tmp 63) ?ho ?hx2 ?hy2 (wcs 0 zI zR zC zT) k5 ?hi ?hs ?h1 ?_
       case ho => with_reducible rfl
       case hx2 => rfl
       case hy2 => rfl
       case hi => exact msg_size _ zsz
       case hs => first | (with_reducible rfl) | rw [wcs_size _ zsz, wcs_size _ zsz]
       case h1 => exact wcs_one zone.1 zone.2.1 zone.2.2.1 zone.2.2.2
       intro w9 hB9 hg9))
  refine bodyPost_blk2 rfl _ rfl hB9 Try.underlying58 rfl (msg_size 0 zsz) rfl ⟨rfl, ?_⟩
  exact hb05.grown hg9 hb05.size (fun k hk => by injection hk with hk; omega)

set_option maxRecDepth 100000 in
set_option maxHeartbeats 1000000 in
theorem ref17Parse_C_ok (b off n c : Nat) (l : List UInt8) (nx : Array Value) (w : World) (hnew : nx.size = 57) (hone : One nx) (hn : 0 < n) (hm : n ≤ 9223372036854775807) (hs : Shows w w.heap.size (some ⟨b, off, none⟩) n (3 :: l))
    (hP : ∀ W : World, Below w.heap.size w W → Calls Try.prog 49 #[.slice (some ⟨b, off, none⟩) n c] W fun e w' => e = .returned (.tuple #[.agg nx, .int .i64 0]) ∧ Below W.heap.size W w') :
    Calls Try.prog 23 #[.slice (some ⟨b, off, none⟩) n c] w fun e w' => e = .returned (.tuple #[.agg (wcs 3 zI zR nx zT), .int .i64 0]) ∧ Below w.heap.size w w' := by
  obtain ⟨b', off', e, hb, hcell⟩ := hs.2 hn
  injection e with e
  injection e with e1 e2
  subst e1
  subst e2
  have c0 := hcell 0 (by simp)
  simp only [List.getElem_cons_zero, Nat.add_zero] at c0
  have hni : ¬ (n : Int) = 0 := by omega
  have HP := Lib.hid hP
  clear hcell hP
  have hz := (zero_of_info Try.zeroMsg).1
  have hzs : (wcs 0 zI zR zC zT).size = 284 := wcs_size 0 zsz
  have hzn : ¬ wcs 0 zI zR zC zT = #[] := fun h => by rw [h] at hzs; simp at hzs
  have k2 := (blk_new w 58 (wcs 0 zI zR zC zT)).alloc (.cells (wcs 0 zI zR zC zT) 58)
  have m2 := blk_new' (w.alloc (.cells (wcs 0 zI zR zC zT) 58)) 58 (wcs 0 zI zR zC zT) (w.heap.size + 1) (by simp)
  have hb2 : Below w.heap.size w ((w.alloc (.cells (wcs 0 zI zR zC zT) 58)).alloc (.cells (wcs 0 zI zR zC zT) 58)) := ((Below.refl _ _).alloc (Nat.le_refl _) _).alloc (by simp) _
  have hsz2 : ((w.alloc (.cells (wcs 0 zI zR zC zT) 58)).alloc (.cells (wcs 0 zI zR zC zT) 58)).heap.size = w.heap.size + 2 := by simp
  go_enter Try.func23, Try.ntmps23
  go_wp2_with fail
  generalize (w.alloc (.cells (wcs 0 zI zR zC zT) 58)).alloc (.cells (wcs 0 zI zR zC zT) 58) = w2 at *
  refine (HP.out w2 hb2).mono ?_
  rintro e w3 ⟨rfl, hb3⟩
  have m3 := m2.on hb3
  have k3 := k2.on hb3
  have hb03 := Below.on hb2 hb2.size hb3
  have hsz3 := hb3.size
  have m4 := m3.alloc (.cells nx 54)
  have k4 := k3.alloc (.cells nx 54)
  have x4 := blk_new w3 54 nx
  have hb04 := hb03.alloc hb03.size (.cells nx 54)
  have hzz : Wsz zI zR nx zT := ⟨zsz.i, zsz.r, hnew, zsz.t⟩
  have hon : One (wcs 3 zI zR nx zT) := wcs_one zone.1 zone.2.1 hone zone.2.2.2
  generalize hw4 : w3.alloc (.cells nx 54) = w4 at *
  generalize hg3 : w3.heap.size = g3 at *
  have Hw4 := Lib.hid hw4
  have Hg3 := Lib.hid hg3
  clear HP m2 k2 hb2 hb3 m3 k3 hb03 hw4 hg3
  go_wp2_with (first
    | (refine wpList_allocStore (cs := nx) rfl rfl 54 ?ho (.tmp 10) (.tmp 46) ?ho2 Try.zeroCok ?hz ?hx ?hy ?hn ?h1 ?_
       case ho => with_reducible rfl
       case ho2 => rfl
       case hz => rw [mcs_size, zer_len]; rfl
       case hx => rfl
       case hy => rfl
       case hn => exact hnew
       case h1 => exact hone
       rw [Hw4.out, Hg3.out])
    | (refine wpList_loadBlk (g := g3) (t := 54) (cs := nx) rfl 54 (.tmp 10) ?ho ?hx ?hA _ Try.underlying54 rfl ?hi ?_
       case ho => with_reducible rfl
       case hx => rfl
       case hA => exact x4
       case hi => rw [size_C, hnew])
    | (refine wpList_storeC (g := w.heap.size + 1) rfl (.tmp 49) (.tmp 48) ?ho ?hx (nc := nx) ?hy m4 zsz hnew hone ?_
       case ho => with_reducible rfl
       case hx => rfl
       case hy => rfl
       intro w5 m5 hg5
       have k5 := k4.grown hg5 (by omega)
       have hb05 := below_grown hb04 hg5 hb04.size (by omega)
       have c05 : w5.cell? ⟨b, off, none⟩ = some (.int .u8 3) := (hb05.cell hb).trans c0
       have hc5 := m5.kind
       have hf5 := m5.frozen 0
       have m6 := m5.setCell 0 (.int .i64 3)
       rw [wcs_set0] at m6
       have k6 := k5.other ⟨w.heap.size + 1, 0, none⟩ (.int .i64 3) (by show w.heap.size ≠ w.heap.size + 1; omega)
       have hg6 := setCell_grown w5 (w.heap.size + 1) 0 (.int .i64 3)
       have hb06 := below_grown hb05 hg6 hb05.size (show w.heap.size ≤ w.heap.size + 1 by omega))
    | (refine wpList_loadBlk (g := w.heap.size + 1) (t := 58) (cs := wcs 3 zI zR nx zT) rfl 58 (.tmp 4) ?ho ?hx ?hA _ Try.underlying58 rfl ?hi ?_
       case ho => with_reducible rfl
       case hx => rfl
       case hA => exact m6
       case hi => exact msg_size _ hzz)
    | (refine wpList_storeBlk (g := w.heap.size) (t := 58) (cs := wcs 3 zI zR nx zT) rfl 58 (.tmp 2) (.tmp 70) ?ho ?hx2 ?hy2 (wcs 0 zI zR zC zT) k6 ?hi ?hs ?h1 ?_
       case ho => with_reducible rfl
       case hx2 => rfl
       case hy2 => rfl
       case hi => exact msg_size _ hzz
       case hs => first | (with_reducible rfl) | rw [wcs_size _ hzz, wcs_size _ zsz]
       case h1 => exact hon
       intro w9 hB9 hg9))
  refine bodyPost_blk2 rfl _ rfl hB9 Try.underlying58 rfl (msg_size _ hzz) rfl ⟨rfl, ?_⟩
  exact hb06.grown hg9 hb06.size (fun k hk => by injection hk with hk; omega)

set_option maxRecDepth 100000 in
set_option maxHeartbeats 1000000 in
theorem ref17Parse_T_err (b off n c : Nat) (l : List UInt8) (E : Int) (w : World) (hE : (E != 0) = true) (hn : 0 < n) (hm : n ≤ 9223372036854775807) (hs : Shows w w.heap.size (some ⟨b, off, none⟩) n (4 :: l))
    (hP : ∀ W : World, Below w.heap.size w W → Calls Try.prog 50 #[.slice (some ⟨b, off, none⟩) n c] W fun e w' => e = .returned (.tuple #[.agg zT, .int .i64 E]) ∧ Below W.heap.size W w') :
    Calls Try.prog 23 #[.slice (some ⟨b, off, none⟩) n c] w fun e w' => e = .returned (.tuple #[.agg (wcs 0 zI zR zC zT), .int .i64 E]) ∧ Below w.heap.size w w' := by
  obtain ⟨b', off', e, hb, hcell⟩ := hs.2 hn
  injection e with e
  injection e with e1 e2
  subst e1
  subst e2
  have c0 := hcell 0 (by simp)
  simp only [List.getElem_cons_zero, Nat.add_zero] at c0
  have hni : ¬ (n : Int) = 0 := by omega
  have HP := Lib.hid hP
  clear hcell hP
  have hE0 : E ≠ 0 := by simpa using hE
  clear hs
  have hz := (zero_of_info Try.zeroMsg).1
  have hzs : (wcs 0 zI zR zC zT).size = 284 := wcs_size 0 zsz
  have hzn : ¬ wcs 0 zI zR zC zT = #[] := fun h => by rw [h] at hzs; simp at hzs
  have k2 := (blk_new w 58 (wcs 0 zI zR zC zT)).alloc (.cells (wcs 0 zI zR zC zT) 58)
  have m2 := blk_new' (w.alloc (.cells (wcs 0 zI zR zC zT) 58)) 58 (wcs 0 zI zR zC zT) (w.heap.size + 1) (by simp)
  have hb2 : Below w.heap.size w ((w.alloc (.cells (wcs 0 zI zR zC zT) 58)).alloc (.cells (wcs 0 zI zR zC zT) 58)) := ((Below.refl _ _).alloc (Nat.le_refl _) _).alloc (by simp) _
  have hsz2 : ((w.alloc (.cells (wcs 0 zI zR zC zT) 58)).alloc (.cells (wcs 0 zI zR zC zT) 58)).heap.size = w.heap.size + 2 := by simp
  go_enter Try.func23, Try.ntmps23
  go_wp2_with fail
  generalize (w.alloc (.cells (wcs 0 zI zR zC zT) 58)).alloc (.cells (wcs 0 zI zR zC zT) 58) = w2 at *
  refine (HP.out w2 hb2).mono ?_
  rintro e w3 ⟨rfl, hb3⟩
  have hnew : zT.size = 3 := zsz.t
  have hone : One zT := zone.2.2.2
  have m3 := m2.on hb3
  have k3 := k2.on hb3
  have hb03 := Below.on hb2 hb2.size hb3
  have hsz3 := hb3.size
  have m4 := m3.alloc (.cells zT 56)
  have k4 := k3.alloc (.cells zT 56)
  have x4 := blk_new w3 56 zT
  have hb04 := hb03.alloc hb03.size (.cells zT 56)
  have hzz : Wsz zI zR zC zT := ⟨zsz.i, zsz.r, zsz.c, hnew⟩
  have hon : One (wcs 0 zI zR zC zT) := wcs_one zone.1 zone.2.1 zone.2.2.1 hone
  generalize hw4 : w3.alloc (.cells zT 56) = w4 at *
  generalize hg3 : w3.heap.size = g3 at *
  have Hw4 := Lib.hid hw4
  have Hg3 := Lib.hid hg3
  clear HP m2 k2 hb2 hb3 m3 k3 hb03 hw4 hg3
  go_wp2_with (first
    | (refine wpList_allocStore (cs := zT) rfl rfl 56 ?ho (.tmp 12) (.tmp 56) ?ho2 Try.zeroTr ?hz ?hx ?hy ?hn ?h1 ?_
       case ho => with_reducible rfl
       case ho2 => rfl
       case hz => rfl
       case hx => rfl
       case hy => rfl
       case hn => exact hnew
       case h1 => exact hone
       rw [Hw4.out, Hg3.out])
    | (refine wpList_loadBlk (g := g3) (t := 56) (cs := zT) rfl 56 (.tmp 12) ?ho ?hx ?hA _ Try.underlying56 rfl ?hi ?_
       case ho => with_reducible rfl
       case hx => rfl
       case hA => exact x4
       case hi => rw [size_T, hnew])
    | (refine wpList_storeT (g := w.heap.size + 1) rfl (.tmp 59) (.tmp 58) ?ho ?hx (nt := zT) ?hy m4 zsz hnew hone ?_
       case ho => with_reducible rfl
       case hx => rfl
       case hy => rfl
       intro w5 m5 hg5
       have k5 := k4.grown hg5 (by omega)
       have hb05 := below_grown hb04 hg5 hb04.size (by omega))
    | (refine wpList_storeBlk (g := w.heap.size) (t := 58) (cs := wcs 0 zI zR zC zT) rfl 58 (.tmp 2) (.tmp 63) ?ho ?hx2 ?hy2 (wcs 0 zI zR zC zT) k5 ?hi ?hs ?h1 ?_
       case ho => with_reducible rfl
       case hx2 => rfl
       case hy2 => rfl
       case hi => exact msg_size _ zsz
       case hs => first | (with_reducible rfl) | rw [wcs_size _ zsz, wcs_size _ zsz]
       case h1 => exact wcs_one zone.1 zone.2.1 zone.2.2.1 zone.2.2.2
       intro w9 hB9 hg9))
  refine bodyPost_blk2 rfl _ rfl hB9 Try.underlying58 rfl (msg_size 0 zsz) rfl ⟨rfl, ?_⟩
  exact hb05.grown hg9 hb05.size (fun k hk => by injection hk with hk; omega)

set_option maxRecDepth 100000 in
set_option maxHeartbeats 1000000 in
theorem ref17Parse_T_ok (b off n c : Nat) (l : List UInt8) (rr kk m : Nat) (lb : List UInt8) (w : World) (hn : 0 < n) (hm : n ≤ 9223372036854775807) (hs : Shows w w.heap.size (some ⟨b, off, none⟩) n (4 :: l))
    (hP : ∀ W : World, Below w.heap.size w W → Calls Try.prog 50 #[.slice (some ⟨b, off, none⟩) n c] W fun e w' => ∃ tA tc, e = .returned (.tuple #[.agg (trv rr kk tA m tc), .int .i64 0]) ∧ Shows w' w'.heap.size tA m lb ∧ (∀ a, tA = some a → W.heap.size ≤ a.block) ∧ Below W.heap.size W w') :
    Calls Try.prog 23 #[.slice (some ⟨b, off, none⟩) n c] w fun e w' => ∃ tA tc, e = .returned (.tuple #[.agg (wcs 4 zI zR zC (trv rr kk tA m tc)), .int .i64 0]) ∧ Shows w' w'.heap.size tA m lb ∧ Below w.heap.size w w' := by
  obtain ⟨b', off', e, hb, hcell⟩ := hs.2 hn
  injection e with e
  injection e with e1 e2
  subst e1
  subst e2
  have c0 := hcell 0 (by simp)
  simp only [List.getElem_cons_zero, Nat.add_zero] at c0
  have hni : ¬ (n : Int) = 0 := by omega
  have HP := Lib.hid hP
  clear hcell hP
  have hz := (zero_of_info Try.zeroMsg).1
  have hzs : (wcs 0 zI zR zC zT).size = 284 := wcs_size 0 zsz
  have hzn : ¬ wcs 0 zI zR zC zT = #[] := fun h => by rw [h] at hzs; simp at hzs
  have k2 := (blk_new w 58 (wcs 0 zI zR zC zT)).alloc (.cells (wcs 0 zI zR zC zT) 58)
  have m2 := blk_new' (w.alloc (.cells (wcs 0 zI zR zC zT) 58)) 58 (wcs 0 zI zR zC zT) (w.heap.size + 1) (by simp)
  have hb2 : Below w.heap.size w ((w.alloc (.cells (wcs 0 zI zR zC zT) 58)).alloc (.cells (wcs 0 zI zR zC zT) 58)) := ((Below.refl _ _).alloc (Nat.le_refl _) _).alloc (by simp) _
  have hsz2 : ((w.alloc (.cells (wcs 0 zI zR zC zT) 58)).alloc (.cells (wcs 0 zI zR zC zT) 58)).heap.size = w.heap.size + 2 := by simp
  go_enter Try.func23, Try.ntmps23
  go_wp2_with fail
  generalize (w.alloc (.cells (wcs 0 zI zR zC zT) 58)).alloc (.cells (wcs 0 zI zR zC zT) 58) = w2 at *
  refine (HP.out w2 hb2).mono ?_
  rintro e w3 ⟨tA, tc, rfl, s3, hA3, hb3⟩
  have hnew : (trv rr kk tA m tc).size = 3 := rfl
  have hone : One (trv rr kk tA m tc) := one_trv _ _ _ _ _
  have m3 := m2.on hb3
  have k3 := k2.on hb3
  have hb03 := Below.on hb2 hb2.size hb3
  have hsz3 := hb3.size
  have m4 := m3.alloc (.cells (trv rr kk tA m tc) 56)
  have k4 := k3.alloc (.cells (trv rr kk tA m tc) 56)
  have x4 := blk_new w3 56 (trv rr kk tA m tc)
  have hb04 := hb03.alloc hb03.size (.cells (trv rr kk tA m tc) 56)
  have s4 := (s3.alloc (Nat.le_refl _) (.cells (trv rr kk tA m tc) 56)).up (B' := (w3.alloc (.cells (trv rr kk tA m tc) 56)).heap.size) (by simp)
  clear s3
  have hzz : Wsz zI zR zC (trv rr kk tA m tc) := ⟨zsz.i, zsz.r, zsz.c, hnew⟩
  have hon : One (wcs 4 zI zR zC (trv rr kk tA m tc)) := wcs_one zone.1 zone.2.1 zone.2.2.1 hone
  generalize hw4 : w3.alloc (.cells (trv rr kk tA m tc) 56) = w4 at *
  generalize hg3 : w3.heap.size = g3 at *
  have Hw4 := Lib.hid hw4
  have Hg3 := Lib.hid hg3
  clear HP m2 k2 hb2 hb3 m3 k3 hb03 hw4 hg3
  go_wp2_with (first
    | (refine wpList_allocStore (cs := (trv rr kk tA m tc)) rfl rfl 56 ?ho (.tmp 12) (.tmp 56) ?ho2 Try.zeroTr ?hz ?hx ?hy ?hn ?h1 ?_
       case ho => with_reducible rfl
       case ho2 => rfl
       case hz => rfl
       case hx => rfl
       case hy => rfl
       case hn => exact hnew
       case h1 => exact hone
       rw [Hw4.out, Hg3.out])
    | (refine wpList_loadBlk (g := g3) (t := 56) (cs := (trv rr kk tA m tc)) rfl 56 (.tmp 12) ?ho ?hx ?hA _ Try.underlying56 rfl ?hi ?_
       case ho => with_reducible rfl
       case hx => rfl
       case hA => exact x4
       case hi => rw [size_T, hnew])
    | (refine wpList_storeT (g := w.heap.size + 1) rfl (.tmp 59) (.tmp 58) ?ho ?hx (nt := (trv rr kk tA m tc)) ?hy m4 zsz hnew hone ?_
       case ho => with_reducible rfl
       case hx => rfl
       case hy => rfl
       intro w5 m5 hg5
       have k5 := k4.grown hg5 (by omega)
       have hb05 := below_grown hb04 hg5 hb04.size (by omega)
       have c05 : w5.cell? ⟨b, off, none⟩ = some (.int .u8 4) := (hb05.cell hb).trans c0
       have hc5 := m5.kind
       have hf5 := m5.frozen 0
       have m6 := m5.setCell 0 (.int .i64 4)
       rw [wcs_set0] at m6
       have k6 := k5.other ⟨w.heap.size + 1, 0, none⟩ (.int .i64 4) (by show w.heap.size ≠ w.heap.size + 1; omega)
       have hg6 := setCell_grown w5 (w.heap.size + 1) 0 (.int .i64 4)
       have hb06 := below_grown hb05 hg6 hb05.size (show w.heap.size ≤ w.heap.size + 1 by omega)
       have hg56 := grown_trans hg5 hg6
       have s6 := s4.grown (Nat.le_refl _) hg56 (fun _ a' ha' => by have := hA3 a' ha'; omega)
       have hsz6 := hg56.size)
    | (refine wpList_loadBlk (g := w.heap.size + 1) (t := 58) (cs := wcs 4 zI zR zC (trv rr kk tA m tc)) rfl 58 (.tmp 4) ?ho ?hx ?hA _ Try.underlying58 rfl ?hi ?_
       case ho => with_reducible rfl
       case hx => rfl
       case hA => exact m6
       case hi => exact msg_size _ hzz)
    | (refine wpList_storeBlk (g := w.heap.size) (t := 58) (cs := wcs 4 zI zR zC (trv rr kk tA m tc)) rfl 58 (.tmp 2) (.tmp 70) ?ho ?hx2 ?hy2 (wcs 0 zI zR zC zT) k6 ?hi ?hs ?h1 ?_
       case ho => with_reducible rfl
       case hx2 => rfl
       case hy2 => rfl
       case hi => exact msg_size _ hzz
       case hs => first | (with_reducible rfl) | rw [wcs_size _ hzz, wcs_size _ zsz]
       case h1 => exact hon
       intro w9 hB9 hg9))
  refine bodyPost_blk2 rfl _ rfl hB9 Try.underlying58 rfl (msg_size _ hzz) rfl ⟨tA, tc, rfl, ?_, ?_⟩
  · exact (s6.grown hsz6 hg9 (fun _ a' ha' => by have := hA3 a' ha'; omega)).up (by have := hg9.size; omega)
  · exact hb06.grown hg9 hb06.size (fun k hk => by injection hk with hk; omega)

end Go.Proofs.Ytlllakjimgomjaa

/- WirF -/
namespace Go.Proofs.Ytlllakjimgomjaa
open Go.RowKit
set_option linter.unusedVariables false

theorem size_trv (rr kk : Nat) (A : Option Addr) (n c : Nat) : (trv rr kk A n c).size = 3 := rfl

set_option maxRecDepth 100000 in
set_option maxHeartbeats 2000000 in
theorem ref17Same_yes (k : Int) (i r c : Array Value) (rr kk : Nat) (A A' : Option Addr) (n ca ca' : Nat) (l : List UInt8) (w : World) (hi : i.size = 141) (hr : r.size = 82) (hc : c.size = 57)
    (HI : ∀ w, (Op.equalIn 10000 49 (.agg i) (.agg i)).run Try.prog w = .ok true w) (HR : ∀ w, (Op.equalIn 10000 51 (.agg r) (.agg r)).run Try.prog w = .ok true w) (HC : ∀ w, (Op.equalIn 10000 54 (.agg c) (.agg c)).run Try.prog w = .ok true w)
    (hn : n ≤ maxLen) (hs : Shows w w.heap.size A n l) (hs' : Shows w w.heap.size A' n l) :
    Calls Try.prog 24 #[.agg (wcs k i r c (trv rr kk A n ca)), .agg (wcs k i r c (trv rr kk A' n ca'))] w fun e w' => e = .returned (.bool true) ∧ Below w.heap.size w w' := by
  have z1 : Wsz i r c (trv rr kk A n ca) := ⟨hi, hr, hc, rfl⟩
  have z2 : Wsz i r c (trv rr kk A' n ca') := ⟨hi, hr, hc, rfl⟩
  have B1 := (blk_new w 58 (wcs k i r c (trv rr kk A n ca))).alloc (.cells (wcs k i r c (trv rr kk A' n ca')) 58)
  have B2 := blk_new' (w.alloc (.cells (wcs k i r c (trv rr kk A n ca)) 58)) 58 (wcs k i r c (trv rr kk A' n ca')) (w.heap.size + 1) (by simp)
  have hb0 : Below w.heap.size w ((w.alloc (.cells (wcs k i r c (trv rr kk A n ca)) 58)).alloc (.cells (wcs k i r c (trv rr kk A' n ca')) 58)) := ((Below.refl _ _).alloc (Nat.le_refl _) _).alloc (by simp) _
  have q1 := wcs_0 k i r c (trv rr kk A n ca)
  have q2 := wcs_0 k i r c (trv rr kk A' n ca')
  have hI := Lib.hid HI
  have hR := Lib.hid HR
  have hC := Lib.hid HC
  have s1 := (hs.below hb0).up hb0.size
  have s2 := (hs'.below hb0).up hb0.size
  have R1I := range_I B1 z1
  have R1R := range_R B1 z1
  have R1C := range_C B1 z1
  have R1T := range_T B1 z1
  have R2I := range_I B2 z2
  have R2R := range_R B2 z2
  have R2C := range_C B2 z2
  have R2T := range_T B2 z2
  clear HI HR HC hs hs'
  go_enter Try.func24, Try.ntmps24
  go_wp2_with (first
    | (refine wpList_loadMid (g := w.heap.size) rfl 49 (.tmp 11) ?ho 1 ?hx i _ R1I Try.underlying49 rfl ?hi ?_
       case ho => with_reducible rfl
       case hx => rfl
       case hi => rw [size_I, hi])
    | (refine wpList_loadMid (g := w.heap.size + 1) rfl 49 (.tmp 13) ?ho 1 ?hx i _ R2I Try.underlying49 rfl ?hi ?_
       case ho => with_reducible rfl
       case hx => rfl
       case hi => rw [size_I, hi])
    | (refine wpList_eqlSelf (cs := i) rfl 49 49 (.tmp 12) (.tmp 14) ?ho ?hx ?hy (by kernel_rfl) ?he ?_
       case ho => with_reducible rfl
       case hx => rfl
       case hy => rfl
       case he => exact hI.out)
    | (refine wpList_loadMid (g := w.heap.size) rfl 51 (.tmp 18) ?ho 142 ?hx r _ R1R Try.underlying51 rfl ?hi ?_
       case ho => with_reducible rfl
       case hx => rfl
       case hi => rw [size_R, hr])
    | (refine wpList_loadMid (g := w.heap.size + 1) rfl 51 (.tmp 20) ?ho 142 ?hx r _ R2R Try.underlying51 rfl ?hi ?_
       case ho => with_reducible rfl
       case hx => rfl
       case hi => rw [size_R, hr])
    | (refine wpList_eqlSelf (cs := r) rfl 51 51 (.tmp 19) (.tmp 21) ?ho ?hx ?hy (by kernel_rfl) ?he ?_
       case ho => with_reducible rfl
       case hx => rfl
       case hy => rfl
       case he => exact hR.out)
    | (refine wpList_loadMid (g := w.heap.size) rfl 54 (.tmp 25) ?ho 224 ?hx c _ R1C Try.underlying54 rfl ?hi ?_
       case ho => with_reducible rfl
       case hx => rfl
       case hi => rw [size_C, hc])
    | (refine wpList_loadMid (g := w.heap.size + 1) rfl 54 (.tmp 27) ?ho 224 ?hx c _ R2C Try.underlying54 rfl ?hi ?_
       case ho => with_reducible rfl
       case hx => rfl
       case hi => rw [size_C, hc])
    | (refine wpList_eqlSelf (cs := c) rfl 54 54 (.tmp 26) (.tmp 28) ?ho ?hx ?hy (by kernel_rfl) ?he ?_
       case ho => with_reducible rfl
       case hx => rfl
       case hy => rfl
       case he => exact hC.out)
    | (refine wpList_loadMid (g := w.heap.size) rfl 56 (.tmp 32) ?ho 281 ?hx (trv rr kk A n ca) _ R1T Try.underlying56 rfl ?hi ?_
       case ho => with_reducible rfl
       case hx => rfl
       case hi => rw [size_T, size_trv])
    | (refine wpList_loadMid (g := w.heap.size + 1) rfl 56 (.tmp 34) ?ho 281 ?hx (trv rr kk A' n ca') _ R2T Try.underlying56 rfl ?hi ?_
       case ho => with_reducible rfl
       case hx => rfl
       case hi => rw [size_T, size_trv]))
  refine (ref16Same_dec rr kk rr kk A A' n ca n ca' l l _ hn hn s1 s2).mono ?_
  rintro e w1 ⟨rfl, hb1⟩
  rw [decide_eq_true (by simp)]
  have hb01 := Below.on hb0 hb0.size hb1
  clear s1 s2 hb0 hb1 R1I R1R R1C R1T R2I R2R R2C R2T B1 B2 q1 q2
  go_wp2
  go_ret
  exact ⟨rfl, hb01⟩

theorem zI_eq (w : World) : (Op.equalIn 10000 49 (.agg zI) (.agg zI)).run Try.prog w = .ok true w := Ini_eq 0 (zer 140) (zer_len 140) w
theorem zR_eq (w : World) : (Op.equalIn 10000 51 (.agg zR) (.agg zR)).run Try.prog w = .ok true w := Ans_eq 0 0 (zer 80) (zer_len 80) w
theorem zC_eq (w : World) : (Op.equalIn 10000 54 (.agg zC) (.agg zC)).run Try.prog w = .ok true w := Cok_eq 0 (zer 56) (zer_len 56) w

set_option maxRecDepth 100000 in
set_option maxHeartbeats 2000000 in
theorem alive17 (w : World) : Calls Try.prog 19 #[] w fun e w' => e = .returned (.bool true) ∧ Below w.heap.size w w' := by
  have hz := (zero_of_info Try.zeroMsg).1
  have hzs : (wcs 0 zI zR zC zT).size = 284 := wcs_size 0 zsz
  have hzn : ¬ wcs 0 zI zR zC zT = #[] := fun h => by rw [h] at hzs; simp at hzs
  have hb0 : Below w.heap.size w (w.alloc (.cells #[.int .u8 5] 5)) := (Below.refl _ _).alloc (Nat.le_refl _) _
  have s0 := shows_new w #[.int .u8 5] [5] rfl
  go_enter Try.func19, Try.ntmps19
  go_wp2_with fail
  refine (wireParse_none w.heap.size 0 1 1 5 [] _ (by omega) (by omega) s0 (by decide)).mono ?_
  rintro e w1 ⟨rfl, hb1⟩
  have hb01 := Below.on hb0 hb0.size hb1
  have hb02 := hb01.alloc hb01.size (.cells (wcs 0 zI zR zC zT) 58)
  clear hb0 s0 hb1 hb01
  generalize hw2 : w1.alloc (.cells (wcs 0 zI zR zC zT) 58) = w2 at *
  have Hw2 := Lib.hid hw2
  clear hw2
  go_wp2_with (first
    | (refine wpList_allocStore (cs := wcs 0 zI zR zC zT) rfl rfl 58 ?ho (.tmp 1) (.tmp 8) ?ho2 Try.zeroMsg ?hz ?hx ?hy ?hn ?h1 ?_
       case ho => with_reducible rfl
       case ho2 => rfl
       case hz => exact hzs
       case hx => rfl
       case hy => rfl
       case hn => exact hzs
       case h1 => exact wcs_one zone.1 zone.2.1 zone.2.2.1 zone.2.2.2
       rw [Hw2.out]))
  rw [wcs_set0]
  refine (wireBytes_C zI zR zC zT 64 (mbs 3 [0] (zer 56)) w2 zsz (fun W _ => cookieBytes_any 0 (zer 56) W (by omega) (zer_len 56))).mono ?_
  rintro e w3 ⟨v, rfl, ho3, hb3⟩
  have hb03 := Below.on hb02 hb02.size hb3
  obtain ⟨a3, c3, rfl, _, _⟩ := ho3.at_some (by omega)
  clear hz hzs hzn Hw2 hb02 ho3 hb3
  go_wp2
  go_ret
  exact ⟨rfl, hb03⟩

end Go.Proofs.Ytlllakjimgomjaa

/- WirK -/
namespace Go.Proofs.Ytlllakjimgomjaa
open Go.RowKit
set_option linter.unusedVariables false
set_option linter.unusedSimpArgs false

theorem eqFields_any {P : Program} (d : Nat) (xs ys : Array Value) : ∀ (fs : List Field), (∀ f ∈ fs, ∃ u v b, ∀ w, (part f.type xs f.offset).run P w = .ok u w ∧ (part f.type ys f.offset).run P w = .ok v w ∧ (Op.equalIn d f.type u v).run P w = .ok b w) →
    ∃ b, ∀ w, (Op.eqFields d xs ys fs).run P w = .ok b w
  | [], _ => ⟨true, fun w => by simp [Op.eqFields]⟩
  | f :: fs, h => by
    obtain ⟨u, v, b, hv⟩ := h f (by simp)
    obtain ⟨b2, ih⟩ := eqFields_any d xs ys fs (fun f hf => h f (by simp [hf]))
    by_cases hf : f.name = "_"
    · exact ⟨b2, fun w => by simp only [Op.eqFields, Sem.run_ite, hf, ne_eq, not_true_eq_false, if_false]; exact ih w⟩
    · cases b
      · exact ⟨false, fun w => by simp only [Op.eqFields, Sem.run_ite, hf, ne_eq, not_false_eq_true, if_true, Sem.run_bind, (hv w).1, (hv w).2.1, (hv w).2.2, Result.andThen_ok, Bool.not_false, Sem.run_pure]⟩
      · exact ⟨b2, fun w => by simp only [Op.eqFields, Sem.run_ite, hf, ne_eq, not_false_eq_true, if_true, Sem.run_bind, (hv w).1, (hv w).2.1, (hv w).2.2, Result.andThen_ok, Bool.not_true, Bool.false_eq_true, if_false]; exact ih w⟩

section
variable {P : Program} {rs rs' : List Nat} {l l' : List UInt8}
theorem part_num2 (ft : TypeId) (j : Nat) (hu : P.underlying ft = some (.int .u32)) (hj : j < rs.length) (hj' : j < rs'.length) :
    ∃ u v b, ∀ w, (part ft (mcs rs l) j).run P w = .ok u w ∧ (part ft (mcs rs' l') j).run P w = .ok v w ∧ (Op.equalIn 9999 ft u v).run P w = .ok b w := by
  have h := mcs_num rs l j rs[j] (List.getElem?_eq_getElem hj)
  have h' := mcs_num rs' l' j rs'[j] (List.getElem?_eq_getElem hj')
  refine ⟨.int .u32 (rs[j] : Int), .int .u32 (rs'[j] : Int), ((rs[j] : Int) == (rs'[j] : Int)), fun w => ⟨?_, ?_, ?_⟩⟩
  · simp [part, isAgg, run_underlying hu, h]
  · simp [part, isAgg, run_underlying hu, h']
  · exact run_equalIn_int w 9998 ft .u32 .u32 _ _ hu
theorem part_arr2 (ft e : TypeId) (n o off : Nat) (hu : P.underlying ft = some (.array n e)) (he : P.underlying e = some (.int .u8)) (hs : (P.info? e).map (·.size) = some 1) (hi : (P.info? ft).map (·.size) = some n) (hoff : off = rs.length + o) (hoff' : off = rs'.length + o) (ho : o + n ≤ l.length) (ho' : o + n ≤ l'.length) :
    ∃ u v b, ∀ w, (part ft (mcs rs l) off).run P w = .ok u w ∧ (part ft (mcs rs' l') off).run P w = .ok v w ∧ (Op.equalIn 9999 ft u v).run P w = .ok b w := by
  refine ⟨.agg (((l.drop o).take n).map bv).toArray, .agg (((l'.drop o).take n).map bv).toArray, ((l.drop o).take n == (l'.drop o).take n), fun w => ⟨?_, ?_, ?_⟩⟩
  · cases hq : P.info? ft with
    | none => simp [hq] at hi
    | some i =>
      have hsz : i.size = n := by simpa [hq] using hi
      simp [part, isAgg, run_underlying hu, sizeOf, typeInfo, hq, hsz, mcs_extract rs l o n off hoff]
  · cases hq : P.info? ft with
    | none => simp [hq] at hi
    | some i =>
      have hsz : i.size = n := by simpa [hq] using hi
      simp [part, isAgg, run_underlying hu, sizeOf, typeInfo, hq, hsz, mcs_extract rs' l' o n off hoff']
  · exact run_equalIn_bytes w 9997 ft e n hu he (fun w => by
      cases hq : P.info? e with
      | none => simp [hq] at hs
      | some i => simp [sizeOf, typeInfo, hq] at *; exact hs) ((l.drop o).take n) ((l'.drop o).take n) (by simp; omega) (by simp; omega)
end

/-- Two structs, held against each other: some answer, in every world. -/
theorem wpList_eqlAny {P : Program} {w : World} {o : Oper} {a : Act} {ops : Array Oper} {rest : List Oper} {cs ds : Array Value} {b : Bool} {Q : Exit → Act → World → Prop} (hw : Region.wanted o (yielded ops a.tmps) = true) (ty rt : TypeId) (x y : Operand) (ho : o.op = .binOp .eql ty x y rt)
    (hx : a.eval x = .agg cs) (hy : a.eval y = .agg ds) (hm : P.eqGuardType P.depth ty = false) (he : ∀ w, (Op.equalIn 10000 ty (.agg cs) (.agg ds)).run P w = .ok b w)
    (h : wpList P ops Q rest (a.put o.dst (.bool b)) w) : wpList P ops Q (o :: rest) a w := by
  refine wpList_on hw ?_
  unfold Oper.wp execOp
  simp only [ho, hx, hy, Sem.run_bind, run_eqGuard_agg w .eql ty x y _ _ hm, Result.andThen_ok, run_eql_struct, he w, Sem.run_pure]
  exact h

theorem Ini_eqAny (u0 v0 : Nat) (l l' : List UInt8) (hl : l.length = 140) (hl' : l'.length = 140) : ∃ b, ∀ w, (Op.equalIn 10000 49 (.agg (mcs [u0] l)) (.agg (mcs [v0] l'))).run Try.prog w = .ok b w := by
  have hfs : (Try.prog.fieldsOf 49).toList = (match Try.prog.underlying 49 with | some (.struct fs) => fs.toList | _ => []) := by kernel_rfl
  obtain ⟨b, hb⟩ := eqFields_any (P := Try.prog) 9999 (mcs [u0] l) (mcs [v0] l') (Try.prog.fieldsOf 49).toList (by
    rw [hfs, Try.underlying49]
    intro f hf
    simp only [List.mem_cons, List.not_mem_nil, or_false] at hf
    rcases hf with rfl | rfl | rfl | rfl | rfl | rfl
    · exact part_num2 43 0 Try.underlying43 (by simp) (by simp)
    · exact part_arr2 44 5 32 0 1 Try.underlying44 Try.underlying5 Try.sizeU8 (by kernel_rfl) rfl rfl (by omega) (by omega)
    · exact part_arr2 45 5 48 32 33 Try.underlying45 Try.underlying5 Try.sizeU8 (by kernel_rfl) rfl rfl (by omega) (by omega)
    · exact part_arr2 46 5 28 80 81 Try.underlying46 Try.underlying5 Try.sizeU8 (by kernel_rfl) rfl rfl (by omega) (by omega)
    · exact part_arr2 47 5 16 108 109 Try.underlying47 Try.underlying5 Try.sizeU8 (by kernel_rfl) rfl rfl (by omega) (by omega)
    · exact part_arr2 47 5 16 124 125 Try.underlying47 Try.underlying5 Try.sizeU8 (by kernel_rfl) rfl rfl (by omega) (by omega))
  exact ⟨b, fun w => by rw [run_equalIn_struct w 9999 49 _ _ (by kernel_rfl) (by kernel_rfl)]; exact hb w⟩
theorem Ans_eqAny (u0 u1 v0 v1 : Nat) (l l' : List UInt8) (hl : l.length = 80) (hl' : l'.length = 80) : ∃ b, ∀ w, (Op.equalIn 10000 51 (.agg (mcs [u0, u1] l)) (.agg (mcs [v0, v1] l'))).run Try.prog w = .ok b w := by
  have hfs : (Try.prog.fieldsOf 51).toList = (match Try.prog.underlying 51 with | some (.struct fs) => fs.toList | _ => []) := by kernel_rfl
  obtain ⟨b, hb⟩ := eqFields_any (P := Try.prog) 9999 (mcs [u0, u1] l) (mcs [v0, v1] l') (Try.prog.fieldsOf 51).toList (by
    rw [hfs, Try.underlying51]
    intro f hf
    simp only [List.mem_cons, List.not_mem_nil, or_false] at hf
    rcases hf with rfl | rfl | rfl | rfl | rfl | rfl
    · exact part_num2 43 0 Try.underlying43 (by simp) (by simp)
    · exact part_num2 43 1 Try.underlying43 (by simp) (by simp)
    · exact part_arr2 44 5 32 0 2 Try.underlying44 Try.underlying5 Try.sizeU8 (by kernel_rfl) rfl rfl (by omega) (by omega)
    · exact part_arr2 47 5 16 32 34 Try.underlying47 Try.underlying5 Try.sizeU8 (by kernel_rfl) rfl rfl (by omega) (by omega)
    · exact part_arr2 47 5 16 48 50 Try.underlying47 Try.underlying5 Try.sizeU8 (by kernel_rfl) rfl rfl (by omega) (by omega)
    · exact part_arr2 47 5 16 64 66 Try.underlying47 Try.underlying5 Try.sizeU8 (by kernel_rfl) rfl rfl (by omega) (by omega))
  exact ⟨b, fun w => by rw [run_equalIn_struct w 9999 51 _ _ (by kernel_rfl) (by kernel_rfl)]; exact hb w⟩
theorem Cok_eqAny (u0 v0 : Nat) (l l' : List UInt8) (hl : l.length = 56) (hl' : l'.length = 56) : ∃ b, ∀ w, (Op.equalIn 10000 54 (.agg (mcs [u0] l)) (.agg (mcs [v0] l'))).run Try.prog w = .ok b w := by
  have hfs : (Try.prog.fieldsOf 54).toList = (match Try.prog.underlying 54 with | some (.struct fs) => fs.toList | _ => []) := by kernel_rfl
  obtain ⟨b, hb⟩ := eqFields_any (P := Try.prog) 9999 (mcs [u0] l) (mcs [v0] l') (Try.prog.fieldsOf 54).toList (by
    rw [hfs, Try.underlying54]
    intro f hf
    simp only [List.mem_cons, List.not_mem_nil, or_false] at hf
    rcases hf with rfl | rfl | rfl
    · exact part_num2 43 0 Try.underlying43 (by simp) (by simp)
    · exact part_arr2 52 5 24 0 1 Try.underlying52 Try.underlying5 Try.sizeU8 (by kernel_rfl) rfl rfl (by omega) (by omega)
    · exact part_arr2 44 5 32 24 25 Try.underlying44 Try.underlying5 Try.sizeU8 (by kernel_rfl) rfl rfl (by omega) (by omega))
  exact ⟨b, fun w => by rw [run_equalIn_struct w 9999 54 _ _ (by kernel_rfl) (by kernel_rfl)]; exact hb w⟩

end Go.Proofs.Ytlllakjimgomjaa

/- WirL -/
namespace Go.Proofs.Ytlllakjimgomjaa
open Go.RowKit
set_option linter.unusedVariables false

set_option maxRecDepth 100000 in
set_option maxHeartbeats 4000000 in
theorem wireSame_any (k k' : Int) (i r c i' r' c' : Array Value) (bI bR bC : Bool) (q p : Nat) (A : Option Addr) (n ca q' p' : Nat) (A' : Option Addr) (n' ca' : Nat) (l l' : List UInt8) (w : World) (hi : i.size = 141) (hr : r.size = 82) (hc : c.size = 57) (hi' : i'.size = 141) (hr' : r'.size = 82) (hc' : c'.size = 57)
    (HI : ∀ w, (Op.equalIn 10000 49 (.agg i) (.agg i')).run Try.prog w = .ok bI w) (HR : ∀ w, (Op.equalIn 10000 51 (.agg r) (.agg r')).run Try.prog w = .ok bR w) (HC : ∀ w, (Op.equalIn 10000 54 (.agg c) (.agg c')).run Try.prog w = .ok bC w)
    (hn : n ≤ maxLen) (hn' : n' ≤ maxLen) (hs : Shows w w.heap.size A n l) (hs' : Shows w w.heap.size A' n' l') :
    Calls Try.prog 27 #[.agg (wcs k i r c (trv q p A n ca)), .agg (wcs k' i' r' c' (trv q' p' A' n' ca'))] w fun e w' => e = .returned (.bool (decide (k = k') && (bI && (bR && (bC && decide (q = q' ∧ p = p' ∧ l = l')))))) ∧ Below w.heap.size w w' := by
  have z1 : Wsz i r c (trv q p A n ca) := ⟨hi, hr, hc, rfl⟩
  have z2 : Wsz i' r' c' (trv q' p' A' n' ca') := ⟨hi', hr', hc', rfl⟩
  have B1 := (blk_new w 58 (wcs k i r c (trv q p A n ca))).alloc (.cells (wcs k' i' r' c' (trv q' p' A' n' ca')) 58)
  have B2 := blk_new' (w.alloc (.cells (wcs k i r c (trv q p A n ca)) 58)) 58 (wcs k' i' r' c' (trv q' p' A' n' ca')) (w.heap.size + 1) (by simp)
  have hb0 : Below w.heap.size w ((w.alloc (.cells (wcs k i r c (trv q p A n ca)) 58)).alloc (.cells (wcs k' i' r' c' (trv q' p' A' n' ca')) 58)) := ((Below.refl _ _).alloc (Nat.le_refl _) _).alloc (by simp) _
  have q1 := wcs_0 k i r c (trv q p A n ca)
  have q2 := wcs_0 k' i' r' c' (trv q' p' A' n' ca')
  have hI := Lib.hid HI
  have hR := Lib.hid HR
  have hC := Lib.hid HC
  have s1 := (hs.below hb0).up hb0.size
  have s2 := (hs'.below hb0).up hb0.size
  have R1I := range_I B1 z1
  have R1R := range_R B1 z1
  have R1C := range_C B1 z1
  have R1T := range_T B1 z1
  have R2I := range_I B2 z2
  have R2R := range_R B2 z2
  have R2C := range_C B2 z2
  have R2T := range_T B2 z2
  clear HI HR HC hs hs'
  by_cases hk : k = k'
  · subst hk
    cases bI
    · go_enter Try.func27, Try.ntmps27
      go_wp2_with (first
        | (refine wpList_loadMid (g := w.heap.size) rfl 49 (.tmp 11) ?ho 1 ?hx i _ R1I Try.underlying49 rfl ?hi ?_
           case ho => with_reducible rfl
           case hx => rfl
           case hi => rw [size_I, hi])
        | (refine wpList_loadMid (g := w.heap.size + 1) rfl 49 (.tmp 13) ?ho 1 ?hx i' _ R2I Try.underlying49 rfl ?hi ?_
           case ho => with_reducible rfl
           case hx => rfl
           case hi => rw [size_I, hi'])
        | (refine wpList_eqlAny (cs := i) (ds := i') (b := false) rfl 49 49 (.tmp 12) (.tmp 14) ?ho ?hx ?hy (by kernel_rfl) ?he ?_
           case ho => with_reducible rfl
           case hx => rfl
           case hy => rfl
           case he => exact hI.out)
        | (refine wpList_loadMid (g := w.heap.size) rfl 51 (.tmp 18) ?ho 142 ?hx r _ R1R Try.underlying51 rfl ?hi ?_
           case ho => with_reducible rfl
           case hx => rfl
           case hi => rw [size_R, hr])
        | (refine wpList_loadMid (g := w.heap.size + 1) rfl 51 (.tmp 20) ?ho 142 ?hx r' _ R2R Try.underlying51 rfl ?hi ?_
           case ho => with_reducible rfl
           case hx => rfl
           case hi => rw [size_R, hr'])
        | (refine wpList_eqlAny (cs := r) (ds := r') (b := bR) rfl 51 51 (.tmp 19) (.tmp 21) ?ho ?hx ?hy (by kernel_rfl) ?he ?_
           case ho => with_reducible rfl
           case hx => rfl
           case hy => rfl
           case he => exact hR.out)
        | (refine wpList_loadMid (g := w.heap.size) rfl 54 (.tmp 25) ?ho 224 ?hx c _ R1C Try.underlying54 rfl ?hi ?_
           case ho => with_reducible rfl
           case hx => rfl
           case hi => rw [size_C, hc])
        | (refine wpList_loadMid (g := w.heap.size + 1) rfl 54 (.tmp 27) ?ho 224 ?hx c' _ R2C Try.underlying54 rfl ?hi ?_
           case ho => with_reducible rfl
           case hx => rfl
           case hi => rw [size_C, hc'])
        | (refine wpList_eqlAny (cs := c) (ds := c') (b := bC) rfl 54 54 (.tmp 26) (.tmp 28) ?ho ?hx ?hy (by kernel_rfl) ?he ?_
           case ho => with_reducible rfl
           case hx => rfl
           case hy => rfl
           case he => exact hC.out)
        | (refine wpList_loadMid (g := w.heap.size) rfl 56 (.tmp 32) ?ho 281 ?hx (trv q p A n ca) _ R1T Try.underlying56 rfl ?hi ?_
           case ho => with_reducible rfl
           case hx => rfl
           case hi => rw [size_T, size_trv])
        | (refine wpList_loadMid (g := w.heap.size + 1) rfl 56 (.tmp 34) ?ho 281 ?hx (trv q' p' A' n' ca') _ R2T Try.underlying56 rfl ?hi ?_
           case ho => with_reducible rfl
           case hx => rfl
           case hi => rw [size_T, size_trv]))
      go_ret
      exact ⟨by simp, hb0⟩
    · cases bR
      · go_enter Try.func27, Try.ntmps27
        go_wp2_with (first
          | (refine wpList_loadMid (g := w.heap.size) rfl 49 (.tmp 11) ?ho 1 ?hx i _ R1I Try.underlying49 rfl ?hi ?_
             case ho => with_reducible rfl
             case hx => rfl
             case hi => rw [size_I, hi])
          | (refine wpList_loadMid (g := w.heap.size + 1) rfl 49 (.tmp 13) ?ho 1 ?hx i' _ R2I Try.underlying49 rfl ?hi ?_
             case ho => with_reducible rfl
             case hx => rfl
             case hi => rw [size_I, hi'])
          | (refine wpList_eqlAny (cs := i) (ds := i') (b := true) rfl 49 49 (.tmp 12) (.tmp 14) ?ho ?hx ?hy (by kernel_rfl) ?he ?_
             case ho => with_reducible rfl
             case hx => rfl
             case hy => rfl
             case he => exact hI.out)
          | (refine wpList_loadMid (g := w.heap.size) rfl 51 (.tmp 18) ?ho 142 ?hx r _ R1R Try.underlying51 rfl ?hi ?_
             case ho => with_reducible rfl
             case hx => rfl
             case hi => rw [size_R, hr])
          | (refine wpList_loadMid (g := w.heap.size + 1) rfl 51 (.tmp 20) ?ho 142 ?hx r' _ R2R Try.underlying51 rfl ?hi ?_
             case ho => with_reducible rfl
             case hx => rfl
             case hi => rw [size_R, hr'])
          | (refine wpList_eqlAny (cs := r) (ds := r') (b := false) rfl 51 51 (.tmp 19) (.tmp 21) ?ho ?hx ?hy (by kernel_rfl) ?he ?_
             case ho => with_reducible rfl
             case hx => rfl
             case hy => rfl
             case he => exact hR.out)
          | (refine wpList_loadMid (g := w.heap.size) rfl 54 (.tmp 25) ?ho 224 ?hx c _ R1C Try.underlying54 rfl ?hi ?_
             case ho => with_reducible rfl
             case hx => rfl
             case hi => rw [size_C, hc])
          | (refine wpList_loadMid (g := w.heap.size + 1) rfl 54 (.tmp 27) ?ho 224 ?hx c' _ R2C Try.underlying54 rfl ?hi ?_
             case ho => with_reducible rfl
             case hx => rfl
             case hi => rw [size_C, hc'])
          | (refine wpList_eqlAny (cs := c) (ds := c') (b := bC) rfl 54 54 (.tmp 26) (.tmp 28) ?ho ?hx ?hy (by kernel_rfl) ?he ?_
             case ho => with_reducible rfl
             case hx => rfl
             case hy => rfl
             case he => exact hC.out)
          | (refine wpList_loadMid (g := w.heap.size) rfl 56 (.tmp 32) ?ho 281 ?hx (trv q p A n ca) _ R1T Try.underlying56 rfl ?hi ?_
             case ho => with_reducible rfl
             case hx => rfl
             case hi => rw [size_T, size_trv])
          | (refine wpList_loadMid (g := w.heap.size + 1) rfl 56 (.tmp 34) ?ho 281 ?hx (trv q' p' A' n' ca') _ R2T Try.underlying56 rfl ?hi ?_
             case ho => with_reducible rfl
             case hx => rfl
             case hi => rw [size_T, size_trv]))
        go_ret
        exact ⟨by simp, hb0⟩
      · cases bC
        · go_enter Try.func27, Try.ntmps27
          go_wp2_with (first
            | (refine wpList_loadMid (g := w.heap.size) rfl 49 (.tmp 11) ?ho 1 ?hx i _ R1I Try.underlying49 rfl ?hi ?_
               case ho => with_reducible rfl
               case hx => rfl
               case hi => rw [size_I, hi])
            | (refine wpList_loadMid (g := w.heap.size + 1) rfl 49 (.tmp 13) ?ho 1 ?hx i' _ R2I Try.underlying49 rfl ?hi ?_
               case ho => with_reducible rfl
               case hx => rfl
               case hi => rw [size_I, hi'])
            | (refine wpList_eqlAny (cs := i) (ds := i') (b := true) rfl 49 49 (.tmp 12) (.tmp 14) ?ho ?hx ?hy (by kernel_rfl) ?he ?_
               case ho => with_reducible rfl
               case hx => rfl
               case hy => rfl
               case he => exact hI.out)
            | (refine wpList_loadMid (g := w.heap.size) rfl 51 (.tmp 18) ?ho 142 ?hx r _ R1R Try.underlying51 rfl ?hi ?_
               case ho => with_reducible rfl
               case hx => rfl
               case hi => rw [size_R, hr])
            | (refine wpList_loadMid (g := w.heap.size + 1) rfl 51 (.tmp 20) ?ho 142 ?hx r' _ R2R Try.underlying51 rfl ?hi ?_
               case ho => with_reducible rfl
               case hx => rfl
               case hi => rw [size_R, hr'])
            | (refine wpList_eqlAny (cs := r) (ds := r') (b := true) rfl 51 51 (.tmp 19) (.tmp 21) ?ho ?hx ?hy (by kernel_rfl) ?he ?_
               case ho => with_reducible rfl
               case hx => rfl
               case hy => rfl
               case he => exact hR.out)
            | (refine wpList_loadMid (g := w.heap.size) rfl 54 (.tmp 25) ?ho 224 ?hx c _ R1C Try.underlying54 rfl ?hi ?_
               case ho => with_reducible rfl
               case hx => rfl
               case hi => rw [size_C, hc])
            | (refine wpList_loadMid (g := w.heap.size + 1) rfl 54 (.tmp 27) ?ho 224 ?hx c' _ R2C Try.underlying54 rfl ?hi ?_
               case ho => with_reducible rfl
               case hx => rfl
               case hi => rw [size_C, hc'])
            | (refine wpList_eqlAny (cs := c) (ds := c') (b := false) rfl 54 54 (.tmp 26) (.tmp 28) ?ho ?hx ?hy (by kernel_rfl) ?he ?_
               case ho => with_reducible rfl
               case hx => rfl
               case hy => rfl
               case he => exact hC.out)
            | (refine wpList_loadMid (g := w.heap.size) rfl 56 (.tmp 32) ?ho 281 ?hx (trv q p A n ca) _ R1T Try.underlying56 rfl ?hi ?_
               case ho => with_reducible rfl
               case hx => rfl
               case hi => rw [size_T, size_trv])
            | (refine wpList_loadMid (g := w.heap.size + 1) rfl 56 (.tmp 34) ?ho 281 ?hx (trv q' p' A' n' ca') _ R2T Try.underlying56 rfl ?hi ?_
               case ho => with_reducible rfl
               case hx => rfl
               case hi => rw [size_T, size_trv]))
          go_ret
          exact ⟨by simp, hb0⟩
        · go_enter Try.func27, Try.ntmps27
          go_wp2_with (first
            | (refine wpList_loadMid (g := w.heap.size) rfl 49 (.tmp 11) ?ho 1 ?hx i _ R1I Try.underlying49 rfl ?hi ?_
               case ho => with_reducible rfl
               case hx => rfl
               case hi => rw [size_I, hi])
            | (refine wpList_loadMid (g := w.heap.size + 1) rfl 49 (.tmp 13) ?ho 1 ?hx i' _ R2I Try.underlying49 rfl ?hi ?_
               case ho => with_reducible rfl
               case hx => rfl
               case hi => rw [size_I, hi'])
            | (refine wpList_eqlAny (cs := i) (ds := i') (b := true) rfl 49 49 (.tmp 12) (.tmp 14) ?ho ?hx ?hy (by kernel_rfl) ?he ?_
               case ho => with_reducible rfl
               case hx => rfl
               case hy => rfl
               case he => exact hI.out)
            | (refine wpList_loadMid (g := w.heap.size) rfl 51 (.tmp 18) ?ho 142 ?hx r _ R1R Try.underlying51 rfl ?hi ?_
               case ho => with_reducible rfl
               case hx => rfl
               case hi => rw [size_R, hr])
            | (refine wpList_loadMid (g := w.heap.size + 1) rfl 51 (.tmp 20) ?ho 142 ?hx r' _ R2R Try.underlying51 rfl ?hi ?_
               case ho => with_reducible rfl
               case hx => rfl
               case hi => rw [size_R, hr'])
            | (refine wpList_eqlAny (cs := r) (ds := r') (b := true) rfl 51 51 (.tmp 19) (.tmp 21) ?ho ?hx ?hy (by kernel_rfl) ?he ?_
               case ho => with_reducible rfl
               case hx => rfl
               case hy => rfl
               case he => exact hR.out)
            | (refine wpList_loadMid (g := w.heap.size) rfl 54 (.tmp 25) ?ho 224 ?hx c _ R1C Try.underlying54 rfl ?hi ?_
               case ho => with_reducible rfl
               case hx => rfl
               case hi => rw [size_C, hc])
            | (refine wpList_loadMid (g := w.heap.size + 1) rfl 54 (.tmp 27) ?ho 224 ?hx c' _ R2C Try.underlying54 rfl ?hi ?_
               case ho => with_reducible rfl
               case hx => rfl
               case hi => rw [size_C, hc'])
            | (refine wpList_eqlAny (cs := c) (ds := c') (b := true) rfl 54 54 (.tmp 26) (.tmp 28) ?ho ?hx ?hy (by kernel_rfl) ?he ?_
               case ho => with_reducible rfl
               case hx => rfl
               case hy => rfl
               case he => exact hC.out)
            | (refine wpList_loadMid (g := w.heap.size) rfl 56 (.tmp 32) ?ho 281 ?hx (trv q p A n ca) _ R1T Try.underlying56 rfl ?hi ?_
               case ho => with_reducible rfl
               case hx => rfl
               case hi => rw [size_T, size_trv])
            | (refine wpList_loadMid (g := w.heap.size + 1) rfl 56 (.tmp 34) ?ho 281 ?hx (trv q' p' A' n' ca') _ R2T Try.underlying56 rfl ?hi ?_
               case ho => with_reducible rfl
               case hx => rfl
               case hi => rw [size_T, size_trv]))
          refine (dataSame_dec q p q' p' A A' n ca n' ca' l l' _ hn hn' s1 s2).mono ?_
          rintro e w1 ⟨rfl, hb1⟩
          have hb01 := Below.on hb0 hb0.size hb1
          generalize hD : decide (q = q' ∧ p = p' ∧ l = l') = D at *
          have HD := Lib.hid hD
          clear hD
          clear s1 s2 hb0 hb1 R1I R1R R1C R1T R2I R2R R2C R2T B1 B2 q1 q2
          go_wp2
          go_ret
          exact ⟨by rw [HD.out]; simp, hb01⟩
  · have hd : decide (k = k') = false := decide_eq_false hk
    go_enter Try.func27, Try.ntmps27
    go_wp2_with (first
      | (refine wpList_loadMid (g := w.heap.size) rfl 49 (.tmp 11) ?ho 1 ?hx i _ R1I Try.underlying49 rfl ?hi ?_
         case ho => with_reducible rfl
         case hx => rfl
         case hi => rw [size_I, hi])
      | (refine wpList_loadMid (g := w.heap.size + 1) rfl 49 (.tmp 13) ?ho 1 ?hx i' _ R2I Try.underlying49 rfl ?hi ?_
         case ho => with_reducible rfl
         case hx => rfl
         case hi => rw [size_I, hi'])
      | (refine wpList_eqlAny (cs := i) (ds := i') (b := bI) rfl 49 49 (.tmp 12) (.tmp 14) ?ho ?hx ?hy (by kernel_rfl) ?he ?_
         case ho => with_reducible rfl
         case hx => rfl
         case hy => rfl
         case he => exact hI.out)
      | (refine wpList_loadMid (g := w.heap.size) rfl 51 (.tmp 18) ?ho 142 ?hx r _ R1R Try.underlying51 rfl ?hi ?_
         case ho => with_reducible rfl
         case hx => rfl
         case hi => rw [size_R, hr])
      | (refine wpList_loadMid (g := w.heap.size + 1) rfl 51 (.tmp 20) ?ho 142 ?hx r' _ R2R Try.underlying51 rfl ?hi ?_
         case ho => with_reducible rfl
         case hx => rfl
         case hi => rw [size_R, hr'])
      | (refine wpList_eqlAny (cs := r) (ds := r') (b := bR) rfl 51 51 (.tmp 19) (.tmp 21) ?ho ?hx ?hy (by kernel_rfl) ?he ?_
         case ho => with_reducible rfl
         case hx => rfl
         case hy => rfl
         case he => exact hR.out)
      | (refine wpList_loadMid (g := w.heap.size) rfl 54 (.tmp 25) ?ho 224 ?hx c _ R1C Try.underlying54 rfl ?hi ?_
         case ho => with_reducible rfl
         case hx => rfl
         case hi => rw [size_C, hc])
      | (refine wpList_loadMid (g := w.heap.size + 1) rfl 54 (.tmp 27) ?ho 224 ?hx c' _ R2C Try.underlying54 rfl ?hi ?_
         case ho => with_reducible rfl
         case hx => rfl
         case hi => rw [size_C, hc'])
      | (refine wpList_eqlAny (cs := c) (ds := c') (b := bC) rfl 54 54 (.tmp 26) (.tmp 28) ?ho ?hx ?hy (by kernel_rfl) ?he ?_
         case ho => with_reducible rfl
         case hx => rfl
         case hy => rfl
         case he => exact hC.out)
      | (refine wpList_loadMid (g := w.heap.size) rfl 56 (.tmp 32) ?ho 281 ?hx (trv q p A n ca) _ R1T Try.underlying56 rfl ?hi ?_
         case ho => with_reducible rfl
         case hx => rfl
         case hi => rw [size_T, size_trv])
      | (refine wpList_loadMid (g := w.heap.size + 1) rfl 56 (.tmp 34) ?ho 281 ?hx (trv q' p' A' n' ca') _ R2T Try.underlying56 rfl ?hi ?_
         case ho => with_reducible rfl
         case hx => rfl
         case hi => rw [size_T, size_trv]))
    go_ret
    exact ⟨by simp, hb0⟩

set_option maxRecDepth 100000 in
set_option maxHeartbeats 4000000 in
theorem ref17Same_any (k k' : Int) (i r c i' r' c' : Array Value) (bI bR bC : Bool) (q p : Nat) (A : Option Addr) (n ca q' p' : Nat) (A' : Option Addr) (n' ca' : Nat) (l l' : List UInt8) (w : World) (hi : i.size = 141) (hr : r.size = 82) (hc : c.size = 57) (hi' : i'.size = 141) (hr' : r'.size = 82) (hc' : c'.size = 57)
    (HI : ∀ w, (Op.equalIn 10000 49 (.agg i) (.agg i')).run Try.prog w = .ok bI w) (HR : ∀ w, (Op.equalIn 10000 51 (.agg r) (.agg r')).run Try.prog w = .ok bR w) (HC : ∀ w, (Op.equalIn 10000 54 (.agg c) (.agg c')).run Try.prog w = .ok bC w)
    (hn : n ≤ maxLen) (hn' : n' ≤ maxLen) (hs : Shows w w.heap.size A n l) (hs' : Shows w w.heap.size A' n' l') :
    Calls Try.prog 24 #[.agg (wcs k i r c (trv q p A n ca)), .agg (wcs k' i' r' c' (trv q' p' A' n' ca'))] w fun e w' => e = .returned (.bool (decide (k = k') && (bI && (bR && (bC && decide (q = q' ∧ p = p' ∧ l = l')))))) ∧ Below w.heap.size w w' := by
  have z1 : Wsz i r c (trv q p A n ca) := ⟨hi, hr, hc, rfl⟩
  have z2 : Wsz i' r' c' (trv q' p' A' n' ca') := ⟨hi', hr', hc', rfl⟩
  have B1 := (blk_new w 58 (wcs k i r c (trv q p A n ca))).alloc (.cells (wcs k' i' r' c' (trv q' p' A' n' ca')) 58)
  have B2 := blk_new' (w.alloc (.cells (wcs k i r c (trv q p A n ca)) 58)) 58 (wcs k' i' r' c' (trv q' p' A' n' ca')) (w.heap.size + 1) (by simp)
  have hb0 : Below w.heap.size w ((w.alloc (.cells (wcs k i r c (trv q p A n ca)) 58)).alloc (.cells (wcs k' i' r' c' (trv q' p' A' n' ca')) 58)) := ((Below.refl _ _).alloc (Nat.le_refl _) _).alloc (by simp) _
  have q1 := wcs_0 k i r c (trv q p A n ca)
  have q2 := wcs_0 k' i' r' c' (trv q' p' A' n' ca')
  have hI := Lib.hid HI
  have hR := Lib.hid HR
  have hC := Lib.hid HC
  have s1 := (hs.below hb0).up hb0.size
  have s2 := (hs'.below hb0).up hb0.size
  have R1I := range_I B1 z1
  have R1R := range_R B1 z1
  have R1C := range_C B1 z1
  have R1T := range_T B1 z1
  have R2I := range_I B2 z2
  have R2R := range_R B2 z2
  have R2C := range_C B2 z2
  have R2T := range_T B2 z2
  clear HI HR HC hs hs'
  by_cases hk : k = k'
  · subst hk
    cases bI
    · go_enter Try.func24, Try.ntmps24
      go_wp2_with (first
        | (refine wpList_loadMid (g := w.heap.size) rfl 49 (.tmp 11) ?ho 1 ?hx i _ R1I Try.underlying49 rfl ?hi ?_
           case ho => with_reducible rfl
           case hx => rfl
           case hi => rw [size_I, hi])
        | (refine wpList_loadMid (g := w.heap.size + 1) rfl 49 (.tmp 13) ?ho 1 ?hx i' _ R2I Try.underlying49 rfl ?hi ?_
           case ho => with_reducible rfl
           case hx => rfl
           case hi => rw [size_I, hi'])
        | (refine wpList_eqlAny (cs := i) (ds := i') (b := false) rfl 49 49 (.tmp 12) (.tmp 14) ?ho ?hx ?hy (by kernel_rfl) ?he ?_
           case ho => with_reducible rfl
           case hx => rfl
           case hy => rfl
           case he => exact hI.out)
        | (refine wpList_loadMid (g := w.heap.size) rfl 51 (.tmp 18) ?ho 142 ?hx r _ R1R Try.underlying51 rfl ?hi ?_
           case ho => with_reducible rfl
           case hx => rfl
           case hi => rw [size_R, hr])
        | (refine wpList_loadMid (g := w.heap.size + 1) rfl 51 (.tmp 20) ?ho 142 ?hx r' _ R2R Try.underlying51 rfl ?hi ?_
           case ho => with_reducible rfl
           case hx => rfl
           case hi => rw [size_R, hr'])
        | (refine wpList_eqlAny (cs := r) (ds := r') (b := bR) rfl 51 51 (.tmp 19) (.tmp 21) ?ho ?hx ?hy (by kernel_rfl) ?he ?_
           case ho => with_reducible rfl
           case hx => rfl
           case hy => rfl
           case he => exact hR.out)
        | (refine wpList_loadMid (g := w.heap.size) rfl 54 (.tmp 25) ?ho 224 ?hx c _ R1C Try.underlying54 rfl ?hi ?_
           case ho => with_reducible rfl
           case hx => rfl
           case hi => rw [size_C, hc])
        | (refine wpList_loadMid (g := w.heap.size + 1) rfl 54 (.tmp 27) ?ho 224 ?hx c' _ R2C Try.underlying54 rfl ?hi ?_
           case ho => with_reducible rfl
           case hx => rfl
           case hi => rw [size_C, hc'])
        | (refine wpList_eqlAny (cs := c) (ds := c') (b := bC) rfl 54 54 (.tmp 26) (.tmp 28) ?ho ?hx ?hy (by kernel_rfl) ?he ?_
           case ho => with_reducible rfl
           case hx => rfl
           case hy => rfl
           case he => exact hC.out)
        | (refine wpList_loadMid (g := w.heap.size) rfl 56 (.tmp 32) ?ho 281 ?hx (trv q p A n ca) _ R1T Try.underlying56 rfl ?hi ?_
           case ho => with_reducible rfl
           case hx => rfl
           case hi => rw [size_T, size_trv])
        | (refine wpList_loadMid (g := w.heap.size + 1) rfl 56 (.tmp 34) ?ho 281 ?hx (trv q' p' A' n' ca') _ R2T Try.underlying56 rfl ?hi ?_
           case ho => with_reducible rfl
           case hx => rfl
           case hi => rw [size_T, size_trv]))
      go_ret
      exact ⟨by simp, hb0⟩
    · cases bR
      · go_enter Try.func24, Try.ntmps24
        go_wp2_with (first
          | (refine wpList_loadMid (g := w.heap.size) rfl 49 (.tmp 11) ?ho 1 ?hx i _ R1I Try.underlying49 rfl ?hi ?_
             case ho => with_reducible rfl
             case hx => rfl
             case hi => rw [size_I, hi])
          | (refine wpList_loadMid (g := w.heap.size + 1) rfl 49 (.tmp 13) ?ho 1 ?hx i' _ R2I Try.underlying49 rfl ?hi ?_
             case ho => with_reducible rfl
             case hx => rfl
             case hi => rw [size_I, hi'])
          | (refine wpList_eqlAny (cs := i) (ds := i') (b := true) rfl 49 49 (.tmp 12) (.tmp 14) ?ho ?hx ?hy (by kernel_rfl) ?he ?_
             case ho => with_reducible rfl
             case hx => rfl
             case hy => rfl
             case he => exact hI.out)
          | (refine wpList_loadMid (g := w.heap.size) rfl 51 (.tmp 18) ?ho 142 ?hx r _ R1R Try.underlying51 rfl ?hi ?_
             case ho => with_reducible rfl
             case hx => rfl
             case hi => rw [size_R, hr])
          | (refine wpList_loadMid (g := w.heap.size + 1) rfl 51 (.tmp 20) ?ho 142 ?hx r' _ R2R Try.underlying51 rfl ?hi ?_
             case ho => with_reducible rfl
             case hx => rfl
             case hi => rw [size_R, hr'])
          | (refine wpList_eqlAny (cs := r) (ds := r') (b := false) rfl 51 51 (.tmp 19) (.tmp 21) ?ho ?hx ?hy (by kernel_rfl) ?he ?_
             case ho => with_reducible rfl
             case hx => rfl
             case hy => rfl
             case he => exact hR.out)
          | (refine wpList_loadMid (g := w.heap.size) rfl 54 (.tmp 25) ?ho 224 ?hx c _ R1C Try.underlying54 rfl ?hi ?_
             case ho => with_reducible rfl
             case hx => rfl
             case hi => rw [size_C, hc])
          | (refine wpList_loadMid (g := w.heap.size + 1) rfl 54 (.tmp 27) ?ho 224 ?hx c' _ R2C Try.underlying54 rfl ?hi ?_
             case ho => with_reducible rfl
             case hx => rfl
             case hi => rw [size_C, hc'])
          | (refine wpList_eqlAny (cs := c) (ds := c') (b := bC) rfl 54 54 (.tmp 26) (.tmp 28) ?ho ?hx ?hy (by kernel_rfl) ?he ?_
             case ho => with_reducible rfl
             case hx => rfl
             case hy => rfl
             case he => exact hC.out)
          | (refine wpList_loadMid (g := w.heap.size) rfl 56 (.tmp 32) ?ho 281 ?hx (trv q p A n ca) _ R1T Try.underlying56 rfl ?hi ?_
             case ho => with_reducible rfl
             case hx => rfl
             case hi => rw [size_T, size_trv])
          | (refine wpList_loadMid (g := w.heap.size + 1) rfl 56 (.tmp 34) ?ho 281 ?hx (trv q' p' A' n' ca') _ R2T Try.underlying56 rfl ?hi ?_
             case ho => with_reducible rfl
             case hx => rfl
             case hi => rw [size_T, size_trv]))
        go_ret
        exact ⟨by simp, hb0⟩
      · cases bC
        · go_enter Try.func24, Try.ntmps24
          go_wp2_with (first
            | (refine wpList_loadMid (g := w.heap.size) rfl 49 (.tmp 11) ?ho 1 ?hx i _ R1I Try.underlying49 rfl ?hi ?_
               case ho => with_reducible rfl
               case hx => rfl
               case hi => rw [size_I, hi])
            | (refine wpList_loadMid (g := w.heap.size + 1) rfl 49 (.tmp 13) ?ho 1 ?hx i' _ R2I Try.underlying49 rfl ?hi ?_
               case ho => with_reducible rfl
               case hx => rfl
               case hi => rw [size_I, hi'])
            | (refine wpList_eqlAny (cs := i) (ds := i') (b := true) rfl 49 49 (.tmp 12) (.tmp 14) ?ho ?hx ?hy (by kernel_rfl) ?he ?_
               case ho => with_reducible rfl
               case hx => rfl
               case hy => rfl
               case he => exact hI.out)
            | (refine wpList_loadMid (g := w.heap.size) rfl 51 (.tmp 18) ?ho 142 ?hx r _ R1R Try.underlying51 rfl ?hi ?_
               case ho => with_reducible rfl
               case hx => rfl
               case hi => rw [size_R, hr])
            | (refine wpList_loadMid (g := w.heap.size + 1) rfl 51 (.tmp 20) ?ho 142 ?hx r' _ R2R Try.underlying51 rfl ?hi ?_
               case ho => with_reducible rfl
               case hx => rfl
               case hi => rw [size_R, hr'])
            | (refine wpList_eqlAny (cs := r) (ds := r') (b := true) rfl 51 51 (.tmp 19) (.tmp 21) ?ho ?hx ?hy (by kernel_rfl) ?he ?_
               case ho => with_reducible rfl
               case hx => rfl
               case hy => rfl
               case he => exact hR.out)
            | (refine wpList_loadMid (g := w.heap.size) rfl 54 (.tmp 25) ?ho 224 ?hx c _ R1C Try.underlying54 rfl ?hi ?_
               case ho => with_reducible rfl
               case hx => rfl
               case hi => rw [size_C, hc])
            | (refine wpList_loadMid (g := w.heap.size + 1) rfl 54 (.tmp 27) ?ho 224 ?hx c' _ R2C Try.underlying54 rfl ?hi ?_
               case ho => with_reducible rfl
               case hx => rfl
               case hi => rw [size_C, hc'])
            | (refine wpList_eqlAny (cs := c) (ds := c') (b := false) rfl 54 54 (.tmp 26) (.tmp 28) ?ho ?hx ?hy (by kernel_rfl) ?he ?_
               case ho => with_reducible rfl
               case hx => rfl
               case hy => rfl
               case he => exact hC.out)
            | (refine wpList_loadMid (g := w.heap.size) rfl 56 (.tmp 32) ?ho 281 ?hx (trv q p A n ca) _ R1T Try.underlying56 rfl ?hi ?_
               case ho => with_reducible rfl
               case hx => rfl
               case hi => rw [size_T, size_trv])
            | (refine wpList_loadMid (g := w.heap.size + 1) rfl 56 (.tmp 34) ?ho 281 ?hx (trv q' p' A' n' ca') _ R2T Try.underlying56 rfl ?hi ?_
               case ho => with_reducible rfl
               case hx => rfl
               case hi => rw [size_T, size_trv]))
          go_ret
          exact ⟨by simp, hb0⟩
        · go_enter Try.func24, Try.ntmps24
          go_wp2_with (first
            | (refine wpList_loadMid (g := w.heap.size) rfl 49 (.tmp 11) ?ho 1 ?hx i _ R1I Try.underlying49 rfl ?hi ?_
               case ho => with_reducible rfl
               case hx => rfl
               case hi => rw [size_I, hi])
            | (refine wpList_loadMid (g := w.heap.size + 1) rfl 49 (.tmp 13) ?ho 1 ?hx i' _ R2I Try.underlying49 rfl ?hi ?_
               case ho => with_reducible rfl
               case hx => rfl
               case hi => rw [size_I, hi'])
            | (refine wpList_eqlAny (cs := i) (ds := i') (b := true) rfl 49 49 (.tmp 12) (.tmp 14) ?ho ?hx ?hy (by kernel_rfl) ?he ?_
               case ho => with_reducible rfl
               case hx => rfl
               case hy => rfl
               case he => exact hI.out)
            | (refine wpList_loadMid (g := w.heap.size) rfl 51 (.tmp 18) ?ho 142 ?hx r _ R1R Try.underlying51 rfl ?hi ?_
               case ho => with_reducible rfl
               case hx => rfl
               case hi => rw [size_R, hr])
            | (refine wpList_loadMid (g := w.heap.size + 1) rfl 51 (.tmp 20) ?ho 142 ?hx r' _ R2R Try.underlying51 rfl ?hi ?_
               case ho => with_reducible rfl
               case hx => rfl
               case hi => rw [size_R, hr'])
            | (refine wpList_eqlAny (cs := r) (ds := r') (b := true) rfl 51 51 (.tmp 19) (.tmp 21) ?ho ?hx ?hy (by kernel_rfl) ?he ?_
               case ho => with_reducible rfl
               case hx => rfl
               case hy => rfl
               case he => exact hR.out)
            | (refine wpList_loadMid (g := w.heap.size) rfl 54 (.tmp 25) ?ho 224 ?hx c _ R1C Try.underlying54 rfl ?hi ?_
               case ho => with_reducible rfl
               case hx => rfl
               case hi => rw [size_C, hc])
            | (refine wpList_loadMid (g := w.heap.size + 1) rfl 54 (.tmp 27) ?ho 224 ?hx c' _ R2C Try.underlying54 rfl ?hi ?_
               case ho => with_reducible rfl
               case hx => rfl
               case hi => rw [size_C, hc'])
            | (refine wpList_eqlAny (cs := c) (ds := c') (b := true) rfl 54 54 (.tmp 26) (.tmp 28) ?ho ?hx ?hy (by kernel_rfl) ?he ?_
               case ho => with_reducible rfl
               case hx => rfl
               case hy => rfl
               case he => exact hC.out)
            | (refine wpList_loadMid (g := w.heap.size) rfl 56 (.tmp 32) ?ho 281 ?hx (trv q p A n ca) _ R1T Try.underlying56 rfl ?hi ?_
               case ho => with_reducible rfl
               case hx => rfl
               case hi => rw [size_T, size_trv])
            | (refine wpList_loadMid (g := w.heap.size + 1) rfl 56 (.tmp 34) ?ho 281 ?hx (trv q' p' A' n' ca') _ R2T Try.underlying56 rfl ?hi ?_
               case ho => with_reducible rfl
               case hx => rfl
               case hi => rw [size_T, size_trv]))
          refine (ref16Same_dec q p q' p' A A' n ca n' ca' l l' _ hn hn' s1 s2).mono ?_
          rintro e w1 ⟨rfl, hb1⟩
          have hb01 := Below.on hb0 hb0.size hb1
          generalize hD : decide (q = q' ∧ p = p' ∧ l = l') = D at *
          have HD := Lib.hid hD
          clear hD
          clear s1 s2 hb0 hb1 R1I R1R R1C R1T R2I R2R R2C R2T B1 B2 q1 q2
          go_wp2
          go_ret
          exact ⟨by rw [HD.out]; simp, hb01⟩
  · have hd : decide (k = k') = false := decide_eq_false hk
    go_enter Try.func24, Try.ntmps24
    go_wp2_with (first
      | (refine wpList_loadMid (g := w.heap.size) rfl 49 (.tmp 11) ?ho 1 ?hx i _ R1I Try.underlying49 rfl ?hi ?_
         case ho => with_reducible rfl
         case hx => rfl
         case hi => rw [size_I, hi])
      | (refine wpList_loadMid (g := w.heap.size + 1) rfl 49 (.tmp 13) ?ho 1 ?hx i' _ R2I Try.underlying49 rfl ?hi ?_
         case ho => with_reducible rfl
         case hx => rfl
         case hi => rw [size_I, hi'])
      | (refine wpList_eqlAny (cs := i) (ds := i') (b := bI) rfl 49 49 (.tmp 12) (.tmp 14) ?ho ?hx ?hy (by kernel_rfl) ?he ?_
         case ho => with_reducible rfl
         case hx => rfl
         case hy => rfl
         case he => exact hI.out)
      | (refine wpList_loadMid (g := w.heap.size) rfl 51 (.tmp 18) ?ho 142 ?hx r _ R1R Try.underlying51 rfl ?hi ?_
         case ho => with_reducible rfl
         case hx => rfl
         case hi => rw [size_R, hr])
      | (refine wpList_loadMid (g := w.heap.size + 1) rfl 51 (.tmp 20) ?ho 142 ?hx r' _ R2R Try.underlying51 rfl ?hi ?_
         case ho => with_reducible rfl
         case hx => rfl
         case hi => rw [size_R, hr'])
      | (refine wpList_eqlAny (cs := r) (ds := r') (b := bR) rfl 51 51 (.tmp 19) (.tmp 21) ?ho ?hx ?hy (by kernel_rfl) ?he ?_
         case ho => with_reducible rfl
         case hx => rfl
         case hy => rfl
         case he => exact hR.out)
      | (refine wpList_loadMid (g := w.heap.size) rfl 54 (.tmp 25) ?ho 224 ?hx c _ R1C Try.underlying54 rfl ?hi ?_
         case ho => with_reducible rfl
         case hx => rfl
         case hi => rw [size_C, hc])
      | (refine wpList_loadMid (g := w.heap.size + 1) rfl 54 (.tmp 27) ?ho 224 ?hx c' _ R2C Try.underlying54 rfl ?hi ?_
         case ho => with_reducible rfl
         case hx => rfl
         case hi => rw [size_C, hc'])
      | (refine wpList_eqlAny (cs := c) (ds := c') (b := bC) rfl 54 54 (.tmp 26) (.tmp 28) ?ho ?hx ?hy (by kernel_rfl) ?he ?_
         case ho => with_reducible rfl
         case hx => rfl
         case hy => rfl
         case he => exact hC.out)
      | (refine wpList_loadMid (g := w.heap.size) rfl 56 (.tmp 32) ?ho 281 ?hx (trv q p A n ca) _ R1T Try.underlying56 rfl ?hi ?_
         case ho => with_reducible rfl
         case hx => rfl
         case hi => rw [size_T, size_trv])
      | (refine wpList_loadMid (g := w.heap.size + 1) rfl 56 (.tmp 34) ?ho 281 ?hx (trv q' p' A' n' ca') _ R2T Try.underlying56 rfl ?hi ?_
         case ho => with_reducible rfl
         case hx => rfl
         case hi => rw [size_T, size_trv]))
    go_ret
    exact ⟨by simp, hb0⟩

end Go.Proofs.Ytlllakjimgomjaa

/- WirM -/
namespace Go.Proofs.Ytlllakjimgomjaa
open Go.RowKit
set_option linter.unusedVariables false

/-- A kind's name, as bytes. -/
def nameOf (k : Int) : List UInt8 :=
  if k = 1 then [105, 110, 105, 116, 105, 97, 116, 105, 111, 110] else if k = 2 then [114, 101, 115, 112, 111, 110, 115, 101] else if k = 3 then [99, 111, 111, 107, 105, 101] else if k = 4 then [100, 97, 116, 97] else []

theorem wireName_any (k : Int) (w : World) : Calls Try.prog 26 #[.int .i64 k] w fun e w' => e = .returned (sv (nameOf k)) ∧ w = w' := by
  by_cases h1 : k = 1
  · subst h1
    go_enter Try.func26, Try.ntmps26
    go_wp2
    go_ret
    exact ⟨rfl, rfl⟩
  by_cases h2 : k = 2
  · subst h2
    go_enter Try.func26, Try.ntmps26
    go_wp2
    go_ret
    exact ⟨rfl, rfl⟩
  by_cases h3 : k = 3
  · subst h3
    go_enter Try.func26, Try.ntmps26
    go_wp2
    go_ret
    exact ⟨rfl, rfl⟩
  by_cases h4 : k = 4
  · subst h4
    go_enter Try.func26, Try.ntmps26
    go_wp2
    go_ret
    exact ⟨rfl, rfl⟩
  have e : nameOf k = [] := by simp [nameOf, h1, h2, h3, h4]
  rw [e]
  go_enter Try.func26, Try.ntmps26
  go_wp2
  go_ret
  exact ⟨rfl, rfl⟩

theorem wireReceiver_4 (M0 : Array Value) (q : Nat) (w : World) (hk : M0[0]? = some (.int .i64 4)) (ht : M0[281]? = some (.int .u32 (q : Int))) :
    Calls Try.prog 25 #[.agg M0] w fun e w' => e = .returned (.tuple #[.int .u32 (q : Int), .bool true]) ∧ Below w.heap.size w w' := by
  have hb0 : Below w.heap.size w (w.alloc (.cells M0 58)) := (Below.refl _ _).alloc (Nat.le_refl _) _
  go_enter Try.func25, Try.ntmps25
  go_wp2
  go_ret2
  exact ⟨rfl, hb0⟩

theorem wireReceiver_none (M0 : Array Value) (k : Int) (w : World) (hk : M0[0]? = some (.int .i64 k)) (n2 : ¬ k = 2) (n3 : ¬ k = 3) (n4 : ¬ k = 4) :
    Calls Try.prog 25 #[.agg M0] w fun e w' => e = .returned (.tuple #[.int .u32 0, .bool false]) ∧ Below w.heap.size w w' := by
  have hb0 : Below w.heap.size w (w.alloc (.cells M0 58)) := (Below.refl _ _).alloc (Nat.le_refl _) _
  have d2 : decide (k = 2) = false := decide_eq_false n2
  have d3 : decide (k = 3) = false := decide_eq_false n3
  have d4 : decide (k = 4) = false := decide_eq_false n4
  go_enter Try.func25, Try.ntmps25
  go_wp2
  go_ret2
  exact ⟨rfl, hb0⟩

theorem wireReceiver_3 (M0 : Array Value) (c0 q : Nat) (w : World) (hk : M0[0]? = some (.int .i64 3)) (hc : M0[224]? = some (.int .u32 (c0 : Int))) (ht : M0[281]? = some (.int .u32 (q : Int))) (hlt : 281 < M0.size) :
    Calls Try.prog 25 #[.agg M0] w fun e w' => e = .returned (.tuple #[.int .u32 (c0 : Int), .bool true]) ∧ Below w.heap.size w w' := by
  go_enter Try.func25, Try.ntmps25
  go_wp2
  go_ret2
  exact ⟨rfl, (Below.refl _ _).alloc (Nat.le_refl _) _⟩

theorem wireReceiver_2 (M0 : Array Value) (a1 c0 q : Nat) (w : World) (hk : M0[0]? = some (.int .i64 2)) (hr : M0[143]? = some (.int .u32 (a1 : Int))) (hc : M0[224]? = some (.int .u32 (c0 : Int))) (ht : M0[281]? = some (.int .u32 (q : Int))) (hlt : 281 < M0.size) (hlt2 : 224 < M0.size) :
    Calls Try.prog 25 #[.agg M0] w fun e w' => e = .returned (.tuple #[.int .u32 (a1 : Int), .bool true]) ∧ Below w.heap.size w w' := by
  go_enter Try.func25, Try.ntmps25
  go_wp2
  go_ret2
  exact ⟨rfl, (Below.refl _ _).alloc (Nat.le_refl _) _⟩

end Go.Proofs.Ytlllakjimgomjaa
