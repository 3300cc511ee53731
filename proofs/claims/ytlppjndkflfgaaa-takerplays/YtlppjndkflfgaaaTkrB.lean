
/- Contracts of layer 2's reference: crawlwayref02.Can, Number, Bytes, Zeros. -/
import Derived.Test.YtlppjndkflfgaaaTkrA
import Derived.Test.YtlppjndkflfgaaaArrA
import Derived.Deep.RegionHeld
import Derived.Deep.MidRow
namespace Go.Proofs.Ytlppjndkflfgaaa
open Go.RowKit
set_option linter.unusedSimpArgs false

/-- The document's state, as cells. -/
abbrev stC (A : Option Addr) (n c at_ : Nat) (f : Int) : Array Value := #[.slice A n c, .int .i64 (at_ : Int), .int .i64 f]
theorem st_c {w : World} {g : Nat} {t : TypeId} {x y z : Value} (h : Blk w g t #[x, y, z]) : w.cell? ⟨g, 0, none⟩ = some x ∧ w.cell? ⟨g, 1, none⟩ = some y ∧ w.cell? ⟨g, 2, none⟩ = some z :=
  ⟨by rw [cell_of_row w g 0 _ t _ h]; rfl, by rw [cell_of_row w g 1 _ t _ h]; rfl, by rw [cell_of_row w g 2 _ t _ h]; rfl⟩
theorem Try.sizeSt : (Try.prog.info? 43).map (·.size) = some 3 := by kernel_rfl
theorem st_one (A : Option Addr) (n c at_ : Nat) (f : Int) : (stC A n c at_ f).all (·.oneCell') = true := by simp [stC, Value.oneCell']

set_option maxHeartbeats 1000000 in
theorem rcan_any (A : Option Addr) (n c at_ : Nat) (f m : Int) (b : Bool) (w : World) (hat : at_ ≤ n) (hn : n ≤ 1000000) (_ : -9223372036854775808 ≤ m ∧ m ≤ 9223372036854775807) :
    Calls Try.prog 26 #[.agg (stC A n c at_ f), .int .i64 m, .bool b] w fun e w' => e = .returned (.agg (stC A n c at_ (canE (n - at_) f m b))) ∧ Below w.heap.size w w' := by
  have hE : Hid (canE (n - at_) f m b = if f = 0 then (if b then (if ((n - at_ : Nat) : Int) < m then 3 else 0) else 1) else f) := Lib.hid rfl
  have hi : ((n - at_ : Nat) : Int) = (n : Int) - (at_ : Int) := by omega
  generalize canE (n - at_) f m b = E at *
  by_cases hf : f = 0
  · subst hf
    cases b
    · obtain rfl : E = 1 := by have := hE.out; simpa using this
      clear hE hi
      go_enter Try.func26, Try.ntmps26
      go_wp2
      exact bodyPost_ret (v := .agg (stC A n c at_ 1)) (by simp [results, Try.results26, go_sem, stC]) rfl ⟨rfl, by repeat (first | exact Below.refl _ _ | refine Below.setCell ?_ (by simp) _ | refine Below.alloc ?_ (by simp [World.setCell] <;> omega) _)⟩
    · by_cases hm : (n : Int) - (at_ : Int) < m
      · obtain rfl : E = 3 := by have := hE.out; rw [hi] at this; simpa [hm] using this
        clear hE hi
        go_enter Try.func26, Try.ntmps26
        go_wp2
        exact bodyPost_ret (v := .agg (stC A n c at_ 3)) (by simp [results, Try.results26, go_sem, stC]) rfl ⟨rfl, by repeat (first | exact Below.refl _ _ | refine Below.setCell ?_ (by simp) _ | refine Below.alloc ?_ (by simp [World.setCell] <;> omega) _)⟩
      · obtain rfl : E = 0 := by have := hE.out; rw [hi] at this; simpa [hm] using this
        clear hE hi
        go_enter Try.func26, Try.ntmps26
        go_wp2
        exact bodyPost_ret (v := .agg (stC A n c at_ 0)) (by simp [results, Try.results26, go_sem, stC]) rfl ⟨rfl, by repeat (first | exact Below.refl _ _ | refine Below.setCell ?_ (by simp) _ | refine Below.alloc ?_ (by simp [World.setCell] <;> omega) _)⟩
  · obtain rfl : E = f := by have := hE.out; simpa [hf] using this
    have hf2 : (E != 0) = true := by simpa using hf
    clear hE hi
    go_enter Try.func26, Try.ntmps26
    go_wp2
    exact bodyPost_ret (v := .agg (stC A n c at_ E)) (by simp [results, Try.results26, go_sem, stC]) rfl ⟨rfl, by repeat (first | exact Below.refl _ _ | refine Below.setCell ?_ (by simp) _ | refine Below.alloc ?_ (by simp [World.setCell] <;> omega) _)⟩

set_option maxHeartbeats 1000000 in
theorem rnum_no (A : Option Addr) (n c at_ : Nat) (f m : Int) (big : Bool) (w : World) (hat : at_ ≤ n) (hn : n ≤ 1000000) (hm : -9223372036854775808 ≤ m ∧ m ≤ 9223372036854775807) (hE : canE (n - at_) f m (numB m) ≠ 0) :
    Calls Try.prog 21 #[.agg (stC A n c at_ f), .int .i64 m, .bool big] w fun e w' => e = .returned (.tuple #[.agg (stC A n c at_ (canE (n - at_) f m (numB m))), .int .u64 0]) ∧ Below w.heap.size w w' := by
  have k0 : Blk ((w.alloc (.cells (stC A n c at_ f) 43)).alloc (.cells #[.slice none 0 0, .int .i64 0, .int .i64 0] 43)) w.heap.size 43 (stC A n c at_ f) := (blk_new _ _ _).alloc _
  have k1 : Blk ((w.alloc (.cells (stC A n c at_ f) 43)).alloc (.cells #[.slice none 0 0, .int .i64 0, .int .i64 0] 43)) (w.heap.size + 1) 43 #[.slice none 0 0, .int .i64 0, .int .i64 0] := blk_new' _ _ _ _ (by simp)
  have b0 : Below w.heap.size w ((w.alloc (.cells (stC A n c at_ f) 43)).alloc (.cells #[.slice none 0 0, .int .i64 0, .int .i64 0] 43)) := ((Below.refl _ _).alloc (Nat.le_refl _) _).alloc (by simp) _
  have HC := Lib.hid (fun W => rcan_any A n c at_ f m (numB m) W hat hn hm)
  have hE1 : (canE (n - at_) f m (numB m) != 0) = true := by simpa using hE
  generalize canE (n - at_) f m (numB m) = E at *
  clear hE
  unfold numB at HC
  by_cases h1 : 1 ≤ m
  · have d1 : decide (1 ≤ m) = true := decide_eq_true h1
    by_cases h8 : m ≤ 8
    · have d8 : decide (m ≤ 8) = true := decide_eq_true h8
      rw [d1, d8] at HC
      go_enter Try.func21, Try.ntmps21
      go_wp2_with fail
      generalize ((w.alloc (.cells (stC A n c at_ f) 43)).alloc (.cells #[.slice none 0 0, .int .i64 0, .int .i64 0] 43)) = W at *
      refine (HC.out W).mono ?_
      rintro e w1 ⟨rfl, hb1⟩
      have k2 := k0.on hb1
      have k3 := k1.on hb1
      have b1 := Below.on b0 b0.size hb1
      clear k0 k1 b0 hb1
      go_wp2_with (first
      | (refine wpList_storeBlk (g := w.heap.size) (t := 43) (cs := stC A n c at_ E) rfl 43 (.tmp 3) (.tmp 17) ?ho ?hx2 ?hy2 (stC A n c at_ f) k2 ?hi ?hs ?h1 ?_
         case ho => with_reducible rfl
         case hx2 => rfl
         case hy2 => rfl
         case hi => exact Try.sizeSt
         case hs => rfl
         case h1 => simp [stC, Value.oneCell']
         intro w2 k4 hg2
         have k5 : Blk w2 (w.heap.size + 1) 43 #[.slice none 0 0, .int .i64 0, .int .i64 0] := (hg2.block _ k3.lt (fun e => by injection e with e; omega)).trans k3
         have b2 := b1.grown hg2 b1.size (fun k hk => by injection hk with hk; omega)
         obtain ⟨c0, c1, c2⟩ := st_c k4
         clear k2 k3 b1 hg2)
      | (refine wpList_storeBlk (g := w.heap.size + 1) (t := 43) (cs := stC A n c at_ E) rfl 43 (.tmp 6) (.tmp 21) ?ho ?hx2 ?hy2 #[.slice none 0 0, .int .i64 0, .int .i64 0] k5 ?hi ?hs ?h1 ?_
         case ho => with_reducible rfl
         case hx2 => rfl
         case hy2 => rfl
         case hi => exact Try.sizeSt
         case hs => rfl
         case h1 => simp [stC, Value.oneCell']
         intro w3 k6 hg3))
      have b3 := b2.grown hg3 b2.size (fun k hk => by injection hk with hk; omega)
      refine bodyPost_blk2 rfl _ rfl k6 Try.underlying43 rfl Try.sizeSt rfl ⟨rfl, b3⟩
    · have d8 : decide (m ≤ 8) = false := decide_eq_false h8
      rw [d1, d8] at HC
      go_enter Try.func21, Try.ntmps21
      go_wp2_with fail
      generalize ((w.alloc (.cells (stC A n c at_ f) 43)).alloc (.cells #[.slice none 0 0, .int .i64 0, .int .i64 0] 43)) = W at *
      refine (HC.out W).mono ?_
      rintro e w1 ⟨rfl, hb1⟩
      have k2 := k0.on hb1
      have k3 := k1.on hb1
      have b1 := Below.on b0 b0.size hb1
      clear k0 k1 b0 hb1
      go_wp2_with (first
      | (refine wpList_storeBlk (g := w.heap.size) (t := 43) (cs := stC A n c at_ E) rfl 43 (.tmp 3) (.tmp 17) ?ho ?hx2 ?hy2 (stC A n c at_ f) k2 ?hi ?hs ?h1 ?_
         case ho => with_reducible rfl
         case hx2 => rfl
         case hy2 => rfl
         case hi => exact Try.sizeSt
         case hs => rfl
         case h1 => simp [stC, Value.oneCell']
         intro w2 k4 hg2
         have k5 : Blk w2 (w.heap.size + 1) 43 #[.slice none 0 0, .int .i64 0, .int .i64 0] := (hg2.block _ k3.lt (fun e => by injection e with e; omega)).trans k3
         have b2 := b1.grown hg2 b1.size (fun k hk => by injection hk with hk; omega)
         obtain ⟨c0, c1, c2⟩ := st_c k4
         clear k2 k3 b1 hg2)
      | (refine wpList_storeBlk (g := w.heap.size + 1) (t := 43) (cs := stC A n c at_ E) rfl 43 (.tmp 6) (.tmp 21) ?ho ?hx2 ?hy2 #[.slice none 0 0, .int .i64 0, .int .i64 0] k5 ?hi ?hs ?h1 ?_
         case ho => with_reducible rfl
         case hx2 => rfl
         case hy2 => rfl
         case hi => exact Try.sizeSt
         case hs => rfl
         case h1 => simp [stC, Value.oneCell']
         intro w3 k6 hg3))
      have b3 := b2.grown hg3 b2.size (fun k hk => by injection hk with hk; omega)
      refine bodyPost_blk2 rfl _ rfl k6 Try.underlying43 rfl Try.sizeSt rfl ⟨rfl, b3⟩
  · have d1 : decide (1 ≤ m) = false := decide_eq_false h1
    rw [d1, Bool.false_and] at HC
    go_enter Try.func21, Try.ntmps21
    go_wp2_with fail
    generalize ((w.alloc (.cells (stC A n c at_ f) 43)).alloc (.cells #[.slice none 0 0, .int .i64 0, .int .i64 0] 43)) = W at *
    refine (HC.out W).mono ?_
    rintro e w1 ⟨rfl, hb1⟩
    have k2 := k0.on hb1
    have k3 := k1.on hb1
    have b1 := Below.on b0 b0.size hb1
    clear k0 k1 b0 hb1
    go_wp2_with (first
    | (refine wpList_storeBlk (g := w.heap.size) (t := 43) (cs := stC A n c at_ E) rfl 43 (.tmp 3) (.tmp 17) ?ho ?hx2 ?hy2 (stC A n c at_ f) k2 ?hi ?hs ?h1 ?_
       case ho => with_reducible rfl
       case hx2 => rfl
       case hy2 => rfl
       case hi => exact Try.sizeSt
       case hs => rfl
       case h1 => simp [stC, Value.oneCell']
       intro w2 k4 hg2
       have k5 : Blk w2 (w.heap.size + 1) 43 #[.slice none 0 0, .int .i64 0, .int .i64 0] := (hg2.block _ k3.lt (fun e => by injection e with e; omega)).trans k3
       have b2 := b1.grown hg2 b1.size (fun k hk => by injection hk with hk; omega)
       obtain ⟨c0, c1, c2⟩ := st_c k4
       clear k2 k3 b1 hg2)
    | (refine wpList_storeBlk (g := w.heap.size + 1) (t := 43) (cs := stC A n c at_ E) rfl 43 (.tmp 6) (.tmp 21) ?ho ?hx2 ?hy2 #[.slice none 0 0, .int .i64 0, .int .i64 0] k5 ?hi ?hs ?h1 ?_
       case ho => with_reducible rfl
       case hx2 => rfl
       case hy2 => rfl
       case hi => exact Try.sizeSt
       case hs => rfl
       case h1 => simp [stC, Value.oneCell']
       intro w3 k6 hg3))
    have b3 := b2.grown hg3 b2.size (fun k hk => by injection hk with hk; omega)
    refine bodyPost_blk2 rfl _ rfl k6 Try.underlying43 rfl Try.sizeSt rfl ⟨rfl, b3⟩

set_option maxHeartbeats 1000000 in
theorem rbytes_no (A : Option Addr) (n c at_ : Nat) (f m : Int) (w : World) (hat : at_ ≤ n) (hn : n ≤ 1000000) (hm : -9223372036854775808 ≤ m ∧ m ≤ 9223372036854775807) (hE : canE (n - at_) f m (decide (0 ≤ m)) ≠ 0) :
    Calls Try.prog 22 #[.agg (stC A n c at_ f), .int .i64 m] w fun e w' => e = .returned (.tuple #[.agg (stC A n c at_ (canE (n - at_) f m (decide (0 ≤ m)))), .slice none 0 0]) ∧ Below w.heap.size w w' := by
  have k0 : Blk ((w.alloc (.cells (stC A n c at_ f) 43)).alloc (.cells #[.slice none 0 0, .int .i64 0, .int .i64 0] 43)) w.heap.size 43 (stC A n c at_ f) := (blk_new _ _ _).alloc _
  have k1 : Blk ((w.alloc (.cells (stC A n c at_ f) 43)).alloc (.cells #[.slice none 0 0, .int .i64 0, .int .i64 0] 43)) (w.heap.size + 1) 43 #[.slice none 0 0, .int .i64 0, .int .i64 0] := blk_new' _ _ _ _ (by simp)
  have b0 : Below w.heap.size w ((w.alloc (.cells (stC A n c at_ f) 43)).alloc (.cells #[.slice none 0 0, .int .i64 0, .int .i64 0] 43)) := ((Below.refl _ _).alloc (Nat.le_refl _) _).alloc (by simp) _
  have HC := Lib.hid (fun W => rcan_any A n c at_ f m (decide (0 ≤ m)) W hat hn hm)
  have hE1 : (canE (n - at_) f m (decide (0 ≤ m)) != 0) = true := by simpa using hE
  generalize canE (n - at_) f m (decide (0 ≤ m)) = E at *
  clear hE
  cases hd : decide (0 ≤ m)
  all_goals
    rw [hd] at HC
    go_enter Try.func22, Try.ntmps22
    go_wp2_with fail
    generalize ((w.alloc (.cells (stC A n c at_ f) 43)).alloc (.cells #[.slice none 0 0, .int .i64 0, .int .i64 0] 43)) = W at *
    refine (HC.out W).mono ?_
    rintro e w1 ⟨rfl, hb1⟩
    have k2 := k0.on hb1
    have k3 := k1.on hb1
    have b1 := Below.on b0 b0.size hb1
    clear k0 k1 b0 hb1
    go_wp2_with (first
    | (refine wpList_storeBlk (g := w.heap.size) (t := 43) (cs := stC A n c at_ E) rfl 43 (.tmp 2) (.tmp 11) ?ho ?hx2 ?hy2 (stC A n c at_ f) k2 ?hi ?hs ?h1 ?_
       case ho => with_reducible rfl
       case hx2 => rfl
       case hy2 => rfl
       case hi => exact Try.sizeSt
       case hs => rfl
       case h1 => simp [stC, Value.oneCell']
       intro w2 k4 hg2
       have k5 : Blk w2 (w.heap.size + 1) 43 #[.slice none 0 0, .int .i64 0, .int .i64 0] := (hg2.block _ k3.lt (fun e => by injection e with e; omega)).trans k3
       have b2 := b1.grown hg2 b1.size (fun k hk => by injection hk with hk; omega)
       obtain ⟨c0, c1, c2⟩ := st_c k4
       clear k2 k3 b1 hg2)
    | (refine wpList_storeBlk (g := w.heap.size + 1) (t := 43) (cs := stC A n c at_ E) rfl 43 (.tmp 4) (.tmp 15) ?ho ?hx2 ?hy2 #[.slice none 0 0, .int .i64 0, .int .i64 0] k5 ?hi ?hs ?h1 ?_
       case ho => with_reducible rfl
       case hx2 => rfl
       case hy2 => rfl
       case hi => exact Try.sizeSt
       case hs => rfl
       case h1 => simp [stC, Value.oneCell']
       intro w3 k6 hg3))
    have b3 := b2.grown hg3 b2.size (fun k hk => by injection hk with hk; omega)
    refine bodyPost_blk2 rfl _ rfl k6 Try.underlying43 rfl Try.sizeSt rfl ⟨rfl, b3⟩

theorem blkr {w : World} {g : Nat} {t : TypeId} {cs : Array Value} (h : Blk w g t cs) : w.rangeAt g 0 cs.toList := fun j v hv => by
  rw [Nat.zero_add, cell_of_row w g j _ t _ h, ← Array.getElem?_toList]
  exact hv
/-- A whole value, written over a block: one step of a region that draws its order. -/
theorem step_stBlk {P : Program} {w : World} {g : Nat} {t : TypeId} {cs : Array Value} {o : Oper} {a : Act} {ops : Array Oper} {K : Act → World → Prop} {Q : Exit → Act → World → Prop} {E : Prop} (hgd : o.guard = none) (ty : TypeId) (x y : Operand) (ho : o.op = .store ty x y)
    (hx : a.eval x = .pointer (some ⟨g, 0, none⟩)) (hy : a.eval y = .agg cs) (old : Array Value) (hA : Blk w g t old) (hi : (P.info? ty).map (·.size) = some cs.size)
    (hs : old.size = cs.size) (h1 : cs.all (·.oneCell') = true)
    (h : ∀ w', Blk w' g t cs → w.grownBy w' (some g) → K (a.put o.dst undef) w') : if Region.wanted o (yielded ops a.tmps) = true then Oper.wp P o a w K Q else E := by
  rw [if_pos (by simp [Region.wanted, hgd])]
  exact wp_store_row ty x y ho g cs hx hy t old hA hi hs h1 (by obtain ⟨h2, h3⟩ := setRow_grown w g t old cs hA; exact h _ h2 h3)

set_option maxHeartbeats 1000000 in
theorem rnum_little (b off n c at_ m : Nat) (l : List UInt8) (w : World) (hn : n ≤ 1000000) (hnc : n ≤ c) (h1 : 1 ≤ m) (h8 : m ≤ 8) (ham : at_ + m ≤ n) (h : Shows w w.heap.size (some ⟨b, off, none⟩) n l) :
    Calls Try.prog 21 #[.agg (stC (some ⟨b, off, none⟩) n c at_ 0), .int .i64 (m : Int), .bool false] w fun e w' => e = .returned (.tuple #[.agg (stC (some ⟨b, off, none⟩) n c (at_ + m) 0), .int .u64 (leNat ((l.drop at_).take m) : Int)]) ∧ Below w.heap.size w w' := by
  have k0 : Blk ((w.alloc (.cells (stC (some ⟨b, off, none⟩) n c at_ 0) 43)).alloc (.cells #[.slice none 0 0, .int .i64 0, .int .i64 0] 43)) w.heap.size 43 (stC (some ⟨b, off, none⟩) n c at_ 0) := (blk_new _ _ _).alloc _
  have k1 : Blk ((w.alloc (.cells (stC (some ⟨b, off, none⟩) n c at_ 0) 43)).alloc (.cells #[.slice none 0 0, .int .i64 0, .int .i64 0] 43)) (w.heap.size + 1) 43 #[.slice none 0 0, .int .i64 0, .int .i64 0] := blk_new' _ _ _ _ (by simp)
  have b0 : Below w.heap.size w ((w.alloc (.cells (stC (some ⟨b, off, none⟩) n c at_ 0) 43)).alloc (.cells #[.slice none 0 0, .int .i64 0, .int .i64 0] 43)) := ((Below.refl _ _).alloc (Nat.le_refl _) _).alloc (by simp) _
  have HC := Lib.hid (fun W => rcan_any (some ⟨b, off, none⟩) n c at_ 0 (m : Int) true W (by omega) hn (by omega))
  rw [canE_ok (n - at_) (m : Int) (by omega)] at HC
  have h0 := h
  have hcast : ((at_ + m : Nat) : Int) = (at_ : Int) + (m : Int) := by omega
  have HSeg := Lib.hid (fun (V : World) (B : Nat) (hV : Shows V B (some ⟨b, off, none⟩) n l) => (show Shows V B (some ⟨b, off + at_, none⟩) m ((l.drop at_).take m) by
    have h4 := Sh.front (f := bv) (Sh.back (f := bv) (k := at_) (cap := c) hV (by omega) hnc) (k := m) (by omega)
    rw [if_neg (by omega), Option.map_some, Go.WideShapes.add_plain] at h4
    rwa [show ((l.drop at_).take m) = List.take m (List.drop at_ l) from rfl]))
  have HGet := Lib.hid (fun (V : World) (hV : Shows V V.heap.size (some ⟨b, off + at_, none⟩) m ((l.drop at_).take m)) => get_any (some ⟨b, off + at_, none⟩) m (c - at_) _ V h8 hV)
  generalize leNat ((l.drop at_).take m) = V at *
  clear h
  have e0 : (0 : Int) ≤ (at_ : Int) + (m : Int) := by omega
  have d1 : decide ((1 : Int) ≤ (m : Int)) = true := decide_eq_true (by omega)
  have d8 : decide ((m : Int) ≤ 8) = true := decide_eq_true (by omega)
  go_enter Try.func21, Try.ntmps21
  go_wp2_with fail
  generalize ((w.alloc (.cells (stC (some ⟨b, off, none⟩) n c at_ 0) 43)).alloc (.cells #[.slice none 0 0, .int .i64 0, .int .i64 0] 43)) = W at *
  refine (HC.out W).mono ?_
  rintro e w1 ⟨rfl, hb1⟩
  have k2 := k0.on hb1
  have k3 := k1.on hb1
  have b1 := Below.on b0 b0.size hb1
  clear k0 k1 b0 hb1 HC
  go_wp2_with (first
  | (refine wpList_storeBlk (g := w.heap.size) (t := 43) (cs := stC (some ⟨b, off, none⟩) n c at_ 0) rfl 43 (.tmp 3) (.tmp 17) ?ho ?hx2 ?hy2 (stC (some ⟨b, off, none⟩) n c at_ 0) k2 ?hi ?hs ?h1 ?_
     case ho => with_reducible rfl
     case hx2 => rfl
     case hy2 => rfl
     case hi => exact Try.sizeSt
     case hs => rfl
     case h1 => simp [stC, Value.oneCell']
     intro w2 k4 hg2
     obtain ⟨c0, c1, c2⟩ := st_c k4
     have f1 := frozen_of_row _ _ 1 _ _ k4
     have k5 : Blk w2 (w.heap.size + 1) 43 #[.slice none 0 0, .int .i64 0, .int .i64 0] := (hg2.block _ k3.lt (fun e => by injection e with e; omega)).trans k3
     have b2 := b1.grown hg2 b1.size (fun k hk => by injection hk with hk; omega)
     have h2 : Shows w2 w.heap.size (some ⟨b, off, none⟩) n l := (h0.below b1).keep fun p hp => World.cell?_of_block (hg2.block p.block (Nat.lt_of_lt_of_le hp b1.size) (fun e => by injection e with e; omega))
     have k6 : Blk (w2.setCell ⟨w.heap.size, 1, none⟩ (.int .i64 ((at_ : Int) + (m : Int)))) w.heap.size 43 #[.slice (some ⟨b, off, none⟩) n c, .int .i64 ((at_ : Int) + (m : Int)), .int .i64 0] := by simpa [stC] using k4.setCell 1 (.int .i64 ((at_ : Int) + (m : Int)))
     have k7 : Blk (w2.setCell ⟨w.heap.size, 1, none⟩ (.int .i64 ((at_ : Int) + (m : Int)))) (w.heap.size + 1) 43 #[.slice none 0 0, .int .i64 0, .int .i64 0] := k5.other _ _ (by simp)
     have b3 : Below w.heap.size w (w2.setCell ⟨w.heap.size, 1, none⟩ (.int .i64 ((at_ : Int) + (m : Int)))) := b2.setCell (Nat.le_refl _) _
     have h3 : Shows (w2.setCell ⟨w.heap.size, 1, none⟩ (.int .i64 ((at_ : Int) + (m : Int)))) w.heap.size (some ⟨b, off, none⟩) n l := h2.keep fun p hp => World.cell?_setCell_other _ _ _ _ (by intro e; subst e; simp at hp)
     clear k2 k3 b1 hg2 k4 k5 b2 h2 h0))
  generalize w2.setCell ⟨w.heap.size, 1, none⟩ (.int .i64 ((at_ : Int) + (m : Int))) = W3 at *
  have hseg := (HSeg.out _ _ h3).up b3.size
  clear h3
  have q0 : Blk W3.drew w.heap.size 43 #[.slice (some ⟨b, off, none⟩) n c, .int .i64 ((at_ : Int) + (m : Int)), .int .i64 0] := k6
  have q1 : Blk W3.drew (w.heap.size + 1) 43 #[.slice none 0 0, .int .i64 0, .int .i64 0] := k7
  have qb : Below w.heap.size w W3.drew := b3.drew
  have qs : Shows W3.drew W3.drew.heap.size (some ⟨b, off + at_, none⟩) m ((l.drop at_).take m) := hseg
  clear k6 k7 b3 hseg
  refine wp_region_held_drew (S := fun V => Blk V w.heap.size 43 #[.slice (some ⟨b, off, none⟩) n c, .int .i64 ((at_ : Int) + (m : Int)), .int .i64 0]) (by kernel_rfl) q0 ?_
  intro hS
  generalize hgw : W3.drew = W4 at *
  clear hgw
  refine wpAnyH_take (i := 0) (oi := ?o1) (v := .agg #[.slice (some ⟨b, off, none⟩) n c, .int .i64 ((at_ : Int) + (m : Int)), .int .i64 0]) ?hio1 (by kernel_rfl) (by kernel_rfl) (by kernel_rfl) ?hQo1 ?hyo1 hS ?_
  case hio1 => (simp only [List.getElem?_toArray, List.getElem?_cons_succ, List.getElem?_cons_zero]; rfl)
  case hQo1 => exact fun _ _ _ h => h
  case hyo1 => exact yieldsIf_load_mid (by rfl) 43 (.tmp 3) rfl w.heap.size 0 rfl (#[.slice (some ⟨b, off, none⟩) n c, .int .i64 ((at_ : Int) + (m : Int)), .int .i64 0] : Array Value).toList _ (fun W hW => blkr hW) Try.underlying43 rfl Try.sizeSt
  try simp only [Act.put, List.setIfInBounds_toArray, List.set_cons_zero, List.set_cons_succ]
  refine wpAnyH_take (i := 1) (oi := ?o2) (v := .slice (some ⟨b, off + at_, none⟩) m (c - at_)) ?hio2 (by kernel_rfl) (by kernel_rfl) (by kernel_rfl) ?hQo2 ?hyo2 hS ?_
  case hio2 => (simp only [List.getElem?_toArray, List.getElem?_cons_succ, List.getElem?_cons_zero]; rfl)
  case hQo2 => exact fun _ _ _ h => h
  case hyo2 => exact Or.inl ⟨by rfl, fun W hW => by go_simp⟩
  try simp only [Act.put, List.setIfInBounds_toArray, List.set_cons_zero, List.set_cons_succ]
  refine wpAnyH_ready (rs := [2]) (by kernel_rfl) (by simp) ?_
  refine AllReadyH.cons (o := ?o5) ?hoo5 (fun K hK => ?ho5) AllReadyH.nil
  case hoo5 => (simp only [List.getElem?_toArray, List.getElem?_cons_succ, List.getElem?_cons_zero]; rfl)
  case ho5 =>
    go_simp
    go_at_call 28
    with_reducible refine (HGet.out _ qs).mono ?_
    rintro e w6 ⟨rfl, rfl⟩
    refine hK.out _ _ hS (fun _ => ?_)
    clear hK K
    try simp only [Act.put, List.setIfInBounds_toArray, List.set_cons_zero, List.set_cons_succ]
    refine wpAnyH_ready (rs := [3]) (by kernel_rfl) (by simp) ?_
    refine AllReadyH.cons (o := ?o4) ?hoo4 (fun K hK => ?ho4) AllReadyH.nil
    case hoo4 => (simp only [List.getElem?_toArray, List.getElem?_cons_succ, List.getElem?_cons_zero]; rfl)
    case ho4 =>
      refine step_stBlk (g := w.heap.size + 1) (t := 43) (cs := #[.slice (some ⟨b, off, none⟩) n c, .int .i64 ((at_ : Int) + (m : Int)), .int .i64 0]) rfl 43 (.tmp 6) (.tmp 39) rfl rfl rfl #[.slice none 0 0, .int .i64 0, .int .i64 0] q1 Try.sizeSt rfl (by simp [Value.oneCell']) ?_
      intro w5 kb hg5
      have b5 : Below w.heap.size w w5 := qb.grown hg5 qb.size (fun k hk => by injection hk with hk; omega)
      have q5 : Blk w5 w.heap.size 43 #[.slice (some ⟨b, off, none⟩) n c, .int .i64 ((at_ : Int) + (m : Int)), .int .i64 0] := (hg5.block _ q0.lt (fun e => by injection e with e; omega)).trans q0
      refine hK.out _ _ q5 (fun hS5 => ?_)
      clear hK K q0 q1 qb hS q5
      try simp only [Act.put, List.setIfInBounds_toArray, List.set_cons_zero, List.set_cons_succ]
      refine wpAnyH_take (i := 4) (oi := ?o3) (v := .int .u64 (V : Int)) ?hio3 (by kernel_rfl) (by kernel_rfl) (by kernel_rfl) ?hQo3 ?hyo3 hS5 ?_
      case hio3 => (simp only [List.getElem?_toArray, List.getElem?_cons_succ, List.getElem?_cons_zero]; rfl)
      case hQo3 => exact fun _ _ _ h => h
      case hyo3 => exact Or.inl ⟨by rfl, fun W hW => by go_simp⟩
      try simp only [Act.put, List.setIfInBounds_toArray, List.set_cons_zero, List.set_cons_succ]
      refine wpAnyH_done (by kernel_rfl) ?_ _
      clear hS5
      go_wp2
      refine bodyPost_blk2 rfl _ rfl kb Try.underlying43 rfl Try.sizeSt rfl ⟨rfl, b5⟩

set_option maxHeartbeats 1000000 in
theorem rnum_big (b off n c at_ m : Nat) (l : List UInt8) (w : World) (hn : n ≤ 1000000) (hnc : n ≤ c) (h1 : 1 ≤ m) (h8 : m ≤ 8) (ham : at_ + m ≤ n) (h : Shows w w.heap.size (some ⟨b, off, none⟩) n l) :
    Calls Try.prog 21 #[.agg (stC (some ⟨b, off, none⟩) n c at_ 0), .int .i64 (m : Int), .bool true] w fun e w' => e = .returned (.tuple #[.agg (stC (some ⟨b, off, none⟩) n c (at_ + m) 0), .int .u64 (leNat ((l.drop at_).take m).reverse : Int)]) ∧ Below w.heap.size w w' := by
  have k0 : Blk ((w.alloc (.cells (stC (some ⟨b, off, none⟩) n c at_ 0) 43)).alloc (.cells #[.slice none 0 0, .int .i64 0, .int .i64 0] 43)) w.heap.size 43 (stC (some ⟨b, off, none⟩) n c at_ 0) := (blk_new _ _ _).alloc _
  have k1 : Blk ((w.alloc (.cells (stC (some ⟨b, off, none⟩) n c at_ 0) 43)).alloc (.cells #[.slice none 0 0, .int .i64 0, .int .i64 0] 43)) (w.heap.size + 1) 43 #[.slice none 0 0, .int .i64 0, .int .i64 0] := blk_new' _ _ _ _ (by simp)
  have b0 : Below w.heap.size w ((w.alloc (.cells (stC (some ⟨b, off, none⟩) n c at_ 0) 43)).alloc (.cells #[.slice none 0 0, .int .i64 0, .int .i64 0] 43)) := ((Below.refl _ _).alloc (Nat.le_refl _) _).alloc (by simp) _
  have HC := Lib.hid (fun W => rcan_any (some ⟨b, off, none⟩) n c at_ 0 (m : Int) true W (by omega) hn (by omega))
  rw [canE_ok (n - at_) (m : Int) (by omega)] at HC
  have h0 := h
  have hcast : ((at_ + m : Nat) : Int) = (at_ : Int) + (m : Int) := by omega
  have HSeg := Lib.hid (fun (V : World) (B : Nat) (hV : Shows V B (some ⟨b, off, none⟩) n l) => (show Shows V B (some ⟨b, off + at_, none⟩) m ((l.drop at_).take m) by
    have h4 := Sh.front (f := bv) (Sh.back (f := bv) (k := at_) (cap := c) hV (by omega) hnc) (k := m) (by omega)
    rw [if_neg (by omega), Option.map_some, Go.WideShapes.add_plain] at h4
    exact h4))
  have HRev := Lib.hid (fun (V : World) (hV : Shows V V.heap.size (some ⟨b, off + at_, none⟩) m ((l.drop at_).take m)) => reversed_any (some ⟨b, off + at_, none⟩) m (c - at_) _ V (by omega) hV)
  have HGet := Lib.hid (fun (A' : Option Addr) (c' : Nat) (V : World) (hV : Shows V V.heap.size A' m ((l.drop at_).take m).reverse) => get_any A' m c' _ V h8 hV)
  generalize leNat ((l.drop at_).take m).reverse = V at *
  clear h
  have e0 : (0 : Int) ≤ (at_ : Int) + (m : Int) := by omega
  have d1 : decide ((1 : Int) ≤ (m : Int)) = true := decide_eq_true (by omega)
  have d8 : decide ((m : Int) ≤ 8) = true := decide_eq_true (by omega)
  go_enter Try.func21, Try.ntmps21
  go_wp2_with fail
  generalize ((w.alloc (.cells (stC (some ⟨b, off, none⟩) n c at_ 0) 43)).alloc (.cells #[.slice none 0 0, .int .i64 0, .int .i64 0] 43)) = W at *
  refine (HC.out W).mono ?_
  rintro e w1 ⟨rfl, hb1⟩
  have k2 := k0.on hb1
  have k3 := k1.on hb1
  have b1 := Below.on b0 b0.size hb1
  clear k0 k1 b0 hb1 HC
  go_wp2_with (first
  | (refine wpList_storeBlk (g := w.heap.size) (t := 43) (cs := stC (some ⟨b, off, none⟩) n c at_ 0) rfl 43 (.tmp 3) (.tmp 17) ?ho ?hx2 ?hy2 (stC (some ⟨b, off, none⟩) n c at_ 0) k2 ?hi ?hs ?h1 ?_
     case ho => with_reducible rfl
     case hx2 => rfl
     case hy2 => rfl
     case hi => exact Try.sizeSt
     case hs => rfl
     case h1 => simp [stC, Value.oneCell']
     intro w2 k4 hg2
     obtain ⟨c0, c1, c2⟩ := st_c k4
     have f1 := frozen_of_row _ _ 1 _ _ k4
     have k5 : Blk w2 (w.heap.size + 1) 43 #[.slice none 0 0, .int .i64 0, .int .i64 0] := (hg2.block _ k3.lt (fun e => by injection e with e; omega)).trans k3
     have b2 := b1.grown hg2 b1.size (fun k hk => by injection hk with hk; omega)
     have h2 : Shows w2 w.heap.size (some ⟨b, off, none⟩) n l := (h0.below b1).keep fun p hp => World.cell?_of_block (hg2.block p.block (Nat.lt_of_lt_of_le hp b1.size) (fun e => by injection e with e; omega))
     have k6 : Blk (w2.setCell ⟨w.heap.size, 1, none⟩ (.int .i64 ((at_ : Int) + (m : Int)))) w.heap.size 43 #[.slice (some ⟨b, off, none⟩) n c, .int .i64 ((at_ : Int) + (m : Int)), .int .i64 0] := by simpa [stC] using k4.setCell 1 (.int .i64 ((at_ : Int) + (m : Int)))
     have k7 : Blk (w2.setCell ⟨w.heap.size, 1, none⟩ (.int .i64 ((at_ : Int) + (m : Int)))) (w.heap.size + 1) 43 #[.slice none 0 0, .int .i64 0, .int .i64 0] := k5.other _ _ (by simp)
     have b3 : Below w.heap.size w (w2.setCell ⟨w.heap.size, 1, none⟩ (.int .i64 ((at_ : Int) + (m : Int)))) := b2.setCell (Nat.le_refl _) _
     have h3 : Shows (w2.setCell ⟨w.heap.size, 1, none⟩ (.int .i64 ((at_ : Int) + (m : Int)))) w.heap.size (some ⟨b, off, none⟩) n l := h2.keep fun p hp => World.cell?_setCell_other _ _ _ _ (by intro e; subst e; simp at hp)
     clear k2 k3 b1 hg2 k4 k5 b2 h2 h0))
  generalize w2.setCell ⟨w.heap.size, 1, none⟩ (.int .i64 ((at_ : Int) + (m : Int))) = W3 at *
  have hseg0 := (HSeg.out _ _ h3).up b3.size
  clear h3
  refine (HRev.out _ hseg0).mono ?_
  rintro e W5 ⟨⟨v, rfl, hown⟩, hb5⟩
  obtain ⟨A', c', rfl, _, _, hseg⟩ := hown.shows
  have k6 := k6.on hb5
  have k7 := k7.on hb5
  have b3 := Below.on b3 b3.size hb5
  clear hown hb5 hseg0
  go_wp2_with fail
  have q0 : Blk W5.drew w.heap.size 43 #[.slice (some ⟨b, off, none⟩) n c, .int .i64 ((at_ : Int) + (m : Int)), .int .i64 0] := k6
  have q1 : Blk W5.drew (w.heap.size + 1) 43 #[.slice none 0 0, .int .i64 0, .int .i64 0] := k7
  have qb : Below w.heap.size w W5.drew := b3.drew
  have qs : Shows W5.drew W5.drew.heap.size A' m ((l.drop at_).take m).reverse := hseg
  clear k6 k7 b3 hseg
  refine wp_region_held_drew (S := fun V => Blk V w.heap.size 43 #[.slice (some ⟨b, off, none⟩) n c, .int .i64 ((at_ : Int) + (m : Int)), .int .i64 0]) (by kernel_rfl) q0 ?_
  intro hS
  generalize hgw : W5.drew = W4 at *
  clear hgw
  refine wpAnyH_take (i := 0) (oi := ?o6) (v := .agg #[.slice (some ⟨b, off, none⟩) n c, .int .i64 ((at_ : Int) + (m : Int)), .int .i64 0]) ?hio6 (by kernel_rfl) (by kernel_rfl) (by kernel_rfl) ?hQo6 ?hyo6 hS ?_
  case hio6 => (simp only [List.getElem?_toArray, List.getElem?_cons_succ, List.getElem?_cons_zero]; rfl)
  case hQo6 => exact fun _ _ _ h => h
  case hyo6 => exact yieldsIf_load_mid (by rfl) 43 (.tmp 3) rfl w.heap.size 0 rfl (#[.slice (some ⟨b, off, none⟩) n c, .int .i64 ((at_ : Int) + (m : Int)), .int .i64 0] : Array Value).toList _ (fun W hW => blkr hW) Try.underlying43 rfl Try.sizeSt
  try simp only [Act.put, List.setIfInBounds_toArray, List.set_cons_zero, List.set_cons_succ]
  refine wpAnyH_take (i := 1) (oi := ?o7) (v := .slice A' m c') ?hio7 (by kernel_rfl) (by kernel_rfl) (by kernel_rfl) ?hQo7 ?hyo7 hS ?_
  case hio7 => (simp only [List.getElem?_toArray, List.getElem?_cons_succ, List.getElem?_cons_zero]; rfl)
  case hQo7 => exact fun _ _ _ h => h
  case hyo7 => exact Or.inl ⟨by rfl, fun W hW => by go_simp⟩
  try simp only [Act.put, List.setIfInBounds_toArray, List.set_cons_zero, List.set_cons_succ]
  refine wpAnyH_ready (rs := [2]) (by kernel_rfl) (by simp) ?_
  refine AllReadyH.cons (o := ?o10) ?hoo10 (fun K hK => ?ho10) AllReadyH.nil
  case hoo10 => (simp only [List.getElem?_toArray, List.getElem?_cons_succ, List.getElem?_cons_zero]; rfl)
  case ho10 =>
    go_simp
    go_at_call 28
    with_reducible refine (HGet.out A' c' _ qs).mono ?_
    rintro e w6 ⟨rfl, rfl⟩
    refine hK.out _ _ hS (fun _ => ?_)
    clear hK K
    try simp only [Act.put, List.setIfInBounds_toArray, List.set_cons_zero, List.set_cons_succ]
    refine wpAnyH_ready (rs := [3]) (by kernel_rfl) (by simp) ?_
    refine AllReadyH.cons (o := ?o9) ?hoo9 (fun K hK => ?ho9) AllReadyH.nil
    case hoo9 => (simp only [List.getElem?_toArray, List.getElem?_cons_succ, List.getElem?_cons_zero]; rfl)
    case ho9 =>
      refine step_stBlk (g := w.heap.size + 1) (t := 43) (cs := #[.slice (some ⟨b, off, none⟩) n c, .int .i64 ((at_ : Int) + (m : Int)), .int .i64 0]) rfl 43 (.tmp 6) (.tmp 39) rfl rfl rfl #[.slice none 0 0, .int .i64 0, .int .i64 0] q1 Try.sizeSt rfl (by simp [Value.oneCell']) ?_
      intro w5 kb hg5
      have b5 : Below w.heap.size w w5 := qb.grown hg5 qb.size (fun k hk => by injection hk with hk; omega)
      have q5 : Blk w5 w.heap.size 43 #[.slice (some ⟨b, off, none⟩) n c, .int .i64 ((at_ : Int) + (m : Int)), .int .i64 0] := (hg5.block _ q0.lt (fun e => by injection e with e; omega)).trans q0
      refine hK.out _ _ q5 (fun hS5 => ?_)
      clear hK K q0 q1 qb hS q5
      try simp only [Act.put, List.setIfInBounds_toArray, List.set_cons_zero, List.set_cons_succ]
      refine wpAnyH_take (i := 4) (oi := ?o8) (v := .int .u64 (V : Int)) ?hio8 (by kernel_rfl) (by kernel_rfl) (by kernel_rfl) ?hQo8 ?hyo8 hS5 ?_
      case hio8 => (simp only [List.getElem?_toArray, List.getElem?_cons_succ, List.getElem?_cons_zero]; rfl)
      case hQo8 => exact fun _ _ _ h => h
      case hyo8 => exact Or.inl ⟨by rfl, fun W hW => by go_simp⟩
      try simp only [Act.put, List.setIfInBounds_toArray, List.set_cons_zero, List.set_cons_succ]
      refine wpAnyH_done (by kernel_rfl) ?_ _
      clear hS5
      go_wp2
      refine bodyPost_blk2 rfl _ rfl kb Try.underlying43 rfl Try.sizeSt rfl ⟨rfl, b5⟩


end Go.Proofs.Ytlppjndkflfgaaa
