
/- Contracts of layer 2: law02.step, over what its callees do. -/
import Derived.Test.YtlppjndkflfgaaaTkrD
namespace Go.Proofs.Ytlppjndkflfgaaa
open Go.RowKit
set_option linter.unusedSimpArgs false
set_option linter.unusedVariables false

theorem blk_cell2 {w : World} {g : Nat} {ty : TypeId} {cs : Array Value} (h : Blk w g ty cs) (j : Nat) (v : Value) (hv : cs[j]? = some v) : w.cell? ⟨g, j, none⟩ = some v := by
  rw [cell_of_row w g j _ ty _ h]; exact hv
theorem blk_grw {w w' : World} {g : Nat} {t : TypeId} {cs : Array Value} {r : Option Nat} (h : Blk w g t cs) (hg : w.grownBy w' r) (hne : r ≠ some g) : Blk w' g t cs := (hg.block g h.lt (fun e => hne e.symm)).trans h
theorem grown_in {w w1 w2 : World} {r : Option Nat} {k : Nat} (h1 : w.grownBy w1 r) (h2 : w1.grownBy w2 (some k)) (hk : w.heap.size ≤ k) : w.grownBy w2 r :=
  ⟨h2.os.trans h1.os, h2.tape.trans h1.tape, h2.output.trans h1.output, Nat.le_trans h1.size h2.size, fun j hj hne => (h2.block j (Nat.lt_of_lt_of_le hj h1.size) (fun e => by injection e with e; omega)).trans (h1.block j hj hne)⟩
theorem grown_of {w w' : World} (h : Below w.heap.size w w') (r : Option Nat) : w.grownBy w' r := ⟨h.os, h.tape, h.output, h.size, fun k hk _ => h.block k hk⟩
theorem grown_tr {w w1 w2 : World} {r : Option Nat} (h1 : w.grownBy w1 r) (h2 : w1.grownBy w2 r) : w.grownBy w2 r :=
  ⟨h2.os.trans h1.os, h2.tape.trans h1.tape, h2.output.trans h1.output, Nat.le_trans h1.size h2.size, fun k hk hne => (h2.block k (Nat.lt_of_lt_of_le hk h1.size) hne).trans (h1.block k hk hne)⟩
theorem Tk.gr {w w' : World} {g n c k : Nat} {A : Option Addr} {f : Int} {l : List UInt8} (h : Tk w g A n c f l) (hg : w.grownBy w' (some k)) (hne : g < k) : Tk w' g A n c f l :=
  ⟨(hg.block g h.lt (fun e => by injection e with e; omega)).trans h.1, h.2.1, h.2.2.1, h.2.2.2.keep fun p hp => World.cell?_of_block (hg.block p.block (by have := h.lt; omega) (fun e => by injection e with e; omega))⟩

set_option maxHeartbeats 1000000 in
theorem step_little (g : Nat) (A1 : Option Addr) (n1 c1 : Nat) (f1 : Int) (l1 : List UInt8) (A2 : Option Addr) (n2 c2 : Nat) (f2 : Int) (l2 : List UInt8) (A : Option Addr) (n c at_ : Nat) (f m : Int) (cs : Array Value) (w : World) (hk : Tk w g A1 n1 c1 f1 l1) (hcs : cs.size = 3) (hc1 : cs.all (·.oneCell') = true) (V : Nat)
    (HR : ∀ W, Below w.heap.size w W → Calls Try.prog 21 #[.agg (stC A n c at_ f), .int .i64 m, .bool false] W fun e w' => e = .returned (.tuple #[.agg cs, .int .u64 (V : Int)]) ∧ Below W.heap.size W w')
    (HT : ∀ W, Tk W g A1 n1 c1 f1 l1 → Calls Try.prog 10 #[.pointer (some ⟨g, 0, none⟩), .int .i64 m] W fun e w' => e = .returned (.int .u64 (V : Int)) ∧ Tk w' g A2 n2 c2 f2 l2 ∧ W.grownBy w' (some g)) :
    Calls Try.prog 15 #[.pointer (some ⟨g, 0, none⟩), .agg (stC A n c at_ f), .agg #[.int .i64 0, .int .i64 m]] w fun e w' => e = .returned (.tuple #[.agg cs, .bool true]) ∧ Tk w' g A2 n2 c2 f2 l2 ∧ w.grownBy w' (some g) := by
  have hgl := hk.lt
  generalize hs0 : stC A n c at_ f = s0 at *
  have k0 : Blk (((w.alloc (.cells s0 43)).alloc (.cells #[.int .i64 0, .int .i64 m] 35)).alloc (.cells #[.slice none 0 0, .int .i64 0, .int .i64 0] 43)) w.heap.size 43 s0 := ((blk_new _ _ _).alloc _).alloc _
  have kc : Blk (((w.alloc (.cells s0 43)).alloc (.cells #[.int .i64 0, .int .i64 m] 35)).alloc (.cells #[.slice none 0 0, .int .i64 0, .int .i64 0] 43)) (w.heap.size + 1) 35 #[.int .i64 0, .int .i64 m] := (blk_new' _ _ _ _ (by simp)).alloc _
  have k6 : Blk (((w.alloc (.cells s0 43)).alloc (.cells #[.int .i64 0, .int .i64 m] 35)).alloc (.cells #[.slice none 0 0, .int .i64 0, .int .i64 0] 43)) (w.heap.size + 2) 43 #[.slice none 0 0, .int .i64 0, .int .i64 0] := blk_new' _ _ _ _ (by simp)
  have b0 : Below w.heap.size w (((w.alloc (.cells s0 43)).alloc (.cells #[.int .i64 0, .int .i64 m] 35)).alloc (.cells #[.slice none 0 0, .int .i64 0, .int .i64 0] 43)) := (((Below.refl _ _).alloc (Nat.le_refl _) _).alloc (by simp) _).alloc (by simp; omega) _
  have t0 := hk.on b0
  have HC := Lib.hid (HR _ b0)
  have HI : Hid ((Try.prog.info? 43).map (·.size) = some cs.size) := Lib.hid (by rw [hcs]; exact Try.sizeSt)
  have HS3 := Lib.hid hcs
  have HO := Lib.hid hc1
  have d0 := blk_cell2 kc 0 _ rfl
  have d1 := blk_cell2 kc 1 _ rfl
  clear HR
  go_enter Try.func15, Try.ntmps15
  go_wp2_with (first
  | (refine wpList_loadBlk (g := w.heap.size) (t := 43) (cs := s0) rfl 43 (.tmp 4) ?ho ?hx ?hA _ Try.underlying43 rfl ?hi ?_
     case ho => with_reducible rfl
     case hx => rfl
     case hA => exact k0
     case hi => rw [← hs0]; exact Try.sizeSt))
  generalize (((w.alloc (.cells s0 43)).alloc (.cells #[.int .i64 0, .int .i64 m] 35)).alloc (.cells #[.slice none 0 0, .int .i64 0, .int .i64 0] 43)) = W at *
  refine HC.out.mono ?_
  rintro e w1 ⟨rfl, hb1⟩
  have b1 := Below.on b0 b0.size hb1
  have a2 : Below w1.heap.size w1 (w1.alloc (.cells cs 43)) := (Below.refl _ _).alloc (Nat.le_refl _) _
  have k8 : Blk (w1.alloc (.cells cs 43)) w1.heap.size 43 cs := blk_new _ _ _
  have k6' := (k6.on hb1).on a2
  have kc' := (kc.on hb1).on a2
  have t1 := (t0.on hb1).on a2
  have b2 := Below.on b1 b1.size a2
  have d0 := blk_cell2 kc' 0 _ rfl
  have d1 := blk_cell2 kc' 1 _ rfl
  have hl6 := (k6.on hb1).lt
  clear k0 kc k6 t0 HC hb1 a2 b1 b0
  go_wp2_with (first
  | (refine wpList_allocStore (cs := cs) rfl rfl 43 ?ho (.tmp 8) (.tmp 31) ?ho2 Try.zeroSt ?hz ?hx ?hy ?hn ?h1 ?_
     case ho => with_reducible rfl
     case ho2 => rfl
     case hz => rfl
     case hx => rfl
     case hy => rfl
     case hn => exact HS3.out
     case h1 => exact HO.out))
  generalize w1.alloc (.cells cs 43) = W2 at *
  generalize w1.heap.size = g8 at *
  refine (HT _ t1).mono ?_
  rintro e w3 ⟨rfl, t3, hg3⟩
  have k8' := blk_grw k8 hg3 (fun e => by injection e with e; omega)
  have k6'' := blk_grw k6' hg3 (fun e => by injection e with e; omega)
  have gg := grown_tr (grown_of b2 (some g)) hg3
  clear k8 k6' kc' t1 b2 hg3 d0 d1
  go_wp2_with (first
  | (refine wpList_loadBlk (g := g8) (t := 43) (cs := cs) rfl 43 (.tmp 8) ?ho ?hx ?hA _ Try.underlying43 rfl ?hi ?_
     case ho => with_reducible rfl
     case hx => rfl
     case hA => exact k8'
     case hi => exact HI.out)
  | (refine wpList_storeBlk (g := w.heap.size + 2) (t := 43) (cs := cs) rfl 43 (.tmp 6) (.tmp 44) ?ho ?hx2 ?hy2 #[.slice none 0 0, .int .i64 0, .int .i64 0] k6'' ?hi ?hs ?h1 ?_
     case ho => with_reducible rfl
     case hx2 => rfl
     case hy2 => rfl
     case hi => exact HI.out
     case hs => rw [HS3.out]; rfl
     case h1 => exact HO.out
     intro w5 kb hg5
     have hF := Lib.hid (And.intro (t3.gr hg5 (by omega)) (grown_in gg hg5 (by omega)))
     clear t3 gg hg5))
  exact bodyPost_blk2 rfl _ rfl kb Try.underlying43 rfl HI.out rfl ⟨rfl, hF.out.1, hF.out.2⟩

set_option maxHeartbeats 1000000 in
theorem step_big (g : Nat) (A1 : Option Addr) (n1 c1 : Nat) (f1 : Int) (l1 : List UInt8) (A2 : Option Addr) (n2 c2 : Nat) (f2 : Int) (l2 : List UInt8) (A : Option Addr) (n c at_ : Nat) (f m : Int) (cs : Array Value) (w : World) (hk : Tk w g A1 n1 c1 f1 l1) (hcs : cs.size = 3) (hc1 : cs.all (·.oneCell') = true) (V : Nat)
    (HR : ∀ W, Below w.heap.size w W → Calls Try.prog 21 #[.agg (stC A n c at_ f), .int .i64 m, .bool true] W fun e w' => e = .returned (.tuple #[.agg cs, .int .u64 (V : Int)]) ∧ Below W.heap.size W w')
    (HT : ∀ W, Tk W g A1 n1 c1 f1 l1 → Calls Try.prog 11 #[.pointer (some ⟨g, 0, none⟩), .int .i64 m] W fun e w' => e = .returned (.int .u64 (V : Int)) ∧ Tk w' g A2 n2 c2 f2 l2 ∧ W.grownBy w' (some g)) :
    Calls Try.prog 15 #[.pointer (some ⟨g, 0, none⟩), .agg (stC A n c at_ f), .agg #[.int .i64 1, .int .i64 m]] w fun e w' => e = .returned (.tuple #[.agg cs, .bool true]) ∧ Tk w' g A2 n2 c2 f2 l2 ∧ w.grownBy w' (some g) := by
  have hgl := hk.lt
  generalize hs0 : stC A n c at_ f = s0 at *
  have k0 : Blk (((w.alloc (.cells s0 43)).alloc (.cells #[.int .i64 1, .int .i64 m] 35)).alloc (.cells #[.slice none 0 0, .int .i64 0, .int .i64 0] 43)) w.heap.size 43 s0 := ((blk_new _ _ _).alloc _).alloc _
  have kc : Blk (((w.alloc (.cells s0 43)).alloc (.cells #[.int .i64 1, .int .i64 m] 35)).alloc (.cells #[.slice none 0 0, .int .i64 0, .int .i64 0] 43)) (w.heap.size + 1) 35 #[.int .i64 1, .int .i64 m] := (blk_new' _ _ _ _ (by simp)).alloc _
  have k6 : Blk (((w.alloc (.cells s0 43)).alloc (.cells #[.int .i64 1, .int .i64 m] 35)).alloc (.cells #[.slice none 0 0, .int .i64 0, .int .i64 0] 43)) (w.heap.size + 2) 43 #[.slice none 0 0, .int .i64 0, .int .i64 0] := blk_new' _ _ _ _ (by simp)
  have b0 : Below w.heap.size w (((w.alloc (.cells s0 43)).alloc (.cells #[.int .i64 1, .int .i64 m] 35)).alloc (.cells #[.slice none 0 0, .int .i64 0, .int .i64 0] 43)) := (((Below.refl _ _).alloc (Nat.le_refl _) _).alloc (by simp) _).alloc (by simp; omega) _
  have t0 := hk.on b0
  have HC := Lib.hid (HR _ b0)
  have HI : Hid ((Try.prog.info? 43).map (·.size) = some cs.size) := Lib.hid (by rw [hcs]; exact Try.sizeSt)
  have HS3 := Lib.hid hcs
  have HO := Lib.hid hc1
  have d0 := blk_cell2 kc 0 _ rfl
  have d1 := blk_cell2 kc 1 _ rfl
  clear HR
  go_enter Try.func15, Try.ntmps15
  go_wp2_with (first
  | (refine wpList_loadBlk (g := w.heap.size) (t := 43) (cs := s0) rfl 43 (.tmp 4) ?ho ?hx ?hA _ Try.underlying43 rfl ?hi ?_
     case ho => with_reducible rfl
     case hx => rfl
     case hA => exact k0
     case hi => rw [← hs0]; exact Try.sizeSt))
  generalize (((w.alloc (.cells s0 43)).alloc (.cells #[.int .i64 1, .int .i64 m] 35)).alloc (.cells #[.slice none 0 0, .int .i64 0, .int .i64 0] 43)) = W at *
  refine HC.out.mono ?_
  rintro e w1 ⟨rfl, hb1⟩
  have b1 := Below.on b0 b0.size hb1
  have a2 : Below w1.heap.size w1 (w1.alloc (.cells cs 43)) := (Below.refl _ _).alloc (Nat.le_refl _) _
  have k8 : Blk (w1.alloc (.cells cs 43)) w1.heap.size 43 cs := blk_new _ _ _
  have k6' := (k6.on hb1).on a2
  have kc' := (kc.on hb1).on a2
  have t1 := (t0.on hb1).on a2
  have b2 := Below.on b1 b1.size a2
  have d0 := blk_cell2 kc' 0 _ rfl
  have d1 := blk_cell2 kc' 1 _ rfl
  have hl6 := (k6.on hb1).lt
  clear k0 kc k6 t0 HC hb1 a2 b1 b0
  go_wp2_with (first
  | (refine wpList_allocStore (cs := cs) rfl rfl 43 ?ho (.tmp 8) (.tmp 31) ?ho2 Try.zeroSt ?hz ?hx ?hy ?hn ?h1 ?_
     case ho => with_reducible rfl
     case ho2 => rfl
     case hz => rfl
     case hx => rfl
     case hy => rfl
     case hn => exact HS3.out
     case h1 => exact HO.out))
  generalize w1.alloc (.cells cs 43) = W2 at *
  generalize w1.heap.size = g8 at *
  refine (HT _ t1).mono ?_
  rintro e w3 ⟨rfl, t3, hg3⟩
  have k8' := blk_grw k8 hg3 (fun e => by injection e with e; omega)
  have k6'' := blk_grw k6' hg3 (fun e => by injection e with e; omega)
  have gg := grown_tr (grown_of b2 (some g)) hg3
  clear k8 k6' kc' t1 b2 hg3 d0 d1
  go_wp2_with (first
  | (refine wpList_loadBlk (g := g8) (t := 43) (cs := cs) rfl 43 (.tmp 8) ?ho ?hx ?hA _ Try.underlying43 rfl ?hi ?_
     case ho => with_reducible rfl
     case hx => rfl
     case hA => exact k8'
     case hi => exact HI.out)
  | (refine wpList_storeBlk (g := w.heap.size + 2) (t := 43) (cs := cs) rfl 43 (.tmp 6) (.tmp 44) ?ho ?hx2 ?hy2 #[.slice none 0 0, .int .i64 0, .int .i64 0] k6'' ?hi ?hs ?h1 ?_
     case ho => with_reducible rfl
     case hx2 => rfl
     case hy2 => rfl
     case hi => exact HI.out
     case hs => rw [HS3.out]; rfl
     case h1 => exact HO.out
     intro w5 kb hg5
     have hF := Lib.hid (And.intro (t3.gr hg5 (by omega)) (grown_in gg hg5 (by omega)))
     clear t3 gg hg5))
  exact bodyPost_blk2 rfl _ rfl kb Try.underlying43 rfl HI.out rfl ⟨rfl, hF.out.1, hF.out.2⟩

end Go.Proofs.Ytlppjndkflfgaaa
