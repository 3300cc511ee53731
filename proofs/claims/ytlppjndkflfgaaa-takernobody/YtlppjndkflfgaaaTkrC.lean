
/- Contracts of layer 2's reference: crawlwayref02.Bytes, Zeros, where they can. -/
import Derived.Test.YtlppjndkflfgaaaTkrB
namespace Go.Proofs.Ytlppjndkflfgaaa
open Go.RowKit
set_option linter.unusedSimpArgs false

theorem Try.zeroSt : (Try.prog.info? 43).map (fun i => (i.zero, i.size)) = some (some (.agg #[.slice none 0 0, .int .i64 0, .int .i64 0]), 3) := by kernel_rfl
theorem seg_shows {V : World} {B n c at_ m : Nat} {A : Option Addr} {l : List UInt8} (hV : Shows V B A n l) (hnc : n ≤ c) (ham : at_ + m ≤ n) : Shows V B (restAt A c at_) m ((l.drop at_).take m) :=
  Sh.front (f := bv) (Sh.back (f := bv) (k := at_) (cap := c) hV (by omega) hnc) (k := m) (by omega)

set_option maxHeartbeats 1000000 in
theorem rbytes_ok (A : Option Addr) (n c at_ m : Nat) (w : World) (hn : n ≤ 1000000) (hnc : n ≤ c) (ham : at_ + m ≤ n) :
    Calls Try.prog 22 #[.agg (stC A n c at_ 0), .int .i64 (m : Int)] w fun e w' => e = .returned (.tuple #[.agg (stC A n c (at_ + m) 0), .slice (restAt A c at_) m (c - at_)]) ∧ Below w.heap.size w w' := by
  have k0 : Blk ((w.alloc (.cells (stC A n c at_ 0) 43)).alloc (.cells #[.slice none 0 0, .int .i64 0, .int .i64 0] 43)) w.heap.size 43 (stC A n c at_ 0) := (blk_new _ _ _).alloc _
  have k1 : Blk ((w.alloc (.cells (stC A n c at_ 0) 43)).alloc (.cells #[.slice none 0 0, .int .i64 0, .int .i64 0] 43)) (w.heap.size + 1) 43 #[.slice none 0 0, .int .i64 0, .int .i64 0] := blk_new' _ _ _ _ (by simp)
  have b0 : Below w.heap.size w ((w.alloc (.cells (stC A n c at_ 0) 43)).alloc (.cells #[.slice none 0 0, .int .i64 0, .int .i64 0] 43)) := ((Below.refl _ _).alloc (Nat.le_refl _) _).alloc (by simp) _
  have HC := Lib.hid (fun W => rcan_any A n c at_ 0 (m : Int) true W (by omega) hn (by omega))
  rw [canE_ok (n - at_) (m : Int) (by omega)] at HC
  by_cases hx : c = at_
  · obtain rfl : n = c := by omega
    obtain rfl : m = 0 := by omega
    obtain rfl := hx
    have hre : restAt A n n = A := by simp [restAt]
    rw [hre]
    clear hre
    go_enter Try.func22, Try.ntmps22
    go_wp2_with fail
    generalize ((w.alloc (.cells (stC A n n n 0) 43)).alloc (.cells #[.slice none 0 0, .int .i64 0, .int .i64 0] 43)) = W at *
    refine (HC.out W).mono ?_
    rintro e w1 ⟨rfl, hb1⟩
    have k2 := k0.on hb1
    have k3 := k1.on hb1
    have b1 := Below.on b0 b0.size hb1
    clear k0 k1 b0 hb1 HC
    go_wp2_with (first
    | (refine wpList_storeBlk (g := w.heap.size) (t := 43) (cs := stC A n n n 0) rfl 43 (.tmp 2) (.tmp 11) ?ho ?hx2 ?hy2 (stC A n n n 0) k2 ?hi ?hs ?h1 ?_
       case ho => with_reducible rfl
       case hx2 => rfl
       case hy2 => rfl
       case hi => exact Try.sizeSt
       case hs => rfl
       case h1 => simp [stC, Value.oneCell']
       intro w2 k4 hg2
       obtain ⟨c0, c1, c2⟩ := st_c k4
       have f1 := frozen_of_row _ _ 1 _ _ k4
       have k5 : Blk w2 (w.heap.size + 1) 43 #[.slice none 0 0, .int .i64 0, .int .i64 0] := (hg2.block _ k3.lt (fun e => by injection e with e; omega)).trans k3
       have b2 := b1.grown hg2 b1.size (fun k hk => by injection hk with hk; omega)
       have k6 : Blk (w2.setCell ⟨w.heap.size, 1, none⟩ (.int .i64 (n : Int))) w.heap.size 43 #[.slice A n n, .int .i64 (n : Int), .int .i64 0] := by simpa [stC] using k4.setCell 1 (.int .i64 (n : Int))
       have k7 : Blk (w2.setCell ⟨w.heap.size, 1, none⟩ (.int .i64 (n : Int))) (w.heap.size + 1) 43 #[.slice none 0 0, .int .i64 0, .int .i64 0] := k5.other _ _ (by simp)
       have b3 : Below w.heap.size w (w2.setCell ⟨w.heap.size, 1, none⟩ (.int .i64 (n : Int))) := b2.setCell (Nat.le_refl _) _
       clear k2 k3 b1 hg2 k4 k5 b2)
    | (refine wpList_storeBlk (g := w.heap.size + 1) (t := 43) (cs := (#[.slice A n n, .int .i64 (n : Int), .int .i64 0])) rfl 43 (.tmp 4) (.tmp 30) ?ho ?hx2 ?hy2 #[.slice none 0 0, .int .i64 0, .int .i64 0] k7 ?hi ?hs ?h1 ?_
       case ho => with_reducible rfl
       case hx2 => rfl
       case hy2 => rfl
       case hi => exact Try.sizeSt
       case hs => rfl
       case h1 => simp [stC, Value.oneCell']
       intro w5 kb hg5
       have b5 : Below w.heap.size w w5 := b3.grown hg5 b3.size (fun k hk => by injection hk with hk; omega)))
    refine bodyPost_blk2 rfl _ rfl kb Try.underlying43 rfl Try.sizeSt rfl ⟨?_, b5⟩
    simp [stC]
  · have hre : restAt A c at_ = A.map (·.add at_) := if_neg hx
    rw [hre]
    have e0 : (0 : Int) ≤ (at_ : Int) + (m : Int) := by omega
    clear hre
    go_enter Try.func22, Try.ntmps22
    go_wp2_with fail
    generalize ((w.alloc (.cells (stC A n c at_ 0) 43)).alloc (.cells #[.slice none 0 0, .int .i64 0, .int .i64 0] 43)) = W at *
    refine (HC.out W).mono ?_
    rintro e w1 ⟨rfl, hb1⟩
    have k2 := k0.on hb1
    have k3 := k1.on hb1
    have b1 := Below.on b0 b0.size hb1
    clear k0 k1 b0 hb1 HC
    go_wp2_with (first
    | (refine wpList_storeBlk (g := w.heap.size) (t := 43) (cs := stC A n c at_ 0) rfl 43 (.tmp 2) (.tmp 11) ?ho ?hx2 ?hy2 (stC A n c at_ 0) k2 ?hi ?hs ?h1 ?_
       case ho => with_reducible rfl
       case hx2 => rfl
       case hy2 => rfl
       case hi => exact Try.sizeSt
       case hs => rfl
       case h1 => simp [stC, Value.oneCell']
       intro w2 k4 hg2
       obtain ⟨c0, c1, c2⟩ := st_c k4
       have f1 := frozen_of_row _ _ 1 _ _ k4
       have k5 : Blk w2 (w.heap.size + 1) 43 #[.slice none 0 0, .int .i64 0, .int .i64 0] := (hg2.block _ k3.lt (fun e => by injection e with e; omega)).trans k3
       have b2 := b1.grown hg2 b1.size (fun k hk => by injection hk with hk; omega)
       have k6 : Blk (w2.setCell ⟨w.heap.size, 1, none⟩ (.int .i64 ((at_ : Int) + (m : Int)))) w.heap.size 43 #[.slice A n c, .int .i64 ((at_ : Int) + (m : Int)), .int .i64 0] := by simpa [stC] using k4.setCell 1 (.int .i64 ((at_ : Int) + (m : Int)))
       have k7 : Blk (w2.setCell ⟨w.heap.size, 1, none⟩ (.int .i64 ((at_ : Int) + (m : Int)))) (w.heap.size + 1) 43 #[.slice none 0 0, .int .i64 0, .int .i64 0] := k5.other _ _ (by simp)
       have b3 : Below w.heap.size w (w2.setCell ⟨w.heap.size, 1, none⟩ (.int .i64 ((at_ : Int) + (m : Int)))) := b2.setCell (Nat.le_refl _) _
       clear k2 k3 b1 hg2 k4 k5 b2)
    | (refine wpList_storeBlk (g := w.heap.size + 1) (t := 43) (cs := (#[.slice A n c, .int .i64 ((at_ : Int) + (m : Int)), .int .i64 0])) rfl 43 (.tmp 4) (.tmp 30) ?ho ?hx2 ?hy2 #[.slice none 0 0, .int .i64 0, .int .i64 0] k7 ?hi ?hs ?h1 ?_
       case ho => with_reducible rfl
       case hx2 => rfl
       case hy2 => rfl
       case hi => exact Try.sizeSt
       case hs => rfl
       case h1 => simp [stC, Value.oneCell']
       intro w5 kb hg5
       have b5 : Below w.heap.size w w5 := b3.grown hg5 b3.size (fun k hk => by injection hk with hk; omega)))
    refine bodyPost_blk2 rfl _ rfl kb Try.underlying43 rfl Try.sizeSt rfl ⟨?_, b5⟩
    simp [stC]

end Go.Proofs.Ytlppjndkflfgaaa
