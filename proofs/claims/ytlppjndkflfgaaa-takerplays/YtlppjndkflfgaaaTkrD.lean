
/- Contracts of layer 2's reference: crawlwayref02.Zeros. -/
import Derived.Test.YtlppjndkflfgaaaTkrC
namespace Go.Proofs.Ytlppjndkflfgaaa
open Go.RowKit
set_option linter.unusedSimpArgs false

set_option maxHeartbeats 1000000 in
theorem rzeros_no (A : Option Addr) (n c at_ : Nat) (f m : Int) (w : World) (hat : at_ ≤ n) (hn : n ≤ 1000000) (hm : -9223372036854775808 ≤ m ∧ m ≤ 9223372036854775807) (hE : canE (n - at_) f m (decide (0 ≤ m)) ≠ 0) :
    Calls Try.prog 24 #[.agg (stC A n c at_ f), .int .i64 m] w fun e w' => e = .returned (.tuple #[.agg (stC A n c at_ (canE (n - at_) f m (decide (0 ≤ m)))), .bool false]) ∧ Below w.heap.size w w' := by
  have k0 : Blk ((w.alloc (.cells (stC A n c at_ f) 43)).alloc (.cells #[.slice none 0 0, .int .i64 0, .int .i64 0] 43)) w.heap.size 43 (stC A n c at_ f) := (blk_new _ _ _).alloc _
  have k1 : Blk ((w.alloc (.cells (stC A n c at_ f) 43)).alloc (.cells #[.slice none 0 0, .int .i64 0, .int .i64 0] 43)) (w.heap.size + 1) 43 #[.slice none 0 0, .int .i64 0, .int .i64 0] := blk_new' _ _ _ _ (by simp)
  have b0 : Below w.heap.size w ((w.alloc (.cells (stC A n c at_ f) 43)).alloc (.cells #[.slice none 0 0, .int .i64 0, .int .i64 0] 43)) := ((Below.refl _ _).alloc (Nat.le_refl _) _).alloc (by simp) _
  have HB := Lib.hid (fun W => rbytes_no A n c at_ f m W hat hn hm hE)
  have hE1 : (canE (n - at_) f m (decide (0 ≤ m)) != 0) = true := by simpa using hE
  generalize canE (n - at_) f m (decide (0 ≤ m)) = E at *
  clear hE
  go_enter Try.func24, Try.ntmps24
  go_wp2_with fail
  generalize ((w.alloc (.cells (stC A n c at_ f) 43)).alloc (.cells #[.slice none 0 0, .int .i64 0, .int .i64 0] 43)) = W at *
  refine (HB.out W).mono ?_
  rintro e w1 ⟨rfl, hb1⟩
  have k2 := (k0.on hb1).alloc (.cells (stC A n c at_ E) 43)
  have k3 := (k1.on hb1).alloc (.cells (stC A n c at_ E) 43)
  have b1 := Below.on b0 b0.size hb1
  have b2 := b1.alloc b1.size (.cells (stC A n c at_ E) 43)
  have k4 : Blk (w1.alloc (.cells (stC A n c at_ E) 43)) w1.heap.size 43 (stC A n c at_ E) := blk_new _ _ _
  obtain ⟨c0, c1, c2⟩ := st_c k4
  have hlt := (k1.on hb1).lt
  clear k0 k1 b0 hb1 b1 k2 k4
  go_wp2_with (first
  | (refine wpList_allocStore (cs := stC A n c at_ E) rfl rfl 43 ?ho (.tmp 6) (.tmp 13) ?ho2 Try.zeroSt ?hz ?hx ?hy ?hn ?h1 ?_
     case ho => with_reducible rfl
     case ho2 => rfl
     case hz => rfl
     case hx => rfl
     case hy => rfl
     case hn => rfl
     case h1 => simp [stC, Value.oneCell'])
  | (refine wpList_storeBlk (g := w.heap.size + 1) (t := 43) (cs := stC A n c at_ E) rfl 43 (.tmp 4) (.tmp 18) ?ho ?hx2 ?hy2 #[.slice none 0 0, .int .i64 0, .int .i64 0] k3 ?hi ?hs ?h1 ?_
     case ho => with_reducible rfl
     case hx2 => rfl
     case hy2 => rfl
     case hi => exact Try.sizeSt
     case hs => rfl
     case h1 => simp [stC, Value.oneCell']
     intro w5 kb hg5
     have b5 : Below w.heap.size w w5 := b2.grown hg5 b2.size (fun k hk => by injection hk with hk; omega)))
  refine bodyPost_blk2 rfl _ rfl kb Try.underlying43 rfl Try.sizeSt rfl ⟨rfl, b5⟩

set_option maxHeartbeats 1000000 in
theorem rzeros_ok (A : Option Addr) (n c at_ m : Nat) (l : List UInt8) (w : World) (hn : n ≤ 1000000) (hnc : n ≤ c) (ham : at_ + m ≤ n) (h : Shows w w.heap.size A n l) (hz : ∀ j, j < m → (l.drop at_)[j]? = some 0) :
    Calls Try.prog 24 #[.agg (stC A n c at_ 0), .int .i64 (m : Int)] w fun e w' => e = .returned (.tuple #[.agg (stC A n c (at_ + m) 0), .bool true]) ∧ Below w.heap.size w w' := by
  have k0 : Blk ((w.alloc (.cells (stC A n c at_ 0) 43)).alloc (.cells #[.slice none 0 0, .int .i64 0, .int .i64 0] 43)) w.heap.size 43 (stC A n c at_ 0) := (blk_new _ _ _).alloc _
  have k1 : Blk ((w.alloc (.cells (stC A n c at_ 0) 43)).alloc (.cells #[.slice none 0 0, .int .i64 0, .int .i64 0] 43)) (w.heap.size + 1) 43 #[.slice none 0 0, .int .i64 0, .int .i64 0] := blk_new' _ _ _ _ (by simp)
  have b0 : Below w.heap.size w ((w.alloc (.cells (stC A n c at_ 0) 43)).alloc (.cells #[.slice none 0 0, .int .i64 0, .int .i64 0] 43)) := ((Below.refl _ _).alloc (Nat.le_refl _) _).alloc (by simp) _
  have HB := Lib.hid (fun W => rbytes_ok A n c at_ m W hn hnc ham)
  have h0 := (seg_shows h hnc ham).below b0
  have Hz := Lib.hid hz
  generalize restAt A c at_ = A2 at *
  clear h hz
  go_enter Try.func24, Try.ntmps24
  go_wp2_with fail
  generalize ((w.alloc (.cells (stC A n c at_ 0) 43)).alloc (.cells #[.slice none 0 0, .int .i64 0, .int .i64 0] 43)) = W at *
  refine (HB.out W).mono ?_
  rintro e w1 ⟨rfl, hb1⟩
  have k2 := (k0.on hb1).alloc (.cells (stC A n c (at_ + m) 0) 43)
  have k3 := (k1.on hb1).alloc (.cells (stC A n c (at_ + m) 0) 43)
  have b1 := Below.on b0 b0.size hb1
  have b2 := b1.alloc b1.size (.cells (stC A n c (at_ + m) 0) 43)
  have k4 : Blk (w1.alloc (.cells (stC A n c (at_ + m) 0) 43)) w1.heap.size 43 (stC A n c (at_ + m) 0) := blk_new _ _ _
  obtain ⟨c0, c1, c2⟩ := st_c k4
  have hlt := (k1.on hb1).lt
  have hseg := (h0.below (hb1.mono b0.size)).alloc b1.size (.cells (stC A n c (at_ + m) 0) 43)
  clear k0 k1 b0 hb1 b1 k2 h0
  go_wp2_with (first
  | (refine wpList_allocStore (cs := stC A n c (at_ + m) 0) rfl rfl 43 ?ho (.tmp 6) (.tmp 13) ?ho2 Try.zeroSt ?hz ?hx ?hy ?hn ?h1 ?_
     case ho => with_reducible rfl
     case ho2 => rfl
     case hz => rfl
     case hx => rfl
     case hy => rfl
     case hn => rfl
     case h1 => simp [stC, Value.oneCell']))
  generalize w1.alloc (.cells (stC A n c (at_ + m) 0) 43) = W2 at *
  generalize w1.heap.size = g2 at *
  go_loop [8] (fun i => ∃ k : Nat, k ≤ m ∧ i = .int .i64 (k : Int)) (fun i => m - (intOf i).toNat)
  case atStart => exact ⟨0, Nat.zero_le _, rfl⟩
  case round =>
    obtain ⟨k, hk, rfl⟩ := hrel
    by_cases hlt2 : k < m
    · obtain ⟨b, off, x, rfl, hb, hc, hx, hlx⟩ := hseg.byte (k := k) hlt2
      have hx0 := Hz.out k hlt2
      rw [List.getElem?_take_of_lt hlt2, hx0] at hlx
      obtain rfl : (0 : UInt8) = x := by injection hlx
      clear hlx hx0 hseg
      go_wp2
      go_round
      case rel => exact ⟨k + 1, by omega, by go_num⟩
      case measure => simp [intOf]; omega
    · obtain rfl : k = m := by omega
      clear hseg
      go_wp2_with (first
      | (refine wpList_storeBlk (g := w.heap.size + 1) (t := 43) (cs := stC A n c (at_ + k) 0) rfl 43 (.tmp 4) (.tmp 32) ?ho ?hx2 ?hy2 #[.slice none 0 0, .int .i64 0, .int .i64 0] k3 ?hi ?hs ?h1 ?_
         case ho => with_reducible rfl
         case hx2 => rfl
         case hy2 => rfl
         case hi => exact Try.sizeSt
         case hs => rfl
         case h1 => simp [stC, Value.oneCell']
         intro w5 kb hg5
         have b5 : Below w.heap.size w w5 := b2.grown hg5 b2.size (fun k hk => by injection hk with hk; omega)))
      refine bodyPost_blk2 rfl _ rfl kb Try.underlying43 rfl Try.sizeSt rfl ⟨rfl, b5⟩

set_option maxHeartbeats 1000000 in
theorem rzeros_not (A : Option Addr) (n c at_ m K : Nat) (x : UInt8) (l : List UInt8) (w : World) (hn : n ≤ 1000000) (hnc : n ≤ c) (ham : at_ + m ≤ n) (h : Shows w w.heap.size A n l) (hK : K < m) (hz : ∀ j, j < K → (l.drop at_)[j]? = some 0) (hxK : (l.drop at_)[K]? = some x) (hx0 : x ≠ 0) :
    Calls Try.prog 24 #[.agg (stC A n c at_ 0), .int .i64 (m : Int)] w fun e w' => e = .returned (.tuple #[.agg (stC A n c at_ 10), .bool false]) ∧ Below w.heap.size w w' := by
  have k0 : Blk ((w.alloc (.cells (stC A n c at_ 0) 43)).alloc (.cells #[.slice none 0 0, .int .i64 0, .int .i64 0] 43)) w.heap.size 43 (stC A n c at_ 0) := (blk_new _ _ _).alloc _
  have k1 : Blk ((w.alloc (.cells (stC A n c at_ 0) 43)).alloc (.cells #[.slice none 0 0, .int .i64 0, .int .i64 0] 43)) (w.heap.size + 1) 43 #[.slice none 0 0, .int .i64 0, .int .i64 0] := blk_new' _ _ _ _ (by simp)
  have b0 : Below w.heap.size w ((w.alloc (.cells (stC A n c at_ 0) 43)).alloc (.cells #[.slice none 0 0, .int .i64 0, .int .i64 0] 43)) := ((Below.refl _ _).alloc (Nat.le_refl _) _).alloc (by simp) _
  have HB := Lib.hid (fun W => rbytes_ok A n c at_ m W hn hnc ham)
  have h0 := (seg_shows h hnc ham).below b0
  have Hz := Lib.hid hz
  have HK := Lib.hid hxK
  have hxx : x.toNat ≠ 0 := fun e => hx0 (by apply UInt8.toNat_inj.1; simpa using e)
  generalize restAt A c at_ = A2 at *
  clear h hz hxK
  go_enter Try.func24, Try.ntmps24
  go_wp2_with fail
  generalize ((w.alloc (.cells (stC A n c at_ 0) 43)).alloc (.cells #[.slice none 0 0, .int .i64 0, .int .i64 0] 43)) = W at *
  refine (HB.out W).mono ?_
  rintro e w1 ⟨rfl, hb1⟩
  have k2 := (k0.on hb1).alloc (.cells (stC A n c (at_ + m) 0) 43)
  have k3 := (k1.on hb1).alloc (.cells (stC A n c (at_ + m) 0) 43)
  have b1 := Below.on b0 b0.size hb1
  have b2 := b1.alloc b1.size (.cells (stC A n c (at_ + m) 0) 43)
  have k4 : Blk (w1.alloc (.cells (stC A n c (at_ + m) 0) 43)) w1.heap.size 43 (stC A n c (at_ + m) 0) := blk_new _ _ _
  obtain ⟨c0, c1, c2⟩ := st_c k4
  have hlt := (k1.on hb1).lt
  have hseg := (h0.below (hb1.mono b0.size)).alloc b1.size (.cells (stC A n c (at_ + m) 0) 43)
  clear k0 k1 b0 hb1 b1 h0
  go_wp2_with (first
  | (refine wpList_allocStore (cs := stC A n c (at_ + m) 0) rfl rfl 43 ?ho (.tmp 6) (.tmp 13) ?ho2 Try.zeroSt ?hz ?hx ?hy ?hn ?h1 ?_
     case ho => with_reducible rfl
     case ho2 => rfl
     case hz => rfl
     case hx => rfl
     case hy => rfl
     case hn => rfl
     case h1 => simp [stC, Value.oneCell']))
  generalize w1.alloc (.cells (stC A n c (at_ + m) 0) 43) = W2 at *
  generalize w1.heap.size = g2 at *
  clear c0 c1 c2 k4
  go_loop [8] (fun i => ∃ k : Nat, k ≤ K ∧ i = .int .i64 (k : Int)) (fun i => m - (intOf i).toNat)
  case atStart => exact ⟨0, Nat.zero_le _, rfl⟩
  case round =>
    obtain ⟨k, hk, rfl⟩ := hrel
    by_cases hlt2 : k < K
    · obtain ⟨b, off, y, rfl, hb, hc, hy, hlx⟩ := hseg.byte (k := k) (by omega)
      have hy0 := Hz.out k hlt2
      rw [List.getElem?_take_of_lt (by omega), hy0] at hlx
      obtain rfl : (0 : UInt8) = y := by injection hlx
      clear hlx hy0 hseg k2 k3
      go_wp2
      go_round
      case rel => exact ⟨k + 1, by omega, by go_num⟩
      case measure => simp [intOf]; omega
    · obtain rfl : k = K := by omega
      obtain ⟨b, off, y, rfl, hb, hc, hy, hlx⟩ := hseg.byte (k := k) hK
      rw [List.getElem?_take_of_lt hK, HK.out] at hlx
      obtain rfl : x = y := by injection hlx
      have hd : decide ((x.toNat : Int) = 0) = false := decide_eq_false (by omega)
      have f2 := frozen_of_row _ _ 2 _ _ k2
      obtain ⟨d0, d1, d2⟩ := st_c k2
      have m3 : Blk (W2.setCell ⟨w.heap.size, 2, none⟩ (.int .i64 10)) (w.heap.size + 1) 43 #[.slice none 0 0, .int .i64 0, .int .i64 0] := k3.other _ _ (by simp)
      have mb : Below w.heap.size w (W2.setCell ⟨w.heap.size, 2, none⟩ (.int .i64 10)) := b2.setCell (Nat.le_refl _) _
      have m2 : Blk (W2.setCell ⟨w.heap.size, 2, none⟩ (.int .i64 10)) w.heap.size 43 (stC A n c at_ 10) := k2.setCell 2 _
      obtain ⟨e0, e1, e2⟩ := st_c m2
      clear hlx hseg k2 k3 b2 m2
      go_wp2_with (first
      | (refine wpList_storeBlk (g := w.heap.size + 1) (t := 43) (cs := stC A n c at_ 10) rfl 43 (.tmp 4) (.tmp 31) ?ho ?hx2 ?hy2 #[.slice none 0 0, .int .i64 0, .int .i64 0] m3 ?hi ?hs ?h1 ?_
         case ho => with_reducible rfl
         case hx2 => rfl
         case hy2 => rfl
         case hi => exact Try.sizeSt
         case hs => rfl
         case h1 => simp [stC, Value.oneCell']
         intro w5 kb hg5
         have b5 : Below w.heap.size w w5 := mb.grown hg5 mb.size (fun k hk => by injection hk with hk; omega)))
      refine bodyPost_blk2 rfl _ rfl kb Try.underlying43 rfl Try.sizeSt rfl ⟨rfl, b5⟩

end Go.Proofs.Ytlppjndkflfgaaa
