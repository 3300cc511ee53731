
/- Contracts: cookie.Parse of a message. -/
import Derived.Test.YtlllakjimgomjaaCokB
namespace Go.Proofs.Ytlllakjimgomjaa
open Go.RowKit

set_option maxHeartbeats 2000000 in
theorem cookieParse_ok (A : Option Addr) (c : Nat) (t : List UInt8) (w : World) (hs : Shows w w.heap.size A 64 (3 :: 0 :: 0 :: 0 :: t)) :
    Calls Try.prog 45 #[.slice A 64 c] w fun e w' => e = .returned (.tuple #[.agg (mcs [leNat ((t.drop 0).take 4)] (t.drop 4)), .int .i64 0]) ∧ Below w.heap.size w w' := by
  rw [List.drop_zero]
  have hl : t.length = 60 := by have := hs.len; simp at this; omega
  have hr : leNat (t.take 4) < 4294967296 := by have := leNat_take_lt t 4; simpa using this
  have hL : (t.drop 4).length = 56 := by simp; omega
  generalize hR : leNat (t.take 4) = r at *
  generalize hLL : t.drop 4 = L at *
  have HR := Lib.hid hR
  have HLL := Lib.hid hLL
  clear hR hLL
  have hw : IntKind.u32.wrap (r : Int) = (r : Int) := by rw [IntKind.wrap_u32]; omega
  go_enter Try.func45, Try.ntmps45
  go_wp2_with fail
  have hs0 := (hs.alloc (Nat.le_refl _) (.cells (mcs [0] (zer 56)) 54)).up (show w.heap.size ≤ (w.alloc (.cells (mcs [0] (zer 56)) 54)).heap.size by simp)
  refine (take_ok A 64 c 3 t 64 64 _ (by omega) (by omega) (by omega) (by omega) hs0).mono ?_
  rintro e w1 ⟨g, A', c', rfl, hg, ht1, hb1⟩
  have k1 := (blk_new w 54 (mcs [0] (zer 56))).on hb1
  have hbw1 := Below.step (Below.refl w.heap.size w) (Nat.le_refl _) hb1
  have hgw : w.heap.size < g := by simp at hg; omega
  clear hb1 hs0 hs hg
  go_wp2_with fail
  refine (little_tk g _ (64 - 4) _ 4 t w1 ht1 (by omega) (by omega) (by omega)).mono ?_
  rintro e w3 ⟨rfl, ht3, hg3⟩
  rw [HR.out]
  have k3 := k1.grown hg3 (by omega)
  have hbw3 := below_grown hbw1 hg3 hbw1.size (by omega)
  have hgl := ht3.lt
  clear ht1 k1 hg3 hbw1
  generalize restAt A' c' 4 = A'' at *
  generalize c' - 4 = c'' at *
  rw [HLL.out] at ht3
  have m4 := blk_new w3 54 (mcs [r] (part0 L 56 0))
  have ht4 := ht3.on ((Below.refl _ _).alloc (Nat.le_refl _) (.cells (mcs [r] (part0 L 56 0)) 54))
  have k4 := k3.alloc (.cells (mcs [r] (part0 L 56 0)) 54)
  have hbw4 := hbw3.alloc hbw3.size (.cells (mcs [r] (part0 L 56 0)) 54)
  have hk3 := k3.lt
  generalize hw4 : w3.alloc (.cells (mcs [r] (part0 L 56 0)) 54) = w4 at *
  generalize hg3 : w3.heap.size = g3 at *
  have Hw4 := Lib.hid hw4
  have Hg3 := Lib.hid hg3
  clear ht3 k3 hbw3 hw4 hg3
  go_wp2_with (
    refine wpList_allocStore (cs := mcs [r] (part0 L 56 0)) rfl rfl 54 ?ho (.tmp 6) (.tmp 19) ?ho2 Try.zeroCok ?hz ?hx ?hy ?hn ?h1 ?_
    case ho => with_reducible rfl
    case ho2 => rfl
    case hz => rfl
    case hx => rfl
    case hy => rw [part0_zero]; rfl
    case hn => rw [mcs_size, part0_len L 56 0 hL (by omega)]; rfl
    case h1 => exact mcs_one _ _
    rw [Hw4.out, Hg3.out])
  have ht5 : Tk w4.drew g _ 56 _ 0 (L.drop 0) := ht4
  have m5 : Blk w4.drew g3 54 (mcs [r] (part0 L 56 0)) := m4
  have k5 : Blk w4.drew w.heap.size 54 (mcs [0] (zer 56)) := k4
  have hbw5 : Below w.heap.size w w4.drew := hbw4.drew
  have hsz5 : g3 < w4.drew.heap.size := m5.lt
  clear ht4 m4 k4 hbw4
  go_wp2_with fail
  go_region_law (first
    | (go_simp
       go_at_call 14
       refine (bytes_ok g _ 56 _ 24 _ _ ht5 ?e1 ?e2).mono ?_
       case e1 => omega
       case e2 => omega
       rintro e w6 ⟨b5, rfl, hb6, ho6, ht6, hg6⟩
       have m6 := m5.grown hg6 (by omega)
       have k6 := k5.grown hg6 (by omega)
       have hbw6 := below_grown hbw5 hg6 hbw5.size (by omega)
       have s6 := ho6.shown)
    | (refine step_copyMsg rfl (.tmp 21) (.tmp 23) rfl g3 1 24 24 24 ⟨b5, 0, none⟩ rfl rfl 54 [r] L 56 0 m6 hL ?e3 rfl s6 ?_
       case e3 => omega
       intro w7 m7 hb7
       have k7 := k6.below hb7 hk3
       have ht7 := ht6.below hb7 hgl
       have hbw7 := hbw6.trans (hb7.mono (by omega))))
  clear ht6 m6 k6 hbw6 s6 ho6 hg6 hb7 ht5 m5 k5 hbw5
  rw [List.drop_drop] at ht7
  have ht8 : Tk w7.drew g _ 32 _ 0 (L.drop 24) := ht7
  have m8 : Blk w7.drew g3 54 (mcs [r] (part0 L 56 24)) := m7
  have k8 : Blk w7.drew w.heap.size 54 (mcs [0] (zer 56)) := k7
  have hbw8 : Below w.heap.size w w7.drew := hbw7.drew
  have hsz8 : g3 < w7.drew.heap.size := m8.lt
  clear ht7 m7 k7 hbw7
  go_wp2_with fail
  go_region_law (first
    | (go_simp
       go_at_call 14
       refine (bytes_ok g _ 32 _ 32 _ _ ht8 ?e1 ?e2).mono ?_
       case e1 => omega
       case e2 => omega
       rintro e w9 ⟨b8, rfl, hb9, ho9, ht9, hg9⟩
       have m9 := m8.grown hg9 (by omega)
       have k9 := k8.grown hg9 (by omega)
       have hbw9 := below_grown hbw8 hg9 hbw8.size (by omega)
       have s9 := ho9.shown)
    | (refine step_copyMsg rfl (.tmp 26) (.tmp 28) rfl g3 25 32 32 32 ⟨b8, 0, none⟩ rfl rfl 54 [r] L 56 24 m9 hL ?e3 rfl s9 ?_
       case e3 => omega
       intro w10 m10 hb10
       have k10 := k9.below hb10 hk3
       have ht10 := ht9.below hb10 hgl
       have hbw10 := hbw9.trans (hb10.mono (by omega))))
  clear ht9 m9 k9 hbw9 s9 ho9 hg9 hb10 ht8 m8 k8 hbw8
  rw [List.drop_drop] at ht10
  rw [show 24 + 32 = 56 by omega, part0_all L 56 hL] at m10
  clear ht10
  go_wp2_with (first
    | (refine wpList_loadBlk (g := g3) (t := 54) (cs := mcs [r] L) rfl 54 (.tmp 6) ?ho ?hx ?hA _ Try.underlying54 rfl ?hi ?_
       case ho => with_reducible rfl
       case hx => rfl
       case hA => exact m10
       case hi => exact Cok_size r L hL)
    | (refine wpList_storeBlk (g := w.heap.size) (t := 54) (cs := mcs [r] L) rfl 54 (.tmp 2) (.tmp 30) ?ho ?hx2 ?hy2 (mcs [0] (zer 56)) k10 ?hi ?hs ?h1 ?_
       case ho => with_reducible rfl
       case hx2 => rfl
       case hy2 => rfl
       case hi => exact Cok_size r L hL
       case hs => rw [mcs_size, mcs_size, hL]; rfl
       case h1 => exact mcs_one _ _
       intro w11 hB hg))
  refine bodyPost_blk2 rfl _ rfl hB Try.underlying54 rfl (Cok_size r L hL) rfl ⟨rfl, ?_⟩
  exact hbw10.grown hg hbw10.size (fun k hk => by injection hk with hk; omega)

end Go.Proofs.Ytlllakjimgomjaa
