
/- Contracts of layer 30: crawlwayref30.Take. -/
import Derived.Test.YtibpbgfliccacaaSesC
namespace Go.Proofs.Ytibpbgfliccacaa
open Go.RowKit
set_option linter.unusedSimpArgs false

theorem blk_gr {w w' : World} {g : Nat} {t : TypeId} {cs : Array Value} {r : Option Nat} (h : Blk w g t cs) (hg : w.grownBy w' r) (hne : r ≠ some g) : Blk w' g t cs := (hg.block g h.lt (fun e => hne e.symm)).trans h

set_option maxRecDepth 100000 in
set_option maxHeartbeats 1000000 in
theorem rtake_no (pre : List Value) (hp : pre.length = 34) (h1 : ∀ v ∈ pre, v.oneCell' = true) (nx : Nat) (A : Option Addr) (n c : Nat) (L : List Nat) (q : Nat) (w : World) (hq : q < 18446744073709551616) (hL : Sh6 w w.heap.size A n L) (hn : n ≤ 1000) (ht : topOf L < 18446744073709551616) (hcan : canB L q = false) :
    Calls Try.prog 40 #[.agg (rsC pre nx (.slice A n c)), .int .u64 (q : Int)] w fun e w' => e = .returned (.tuple #[.agg (rsC pre nx (.slice A n c)), .int .i64 16]) ∧ Below w.heap.size w w' := by
  have hz := (zero_of_info Try.zeroRs).1
  have hne : ¬ zRs = #[] := by unfold zRs; simp
  have HI : Hid ((Try.prog.info? 58).map (·.size) = some (rsC pre nx (.slice A n c)).size) := Lib.hid (by rw [rsC_size _ _ _ hp]; kernel_rfl)
  have HS : Hid (zRs.size = (rsC pre nx (.slice A n c)).size) := Lib.hid (by rw [rsC_size _ _ _ hp]; rfl)
  have HO := Lib.hid (rsC_one pre nx A n c h1)
  have HT := Lib.hid (fun (W : World) (g : Nat) (h : Blk W g 58 (rsC pre nx (.slice A n c))) => rsC_tv h hp)
  generalize rsC pre nx (.slice A n c) = M at *
  have k0 : Blk ((w.alloc (.cells M 58)).alloc (.cells zRs 58)) w.heap.size 58 M := (blk_new _ _ _).alloc _
  have k1 : Blk ((w.alloc (.cells M 58)).alloc (.cells zRs 58)) (w.heap.size + 1) 58 zRs := blk_new' _ _ _ _ (by simp)
  have hb0 : Below w.heap.size w ((w.alloc (.cells M 58)).alloc (.cells zRs 58)) := ((Below.refl _ _).alloc (Nat.le_refl _) _).alloc (by simp) _
  have hc := HT.out _ _ k0
  have HC := refCan_any A n c L q _ _ (hL.below hb0) (by omega) hq ht
  rw [hcan] at HC
  have HC' := Lib.hid HC
  clear hp h1 hL HC hcan
  go_enter Try.func40, Try.ntmps40
  go_wp2_with fail
  generalize ((w.alloc (.cells M 58)).alloc (.cells zRs 58)) = W at *
  refine HC'.out.mono ?_
  rintro e w2 ⟨rfl, rfl⟩
  go_wp2_with (first
    | (refine wpList_loadBlk (g := w.heap.size) (t := 58) (cs := M) rfl 58 (.tmp 2) ?ho ?hx ?hA _ Try.underlying58 rfl ?hi ?_
       case ho => with_reducible rfl
       case hx => rfl
       case hA => exact k0
       case hi => exact HI.out)
    | (refine wpList_storeBlk (g := w.heap.size + 1) (t := 58) (cs := M) rfl 58 (.tmp 4) (.tmp 11) ?ho ?hx2 ?hy2 zRs k1 ?hi ?hs ?h1 ?_
       case ho => with_reducible rfl
       case hx2 => rfl
       case hy2 => rfl
       case hi => exact HI.out
       case hs => exact HS.out
       case h1 => exact HO.out
       intro w5 kb hg5
       have b5 : Below w.heap.size w w5 := hb0.grown hg5 hb0.size (fun k hk => by injection hk with hk; omega)))
  refine bodyPost_blk2 rfl _ rfl kb Try.underlying58 rfl HI.out rfl ⟨rfl, b5⟩

set_option maxRecDepth 100000 in
set_option maxHeartbeats 1000000 in
theorem rtake_yes (pre : List Value) (hp : pre.length = 34) (h1 : ∀ v ∈ pre, v.oneCell' = true) (nx : Nat) (A : Option Addr) (n c : Nat) (L : List Nat) (q : Nat) (w : World) (hq : q < 18446744073709551616) (hL : Sh6 w w.heap.size A n L) (hn : n ≤ 1000) (hc0 : A = none → c = 0) (ht : topOf L < 18446744073709551616) (hcan : canB L q = true) :
    Calls Try.prog 40 #[.agg (rsC pre nx (.slice A n c)), .int .u64 (q : Int)] w fun e w' => ∃ A' c', e = .returned (.tuple #[.agg (rsC pre nx (.slice A' (n + 1) c')), .int .i64 0]) ∧ Sh6 w' w'.heap.size A' (n + 1) (L ++ [q]) ∧ (A' = none → c' = 0) ∧ (∀ a, A' = some a → w.heap.size ≤ a.block ∧ a.block < w'.heap.size) ∧ Below w.heap.size w w' := by
  have hz := (zero_of_info Try.zeroRs).1
  have hne : ¬ zRs = #[] := by unfold zRs; simp
  have HT := Lib.hid (fun (W : World) (g : Nat) (h : Blk W g 58 (rsC pre nx (.slice A n c))) => rsC_tv h hp)
  have HP := Lib.hid (fun (W : World) (g : Nat) (h : Blk W g 58 (rsC pre nx (.slice A n c))) (v : Value) => rsC_putTv h hp v)
  have HI := Lib.hid (fun (A' : Option Addr) (n' c' : Nat) => (show (Try.prog.info? 58).map (·.size) = some (rsC pre nx (.slice A' n' c')).size by rw [rsC_size _ _ _ hp]; kernel_rfl))
  have HS := Lib.hid (fun (A' : Option Addr) (n' c' : Nat) => (show zRs.size = (rsC pre nx (.slice A' n' c')).size by rw [rsC_size _ _ _ hp]; rfl))
  have HO := Lib.hid (fun (A' : Option Addr) (n' c' : Nat) => rsC_one pre nx A' n' c' h1)
  generalize hM : rsC pre nx (.slice A n c) = M at *
  have k0 : Blk ((w.alloc (.cells M 58)).alloc (.cells zRs 58)) w.heap.size 58 M := (blk_new _ _ _).alloc _
  have k1 : Blk ((w.alloc (.cells M 58)).alloc (.cells zRs 58)) (w.heap.size + 1) 58 zRs := blk_new' _ _ _ _ (by simp)
  have hb0 : Below w.heap.size w ((w.alloc (.cells M 58)).alloc (.cells zRs 58)) := ((Below.refl _ _).alloc (Nat.le_refl _) _).alloc (by simp) _
  have hc := HT.out _ _ k0
  have hL1 := hL.below hb0
  have HC := refCan_any A n c L q _ _ hL1 (by omega) hq ht
  rw [hcan] at HC
  have HC' := Lib.hid HC
  have HC0 := Lib.hid hc0
  have hsz : w.heap.size + 2 ≤ ((w.alloc (.cells M 58)).alloc (.cells zRs 58)).heap.size := by simp
  clear hp h1 hL HC hcan hM hc0
  go_enter Try.func40, Try.ntmps40
  go_wp2_with fail
  generalize ((w.alloc (.cells M 58)).alloc (.cells zRs 58)) = W at *
  refine HC'.out.mono ?_
  rintro e w2 ⟨rfl, rfl⟩
  have hL2 : Sh6 (W.alloc (.cells #[] 23)) w.heap.size A n L := hL1.alloc (by omega) _
  have k2 := k0.alloc (.cells #[] 23)
  have k3 := k1.alloc (.cells #[] 23)
  have hb2 := hb0.alloc (by omega : w.heap.size ≤ W.heap.size) (.cells #[] 23)
  have hc2 := HT.out _ _ k2
  have ho0 := own6_lit0 W (w.heap.size + 2) (by omega)
  clear k0 k1 hb0 hL1 HC'
  go_wp2_with (at_builtin; refine wpList_gappAny u6 _ rfl _ _ 22 23 (.int .u64 0) 8 rfl Try.underlying22 Try.infoU64 rfl (fun _ => rfl) (w.heap.size + 2) _ 0 [] rfl ho0 A n c _ L rfl HC0.out hL2 ?c1 ?c2 ?c3 ?_)
  case c1 => omega
  case c2 => omega
  case c3 => simp; omega
  intro v3 w3 ho3 hg3
  have hbk3 := ho3.lt
  have hne3 : ∀ g, g < w.heap.size + 2 → (Value.slice (some ⟨W.heap.size, 0, none⟩) 0 0).ownBlock ≠ some g := fun g hg e => by simp [Value.ownBlock] at e; omega
  have k4 := blk_gr k2 hg3 (hne3 _ (by omega))
  have k5 := blk_gr k3 hg3 (hne3 _ (by omega))
  have b3 := below_gr hb2 hg3 (by simp; omega) (fun k hk => by simp [Value.ownBlock] at hk; omega)
  have hs3 : w.heap.size + 2 ≤ w3.heap.size := by have := hg3.size; simp at this; omega
  try simp only [Nat.zero_add, List.nil_append] at ho3
  clear k2 k3 hb2 hL2 ho0 hg3 hne3 hc hc2
  go_wp2_with (at_builtin; refine wpList_app6 _ rfl _ _ rfl (w.heap.size + 2) _ _ L rfl (by exact ho3.alloc _) ⟨w3.heap.size, 0, none⟩ 1 q rfl ?c1 ?c2 ?c3 ?_)
  case c1 => rw [World.cell?_alloc_at (hn := rfl)]; rfl
  case c2 => omega
  case c3 => simp; omega
  intro v4 w4 ho4 hg4
  have hne4 : ∀ g, g < w.heap.size + 2 → v3.ownBlock ≠ some g := fun g hg e => by have := hbk3 _ e; omega
  have k6 := blk_gr (k4.alloc _) hg4 (hne4 _ (by omega))
  have k7 := blk_gr (k5.alloc _) hg4 (hne4 _ (by omega))
  have b4 := below_gr (b3.alloc (by omega) _) hg4 (by simp; omega) (fun k hk => by have := hbk3 _ hk; omega)
  obtain ⟨A', c', rfl, hnc, hcm, hS4⟩ := ho4.sh
  have hbk4 := ho4.lt
  have hA0 : A' = none → c' = 0 := by
    rcases ho4.2 with ⟨e, _⟩ | ⟨g', cap, cur, e, _⟩
    · injection e with e1 e2 e3
      intro _; exact e3
    · injection e with e1 e2 e3
      intro h; rw [h] at e1; cases e1
  have hs4 : w.heap.size + 2 ≤ w4.heap.size := by have := hg4.size; simp at this; omega
  clear k4 k5 b3 ho3 hg4 hne4 hbk3 hs3
  have hc4 := HT.out _ _ k6
  have hf4 := frozen_of_row _ _ 35 _ _ k6
  have m0 := HP.out _ _ k6 (.slice A' (n + 1) c')
  have m1 : Blk (w4.setCell ⟨w.heap.size, 35, none⟩ (.slice A' (n + 1) c')) (w.heap.size + 1) 58 zRs := k7.other _ _ (by simp)
  have mb : Below w.heap.size w (w4.setCell ⟨w.heap.size, 35, none⟩ (.slice A' (n + 1) c')) := b4.setCell (Nat.le_refl _) _
  have hS5 : Sh6 (w4.setCell ⟨w.heap.size, 35, none⟩ (.slice A' (n + 1) c')) w4.heap.size A' (n + 1) (L ++ [q]) := by
    refine ⟨hS4.1, fun h0 => ?_⟩
    obtain ⟨b, off, e, hb, hcl⟩ := hS4.2 h0
    have hbb : w.heap.size + 2 ≤ b := (hbk4 b (by rw [e]; rfl)).1
    refine ⟨b, off, e, hb, fun j hj => ?_⟩
    rw [World.cell?_setCell_other _ _ _ _ (by intro e; injection e with e1; omega)]
    exact hcl j hj
  have hsz5 : (w4.setCell ⟨w.heap.size, 35, none⟩ (.slice A' (n + 1) c')).heap.size = w4.heap.size := by simp [World.setCell]
  have HBK : Hid (∀ b, (Value.slice A' (n + 1) c').ownBlock = some b → w.heap.size + 2 ≤ b ∧ b < w4.heap.size) := Lib.hid (fun b h => hbk4 b h)
  clear k6 k7 b4 hS4 ho4 hbk4
  have HK := Lib.hid (And.intro hS5 hA0)
  clear hS5 hA0
  have HI2 := Lib.hid (HI.out A' (n + 1) c')
  have HS2 := Lib.hid (HS.out A' (n + 1) c')
  have HO2 := Lib.hid (HO.out A' (n + 1) c')
  generalize hM2 : rsC pre nx (.slice A' (n + 1) c') = M2 at *
  have HM2 := Lib.hid hM2
  clear hM2
  go_wp2_with (first
    | (refine wpList_loadBlk (g := w.heap.size) (t := 58) (cs := M2) rfl 58 (.tmp 2) ?ho ?hx ?hA _ Try.underlying58 rfl ?hi ?_
       case ho => with_reducible rfl
       case hx => rfl
       case hA => exact m0
       case hi => exact HI2.out)
    | (refine wpList_storeBlk (g := w.heap.size + 1) (t := 58) (cs := M2) rfl 58 (.tmp 4) (.tmp 20) ?ho ?hx2 ?hy2 zRs m1 ?hi ?hs ?h1 ?_
       case ho => with_reducible rfl
       case hx2 => rfl
       case hy2 => rfl
       case hi => exact HI2.out
       case hs => exact HS2.out
       case h1 => exact HO2.out
       intro w6 kb hg6
       have b6 : Below w.heap.size w w6 := mb.grown hg6 mb.size (fun k hk => by injection hk with hk; omega)))
  refine bodyPost_blk2 rfl _ rfl kb Try.underlying58 rfl HI2.out rfl ⟨A', c', by rw [HM2.out]; rfl, ?_, HK.out.2, fun a h => by have := HBK.out a.block (by rw [h]; rfl); have := hg6.size; simp [World.setCell] at this; omega, b6⟩
  have hx := HK.out.1
  have hsz6 := hg6.size
  refine Sh.up (B := w4.heap.size) ⟨hx.1, fun h0 => ?_⟩ (by omega)
  obtain ⟨b, off, e, hb, hcl⟩ := hx.2 h0
  have hbb := HBK.out b (by rw [e]; rfl)
  refine ⟨b, off, e, hb, fun j hj => ?_⟩
  rw [← hcl j hj]
  exact World.cell?_of_block (hg6.block b (by omega) (fun e => by injection e with e; omega))

end Go.Proofs.Ytibpbgfliccacaa
