
/- Layer 10. Contracts: addr.Of, crawlwayref10.Of at any bytes. -/
import Derived.Test.YtccidoigjdbepaaDoorAxB
namespace Go.Proofs.YtccidoigjdbepaaDoor
open Go.RowKit Dec Lin Qd
set_option maxRecDepth 100000
set_option linter.unusedVariables false

theorem Tryd.infoA4 : (Tryd.prog.info? 37).map (·.size) = some 4 := by kernel_rfl

set_option maxHeartbeats 1000000 in
theorem of4_any (b off c : Nat) (l : List UInt8) (w : World) (hs : Shows w w.heap.size (some ⟨b, off, none⟩) 4 l) :
    Calls Tryd.prog 22 #[.slice (some ⟨b, off, none⟩) 4 c] w fun e w' => e = .returned (.tuple #[.agg (adv 4 (l ++ zb 12)), .int .i64 0]) ∧ Below w.heap.size w w' := by
  have hz := (zero_of_info Tryd.zeroAddr).1
  have hne : ¬ adv 0 (zb 16) = #[] := by simp [adv]
  have hl := hs.len
  have HF := Lib.hid (fun W => four_any l hl W)
  have hY : (adv 4 (l ++ zb 12)).size = 17 := adv_size _ _ (by simp [hl, zb])
  have zs : (Tryd.prog.info? 24).map (·.size) = some (adv 4 (l ++ zb 12)).size := by rw [hY]; exact Tryd.infoAddr
  have z17 : (adv 0 (zb 16)).size = (adv 4 (l ++ zb 12)).size := by rw [hY]; rfl
  have o1 := adv_one 4 (l ++ zb 12)
  have kr : Blk (w.alloc (.cells (adv 0 (zb 16)) 24)) w.heap.size 24 (adv 0 (zb 16)) := blk_new _ _ _
  have b0 : Below w.heap.size w (w.alloc (.cells (adv 0 (zb 16)) 24)) := (Below.refl _ _).alloc (Nat.le_refl _) _
  have r0 : (w.alloc (.cells (adv 0 (zb 16)) 24)).rangeAt b off (l.map bv).toArray.toList := (hs.alloc (Nat.le_refl _) _).range
  have hi4 : (Tryd.prog.info? 37).map (·.size) = some ((l.map bv).toArray).size := by rw [show ((l.map bv).toArray).size = 4 by simp [hl]]; exact Tryd.infoA4
  have hat : ∀ W, (Instr.arrayAt 37 (.slice (some ⟨b, off, none⟩) 4 c)).run Tryd.prog W = .ok (.pointer (some ⟨b, off, none⟩)) W := fun W => run_s2a W 37 5 4 ⟨b, off, none⟩ 4 c Tryd.underlying37 (Nat.le_refl _)
  clear hs
  generalize adv 4 (l ++ zb 12) = Y at *
  generalize adv 0 (zb 16) = Z at *
  go_enter Tryd.func22, Tryd.ntmps22
  go_wp2_with (first
    | (refine wpList_loadPart (g := b) ?hw 37 (.tmp 9) ?ho (off) ?hx (l.map bv).toArray _ r0 Tryd.underlying37 rfl ?hi ?_
       case hw => rfl
       case ho => with_reducible rfl
       case hx => rfl
       case hi => exact hi4)
    | fail)
  refine (HF.out _).mono ?_; rintro e w3 ⟨rfl, hb3⟩
  have k3 := kr.on (by exact hb3)
  have b3 := Below.on b0 b0.size (by exact hb3)
  go_wp2_with (first
    | (refine wpList_storeBlk (g := w.heap.size) (t := 24) (cs := Y) ?hw 24 (.tmp 2) (.tmp 11) ?ho ?hx2 ?hy2 Z k3 ?hi ?hs ?h1 ?_
       case ho => with_reducible rfl
       case hw => rfl
       case hx2 => rfl
       case hy2 => rfl
       case hi => exact zs
       case hs => exact z17
       case h1 => exact o1
       intro w9 k9 hg9
       have b9 : Below w.heap.size w w9 := (b3).grown hg9 (b3).size (fun j hj => by injection hj with hj; omega))
    | fail)
  refine bodyPost_blk2 rfl _ rfl k9 Tryd.underlying24 rfl zs rfl ⟨rfl, b9⟩

set_option maxHeartbeats 1000000 in
theorem of16_any (b off c : Nat) (l : List UInt8) (w : World) (hs : Shows w w.heap.size (some ⟨b, off, none⟩) 16 l) :
    Calls Tryd.prog 22 #[.slice (some ⟨b, off, none⟩) 16 c] w fun e w' => e = .returned (.tuple #[.agg (adv 6 (l)), .int .i64 0]) ∧ Below w.heap.size w w' := by
  have hz := (zero_of_info Tryd.zeroAddr).1
  have hne : ¬ adv 0 (zb 16) = #[] := by simp [adv]
  have hl := hs.len
  have HF := Lib.hid (fun W => addrSix_any l hl W)
  have hY : (adv 6 (l)).size = 17 := adv_size _ _ (hl)
  have zs : (Tryd.prog.info? 24).map (·.size) = some (adv 6 (l)).size := by rw [hY]; exact Tryd.infoAddr
  have z17 : (adv 0 (zb 16)).size = (adv 6 (l)).size := by rw [hY]; rfl
  have o1 := adv_one 6 (l)
  have kr : Blk (w.alloc (.cells (adv 0 (zb 16)) 24)) w.heap.size 24 (adv 0 (zb 16)) := blk_new _ _ _
  have b0 : Below w.heap.size w (w.alloc (.cells (adv 0 (zb 16)) 24)) := (Below.refl _ _).alloc (Nat.le_refl _) _
  have r0 : (w.alloc (.cells (adv 0 (zb 16)) 24)).rangeAt b off (l.map bv).toArray.toList := (hs.alloc (Nat.le_refl _) _).range
  have hi4 : (Tryd.prog.info? 22).map (·.size) = some ((l.map bv).toArray).size := by rw [show ((l.map bv).toArray).size = 16 by simp [hl]]; exact Tryd.infoA16
  have hat : ∀ W, (Instr.arrayAt 22 (.slice (some ⟨b, off, none⟩) 16 c)).run Tryd.prog W = .ok (.pointer (some ⟨b, off, none⟩)) W := fun W => run_s2a W 22 5 16 ⟨b, off, none⟩ 16 c Tryd.underlying22 (Nat.le_refl _)
  clear hs
  generalize adv 6 (l) = Y at *
  generalize adv 0 (zb 16) = Z at *
  go_enter Tryd.func22, Tryd.ntmps22
  go_wp2_with (first
    | (refine wpList_loadPart (g := b) ?hw 22 (.tmp 15) ?ho (off) ?hx (l.map bv).toArray _ r0 Tryd.underlying22 rfl ?hi ?_
       case hw => rfl
       case ho => with_reducible rfl
       case hx => rfl
       case hi => exact hi4)
    | fail)
  refine (HF.out _).mono ?_; rintro e w3 ⟨rfl, hb3⟩
  have k3 := kr.on (by exact hb3)
  have b3 := Below.on b0 b0.size (by exact hb3)
  go_wp2_with (first
    | (refine wpList_storeBlk (g := w.heap.size) (t := 24) (cs := Y) ?hw 24 (.tmp 2) (.tmp 17) ?ho ?hx2 ?hy2 Z k3 ?hi ?hs ?h1 ?_
       case ho => with_reducible rfl
       case hw => rfl
       case hx2 => rfl
       case hy2 => rfl
       case hi => exact zs
       case hs => exact z17
       case h1 => exact o1
       intro w9 k9 hg9
       have b9 : Below w.heap.size w w9 := (b3).grown hg9 (b3).size (fun j hj => by injection hj with hj; omega))
    | fail)
  refine bodyPost_blk2 rfl _ rfl k9 Tryd.underlying24 rfl zs rfl ⟨rfl, b9⟩

set_option maxHeartbeats 1000000 in
theorem of_no (A : Option Addr) (n c : Nat) (w : World) (h4 : n ≠ 4) (h16 : n ≠ 16) :
    Calls Tryd.prog 22 #[.slice A n c] w fun e w' => e = .returned (.tuple #[.agg (adv 0 (zb 16)), .int .i64 5]) ∧ Below w.heap.size w w' := by
  have hz := (zero_of_info Tryd.zeroAddr).1
  have hne : ¬ adv 0 (zb 16) = #[] := by simp [adv]
  have zo := adv_one 0 (zb 16)
  have zi : (Tryd.prog.info? 24).map (·.size) = some (adv 0 (zb 16)).size := Tryd.infoAddr
  have kr : Blk (w.alloc (.cells (adv 0 (zb 16)) 24)) w.heap.size 24 (adv 0 (zb 16)) := blk_new _ _ _
  have b0 : Below w.heap.size w (w.alloc (.cells (adv 0 (zb 16)) 24)) := (Below.refl _ _).alloc (Nat.le_refl _) _
  have e4 : ((n : Int) == 4) = false := by simp; omega
  have e16 : ((n : Int) == 16) = false := by simp; omega
  generalize adv 0 (zb 16) = Z at *
  go_enter Tryd.func22, Tryd.ntmps22
  go_wp2_with (first
    | (refine wpList_storeBlk (g := w.heap.size) (t := 24) (cs := Z) ?hw 24 (.tmp 2) (.tmp 18) ?ho ?hx2 ?hy2 Z kr ?hi ?hs ?h1 ?_
       case ho => with_reducible rfl
       case hw => rfl
       case hx2 => rfl
       case hy2 => rfl
       case hi => exact zi
       case hs => rfl
       case h1 => exact zo
       intro w9 k9 hg9
       have b9 : Below w.heap.size w w9 := (b0).grown hg9 (b0).size (fun j hj => by injection hj with hj; omega))
    | fail)
  refine bodyPost_blk2 rfl _ rfl k9 Tryd.underlying24 rfl zi rfl ⟨rfl, b9⟩
set_option maxHeartbeats 1000000 in
theorem refOf_no (A : Option Addr) (n c : Nat) (w : World) (h4 : n ≠ 4) (h16 : n ≠ 16) :
    Calls Tryd.prog 27 #[.slice A n c] w fun e w' => e = .returned (.tuple #[.agg (adv 0 (zb 16)), .bool false]) ∧ Below w.heap.size w w' := by
  have hz := (zero_of_info Tryd.zeroAddr).1
  have hne : ¬ adv 0 (zb 16) = #[] := by simp [adv]
  have zo := adv_one 0 (zb 16)
  have zi : (Tryd.prog.info? 24).map (·.size) = some (adv 0 (zb 16)).size := Tryd.infoAddr
  have kr : Blk ((w.alloc (.cells (adv 0 (zb 16)) 24)).alloc (.cells (adv 0 (zb 16)) 24)) w.heap.size 24 (adv 0 (zb 16)) := (blk_new _ _ _).alloc _
  have k1 : Blk ((w.alloc (.cells (adv 0 (zb 16)) 24)).alloc (.cells (adv 0 (zb 16)) 24)) (w.heap.size + 1) 24 (adv 0 (zb 16)) := blk_new' _ _ _ _ (by simp)
  have b0 : Below w.heap.size w ((w.alloc (.cells (adv 0 (zb 16)) 24)).alloc (.cells (adv 0 (zb 16)) 24)) := ((Below.refl _ _).alloc (Nat.le_refl _) _).alloc (by simp) _
  have e4 : ((n : Int) != 4) = true := by rw [bne_iff_ne]; omega
  have e16 : ((n : Int) != 16) = true := by rw [bne_iff_ne]; omega
  generalize adv 0 (zb 16) = Z at *
  go_enter Tryd.func27, Tryd.ntmps27
  go_wp2_with (first
    | (refine wpList_loadBlk (g := w.heap.size + 1) (t := 24) (cs := Z) ?hw 24 (.tmp 4) ?ho ?hx ?hA _ Tryd.underlying24 rfl ?hi ?_
       case hw => rfl
       case ho => with_reducible rfl
       case hx => rfl
       case hA => exact k1
       case hi => exact zi)
    | (refine wpList_storeBlk (g := w.heap.size) (t := 24) (cs := Z) ?hw 24 (.tmp 2) (.tmp 14) ?ho ?hx2 ?hy2 Z kr ?hi ?hs ?h1 ?_
       case ho => with_reducible rfl
       case hw => rfl
       case hx2 => rfl
       case hy2 => rfl
       case hi => exact zi
       case hs => rfl
       case h1 => exact zo
       intro w9 k9 hg9
       have b9 : Below w.heap.size w w9 := (b0).grown hg9 (b0).size (fun j hj => by injection hj with hj; omega))
    | fail)
  refine bodyPost_blk2 rfl _ rfl k9 Tryd.underlying24 rfl zi rfl ⟨rfl, b9⟩
/-- What any bytes come to. -/
theorem of_both (A : Option Addr) (n c : Nat) (l : List UInt8) (w0 : World) (hs : Shows w0 w0.heap.size A n l) : ∃ (V : Int) (L : List UInt8) (E : Nat) (S : Bool), L.length = 16 ∧ ((E = 0 ∧ S = true) ∨ (E = 5 ∧ S = false)) ∧
    (∀ w : World, Below w0.heap.size w0 w → Calls Tryd.prog 22 #[.slice A n c] w fun e w' => e = .returned (.tuple #[.agg (adv V L), .int .i64 (E : Int)]) ∧ Below w.heap.size w w') ∧
    (∀ w : World, Below w0.heap.size w0 w → Calls Tryd.prog 27 #[.slice A n c] w fun e w' => e = .returned (.tuple #[.agg (adv V L), .bool S]) ∧ Below w.heap.size w w') := by
  have hl := hs.len
  by_cases h4 : n = 4
  · subst h4
    obtain ⟨b, off, rfl, _⟩ := hs.2 (by omega)
    exact ⟨4, l ++ zb 12, 0, true, by simp [hl, zb], .inl ⟨rfl, rfl⟩, fun w hb => of4_any b off c l w ((hs.below hb).up hb.size), fun w hb => refOf4 b off c l w ((hs.below hb).up hb.size)⟩
  · by_cases h16 : n = 16
    · subst h16
      obtain ⟨b, off, rfl, _⟩ := hs.2 (by omega)
      refine ⟨6, l, 0, true, hl, .inl ⟨rfl, rfl⟩, fun w hb => of16_any b off c l w ((hs.below hb).up hb.size), fun w hb => ?_⟩
      have := refOf16 b off c l w ((hs.below hb).up hb.size)
      rwa [show l ++ zb 0 = l by simp [zb]] at this
    · exact ⟨0, zb 16, 5, false, rfl, .inr ⟨rfl, rfl⟩, fun w _ => of_no A n c w h4 h16, fun w _ => refOf_no A n c w h4 h16⟩
end Go.Proofs.YtccidoigjdbepaaDoor
