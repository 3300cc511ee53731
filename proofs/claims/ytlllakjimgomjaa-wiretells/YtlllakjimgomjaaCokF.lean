
/- Contracts: ref15.Parse of a message. -/
import Derived.Test.YtlllakjimgomjaaCokE
namespace Go.Proofs.Ytlllakjimgomjaa
open Go.RowKit

set_option maxHeartbeats 2000000 in
set_option maxRecDepth 100000 in
theorem ref15Parse_ok (A : Option Addr) (n c : Nat) (t : List UInt8) (w : World) (hn : n = 64) (hnc : n ≤ c) (hs : Shows w w.heap.size A n (3 :: 0 :: 0 :: 0 :: t)) :
    Calls Try.prog 49 #[.slice A n c] w fun e w' => e = .returned (.tuple #[.agg (mcs [leNat ((t.drop 0).take 4)] (t.drop 4)), .int .i64 0]) ∧ Below w.heap.size w w' := by
  subst hn
  have htl : t.length = 60 := by have := hs.len; simp at this; omega
  obtain ⟨b, off, e, hb, hcell⟩ := hs.2 (by omega)
  subst e
  have c0 := hcell 0 (by simp)
  have c1 := hcell 1 (by simp)
  have c2 := hcell 2 (by simp)
  have c3 := hcell 3 (by simp)
  simp only [List.getElem_cons_zero, List.getElem_cons_succ, Nat.add_zero] at c0 c1 c2 c3
  clear hcell
  have hL : (t.drop 4).length = 56 := by simp; omega
  have hby : ∀ j c', (t.drop 4)[j]? = some c' → (3 :: 0 :: 0 :: 0 :: t)[8 + j]? = some c' := by
    intro j c' h
    rw [List.getElem?_drop] at h
    rw [show 8 + j = (4 + j) + 1 + 1 + 1 + 1 by omega]
    simpa using h
  have hr0 : leNat ((t.drop 0).take 4) < 4294967296 := by have := leNat_take_lt (t.drop 0) 4; simpa using this
  have HG0 := Lib.hid (fun (W : World) (c' : Nat) (hW : Below w.heap.size w W) => get_any (some ⟨b, off + 4, none⟩) 4 c' ((t.drop 0).take 4) W (by omega) (((hs.piece 4 4 (by omega)).below hW).up hW.size))
  generalize leNat ((t.drop 0).take 4) = r0 at *
  have hw0 : IntKind.u32.wrap (r0 : Int) = (r0 : Int) := by rw [IntKind.wrap_u32]; omega
  have e0 : ¬ c = 4 := by omega
  generalize t.drop 4 = L at *
  have hcc : (64 : Int) ≤ (c : Int) := by omega
  have hc8 : (8 : Int) ≤ (c : Int) := by omega
  have hc12 : (12 : Int) ≤ (c : Int) := by omega
  have hz := (zero_of_info Try.zeroCok).1
  obtain ⟨k0, x0, hb0⟩ := Cok_two w
  have hsz0 : ((w.alloc (.cells (mcs [0] (zer 56)) 54)).alloc (.cells (mcs [0] (zer 56)) 54)).heap.size = w.heap.size + 2 := by simp
  go_enter Try.func49, Try.ntmps49
  go_wp2_with fail
  generalize (w.alloc (.cells (mcs [0] (zer 56)) 54)).alloc (.cells (mcs [0] (zer 56)) 54) = w0 at *
  refine (HG0.out w0 _ hb0).mono ?_
  rintro e wx ⟨rfl, rfl⟩
  have q0 := x0.num (j := 0) rfl
  have f0 := x0.frozen 0
  have x1 : Blk (w0.setCell ⟨w.heap.size + 1, 0, none⟩ (.int .u32 (r0 : Int))) (w.heap.size + 1) 54 (mcs [r0] (zer 56)) := by
    have := x0.setCell 0 (.int .u32 (r0 : Int))
    rw [mcs_setNum _ _ 0 _ (by simp)] at this
    exact this
  have k1 := k0.other ⟨w.heap.size + 1, 0, none⟩ (.int .u32 (r0 : Int)) (by show w.heap.size ≠ w.heap.size + 1; omega)
  have hb1 := below_grown hb0 (setCell_grown w0 (w.heap.size + 1) 0 (.int .u32 (r0 : Int))) hb0.size (show w.heap.size ≤ w.heap.size + 1 by omega)
  clear x0 k0 hb0
  rw [← part0_zero L 56] at x1
  go_wp2
  go_loopw [5] (fun i wr => ∃ j : Nat, j ≤ 24 ∧ i = .int .i64 j ∧ Blk wr (w.heap.size + 1) 54 (mcs [r0] (part0 L 56 (0 + j))) ∧ Blk wr w.heap.size 54 (mcs [0] (zer 56)) ∧ Below w.heap.size w wr) (fun i _ => 24 - (intOf i).toNat)
  case atStart => exact ⟨0, Nat.zero_le _, rfl, x1, k1, hb1⟩
  case round =>
    clear x1 k1 hb1
    obtain ⟨j, hj, rfl, hblk, hkk, hbel⟩ := hrel
    by_cases hlt : j < 24
    · obtain ⟨c', hc'⟩ : ∃ c', L[0 + j]? = some c' := ⟨L[0 + j]'(by omega), List.getElem?_eq_getElem _⟩
      obtain ⟨b', off', x', eA, _, hcl, _, hlx⟩ := (hs.below hbel).byte (k := 8 + (0 + j)) (by omega)
      obtain rfl : x' = c' := by have := hby _ _ hc'; rw [hlx] at this; injection this
      injection eA with eA
      injection eA with eA1 eA2
      subst eA1
      subst eA2
      have hcl2 : wr.cell? ⟨b, off + (8 + j), none⟩ = some (.int .u8 (x'.toNat : Int)) := by rw [show off + (8 + j) = off + (8 + (0 + j)) by omega]; exact hcl
      obtain ⟨y, hy⟩ : ∃ y, (part0 L 56 (0 + j))[0 + j]? = some y := ⟨(part0 L 56 (0 + j))[0 + j]'(by rw [part0_len L 56 _ hL (by omega)]; omega), List.getElem?_eq_getElem _⟩
      have hold := hblk.byte hy (1 + j) (by simp <;> omega)
      have hfz := hblk.frozen (1 + j)
      have hnew : Blk (wr.setCell ⟨w.heap.size + 1, 1 + j, none⟩ (bv x')) (w.heap.size + 1) 54 (mcs [r0] (part0 L 56 (0 + (j + 1)))) := by
        have := hblk.setCell (1 + j) (bv x')
        rw [mcs_set _ _ (0 + j) x' (1 + j) (by simp <;> omega), part0_set L 56 _ x' hL hc', Nat.add_assoc] at this
        exact this
      have hkn := hkk.other ⟨w.heap.size + 1, 1 + j, none⟩ (bv x') (by show w.heap.size ≠ w.heap.size + 1; omega)
      have hbn := below_grown hbel (setCell_grown wr (w.heap.size + 1) (1 + j) (bv x')) hbel.size (show w.heap.size ≤ w.heap.size + 1 by omega)
      have hi1 : (8 : Int) + (j : Int) < 64 := by omega
      clear hy hc' hlx hcl hblk hkk hbel
      go_wp2
      go_roundw
      case rel => first | exact ⟨j + 1, by omega, by go_num, hnew, hkn, hbn⟩ | ((repeat apply Exists.intro); exact ⟨⟨j + 1, by omega, by go_num, hnew, hkn, hbn⟩, rfl⟩)
      case measure => simp [intOf] <;> omega
    · obtain rfl : j = 24 := by omega
      have hblk0 := hblk
      have hkk0 := hkk
      have hbel0 := hbel
      clear hblk hkk hbel hlt hj
      go_wp2
      go_loopw [6] (fun i wr => ∃ j : Nat, j ≤ 32 ∧ i = .int .i64 j ∧ Blk wr (w.heap.size + 1) 54 (mcs [r0] (part0 L 56 (24 + j))) ∧ Blk wr w.heap.size 54 (mcs [0] (zer 56)) ∧ Below w.heap.size w wr) (fun i _ => 32 - (intOf i).toNat)
      case atStart => exact ⟨0, Nat.zero_le _, rfl, hblk0, hkk0, hbel0⟩
      case round =>
        clear hblk0 hkk0 hbel0
        obtain ⟨j, hj, rfl, hblk, hkk, hbel⟩ := hrel
        by_cases hlt : j < 32
        · obtain ⟨c', hc'⟩ : ∃ c', L[24 + j]? = some c' := ⟨L[24 + j]'(by omega), List.getElem?_eq_getElem _⟩
          obtain ⟨b', off', x', eA, _, hcl, _, hlx⟩ := (hs.below hbel).byte (k := 8 + (24 + j)) (by omega)
          obtain rfl : x' = c' := by have := hby _ _ hc'; rw [hlx] at this; injection this
          injection eA with eA
          injection eA with eA1 eA2
          subst eA1
          subst eA2
          have hcl2 : wr.cell? ⟨b, off + (32 + j), none⟩ = some (.int .u8 (x'.toNat : Int)) := by rw [show off + (32 + j) = off + (8 + (24 + j)) by omega]; exact hcl
          obtain ⟨y, hy⟩ : ∃ y, (part0 L 56 (24 + j))[24 + j]? = some y := ⟨(part0 L 56 (24 + j))[24 + j]'(by rw [part0_len L 56 _ hL (by omega)]; omega), List.getElem?_eq_getElem _⟩
          have hold := hblk.byte hy (25 + j) (by simp <;> omega)
          have hfz := hblk.frozen (25 + j)
          have hnew : Blk (wr.setCell ⟨w.heap.size + 1, 25 + j, none⟩ (bv x')) (w.heap.size + 1) 54 (mcs [r0] (part0 L 56 (24 + (j + 1)))) := by
            have := hblk.setCell (25 + j) (bv x')
            rw [mcs_set _ _ (24 + j) x' (25 + j) (by simp <;> omega), part0_set L 56 _ x' hL hc', Nat.add_assoc] at this
            exact this
          have hkn := hkk.other ⟨w.heap.size + 1, 25 + j, none⟩ (bv x') (by show w.heap.size ≠ w.heap.size + 1; omega)
          have hbn := below_grown hbel (setCell_grown wr (w.heap.size + 1) (25 + j) (bv x')) hbel.size (show w.heap.size ≤ w.heap.size + 1 by omega)
          have hi1 : (32 : Int) + (j : Int) < 64 := by omega
          clear hy hc' hlx hcl hblk hkk hbel
          go_wp2
          go_roundw
          case rel => first | exact ⟨j + 1, by omega, by go_num, hnew, hkn, hbn⟩ | ((repeat apply Exists.intro); exact ⟨⟨j + 1, by omega, by go_num, hnew, hkn, hbn⟩, rfl⟩)
          case measure => simp [intOf] <;> omega
        · obtain rfl : j = 32 := by omega
          have hblk1 := hblk
          have hkk1 := hkk
          have hbel1 := hbel
          clear hblk hkk hbel hlt hj
          rw [show 24 + 32 = 56 by omega, part0_all L 56 hL] at hblk1
          go_wp2_with (first
            | (refine wpList_loadBlk (g := w.heap.size + 1) (t := 54) (cs := mcs [r0] L) rfl 54 (.tmp 4) ?ho ?hx ?hA _ Try.underlying54 rfl ?hi ?_
               case ho => with_reducible rfl
               case hx => rfl
               case hA => exact hblk1
               case hi => exact Cok_size r0 L hL)
            | (refine wpList_storeBlk (g := w.heap.size) (t := 54) (cs := mcs [r0] L) rfl 54 (.tmp 2) (.tmp 66) ?ho ?hx2 ?hy2 (mcs [0] (zer 56)) hkk1 ?hi ?hs ?h1 ?_
               case ho => with_reducible rfl
               case hx2 => rfl
               case hy2 => rfl
               case hi => exact Cok_size r0 L hL
               case hs => rw [mcs_size, mcs_size, hL]; rfl
               case h1 => exact mcs_one _ _
               intro w9 hB hg))
          refine bodyPost_blk2 rfl _ rfl hB Try.underlying54 rfl (Cok_size r0 L hL) rfl ⟨rfl, ?_⟩
          exact hbel1.grown hg hbel1.size (fun k hk => by injection hk with hk; omega)

end Go.Proofs.Ytlllakjimgomjaa
