
/- Contracts: ref14.Parse of a message. -/
import Derived.Test.YtlllakjimgomjaaAnsE
namespace Go.Proofs.Ytlllakjimgomjaa
open Go.RowKit

set_option maxHeartbeats 2000000 in
set_option maxRecDepth 100000 in
theorem ref14Parse_ok (A : Option Addr) (n c : Nat) (t : List UInt8) (w : World) (hn : n = 92) (hnc : n ≤ c) (hs : Shows w w.heap.size A n (2 :: 0 :: 0 :: 0 :: t)) :
    Calls Try.prog 48 #[.slice A n c] w fun e w' => e = .returned (.tuple #[.agg (mcs [leNat ((t.drop 0).take 4), leNat ((t.drop 4).take 4)] (t.drop 8)), .int .i64 0]) ∧ Below w.heap.size w w' := by
  subst hn
  have htl : t.length = 88 := by have := hs.len; simp at this; omega
  obtain ⟨b, off, e, hb, hcell⟩ := hs.2 (by omega)
  subst e
  have c0 := hcell 0 (by simp)
  have c1 := hcell 1 (by simp)
  have c2 := hcell 2 (by simp)
  have c3 := hcell 3 (by simp)
  simp only [List.getElem_cons_zero, List.getElem_cons_succ, Nat.add_zero] at c0 c1 c2 c3
  clear hcell
  have hL : (t.drop 8).length = 80 := by simp; omega
  have hby : ∀ j c', (t.drop 8)[j]? = some c' → (2 :: 0 :: 0 :: 0 :: t)[12 + j]? = some c' := by
    intro j c' h
    rw [List.getElem?_drop] at h
    rw [show 12 + j = (8 + j) + 1 + 1 + 1 + 1 by omega]
    simpa using h
  have hr0 : leNat ((t.drop 0).take 4) < 4294967296 := by have := leNat_take_lt (t.drop 0) 4; simpa using this
  have HG0 := Lib.hid (fun (W : World) (c' : Nat) (hW : Below w.heap.size w W) => get_any (some ⟨b, off + 4, none⟩) 4 c' ((t.drop 0).take 4) W (by omega) (((hs.piece 4 4 (by omega)).below hW).up hW.size))
  generalize leNat ((t.drop 0).take 4) = r0 at *
  have hw0 : IntKind.u32.wrap (r0 : Int) = (r0 : Int) := by rw [IntKind.wrap_u32]; omega
  have e0 : ¬ c = 4 := by omega
  have hr1 : leNat ((t.drop 4).take 4) < 4294967296 := by have := leNat_take_lt (t.drop 4) 4; simpa using this
  have HG1 := Lib.hid (fun (W : World) (c' : Nat) (hW : Below w.heap.size w W) => get_any (some ⟨b, off + 8, none⟩) 4 c' ((t.drop 4).take 4) W (by omega) (((hs.piece 8 4 (by omega)).below hW).up hW.size))
  generalize leNat ((t.drop 4).take 4) = r1 at *
  have hw1 : IntKind.u32.wrap (r1 : Int) = (r1 : Int) := by rw [IntKind.wrap_u32]; omega
  have e1 : ¬ c = 8 := by omega
  generalize t.drop 8 = L at *
  have hcc : (92 : Int) ≤ (c : Int) := by omega
  have hc8 : (8 : Int) ≤ (c : Int) := by omega
  have hc12 : (12 : Int) ≤ (c : Int) := by omega
  have hz := (zero_of_info Try.zeroAns).1
  obtain ⟨k0, x0, hb0⟩ := Ans_two w
  have hsz0 : ((w.alloc (.cells (mcs [0, 0] (zer 80)) 51)).alloc (.cells (mcs [0, 0] (zer 80)) 51)).heap.size = w.heap.size + 2 := by simp
  go_enter Try.func48, Try.ntmps48
  go_wp2_with fail
  generalize (w.alloc (.cells (mcs [0, 0] (zer 80)) 51)).alloc (.cells (mcs [0, 0] (zer 80)) 51) = w0 at *
  refine (HG0.out w0 _ hb0).mono ?_
  rintro e wx ⟨rfl, rfl⟩
  have q0 := x0.num (j := 0) rfl
  have f0 := x0.frozen 0
  have x1 : Blk (w0.setCell ⟨w.heap.size + 1, 0, none⟩ (.int .u32 (r0 : Int))) (w.heap.size + 1) 51 (mcs [r0, 0] (zer 80)) := by
    have := x0.setCell 0 (.int .u32 (r0 : Int))
    rw [mcs_setNum _ _ 0 _ (by simp)] at this
    exact this
  have k1 := k0.other ⟨w.heap.size + 1, 0, none⟩ (.int .u32 (r0 : Int)) (by show w.heap.size ≠ w.heap.size + 1; omega)
  have hb1 := below_grown hb0 (setCell_grown w0 (w.heap.size + 1) 0 (.int .u32 (r0 : Int))) hb0.size (show w.heap.size ≤ w.heap.size + 1 by omega)
  clear x0 k0 hb0
  go_wp2_with fail
  generalize w0.setCell ⟨w.heap.size + 1, 0, none⟩ (.int .u32 (r0 : Int)) = w1 at *
  clear q0 f0
  refine (HG1.out w1 _ hb1).mono ?_
  rintro e wx ⟨rfl, rfl⟩
  have q1 := x1.num (j := 1) rfl
  have f1 := x1.frozen 1
  have x2 : Blk (w1.setCell ⟨w.heap.size + 1, 1, none⟩ (.int .u32 (r1 : Int))) (w.heap.size + 1) 51 (mcs [r0, r1] (zer 80)) := by
    have := x1.setCell 1 (.int .u32 (r1 : Int))
    rw [mcs_setNum _ _ 1 _ (by simp)] at this
    exact this
  have k2 := k1.other ⟨w.heap.size + 1, 1, none⟩ (.int .u32 (r1 : Int)) (by show w.heap.size ≠ w.heap.size + 1; omega)
  have hb2 := below_grown hb1 (setCell_grown w1 (w.heap.size + 1) 1 (.int .u32 (r1 : Int))) hb1.size (show w.heap.size ≤ w.heap.size + 1 by omega)
  clear x1 k1 hb1
  rw [← part0_zero L 80] at x2
  go_wp2
  go_loopw [5] (fun i wr => ∃ j : Nat, j ≤ 32 ∧ i = .int .i64 j ∧ Blk wr (w.heap.size + 1) 51 (mcs [r0, r1] (part0 L 80 (0 + j))) ∧ Blk wr w.heap.size 51 (mcs [0, 0] (zer 80)) ∧ Below w.heap.size w wr) (fun i _ => 32 - (intOf i).toNat)
  case atStart => exact ⟨0, Nat.zero_le _, rfl, x2, k2, hb2⟩
  case round =>
    clear x2 k2 hb2
    obtain ⟨j, hj, rfl, hblk, hkk, hbel⟩ := hrel
    by_cases hlt : j < 32
    · obtain ⟨c', hc'⟩ : ∃ c', L[0 + j]? = some c' := ⟨L[0 + j]'(by omega), List.getElem?_eq_getElem _⟩
      obtain ⟨b', off', x', eA, _, hcl, _, hlx⟩ := (hs.below hbel).byte (k := 12 + (0 + j)) (by omega)
      obtain rfl : x' = c' := by have := hby _ _ hc'; rw [hlx] at this; injection this
      injection eA with eA
      injection eA with eA1 eA2
      subst eA1
      subst eA2
      have hcl2 : wr.cell? ⟨b, off + (12 + j), none⟩ = some (.int .u8 (x'.toNat : Int)) := by rw [show off + (12 + j) = off + (12 + (0 + j)) by omega]; exact hcl
      obtain ⟨y, hy⟩ : ∃ y, (part0 L 80 (0 + j))[0 + j]? = some y := ⟨(part0 L 80 (0 + j))[0 + j]'(by rw [part0_len L 80 _ hL (by omega)]; omega), List.getElem?_eq_getElem _⟩
      have hold := hblk.byte hy (2 + j) (by simp <;> omega)
      have hfz := hblk.frozen (2 + j)
      have hnew : Blk (wr.setCell ⟨w.heap.size + 1, 2 + j, none⟩ (bv x')) (w.heap.size + 1) 51 (mcs [r0, r1] (part0 L 80 (0 + (j + 1)))) := by
        have := hblk.setCell (2 + j) (bv x')
        rw [mcs_set _ _ (0 + j) x' (2 + j) (by simp <;> omega), part0_set L 80 _ x' hL hc', Nat.add_assoc] at this
        exact this
      have hkn := hkk.other ⟨w.heap.size + 1, 2 + j, none⟩ (bv x') (by show w.heap.size ≠ w.heap.size + 1; omega)
      have hbn := below_grown hbel (setCell_grown wr (w.heap.size + 1) (2 + j) (bv x')) hbel.size (show w.heap.size ≤ w.heap.size + 1 by omega)
      have hi1 : (12 : Int) + (j : Int) < 92 := by omega
      clear hy hc' hlx hcl hblk hkk hbel
      go_wp2
      go_roundw
      case rel => first | exact ⟨j + 1, by omega, by go_num, hnew, hkn, hbn⟩ | ((repeat apply Exists.intro); exact ⟨⟨j + 1, by omega, by go_num, hnew, hkn, hbn⟩, rfl⟩)
      case measure => simp [intOf] <;> omega
    · obtain rfl : j = 32 := by omega
      have hblk0 := hblk
      have hkk0 := hkk
      have hbel0 := hbel
      clear hblk hkk hbel hlt hj
      go_wp2
      go_loopw [6] (fun i wr => ∃ j : Nat, j ≤ 16 ∧ i = .int .i64 j ∧ Blk wr (w.heap.size + 1) 51 (mcs [r0, r1] (part0 L 80 (32 + j))) ∧ Blk wr w.heap.size 51 (mcs [0, 0] (zer 80)) ∧ Below w.heap.size w wr) (fun i _ => 16 - (intOf i).toNat)
      case atStart => exact ⟨0, Nat.zero_le _, rfl, hblk0, hkk0, hbel0⟩
      case round =>
        clear hblk0 hkk0 hbel0
        obtain ⟨j, hj, rfl, hblk, hkk, hbel⟩ := hrel
        by_cases hlt : j < 16
        · obtain ⟨c', hc'⟩ : ∃ c', L[32 + j]? = some c' := ⟨L[32 + j]'(by omega), List.getElem?_eq_getElem _⟩
          obtain ⟨b', off', x', eA, _, hcl, _, hlx⟩ := (hs.below hbel).byte (k := 12 + (32 + j)) (by omega)
          obtain rfl : x' = c' := by have := hby _ _ hc'; rw [hlx] at this; injection this
          injection eA with eA
          injection eA with eA1 eA2
          subst eA1
          subst eA2
          have hcl2 : wr.cell? ⟨b, off + (44 + j), none⟩ = some (.int .u8 (x'.toNat : Int)) := by rw [show off + (44 + j) = off + (12 + (32 + j)) by omega]; exact hcl
          obtain ⟨y, hy⟩ : ∃ y, (part0 L 80 (32 + j))[32 + j]? = some y := ⟨(part0 L 80 (32 + j))[32 + j]'(by rw [part0_len L 80 _ hL (by omega)]; omega), List.getElem?_eq_getElem _⟩
          have hold := hblk.byte hy (34 + j) (by simp <;> omega)
          have hfz := hblk.frozen (34 + j)
          have hnew : Blk (wr.setCell ⟨w.heap.size + 1, 34 + j, none⟩ (bv x')) (w.heap.size + 1) 51 (mcs [r0, r1] (part0 L 80 (32 + (j + 1)))) := by
            have := hblk.setCell (34 + j) (bv x')
            rw [mcs_set _ _ (32 + j) x' (34 + j) (by simp <;> omega), part0_set L 80 _ x' hL hc', Nat.add_assoc] at this
            exact this
          have hkn := hkk.other ⟨w.heap.size + 1, 34 + j, none⟩ (bv x') (by show w.heap.size ≠ w.heap.size + 1; omega)
          have hbn := below_grown hbel (setCell_grown wr (w.heap.size + 1) (34 + j) (bv x')) hbel.size (show w.heap.size ≤ w.heap.size + 1 by omega)
          have hi1 : (44 : Int) + (j : Int) < 92 := by omega
          clear hy hc' hlx hcl hblk hkk hbel
          go_wp2
          go_roundw
          case rel => first | exact ⟨j + 1, by omega, by go_num, hnew, hkn, hbn⟩ | ((repeat apply Exists.intro); exact ⟨⟨j + 1, by omega, by go_num, hnew, hkn, hbn⟩, rfl⟩)
          case measure => simp [intOf] <;> omega
        · obtain rfl : j = 16 := by omega
          have hblk1 := hblk
          have hkk1 := hkk
          have hbel1 := hbel
          clear hblk hkk hbel hlt hj
          go_wp2
          go_loopw [7] (fun i wr => ∃ j : Nat, j ≤ 16 ∧ i = .int .i64 j ∧ Blk wr (w.heap.size + 1) 51 (mcs [r0, r1] (part0 L 80 (48 + j))) ∧ Blk wr w.heap.size 51 (mcs [0, 0] (zer 80)) ∧ Below w.heap.size w wr) (fun i _ => 16 - (intOf i).toNat)
          case atStart => exact ⟨0, Nat.zero_le _, rfl, hblk1, hkk1, hbel1⟩
          case round =>
            clear hblk1 hkk1 hbel1
            obtain ⟨j, hj, rfl, hblk, hkk, hbel⟩ := hrel
            by_cases hlt : j < 16
            · obtain ⟨c', hc'⟩ : ∃ c', L[48 + j]? = some c' := ⟨L[48 + j]'(by omega), List.getElem?_eq_getElem _⟩
              obtain ⟨b', off', x', eA, _, hcl, _, hlx⟩ := (hs.below hbel).byte (k := 12 + (48 + j)) (by omega)
              obtain rfl : x' = c' := by have := hby _ _ hc'; rw [hlx] at this; injection this
              injection eA with eA
              injection eA with eA1 eA2
              subst eA1
              subst eA2
              have hcl2 : wr.cell? ⟨b, off + (60 + j), none⟩ = some (.int .u8 (x'.toNat : Int)) := by rw [show off + (60 + j) = off + (12 + (48 + j)) by omega]; exact hcl
              obtain ⟨y, hy⟩ : ∃ y, (part0 L 80 (48 + j))[48 + j]? = some y := ⟨(part0 L 80 (48 + j))[48 + j]'(by rw [part0_len L 80 _ hL (by omega)]; omega), List.getElem?_eq_getElem _⟩
              have hold := hblk.byte hy (50 + j) (by simp <;> omega)
              have hfz := hblk.frozen (50 + j)
              have hnew : Blk (wr.setCell ⟨w.heap.size + 1, 50 + j, none⟩ (bv x')) (w.heap.size + 1) 51 (mcs [r0, r1] (part0 L 80 (48 + (j + 1)))) := by
                have := hblk.setCell (50 + j) (bv x')
                rw [mcs_set _ _ (48 + j) x' (50 + j) (by simp <;> omega), part0_set L 80 _ x' hL hc', Nat.add_assoc] at this
                exact this
              have hkn := hkk.other ⟨w.heap.size + 1, 50 + j, none⟩ (bv x') (by show w.heap.size ≠ w.heap.size + 1; omega)
              have hbn := below_grown hbel (setCell_grown wr (w.heap.size + 1) (50 + j) (bv x')) hbel.size (show w.heap.size ≤ w.heap.size + 1 by omega)
              have hi1 : (60 : Int) + (j : Int) < 92 := by omega
              clear hy hc' hlx hcl hblk hkk hbel
              go_wp2
              go_roundw
              case rel => first | exact ⟨j + 1, by omega, by go_num, hnew, hkn, hbn⟩ | ((repeat apply Exists.intro); exact ⟨⟨j + 1, by omega, by go_num, hnew, hkn, hbn⟩, rfl⟩)
              case measure => simp [intOf] <;> omega
            · obtain rfl : j = 16 := by omega
              have hblk2 := hblk
              have hkk2 := hkk
              have hbel2 := hbel
              clear hblk hkk hbel hlt hj
              go_wp2
              go_loopw [8] (fun i wr => ∃ j : Nat, j ≤ 16 ∧ i = .int .i64 j ∧ Blk wr (w.heap.size + 1) 51 (mcs [r0, r1] (part0 L 80 (64 + j))) ∧ Blk wr w.heap.size 51 (mcs [0, 0] (zer 80)) ∧ Below w.heap.size w wr) (fun i _ => 16 - (intOf i).toNat)
              case atStart => exact ⟨0, Nat.zero_le _, rfl, hblk2, hkk2, hbel2⟩
              case round =>
                clear hblk2 hkk2 hbel2
                obtain ⟨j, hj, rfl, hblk, hkk, hbel⟩ := hrel
                by_cases hlt : j < 16
                · obtain ⟨c', hc'⟩ : ∃ c', L[64 + j]? = some c' := ⟨L[64 + j]'(by omega), List.getElem?_eq_getElem _⟩
                  obtain ⟨b', off', x', eA, _, hcl, _, hlx⟩ := (hs.below hbel).byte (k := 12 + (64 + j)) (by omega)
                  obtain rfl : x' = c' := by have := hby _ _ hc'; rw [hlx] at this; injection this
                  injection eA with eA
                  injection eA with eA1 eA2
                  subst eA1
                  subst eA2
                  have hcl2 : wr.cell? ⟨b, off + (76 + j), none⟩ = some (.int .u8 (x'.toNat : Int)) := by rw [show off + (76 + j) = off + (12 + (64 + j)) by omega]; exact hcl
                  obtain ⟨y, hy⟩ : ∃ y, (part0 L 80 (64 + j))[64 + j]? = some y := ⟨(part0 L 80 (64 + j))[64 + j]'(by rw [part0_len L 80 _ hL (by omega)]; omega), List.getElem?_eq_getElem _⟩
                  have hold := hblk.byte hy (66 + j) (by simp <;> omega)
                  have hfz := hblk.frozen (66 + j)
                  have hnew : Blk (wr.setCell ⟨w.heap.size + 1, 66 + j, none⟩ (bv x')) (w.heap.size + 1) 51 (mcs [r0, r1] (part0 L 80 (64 + (j + 1)))) := by
                    have := hblk.setCell (66 + j) (bv x')
                    rw [mcs_set _ _ (64 + j) x' (66 + j) (by simp <;> omega), part0_set L 80 _ x' hL hc', Nat.add_assoc] at this
                    exact this
                  have hkn := hkk.other ⟨w.heap.size + 1, 66 + j, none⟩ (bv x') (by show w.heap.size ≠ w.heap.size + 1; omega)
                  have hbn := below_grown hbel (setCell_grown wr (w.heap.size + 1) (66 + j) (bv x')) hbel.size (show w.heap.size ≤ w.heap.size + 1 by omega)
                  have hi1 : (76 : Int) + (j : Int) < 92 := by omega
                  clear hy hc' hlx hcl hblk hkk hbel
                  go_wp2
                  go_roundw
                  case rel => first | exact ⟨j + 1, by omega, by go_num, hnew, hkn, hbn⟩ | ((repeat apply Exists.intro); exact ⟨⟨j + 1, by omega, by go_num, hnew, hkn, hbn⟩, rfl⟩)
                  case measure => simp [intOf] <;> omega
                · obtain rfl : j = 16 := by omega
                  have hblk3 := hblk
                  have hkk3 := hkk
                  have hbel3 := hbel
                  clear hblk hkk hbel hlt hj
                  rw [show 64 + 16 = 80 by omega, part0_all L 80 hL] at hblk3
                  go_wp2_with (first
                    | (refine wpList_loadBlk (g := w.heap.size + 1) (t := 51) (cs := mcs [r0, r1] L) rfl 51 (.tmp 4) ?ho ?hx ?hA _ Try.underlying51 rfl ?hi ?_
                       case ho => with_reducible rfl
                       case hx => rfl
                       case hA => exact hblk3
                       case hi => exact Ans_size r0 r1 L hL)
                    | (refine wpList_storeBlk (g := w.heap.size) (t := 51) (cs := mcs [r0, r1] L) rfl 51 (.tmp 2) (.tmp 97) ?ho ?hx2 ?hy2 (mcs [0, 0] (zer 80)) hkk3 ?hi ?hs ?h1 ?_
                       case ho => with_reducible rfl
                       case hx2 => rfl
                       case hy2 => rfl
                       case hi => exact Ans_size r0 r1 L hL
                       case hs => rw [mcs_size, mcs_size, hL]; rfl
                       case h1 => exact mcs_one _ _
                       intro w9 hB hg))
                  refine bodyPost_blk2 rfl _ rfl hB Try.underlying51 rfl (Ans_size r0 r1 L hL) rfl ⟨rfl, ?_⟩
                  exact hbel3.grown hg hbel3.size (fun k hk => by injection hk with hk; omega)

end Go.Proofs.Ytlllakjimgomjaa
