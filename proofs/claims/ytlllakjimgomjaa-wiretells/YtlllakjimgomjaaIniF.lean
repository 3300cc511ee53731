
/- Contracts: ref13.Parse of a message. -/
import Derived.Test.YtlllakjimgomjaaIniE
namespace Go.Proofs.Ytlllakjimgomjaa
open Go.RowKit

set_option maxHeartbeats 2000000 in
set_option maxRecDepth 100000 in
theorem ref13Parse_ok (A : Option Addr) (n c : Nat) (t : List UInt8) (w : World) (hn : n = 148) (hnc : n ≤ c) (hs : Shows w w.heap.size A n (1 :: 0 :: 0 :: 0 :: t)) :
    Calls Try.prog 47 #[.slice A n c] w fun e w' => e = .returned (.tuple #[.agg (mcs [leNat ((t.drop 0).take 4)] (t.drop 4)), .int .i64 0]) ∧ Below w.heap.size w w' := by
  subst hn
  have htl : t.length = 144 := by have := hs.len; simp at this; omega
  obtain ⟨b, off, e, hb, hcell⟩ := hs.2 (by omega)
  subst e
  have c0 := hcell 0 (by simp)
  have c1 := hcell 1 (by simp)
  have c2 := hcell 2 (by simp)
  have c3 := hcell 3 (by simp)
  simp only [List.getElem_cons_zero, List.getElem_cons_succ, Nat.add_zero] at c0 c1 c2 c3
  clear hcell
  have hL : (t.drop 4).length = 140 := by simp; omega
  have hby : ∀ j c', (t.drop 4)[j]? = some c' → (1 :: 0 :: 0 :: 0 :: t)[8 + j]? = some c' := by
    intro j c' h
    rw [List.getElem?_drop] at h
    rw [show 8 + j = (4 + j) + 1 + 1 + 1 + 1 by omega]
    simpa using h
  have hr0 : leNat ((t.drop 0).take 4) < 4294967296 := by have := leNat_take_lt (t.drop 0) 4; simpa using this
  have HG0 := Lib.hid (fun (W : World) (c' : Nat) (hW : Below w.heap.size w W) => get_any (some ⟨b, off + 4, none⟩) 4 c' ((t.drop 0).take 4) W (by omega) (((hs.piece 4 4 (by omega)).below hW).up hW.size))
  generalize leNat ((t.drop 0).take 4) = r0 at *
  have hw0 : IntKind.u32.wrap (r0 : Int) = (r0 : Int) := by rw [IntKind.wrap_u32]; omega
  have e0 : ¬ c = 4 := by omega
  generalize t.drop 4 = L at *
  have hcc : (148 : Int) ≤ (c : Int) := by omega
  have hc8 : (8 : Int) ≤ (c : Int) := by omega
  have hc12 : (12 : Int) ≤ (c : Int) := by omega
  have hz := (zero_of_info Try.zeroIni).1
  obtain ⟨k0, x0, hb0⟩ := Ini_two w
  have hsz0 : ((w.alloc (.cells (mcs [0] (zer 140)) 49)).alloc (.cells (mcs [0] (zer 140)) 49)).heap.size = w.heap.size + 2 := by simp
  go_enter Try.func47, Try.ntmps47
  go_wp2_with fail
  generalize (w.alloc (.cells (mcs [0] (zer 140)) 49)).alloc (.cells (mcs [0] (zer 140)) 49) = w0 at *
  refine (HG0.out w0 _ hb0).mono ?_
  rintro e wx ⟨rfl, rfl⟩
  have q0 := x0.num (j := 0) rfl
  have f0 := x0.frozen 0
  have x1 : Blk (w0.setCell ⟨w.heap.size + 1, 0, none⟩ (.int .u32 (r0 : Int))) (w.heap.size + 1) 49 (mcs [r0] (zer 140)) := by
    have := x0.setCell 0 (.int .u32 (r0 : Int))
    rw [mcs_setNum _ _ 0 _ (by simp)] at this
    exact this
  have k1 := k0.other ⟨w.heap.size + 1, 0, none⟩ (.int .u32 (r0 : Int)) (by show w.heap.size ≠ w.heap.size + 1; omega)
  have hb1 := below_grown hb0 (setCell_grown w0 (w.heap.size + 1) 0 (.int .u32 (r0 : Int))) hb0.size (show w.heap.size ≤ w.heap.size + 1 by omega)
  clear x0 k0 hb0
  rw [← part0_zero L 140] at x1
  go_wp2
  go_loopw [5] (fun i wr => ∃ j : Nat, j ≤ 32 ∧ i = .int .i64 j ∧ Blk wr (w.heap.size + 1) 49 (mcs [r0] (part0 L 140 (0 + j))) ∧ Blk wr w.heap.size 49 (mcs [0] (zer 140)) ∧ Below w.heap.size w wr) (fun i _ => 32 - (intOf i).toNat)
  case atStart => exact ⟨0, Nat.zero_le _, rfl, x1, k1, hb1⟩
  case round =>
    clear x1 k1 hb1
    obtain ⟨j, hj, rfl, hblk, hkk, hbel⟩ := hrel
    by_cases hlt : j < 32
    · obtain ⟨c', hc'⟩ : ∃ c', L[0 + j]? = some c' := ⟨L[0 + j]'(by omega), List.getElem?_eq_getElem _⟩
      obtain ⟨b', off', x', eA, _, hcl, _, hlx⟩ := (hs.below hbel).byte (k := 8 + (0 + j)) (by omega)
      obtain rfl : x' = c' := by have := hby _ _ hc'; rw [hlx] at this; injection this
      injection eA with eA
      injection eA with eA1 eA2
      subst eA1
      subst eA2
      have hcl2 : wr.cell? ⟨b, off + (8 + j), none⟩ = some (.int .u8 (x'.toNat : Int)) := by rw [show off + (8 + j) = off + (8 + (0 + j)) by omega]; exact hcl
      obtain ⟨y, hy⟩ : ∃ y, (part0 L 140 (0 + j))[0 + j]? = some y := ⟨(part0 L 140 (0 + j))[0 + j]'(by rw [part0_len L 140 _ hL (by omega)]; omega), List.getElem?_eq_getElem _⟩
      have hold := hblk.byte hy (1 + j) (by simp <;> omega)
      have hfz := hblk.frozen (1 + j)
      have hnew : Blk (wr.setCell ⟨w.heap.size + 1, 1 + j, none⟩ (bv x')) (w.heap.size + 1) 49 (mcs [r0] (part0 L 140 (0 + (j + 1)))) := by
        have := hblk.setCell (1 + j) (bv x')
        rw [mcs_set _ _ (0 + j) x' (1 + j) (by simp <;> omega), part0_set L 140 _ x' hL hc', Nat.add_assoc] at this
        exact this
      have hkn := hkk.other ⟨w.heap.size + 1, 1 + j, none⟩ (bv x') (by show w.heap.size ≠ w.heap.size + 1; omega)
      have hbn := below_grown hbel (setCell_grown wr (w.heap.size + 1) (1 + j) (bv x')) hbel.size (show w.heap.size ≤ w.heap.size + 1 by omega)
      have hi1 : (8 : Int) + (j : Int) < 148 := by omega
      clear hy hc' hlx hcl hblk hkk hbel
      go_wp2
      go_roundw
      case rel => first | exact ⟨j + 1, by omega, by go_num, hnew, hkn, hbn⟩ | ((repeat apply Exists.intro); exact ⟨⟨j + 1, by omega, by go_num, hnew, hkn, hbn⟩, rfl⟩)
      case measure => simp [intOf] <;> omega
    · obtain rfl : j = 32 := by omega
      have hblk0 := hblk
      have hkk0 := hkk
      have hbel0 := hbel
      clear hblk hkk hbel hlt hj
      go_wp2
      go_loopw [6] (fun i wr => ∃ j : Nat, j ≤ 48 ∧ i = .int .i64 j ∧ Blk wr (w.heap.size + 1) 49 (mcs [r0] (part0 L 140 (32 + j))) ∧ Blk wr w.heap.size 49 (mcs [0] (zer 140)) ∧ Below w.heap.size w wr) (fun i _ => 48 - (intOf i).toNat)
      case atStart => exact ⟨0, Nat.zero_le _, rfl, hblk0, hkk0, hbel0⟩
      case round =>
        clear hblk0 hkk0 hbel0
        obtain ⟨j, hj, rfl, hblk, hkk, hbel⟩ := hrel
        by_cases hlt : j < 48
        · obtain ⟨c', hc'⟩ : ∃ c', L[32 + j]? = some c' := ⟨L[32 + j]'(by omega), List.getElem?_eq_getElem _⟩
          obtain ⟨b', off', x', eA, _, hcl, _, hlx⟩ := (hs.below hbel).byte (k := 8 + (32 + j)) (by omega)
          obtain rfl : x' = c' := by have := hby _ _ hc'; rw [hlx] at this; injection this
          injection eA with eA
          injection eA with eA1 eA2
          subst eA1
          subst eA2
          have hcl2 : wr.cell? ⟨b, off + (40 + j), none⟩ = some (.int .u8 (x'.toNat : Int)) := by rw [show off + (40 + j) = off + (8 + (32 + j)) by omega]; exact hcl
          obtain ⟨y, hy⟩ : ∃ y, (part0 L 140 (32 + j))[32 + j]? = some y := ⟨(part0 L 140 (32 + j))[32 + j]'(by rw [part0_len L 140 _ hL (by omega)]; omega), List.getElem?_eq_getElem _⟩
          have hold := hblk.byte hy (33 + j) (by simp <;> omega)
          have hfz := hblk.frozen (33 + j)
          have hnew : Blk (wr.setCell ⟨w.heap.size + 1, 33 + j, none⟩ (bv x')) (w.heap.size + 1) 49 (mcs [r0] (part0 L 140 (32 + (j + 1)))) := by
            have := hblk.setCell (33 + j) (bv x')
            rw [mcs_set _ _ (32 + j) x' (33 + j) (by simp <;> omega), part0_set L 140 _ x' hL hc', Nat.add_assoc] at this
            exact this
          have hkn := hkk.other ⟨w.heap.size + 1, 33 + j, none⟩ (bv x') (by show w.heap.size ≠ w.heap.size + 1; omega)
          have hbn := below_grown hbel (setCell_grown wr (w.heap.size + 1) (33 + j) (bv x')) hbel.size (show w.heap.size ≤ w.heap.size + 1 by omega)
          have hi1 : (40 : Int) + (j : Int) < 148 := by omega
          clear hy hc' hlx hcl hblk hkk hbel
          go_wp2
          go_roundw
          case rel => first | exact ⟨j + 1, by omega, by go_num, hnew, hkn, hbn⟩ | ((repeat apply Exists.intro); exact ⟨⟨j + 1, by omega, by go_num, hnew, hkn, hbn⟩, rfl⟩)
          case measure => simp [intOf] <;> omega
        · obtain rfl : j = 48 := by omega
          have hblk1 := hblk
          have hkk1 := hkk
          have hbel1 := hbel
          clear hblk hkk hbel hlt hj
          go_wp2
          go_loopw [7] (fun i wr => ∃ j : Nat, j ≤ 28 ∧ i = .int .i64 j ∧ Blk wr (w.heap.size + 1) 49 (mcs [r0] (part0 L 140 (80 + j))) ∧ Blk wr w.heap.size 49 (mcs [0] (zer 140)) ∧ Below w.heap.size w wr) (fun i _ => 28 - (intOf i).toNat)
          case atStart => exact ⟨0, Nat.zero_le _, rfl, hblk1, hkk1, hbel1⟩
          case round =>
            clear hblk1 hkk1 hbel1
            obtain ⟨j, hj, rfl, hblk, hkk, hbel⟩ := hrel
            by_cases hlt : j < 28
            · obtain ⟨c', hc'⟩ : ∃ c', L[80 + j]? = some c' := ⟨L[80 + j]'(by omega), List.getElem?_eq_getElem _⟩
              obtain ⟨b', off', x', eA, _, hcl, _, hlx⟩ := (hs.below hbel).byte (k := 8 + (80 + j)) (by omega)
              obtain rfl : x' = c' := by have := hby _ _ hc'; rw [hlx] at this; injection this
              injection eA with eA
              injection eA with eA1 eA2
              subst eA1
              subst eA2
              have hcl2 : wr.cell? ⟨b, off + (88 + j), none⟩ = some (.int .u8 (x'.toNat : Int)) := by rw [show off + (88 + j) = off + (8 + (80 + j)) by omega]; exact hcl
              obtain ⟨y, hy⟩ : ∃ y, (part0 L 140 (80 + j))[80 + j]? = some y := ⟨(part0 L 140 (80 + j))[80 + j]'(by rw [part0_len L 140 _ hL (by omega)]; omega), List.getElem?_eq_getElem _⟩
              have hold := hblk.byte hy (81 + j) (by simp <;> omega)
              have hfz := hblk.frozen (81 + j)
              have hnew : Blk (wr.setCell ⟨w.heap.size + 1, 81 + j, none⟩ (bv x')) (w.heap.size + 1) 49 (mcs [r0] (part0 L 140 (80 + (j + 1)))) := by
                have := hblk.setCell (81 + j) (bv x')
                rw [mcs_set _ _ (80 + j) x' (81 + j) (by simp <;> omega), part0_set L 140 _ x' hL hc', Nat.add_assoc] at this
                exact this
              have hkn := hkk.other ⟨w.heap.size + 1, 81 + j, none⟩ (bv x') (by show w.heap.size ≠ w.heap.size + 1; omega)
              have hbn := below_grown hbel (setCell_grown wr (w.heap.size + 1) (81 + j) (bv x')) hbel.size (show w.heap.size ≤ w.heap.size + 1 by omega)
              have hi1 : (88 : Int) + (j : Int) < 148 := by omega
              clear hy hc' hlx hcl hblk hkk hbel
              go_wp2
              go_roundw
              case rel => first | exact ⟨j + 1, by omega, by go_num, hnew, hkn, hbn⟩ | ((repeat apply Exists.intro); exact ⟨⟨j + 1, by omega, by go_num, hnew, hkn, hbn⟩, rfl⟩)
              case measure => simp [intOf] <;> omega
            · obtain rfl : j = 28 := by omega
              have hblk2 := hblk
              have hkk2 := hkk
              have hbel2 := hbel
              clear hblk hkk hbel hlt hj
              go_wp2
              go_loopw [8] (fun i wr => ∃ j : Nat, j ≤ 16 ∧ i = .int .i64 j ∧ Blk wr (w.heap.size + 1) 49 (mcs [r0] (part0 L 140 (108 + j))) ∧ Blk wr w.heap.size 49 (mcs [0] (zer 140)) ∧ Below w.heap.size w wr) (fun i _ => 16 - (intOf i).toNat)
              case atStart => exact ⟨0, Nat.zero_le _, rfl, hblk2, hkk2, hbel2⟩
              case round =>
                clear hblk2 hkk2 hbel2
                obtain ⟨j, hj, rfl, hblk, hkk, hbel⟩ := hrel
                by_cases hlt : j < 16
                · obtain ⟨c', hc'⟩ : ∃ c', L[108 + j]? = some c' := ⟨L[108 + j]'(by omega), List.getElem?_eq_getElem _⟩
                  obtain ⟨b', off', x', eA, _, hcl, _, hlx⟩ := (hs.below hbel).byte (k := 8 + (108 + j)) (by omega)
                  obtain rfl : x' = c' := by have := hby _ _ hc'; rw [hlx] at this; injection this
                  injection eA with eA
                  injection eA with eA1 eA2
                  subst eA1
                  subst eA2
                  have hcl2 : wr.cell? ⟨b, off + (116 + j), none⟩ = some (.int .u8 (x'.toNat : Int)) := by rw [show off + (116 + j) = off + (8 + (108 + j)) by omega]; exact hcl
                  obtain ⟨y, hy⟩ : ∃ y, (part0 L 140 (108 + j))[108 + j]? = some y := ⟨(part0 L 140 (108 + j))[108 + j]'(by rw [part0_len L 140 _ hL (by omega)]; omega), List.getElem?_eq_getElem _⟩
                  have hold := hblk.byte hy (109 + j) (by simp <;> omega)
                  have hfz := hblk.frozen (109 + j)
                  have hnew : Blk (wr.setCell ⟨w.heap.size + 1, 109 + j, none⟩ (bv x')) (w.heap.size + 1) 49 (mcs [r0] (part0 L 140 (108 + (j + 1)))) := by
                    have := hblk.setCell (109 + j) (bv x')
                    rw [mcs_set _ _ (108 + j) x' (109 + j) (by simp <;> omega), part0_set L 140 _ x' hL hc', Nat.add_assoc] at this
                    exact this
                  have hkn := hkk.other ⟨w.heap.size + 1, 109 + j, none⟩ (bv x') (by show w.heap.size ≠ w.heap.size + 1; omega)
                  have hbn := below_grown hbel (setCell_grown wr (w.heap.size + 1) (109 + j) (bv x')) hbel.size (show w.heap.size ≤ w.heap.size + 1 by omega)
                  have hi1 : (116 : Int) + (j : Int) < 148 := by omega
                  clear hy hc' hlx hcl hblk hkk hbel
                  go_wp2
                  go_roundw
                  case rel => first | exact ⟨j + 1, by omega, by go_num, hnew, hkn, hbn⟩ | ((repeat apply Exists.intro); exact ⟨⟨j + 1, by omega, by go_num, hnew, hkn, hbn⟩, rfl⟩)
                  case measure => simp [intOf] <;> omega
                · obtain rfl : j = 16 := by omega
                  have hblk3 := hblk
                  have hkk3 := hkk
                  have hbel3 := hbel
                  clear hblk hkk hbel hlt hj
                  go_wp2
                  go_loopw [9] (fun i wr => ∃ j : Nat, j ≤ 16 ∧ i = .int .i64 j ∧ Blk wr (w.heap.size + 1) 49 (mcs [r0] (part0 L 140 (124 + j))) ∧ Blk wr w.heap.size 49 (mcs [0] (zer 140)) ∧ Below w.heap.size w wr) (fun i _ => 16 - (intOf i).toNat)
                  case atStart => exact ⟨0, Nat.zero_le _, rfl, hblk3, hkk3, hbel3⟩
                  case round =>
                    clear hblk3 hkk3 hbel3
                    obtain ⟨j, hj, rfl, hblk, hkk, hbel⟩ := hrel
                    by_cases hlt : j < 16
                    · obtain ⟨c', hc'⟩ : ∃ c', L[124 + j]? = some c' := ⟨L[124 + j]'(by omega), List.getElem?_eq_getElem _⟩
                      obtain ⟨b', off', x', eA, _, hcl, _, hlx⟩ := (hs.below hbel).byte (k := 8 + (124 + j)) (by omega)
                      obtain rfl : x' = c' := by have := hby _ _ hc'; rw [hlx] at this; injection this
                      injection eA with eA
                      injection eA with eA1 eA2
                      subst eA1
                      subst eA2
                      have hcl2 : wr.cell? ⟨b, off + (132 + j), none⟩ = some (.int .u8 (x'.toNat : Int)) := by rw [show off + (132 + j) = off + (8 + (124 + j)) by omega]; exact hcl
                      obtain ⟨y, hy⟩ : ∃ y, (part0 L 140 (124 + j))[124 + j]? = some y := ⟨(part0 L 140 (124 + j))[124 + j]'(by rw [part0_len L 140 _ hL (by omega)]; omega), List.getElem?_eq_getElem _⟩
                      have hold := hblk.byte hy (125 + j) (by simp <;> omega)
                      have hfz := hblk.frozen (125 + j)
                      have hnew : Blk (wr.setCell ⟨w.heap.size + 1, 125 + j, none⟩ (bv x')) (w.heap.size + 1) 49 (mcs [r0] (part0 L 140 (124 + (j + 1)))) := by
                        have := hblk.setCell (125 + j) (bv x')
                        rw [mcs_set _ _ (124 + j) x' (125 + j) (by simp <;> omega), part0_set L 140 _ x' hL hc', Nat.add_assoc] at this
                        exact this
                      have hkn := hkk.other ⟨w.heap.size + 1, 125 + j, none⟩ (bv x') (by show w.heap.size ≠ w.heap.size + 1; omega)
                      have hbn := below_grown hbel (setCell_grown wr (w.heap.size + 1) (125 + j) (bv x')) hbel.size (show w.heap.size ≤ w.heap.size + 1 by omega)
                      have hi1 : (132 : Int) + (j : Int) < 148 := by omega
                      clear hy hc' hlx hcl hblk hkk hbel
                      go_wp2
                      go_roundw
                      case rel => first | exact ⟨j + 1, by omega, by go_num, hnew, hkn, hbn⟩ | ((repeat apply Exists.intro); exact ⟨⟨j + 1, by omega, by go_num, hnew, hkn, hbn⟩, rfl⟩)
                      case measure => simp [intOf] <;> omega
                    · obtain rfl : j = 16 := by omega
                      have hblk4 := hblk
                      have hkk4 := hkk
                      have hbel4 := hbel
                      clear hblk hkk hbel hlt hj
                      rw [show 124 + 16 = 140 by omega, part0_all L 140 hL] at hblk4
                      go_wp2_with (first
                        | (refine wpList_loadBlk (g := w.heap.size + 1) (t := 49) (cs := mcs [r0] L) rfl 49 (.tmp 4) ?ho ?hx ?hA _ Try.underlying49 rfl ?hi ?_
                           case ho => with_reducible rfl
                           case hx => rfl
                           case hA => exact hblk4
                           case hi => exact Ini_size r0 L hL)
                        | (refine wpList_storeBlk (g := w.heap.size) (t := 49) (cs := mcs [r0] L) rfl 49 (.tmp 2) (.tmp 105) ?ho ?hx2 ?hy2 (mcs [0] (zer 140)) hkk4 ?hi ?hs ?h1 ?_
                           case ho => with_reducible rfl
                           case hx2 => rfl
                           case hy2 => rfl
                           case hi => exact Ini_size r0 L hL
                           case hs => rw [mcs_size, mcs_size, hL]; rfl
                           case h1 => exact mcs_one _ _
                           intro w9 hB hg))
                      refine bodyPost_blk2 rfl _ rfl hB Try.underlying49 rfl (Ini_size r0 L hL) rfl ⟨rfl, ?_⟩
                      exact hbel4.grown hg hbel4.size (fun k hk => by injection hk with hk; omega)

end Go.Proofs.Ytlllakjimgomjaa
