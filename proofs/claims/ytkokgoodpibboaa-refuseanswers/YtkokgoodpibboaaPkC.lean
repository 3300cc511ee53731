
/- Contracts: packet.Later; crawlwayref21.Later; law21's alive; the walk of law21.PacketTells. -/
import Derived.Test.YtkokgoodpibboaaPkB
namespace Go.Proofs.Ytkokgoodpibboaa
open Go.RowKit
set_option maxRecDepth 100000
set_option linter.unusedSimpArgs false
set_option linter.unusedVariables false

def kL (l : List UInt8) : Bool := decide (kE l = 0) && (if kX l 0 = 4 then !decide (kX l 6 = 0) else decide (kX l 8 = 44) && (decide (48 ≤ kX l 2) && decide (8 ≤ byt l 42 * 256 + byt l 43)))
set_option maxRecDepth 100000 in
set_option maxHeartbeats 4000000 in
theorem later_any (A : Option Addr) (n c : Nat) (l : List UInt8) (w : World) (hn : n ≤ 1000000) (hc : n ≤ c) (hcm : c ≤ maxLen) (hs : Shows w w.heap.size A n l) :
    Calls Try.prog 91 #[.slice A n c] w fun e w' => e = .returned (.bool (kL l)) ∧ Below w.heap.size w w' := by
  have hz := (zero_of_info Try.zeroHead).1
  have hne : ¬ zH = #[] := by intro h; have := zH_size; rw [h] at this; cases this
  have HP := Lib.hid (kparse_any A n c l w hn hc hcm hs)
  have hl := hs.len
  have hsz := kH_size l
  have o1 := kH_one l
  have m0 := kX_cell l 0 (by omega)
  have m1 := kX_cell l 1 (by omega)
  have m2 := kX_cell l 2 (by omega)
  have m6 := kX_cell l 6 (by omega)
  have m8 := kX_cell l 8 (by omega)
  have HF := Lib.hid (fun h => kfacts (l := l) h)
  have HI := Lib.hid (show kL l = (decide (kE l = 0) && (if kX l 0 = 4 then !decide (kX l 6 = 0) else decide (kX l 8 = 44) && (decide (48 ≤ kX l 2) && decide (8 ≤ byt l 42 * 256 + byt l 43)))) from rfl)
  have HY := Lib.hid (fun (b off : Nat) (hA : A = some ⟨b, off, none⟩) (i : Nat) (hi : i < n) (W : World) (hW : Below w.heap.size w W) => show W.cell? ⟨b, off + i, none⟩ = some (.int .u8 (byt l i : Int)) from by subst hA; exact (hs.below hW).byt i hi)
  have HA := Lib.hid (fun (h : 0 < n) => hs.2 h)
  have y2 := byt_lt l 42
  have y3 := byt_lt l 43
  generalize kX l 0 = V at *
  generalize kX l 1 = S at *
  generalize kX l 2 = T at *
  generalize kX l 6 = G at *
  generalize kX l 8 = P at *
  generalize kH l = M at *
  generalize kE l = E0 at *
  clear hs
  by_cases q0 : ¬ E0 = 0
  · have E : kL l = false := by rw [HI.out]; simp [q0]
    have d0 : decide ((E0 : Int) = 0) = false := decide_eq_false (by omega)
    have d0' : (((E0 : Int)) == 0) = false := by simp; omega
    have d0'' : (((E0 : Int)) != 0) = true := by simp; omega
    go_enter Try.func91, Try.ntmps91
    go_wp2_with fail
    refine HP.out.mono ?_
    rintro e w1 ⟨rfl, hb1⟩
    have b2 : Below w.heap.size w (w1.alloc (.cells M 42)) := hb1.alloc hb1.size _
    have k2 : Blk (w1.alloc (.cells M 42)) w1.heap.size 42 M := blk_new _ _ _
    generalize hg1 : w1.heap.size = g1 at *
    have c0 := (k2.cellA 0).trans m0
    have c1 := (k2.cellA 1).trans m1
    have c2 := (k2.cellA 2).trans m2
    have c6 := (k2.cellA 6).trans m6
    have c8 := (k2.cellA 8).trans m8
    go_wp2_with (first
      | (refine wpList_allocStore (cs := M) rfl rfl 42 ?ho (.tmp 3) (.tmp 8) ?ho2 Try.zeroHead ?hz ?hx ?hy ?hn ?h1 ?_
         case ho => with_reducible rfl
         case ho2 => rfl
         case hz => exact zH_size
         case hx => rfl
         case hy => rfl
         case hn => exact hsz
         case h1 => exact o1
         rw [hg1]))
    go_ret
    exact ⟨by rw [E]; rfl, b2⟩
  obtain rfl : E0 = 0 := by omega
  obtain ⟨f1, f2, f3, f4, f5⟩ := HF.out rfl
  rw [hl] at f4
  by_cases q2 : V = 4
  · subst q2
    by_cases q3 : G = 0
    · subst q3
      have E : kL l = false := by rw [HI.out]; simp
      go_enter Try.func91, Try.ntmps91
      go_wp2_with fail
      refine HP.out.mono ?_
      rintro e w1 ⟨rfl, hb1⟩
      have b2 : Below w.heap.size w (w1.alloc (.cells M 42)) := hb1.alloc hb1.size _
      have k2 : Blk (w1.alloc (.cells M 42)) w1.heap.size 42 M := blk_new _ _ _
      generalize hg1 : w1.heap.size = g1 at *
      have c0 := (k2.cellA 0).trans m0
      have c1 := (k2.cellA 1).trans m1
      have c2 := (k2.cellA 2).trans m2
      have c6 := (k2.cellA 6).trans m6
      have c8 := (k2.cellA 8).trans m8
      go_wp2_with (first
        | (refine wpList_allocStore (cs := M) rfl rfl 42 ?ho (.tmp 3) (.tmp 8) ?ho2 Try.zeroHead ?hz ?hx ?hy ?hn ?h1 ?_
           case ho => with_reducible rfl
           case ho2 => rfl
           case hz => exact zH_size
           case hx => rfl
           case hy => rfl
           case hn => exact hsz
           case h1 => exact o1
           rw [hg1]))
      go_ret
      exact ⟨by rw [E]; rfl, b2⟩
    · have E : kL l = true := by rw [HI.out]; simp [q3]
      have d3 : decide ((G : Int) = 0) = false := decide_eq_false (by omega)
      have d3' : (((G : Int)) == 0) = false := by simp; omega
      have d3'' : (((G : Int)) != 0) = true := by simp; omega
      go_enter Try.func91, Try.ntmps91
      go_wp2_with fail
      refine HP.out.mono ?_
      rintro e w1 ⟨rfl, hb1⟩
      have b2 : Below w.heap.size w (w1.alloc (.cells M 42)) := hb1.alloc hb1.size _
      have k2 : Blk (w1.alloc (.cells M 42)) w1.heap.size 42 M := blk_new _ _ _
      generalize hg1 : w1.heap.size = g1 at *
      have c0 := (k2.cellA 0).trans m0
      have c1 := (k2.cellA 1).trans m1
      have c2 := (k2.cellA 2).trans m2
      have c6 := (k2.cellA 6).trans m6
      have c8 := (k2.cellA 8).trans m8
      go_wp2_with (first
        | (refine wpList_allocStore (cs := M) rfl rfl 42 ?ho (.tmp 3) (.tmp 8) ?ho2 Try.zeroHead ?hz ?hx ?hy ?hn ?h1 ?_
           case ho => with_reducible rfl
           case ho2 => rfl
           case hz => exact zH_size
           case hx => rfl
           case hy => rfl
           case hn => exact hsz
           case h1 => exact o1
           rw [hg1]))
      go_ret
      exact ⟨by rw [E]; rfl, b2⟩
  · have d2 : decide ((V : Int) = 4) = false := decide_eq_false (by omega)
    have d2' : (((V : Int)) == 4) = false := by simp; omega
    have d2'' : (((V : Int)) != 4) = true := by simp; omega
    obtain rfl : S = 40 := by omega
    have m1' : M[1]? = some (.int .i64 40) := m1
    clear m1
    have m1 := m1'
    clear m1'
    obtain ⟨b, off, rfl, hbb, _⟩ := HA.out (by omega)
    have HC := Lib.hid (HY.out b off rfl)
    clear HY HA HF
    by_cases q3 : ¬ P = 44
    · have E : kL l = false := by rw [HI.out]; simp [q2, q3]
      have d3 : decide ((P : Int) = 44) = false := decide_eq_false (by omega)
      have d3' : (((P : Int)) == 44) = false := by simp; omega
      have d3'' : (((P : Int)) != 44) = true := by simp; omega
      go_enter Try.func91, Try.ntmps91
      go_wp2_with fail
      refine HP.out.mono ?_
      rintro e w1 ⟨rfl, hb1⟩
      have b2 : Below w.heap.size w (w1.alloc (.cells M 42)) := hb1.alloc hb1.size _
      have k2 : Blk (w1.alloc (.cells M 42)) w1.heap.size 42 M := blk_new _ _ _
      generalize hg1 : w1.heap.size = g1 at *
      have c0 := (k2.cellA 0).trans m0
      have c1 := (k2.cellA 1).trans m1
      have c2 := (k2.cellA 2).trans m2
      have c6 := (k2.cellA 6).trans m6
      have c8 := (k2.cellA 8).trans m8
      go_wp2_with (first
        | (refine wpList_allocStore (cs := M) rfl rfl 42 ?ho (.tmp 3) (.tmp 8) ?ho2 Try.zeroHead ?hz ?hx ?hy ?hn ?h1 ?_
           case ho => with_reducible rfl
           case ho2 => rfl
           case hz => exact zH_size
           case hx => rfl
           case hy => rfl
           case hn => exact hsz
           case h1 => exact o1
           rw [hg1]))
      go_ret
      exact ⟨by rw [E]; rfl, b2⟩
    obtain rfl : P = 44 := by omega
    have iT : (T : Int) ≤ 1000000 := by omega
    have iT0 : (40 : Int) ≤ (T : Int) := by omega
    by_cases q4 : ¬ 48 ≤ T
    · have E : kL l = false := by rw [HI.out]; simp [q2, q4]
      have d4 : decide ((T : Int) - 40 < 8) = true := decide_eq_true (by omega)
      go_enter Try.func91, Try.ntmps91
      go_wp2_with fail
      refine HP.out.mono ?_
      rintro e w1 ⟨rfl, hb1⟩
      have b2 : Below w.heap.size w (w1.alloc (.cells M 42)) := hb1.alloc hb1.size _
      have k2 : Blk (w1.alloc (.cells M 42)) w1.heap.size 42 M := blk_new _ _ _
      generalize hg1 : w1.heap.size = g1 at *
      have c0 := (k2.cellA 0).trans m0
      have c1 := (k2.cellA 1).trans m1
      have c2 := (k2.cellA 2).trans m2
      have c6 := (k2.cellA 6).trans m6
      have c8 := (k2.cellA 8).trans m8
      go_wp2_with (first
        | (refine wpList_allocStore (cs := M) rfl rfl 42 ?ho (.tmp 3) (.tmp 8) ?ho2 Try.zeroHead ?hz ?hx ?hy ?hn ?h1 ?_
           case ho => with_reducible rfl
           case ho2 => rfl
           case hz => exact zH_size
           case hx => rfl
           case hy => rfl
           case hn => exact hsz
           case h1 => exact o1
           rw [hg1]))
      go_ret
      exact ⟨by rw [E]; rfl, b2⟩
    have d4 : decide ((T : Int) - 40 < 8) = false := decide_eq_false (by omega)
    have q4' : 48 ≤ T := by omega
    have H42 := Lib.hid (HC.out 42 (by omega))
    have H43 := Lib.hid (HC.out 43 (by omega))
    have E : kL l = decide (8 ≤ byt l 42 * 256 + byt l 43) := by rw [HI.out]; simp [q2, q4']
    clear HC HI
    have i42 : (42 : Int) < (n : Int) := by omega
    have i43 : (43 : Int) < (n : Int) := by omega
    generalize byt l 42 = Y2 at *
    generalize byt l 43 = Y3 at *
    have w2 := wrap_id Y2 (by omega)
    have w3 := wrap_id Y3 (by omega)
    have w4 : IntKind.i64.wrap ((Y2 : Int) * 256) = (Y2 : Int) * 256 := by rw [IntKind.wrap_i64]; omega
    have eor : bits .or .i64 ((Y2 : Int) * 256) (Y3 : Int) = ((Y2 * 256 + Y3 : Nat) : Int) := by
      have := i64_orN (Y2 * 256) Y3 (by omega) (by omega)
      rw [or_pow 8 _ _ (by omega) (by omega)] at this
      rw [show ((Y2 * 256 : Nat) : Int) = (Y2 : Int) * 256 by omega] at this
      exact this
    have wa : IntKind.i64.wrap 42 = 42 := by decide
    have wb : IntKind.i64.wrap 43 = 43 := by decide
    generalize Y2 * 256 + Y3 = Z at *
    have HE := Lib.hid E
    clear E
    by_cases qz : 8 ≤ Z
    · have E : kL l = true := by rw [HE.out]; simp [qz]
      have dz : decide ((8 : Int) ≤ (Z : Int)) = true := decide_eq_true (by omega)
      go_enter Try.func91, Try.ntmps91
      go_wp2_with fail
      refine HP.out.mono ?_
      rintro e w1 ⟨rfl, hb1⟩
      have b2 : Below w.heap.size w (w1.alloc (.cells M 42)) := hb1.alloc hb1.size _
      have k2 : Blk (w1.alloc (.cells M 42)) w1.heap.size 42 M := blk_new _ _ _
      generalize hg1 : w1.heap.size = g1 at *
      have c0 := (k2.cellA 0).trans m0
      have c1 := (k2.cellA 1).trans m1
      have c2 := (k2.cellA 2).trans m2
      have c6 := (k2.cellA 6).trans m6
      have c8 := (k2.cellA 8).trans m8
      go_wp2_with (first
        | (refine wpList_allocStore (cs := M) rfl rfl 42 ?ho (.tmp 3) (.tmp 8) ?ho2 Try.zeroHead ?hz ?hx ?hy ?hn ?h1 ?_
           case ho => with_reducible rfl
           case ho2 => rfl
           case hz => exact zH_size
           case hx => rfl
           case hy => rfl
           case hn => exact hsz
           case h1 => exact o1
           rw [hg1])
        | fail)
      have qk : Below w.heap.size w (w1.alloc (.cells M 42)).drew ∧ Blk (w1.alloc (.cells M 42)).drew g1 42 M := ⟨b2.drew, k2⟩
      generalize (w1.alloc (.cells M 42)) = W1 at *
      clear c0 c1 c2 c6 c8 k2 b2
      refine wp_region_held_drew (S := fun W => Below w.heap.size w W ∧ Blk W g1 42 M) (by kernel_rfl) qk ?_
      intro hS
      refine wpAnyH_take (i := 0) (oi := ?o1501) (v := ?vo1501) ?hio1501 (by kernel_rfl) (by kernel_rfl) (by kernel_rfl) ?hQo1501 ?hyo1501 hS ?_
      case hio1501 => (simp only [List.getElem?_toArray, List.getElem?_cons_succ, List.getElem?_cons_zero]; rfl)
      case hQo1501 => exact fun _ _ _ h => h
      case hyo1501 =>
        refine Or.inl ⟨by rfl, ?_⟩
        intro W hW
        go_simp
        first | done | with_reducible rfl
      try simp only [Act.put, List.setIfInBounds_toArray, List.set_cons_zero, List.set_cons_succ]
      refine wpAnyH_take (i := 1) (oi := ?o1502) (v := ?vo1502) ?hio1502 (by kernel_rfl) (by kernel_rfl) (by kernel_rfl) ?hQo1502 ?hyo1502 hS ?_
      case hio1502 => (simp only [List.getElem?_toArray, List.getElem?_cons_succ, List.getElem?_cons_zero]; rfl)
      case hQo1502 => exact fun _ _ _ h => h
      case hyo1502 =>
        refine Or.inl ⟨by rfl, ?_⟩
        intro W hW
        go_simp
        first | done | with_reducible rfl
      try simp only [Act.put, List.setIfInBounds_toArray, List.set_cons_zero, List.set_cons_succ]
      refine wpAnyH_take (i := 2) (oi := ?o1503) (v := ?vo1503) ?hio1503 (by kernel_rfl) (by kernel_rfl) (by kernel_rfl) ?hQo1503 ?hyo1503 hS ?_
      case hio1503 => (simp only [List.getElem?_toArray, List.getElem?_cons_succ, List.getElem?_cons_zero]; rfl)
      case hQo1503 => exact fun _ _ _ h => h
      case hyo1503 =>
        refine Or.inl ⟨by rfl, ?_⟩
        intro W hW
        have hcell := (hW.2.cellA 1).trans m1
        go_simp
        first | done | with_reducible rfl
      try simp only [Act.put, List.setIfInBounds_toArray, List.set_cons_zero, List.set_cons_succ]
      refine wpAnyH_take (i := 3) (oi := ?o1504) (v := ?vo1504) ?hio1504 (by kernel_rfl) (by kernel_rfl) (by kernel_rfl) ?hQo1504 ?hyo1504 hS ?_
      case hio1504 => (simp only [List.getElem?_toArray, List.getElem?_cons_succ, List.getElem?_cons_zero]; rfl)
      case hQo1504 => exact fun _ _ _ h => h
      case hyo1504 =>
        refine Or.inl ⟨by rfl, ?_⟩
        intro W hW
        go_simp
        first | done | with_reducible rfl
      try simp only [Act.put, List.setIfInBounds_toArray, List.set_cons_zero, List.set_cons_succ]
      refine wpAnyH_take (i := 4) (oi := ?o1505) (v := ?vo1505) ?hio1505 (by kernel_rfl) (by kernel_rfl) (by kernel_rfl) ?hQo1505 ?hyo1505 hS ?_
      case hio1505 => (simp only [List.getElem?_toArray, List.getElem?_cons_succ, List.getElem?_cons_zero]; rfl)
      case hQo1505 => exact fun _ _ _ h => h
      case hyo1505 =>
        refine Or.inl ⟨by rfl, ?_⟩
        intro W hW
        go_simp
        first | done | with_reducible rfl
      try simp only [Act.put, List.setIfInBounds_toArray, List.set_cons_zero, List.set_cons_succ]
      refine wpAnyH_take (i := 5) (oi := ?o1506) (v := ?vo1506) ?hio1506 (by kernel_rfl) (by kernel_rfl) (by kernel_rfl) ?hQo1506 ?hyo1506 hS ?_
      case hio1506 => (simp only [List.getElem?_toArray, List.getElem?_cons_succ, List.getElem?_cons_zero]; rfl)
      case hQo1506 => exact fun _ _ _ h => h
      case hyo1506 =>
        refine Or.inl ⟨by rfl, ?_⟩
        intro W hW
        have hcell := H42.out W hW.1
        go_simp
        first | done | with_reducible rfl
      try simp only [Act.put, List.setIfInBounds_toArray, List.set_cons_zero, List.set_cons_succ]
      refine wpAnyH_take (i := 6) (oi := ?o1507) (v := ?vo1507) ?hio1507 (by kernel_rfl) (by kernel_rfl) (by kernel_rfl) ?hQo1507 ?hyo1507 hS ?_
      case hio1507 => (simp only [List.getElem?_toArray, List.getElem?_cons_succ, List.getElem?_cons_zero]; rfl)
      case hQo1507 => exact fun _ _ _ h => h
      case hyo1507 =>
        refine Or.inl ⟨by rfl, ?_⟩
        intro W hW
        go_simp
        first | done | with_reducible rfl
      try simp only [Act.put, List.setIfInBounds_toArray, List.set_cons_zero, List.set_cons_succ]
      refine wpAnyH_take (i := 7) (oi := ?o1508) (v := ?vo1508) ?hio1508 (by kernel_rfl) (by kernel_rfl) (by kernel_rfl) ?hQo1508 ?hyo1508 hS ?_
      case hio1508 => (simp only [List.getElem?_toArray, List.getElem?_cons_succ, List.getElem?_cons_zero]; rfl)
      case hQo1508 => exact fun _ _ _ h => h
      case hyo1508 =>
        refine Or.inl ⟨by rfl, ?_⟩
        intro W hW
        go_simp
        first | done | with_reducible rfl
      try simp only [Act.put, List.setIfInBounds_toArray, List.set_cons_zero, List.set_cons_succ]
      refine wpAnyH_take (i := 8) (oi := ?o1509) (v := ?vo1509) ?hio1509 (by kernel_rfl) (by kernel_rfl) (by kernel_rfl) ?hQo1509 ?hyo1509 hS ?_
      case hio1509 => (simp only [List.getElem?_toArray, List.getElem?_cons_succ, List.getElem?_cons_zero]; rfl)
      case hQo1509 => exact fun _ _ _ h => h
      case hyo1509 =>
        refine Or.inl ⟨by rfl, ?_⟩
        intro W hW
        go_simp
        first | done | with_reducible rfl
      try simp only [Act.put, List.setIfInBounds_toArray, List.set_cons_zero, List.set_cons_succ]
      refine wpAnyH_take (i := 9) (oi := ?o1510) (v := ?vo1510) ?hio1510 (by kernel_rfl) (by kernel_rfl) (by kernel_rfl) ?hQo1510 ?hyo1510 hS ?_
      case hio1510 => (simp only [List.getElem?_toArray, List.getElem?_cons_succ, List.getElem?_cons_zero]; rfl)
      case hQo1510 => exact fun _ _ _ h => h
      case hyo1510 =>
        refine Or.inl ⟨by rfl, ?_⟩
        intro W hW
        go_simp
        first | done | with_reducible rfl
      try simp only [Act.put, List.setIfInBounds_toArray, List.set_cons_zero, List.set_cons_succ]
      refine wpAnyH_take (i := 10) (oi := ?o1511) (v := ?vo1511) ?hio1511 (by kernel_rfl) (by kernel_rfl) (by kernel_rfl) ?hQo1511 ?hyo1511 hS ?_
      case hio1511 => (simp only [List.getElem?_toArray, List.getElem?_cons_succ, List.getElem?_cons_zero]; rfl)
      case hQo1511 => exact fun _ _ _ h => h
      case hyo1511 =>
        refine Or.inl ⟨by rfl, ?_⟩
        intro W hW
        have hcell := (hW.2.cellA 1).trans m1
        go_simp
        first | done | with_reducible rfl
      try simp only [Act.put, List.setIfInBounds_toArray, List.set_cons_zero, List.set_cons_succ]
      refine wpAnyH_take (i := 11) (oi := ?o1512) (v := ?vo1512) ?hio1512 (by kernel_rfl) (by kernel_rfl) (by kernel_rfl) ?hQo1512 ?hyo1512 hS ?_
      case hio1512 => (simp only [List.getElem?_toArray, List.getElem?_cons_succ, List.getElem?_cons_zero]; rfl)
      case hQo1512 => exact fun _ _ _ h => h
      case hyo1512 =>
        refine Or.inl ⟨by rfl, ?_⟩
        intro W hW
        go_simp
        first | done | with_reducible rfl
      try simp only [Act.put, List.setIfInBounds_toArray, List.set_cons_zero, List.set_cons_succ]
      refine wpAnyH_take (i := 12) (oi := ?o1513) (v := ?vo1513) ?hio1513 (by kernel_rfl) (by kernel_rfl) (by kernel_rfl) ?hQo1513 ?hyo1513 hS ?_
      case hio1513 => (simp only [List.getElem?_toArray, List.getElem?_cons_succ, List.getElem?_cons_zero]; rfl)
      case hQo1513 => exact fun _ _ _ h => h
      case hyo1513 =>
        refine Or.inl ⟨by rfl, ?_⟩
        intro W hW
        go_simp
        first | done | with_reducible rfl
      try simp only [Act.put, List.setIfInBounds_toArray, List.set_cons_zero, List.set_cons_succ]
      refine wpAnyH_take (i := 13) (oi := ?o1514) (v := ?vo1514) ?hio1514 (by kernel_rfl) (by kernel_rfl) (by kernel_rfl) ?hQo1514 ?hyo1514 hS ?_
      case hio1514 => (simp only [List.getElem?_toArray, List.getElem?_cons_succ, List.getElem?_cons_zero]; rfl)
      case hQo1514 => exact fun _ _ _ h => h
      case hyo1514 =>
        refine Or.inl ⟨by rfl, ?_⟩
        intro W hW
        have hcell := H43.out W hW.1
        go_simp
        first | done | with_reducible rfl
      try simp only [Act.put, List.setIfInBounds_toArray, List.set_cons_zero, List.set_cons_succ]
      refine wpAnyH_take (i := 14) (oi := ?o1515) (v := ?vo1515) ?hio1515 (by kernel_rfl) (by kernel_rfl) (by kernel_rfl) ?hQo1515 ?hyo1515 hS ?_
      case hio1515 => (simp only [List.getElem?_toArray, List.getElem?_cons_succ, List.getElem?_cons_zero]; rfl)
      case hQo1515 => exact fun _ _ _ h => h
      case hyo1515 =>
        refine Or.inl ⟨by rfl, ?_⟩
        intro W hW
        go_simp
        first | done | with_reducible rfl
      try simp only [Act.put, List.setIfInBounds_toArray, List.set_cons_zero, List.set_cons_succ]
      refine wpAnyH_take (i := 15) (oi := ?o1516) (v := ?vo1516) ?hio1516 (by kernel_rfl) (by kernel_rfl) (by kernel_rfl) ?hQo1516 ?hyo1516 hS ?_
      case hio1516 => (simp only [List.getElem?_toArray, List.getElem?_cons_succ, List.getElem?_cons_zero]; rfl)
      case hQo1516 => exact fun _ _ _ h => h
      case hyo1516 =>
        refine Or.inl ⟨by rfl, ?_⟩
        intro W hW
        go_simp
        first | done | with_reducible rfl
      try simp only [Act.put, List.setIfInBounds_toArray, List.set_cons_zero, List.set_cons_succ]
      refine wpAnyH_take (i := 16) (oi := ?o1517) (v := ?vo1517) ?hio1517 (by kernel_rfl) (by kernel_rfl) (by kernel_rfl) ?hQo1517 ?hyo1517 hS ?_
      case hio1517 => (simp only [List.getElem?_toArray, List.getElem?_cons_succ, List.getElem?_cons_zero]; rfl)
      case hQo1517 => exact fun _ _ _ h => h
      case hyo1517 =>
        refine Or.inl ⟨by rfl, ?_⟩
        intro W hW
        go_simp
        first | done | with_reducible rfl
      try simp only [Act.put, List.setIfInBounds_toArray, List.set_cons_zero, List.set_cons_succ]
      refine wpAnyH_take (i := 17) (oi := ?o1518) (v := ?vo1518) ?hio1518 (by kernel_rfl) (by kernel_rfl) (by kernel_rfl) ?hQo1518 ?hyo1518 hS ?_
      case hio1518 => (simp only [List.getElem?_toArray, List.getElem?_cons_succ, List.getElem?_cons_zero]; rfl)
      case hQo1518 => exact fun _ _ _ h => h
      case hyo1518 =>
        refine Or.inl ⟨by rfl, ?_⟩
        intro W hW
        go_simp
        first | done | with_reducible rfl
      try simp only [Act.put, List.setIfInBounds_toArray, List.set_cons_zero, List.set_cons_succ]
      refine wpAnyH_done (by kernel_rfl) ?_ _
      go_wp2
      go_ret
      exact ⟨by rw [E]; rfl, qk.1⟩
    · have E : kL l = false := by rw [HE.out]; simp [qz]
      have dz : decide ((8 : Int) ≤ (Z : Int)) = false := decide_eq_false (by omega)
      go_enter Try.func91, Try.ntmps91
      go_wp2_with fail
      refine HP.out.mono ?_
      rintro e w1 ⟨rfl, hb1⟩
      have b2 : Below w.heap.size w (w1.alloc (.cells M 42)) := hb1.alloc hb1.size _
      have k2 : Blk (w1.alloc (.cells M 42)) w1.heap.size 42 M := blk_new _ _ _
      generalize hg1 : w1.heap.size = g1 at *
      have c0 := (k2.cellA 0).trans m0
      have c1 := (k2.cellA 1).trans m1
      have c2 := (k2.cellA 2).trans m2
      have c6 := (k2.cellA 6).trans m6
      have c8 := (k2.cellA 8).trans m8
      go_wp2_with (first
        | (refine wpList_allocStore (cs := M) rfl rfl 42 ?ho (.tmp 3) (.tmp 8) ?ho2 Try.zeroHead ?hz ?hx ?hy ?hn ?h1 ?_
           case ho => with_reducible rfl
           case ho2 => rfl
           case hz => exact zH_size
           case hx => rfl
           case hy => rfl
           case hn => exact hsz
           case h1 => exact o1
           rw [hg1])
        | fail)
      have qk : Below w.heap.size w (w1.alloc (.cells M 42)).drew ∧ Blk (w1.alloc (.cells M 42)).drew g1 42 M := ⟨b2.drew, k2⟩
      generalize (w1.alloc (.cells M 42)) = W1 at *
      clear c0 c1 c2 c6 c8 k2 b2
      refine wp_region_held_drew (S := fun W => Below w.heap.size w W ∧ Blk W g1 42 M) (by kernel_rfl) qk ?_
      intro hS
      refine wpAnyH_take (i := 0) (oi := ?o1519) (v := ?vo1519) ?hio1519 (by kernel_rfl) (by kernel_rfl) (by kernel_rfl) ?hQo1519 ?hyo1519 hS ?_
      case hio1519 => (simp only [List.getElem?_toArray, List.getElem?_cons_succ, List.getElem?_cons_zero]; rfl)
      case hQo1519 => exact fun _ _ _ h => h
      case hyo1519 =>
        refine Or.inl ⟨by rfl, ?_⟩
        intro W hW
        go_simp
        first | done | with_reducible rfl
      try simp only [Act.put, List.setIfInBounds_toArray, List.set_cons_zero, List.set_cons_succ]
      refine wpAnyH_take (i := 1) (oi := ?o1520) (v := ?vo1520) ?hio1520 (by kernel_rfl) (by kernel_rfl) (by kernel_rfl) ?hQo1520 ?hyo1520 hS ?_
      case hio1520 => (simp only [List.getElem?_toArray, List.getElem?_cons_succ, List.getElem?_cons_zero]; rfl)
      case hQo1520 => exact fun _ _ _ h => h
      case hyo1520 =>
        refine Or.inl ⟨by rfl, ?_⟩
        intro W hW
        go_simp
        first | done | with_reducible rfl
      try simp only [Act.put, List.setIfInBounds_toArray, List.set_cons_zero, List.set_cons_succ]
      refine wpAnyH_take (i := 2) (oi := ?o1521) (v := ?vo1521) ?hio1521 (by kernel_rfl) (by kernel_rfl) (by kernel_rfl) ?hQo1521 ?hyo1521 hS ?_
      case hio1521 => (simp only [List.getElem?_toArray, List.getElem?_cons_succ, List.getElem?_cons_zero]; rfl)
      case hQo1521 => exact fun _ _ _ h => h
      case hyo1521 =>
        refine Or.inl ⟨by rfl, ?_⟩
        intro W hW
        have hcell := (hW.2.cellA 1).trans m1
        go_simp
        first | done | with_reducible rfl
      try simp only [Act.put, List.setIfInBounds_toArray, List.set_cons_zero, List.set_cons_succ]
      refine wpAnyH_take (i := 3) (oi := ?o1522) (v := ?vo1522) ?hio1522 (by kernel_rfl) (by kernel_rfl) (by kernel_rfl) ?hQo1522 ?hyo1522 hS ?_
      case hio1522 => (simp only [List.getElem?_toArray, List.getElem?_cons_succ, List.getElem?_cons_zero]; rfl)
      case hQo1522 => exact fun _ _ _ h => h
      case hyo1522 =>
        refine Or.inl ⟨by rfl, ?_⟩
        intro W hW
        go_simp
        first | done | with_reducible rfl
      try simp only [Act.put, List.setIfInBounds_toArray, List.set_cons_zero, List.set_cons_succ]
      refine wpAnyH_take (i := 4) (oi := ?o1523) (v := ?vo1523) ?hio1523 (by kernel_rfl) (by kernel_rfl) (by kernel_rfl) ?hQo1523 ?hyo1523 hS ?_
      case hio1523 => (simp only [List.getElem?_toArray, List.getElem?_cons_succ, List.getElem?_cons_zero]; rfl)
      case hQo1523 => exact fun _ _ _ h => h
      case hyo1523 =>
        refine Or.inl ⟨by rfl, ?_⟩
        intro W hW
        go_simp
        first | done | with_reducible rfl
      try simp only [Act.put, List.setIfInBounds_toArray, List.set_cons_zero, List.set_cons_succ]
      refine wpAnyH_take (i := 5) (oi := ?o1524) (v := ?vo1524) ?hio1524 (by kernel_rfl) (by kernel_rfl) (by kernel_rfl) ?hQo1524 ?hyo1524 hS ?_
      case hio1524 => (simp only [List.getElem?_toArray, List.getElem?_cons_succ, List.getElem?_cons_zero]; rfl)
      case hQo1524 => exact fun _ _ _ h => h
      case hyo1524 =>
        refine Or.inl ⟨by rfl, ?_⟩
        intro W hW
        have hcell := H42.out W hW.1
        go_simp
        first | done | with_reducible rfl
      try simp only [Act.put, List.setIfInBounds_toArray, List.set_cons_zero, List.set_cons_succ]
      refine wpAnyH_take (i := 6) (oi := ?o1525) (v := ?vo1525) ?hio1525 (by kernel_rfl) (by kernel_rfl) (by kernel_rfl) ?hQo1525 ?hyo1525 hS ?_
      case hio1525 => (simp only [List.getElem?_toArray, List.getElem?_cons_succ, List.getElem?_cons_zero]; rfl)
      case hQo1525 => exact fun _ _ _ h => h
      case hyo1525 =>
        refine Or.inl ⟨by rfl, ?_⟩
        intro W hW
        go_simp
        first | done | with_reducible rfl
      try simp only [Act.put, List.setIfInBounds_toArray, List.set_cons_zero, List.set_cons_succ]
      refine wpAnyH_take (i := 7) (oi := ?o1526) (v := ?vo1526) ?hio1526 (by kernel_rfl) (by kernel_rfl) (by kernel_rfl) ?hQo1526 ?hyo1526 hS ?_
      case hio1526 => (simp only [List.getElem?_toArray, List.getElem?_cons_succ, List.getElem?_cons_zero]; rfl)
      case hQo1526 => exact fun _ _ _ h => h
      case hyo1526 =>
        refine Or.inl ⟨by rfl, ?_⟩
        intro W hW
        go_simp
        first | done | with_reducible rfl
      try simp only [Act.put, List.setIfInBounds_toArray, List.set_cons_zero, List.set_cons_succ]
      refine wpAnyH_take (i := 8) (oi := ?o1527) (v := ?vo1527) ?hio1527 (by kernel_rfl) (by kernel_rfl) (by kernel_rfl) ?hQo1527 ?hyo1527 hS ?_
      case hio1527 => (simp only [List.getElem?_toArray, List.getElem?_cons_succ, List.getElem?_cons_zero]; rfl)
      case hQo1527 => exact fun _ _ _ h => h
      case hyo1527 =>
        refine Or.inl ⟨by rfl, ?_⟩
        intro W hW
        go_simp
        first | done | with_reducible rfl
      try simp only [Act.put, List.setIfInBounds_toArray, List.set_cons_zero, List.set_cons_succ]
      refine wpAnyH_take (i := 9) (oi := ?o1528) (v := ?vo1528) ?hio1528 (by kernel_rfl) (by kernel_rfl) (by kernel_rfl) ?hQo1528 ?hyo1528 hS ?_
      case hio1528 => (simp only [List.getElem?_toArray, List.getElem?_cons_succ, List.getElem?_cons_zero]; rfl)
      case hQo1528 => exact fun _ _ _ h => h
      case hyo1528 =>
        refine Or.inl ⟨by rfl, ?_⟩
        intro W hW
        go_simp
        first | done | with_reducible rfl
      try simp only [Act.put, List.setIfInBounds_toArray, List.set_cons_zero, List.set_cons_succ]
      refine wpAnyH_take (i := 10) (oi := ?o1529) (v := ?vo1529) ?hio1529 (by kernel_rfl) (by kernel_rfl) (by kernel_rfl) ?hQo1529 ?hyo1529 hS ?_
      case hio1529 => (simp only [List.getElem?_toArray, List.getElem?_cons_succ, List.getElem?_cons_zero]; rfl)
      case hQo1529 => exact fun _ _ _ h => h
      case hyo1529 =>
        refine Or.inl ⟨by rfl, ?_⟩
        intro W hW
        have hcell := (hW.2.cellA 1).trans m1
        go_simp
        first | done | with_reducible rfl
      try simp only [Act.put, List.setIfInBounds_toArray, List.set_cons_zero, List.set_cons_succ]
      refine wpAnyH_take (i := 11) (oi := ?o1530) (v := ?vo1530) ?hio1530 (by kernel_rfl) (by kernel_rfl) (by kernel_rfl) ?hQo1530 ?hyo1530 hS ?_
      case hio1530 => (simp only [List.getElem?_toArray, List.getElem?_cons_succ, List.getElem?_cons_zero]; rfl)
      case hQo1530 => exact fun _ _ _ h => h
      case hyo1530 =>
        refine Or.inl ⟨by rfl, ?_⟩
        intro W hW
        go_simp
        first | done | with_reducible rfl
      try simp only [Act.put, List.setIfInBounds_toArray, List.set_cons_zero, List.set_cons_succ]
      refine wpAnyH_take (i := 12) (oi := ?o1531) (v := ?vo1531) ?hio1531 (by kernel_rfl) (by kernel_rfl) (by kernel_rfl) ?hQo1531 ?hyo1531 hS ?_
      case hio1531 => (simp only [List.getElem?_toArray, List.getElem?_cons_succ, List.getElem?_cons_zero]; rfl)
      case hQo1531 => exact fun _ _ _ h => h
      case hyo1531 =>
        refine Or.inl ⟨by rfl, ?_⟩
        intro W hW
        go_simp
        first | done | with_reducible rfl
      try simp only [Act.put, List.setIfInBounds_toArray, List.set_cons_zero, List.set_cons_succ]
      refine wpAnyH_take (i := 13) (oi := ?o1532) (v := ?vo1532) ?hio1532 (by kernel_rfl) (by kernel_rfl) (by kernel_rfl) ?hQo1532 ?hyo1532 hS ?_
      case hio1532 => (simp only [List.getElem?_toArray, List.getElem?_cons_succ, List.getElem?_cons_zero]; rfl)
      case hQo1532 => exact fun _ _ _ h => h
      case hyo1532 =>
        refine Or.inl ⟨by rfl, ?_⟩
        intro W hW
        have hcell := H43.out W hW.1
        go_simp
        first | done | with_reducible rfl
      try simp only [Act.put, List.setIfInBounds_toArray, List.set_cons_zero, List.set_cons_succ]
      refine wpAnyH_take (i := 14) (oi := ?o1533) (v := ?vo1533) ?hio1533 (by kernel_rfl) (by kernel_rfl) (by kernel_rfl) ?hQo1533 ?hyo1533 hS ?_
      case hio1533 => (simp only [List.getElem?_toArray, List.getElem?_cons_succ, List.getElem?_cons_zero]; rfl)
      case hQo1533 => exact fun _ _ _ h => h
      case hyo1533 =>
        refine Or.inl ⟨by rfl, ?_⟩
        intro W hW
        go_simp
        first | done | with_reducible rfl
      try simp only [Act.put, List.setIfInBounds_toArray, List.set_cons_zero, List.set_cons_succ]
      refine wpAnyH_take (i := 15) (oi := ?o1534) (v := ?vo1534) ?hio1534 (by kernel_rfl) (by kernel_rfl) (by kernel_rfl) ?hQo1534 ?hyo1534 hS ?_
      case hio1534 => (simp only [List.getElem?_toArray, List.getElem?_cons_succ, List.getElem?_cons_zero]; rfl)
      case hQo1534 => exact fun _ _ _ h => h
      case hyo1534 =>
        refine Or.inl ⟨by rfl, ?_⟩
        intro W hW
        go_simp
        first | done | with_reducible rfl
      try simp only [Act.put, List.setIfInBounds_toArray, List.set_cons_zero, List.set_cons_succ]
      refine wpAnyH_take (i := 16) (oi := ?o1535) (v := ?vo1535) ?hio1535 (by kernel_rfl) (by kernel_rfl) (by kernel_rfl) ?hQo1535 ?hyo1535 hS ?_
      case hio1535 => (simp only [List.getElem?_toArray, List.getElem?_cons_succ, List.getElem?_cons_zero]; rfl)
      case hQo1535 => exact fun _ _ _ h => h
      case hyo1535 =>
        refine Or.inl ⟨by rfl, ?_⟩
        intro W hW
        go_simp
        first | done | with_reducible rfl
      try simp only [Act.put, List.setIfInBounds_toArray, List.set_cons_zero, List.set_cons_succ]
      refine wpAnyH_take (i := 17) (oi := ?o1536) (v := ?vo1536) ?hio1536 (by kernel_rfl) (by kernel_rfl) (by kernel_rfl) ?hQo1536 ?hyo1536 hS ?_
      case hio1536 => (simp only [List.getElem?_toArray, List.getElem?_cons_succ, List.getElem?_cons_zero]; rfl)
      case hQo1536 => exact fun _ _ _ h => h
      case hyo1536 =>
        refine Or.inl ⟨by rfl, ?_⟩
        intro W hW
        go_simp
        first | done | with_reducible rfl
      try simp only [Act.put, List.setIfInBounds_toArray, List.set_cons_zero, List.set_cons_succ]
      refine wpAnyH_done (by kernel_rfl) ?_ _
      go_wp2
      go_ret
      exact ⟨by rw [E]; rfl, qk.1⟩

set_option maxRecDepth 100000 in
set_option maxHeartbeats 4000000 in
theorem refLater_any (A : Option Addr) (n c : Nat) (l : List UInt8) (w : World) (hn : n ≤ 1000000) (hc : n ≤ c) (hcm : c ≤ maxLen) (hs : Shows w w.heap.size A n l) :
    Calls Try.prog 93 #[.slice A n c] w fun e w' => e = .returned (.bool (kL l)) ∧ Below w.heap.size w w' := by
  have hz := (zero_of_info Try.zeroHead).1
  have hne : ¬ zH = #[] := by intro h; have := zH_size; rw [h] at this; cases this
  have HP := Lib.hid (krefParse_any A n c l w hn hc hcm hs)
  have hl := hs.len
  have hsz := kH_size l
  have o1 := kH_one l
  have m0 := kX_cell l 0 (by omega)
  have m1 := kX_cell l 1 (by omega)
  have m2 := kX_cell l 2 (by omega)
  have m6 := kX_cell l 6 (by omega)
  have m8 := kX_cell l 8 (by omega)
  have HF := Lib.hid (fun h => kfacts (l := l) h)
  have HI := Lib.hid (show kL l = (decide (kE l = 0) && (if kX l 0 = 4 then !decide (kX l 6 = 0) else decide (kX l 8 = 44) && (decide (48 ≤ kX l 2) && decide (8 ≤ byt l 42 * 256 + byt l 43)))) from rfl)
  have HY := Lib.hid (fun (b off : Nat) (hA : A = some ⟨b, off, none⟩) (i : Nat) (hi : i < n) (W : World) (hW : Below w.heap.size w W) => show W.cell? ⟨b, off + i, none⟩ = some (.int .u8 (byt l i : Int)) from by subst hA; exact (hs.below hW).byt i hi)
  have HA := Lib.hid (fun (h : 0 < n) => hs.2 h)
  have y2 := byt_lt l 42
  have y3 := byt_lt l 43
  generalize kX l 0 = V at *
  generalize kX l 1 = S at *
  generalize kX l 2 = T at *
  generalize kX l 6 = G at *
  generalize kX l 8 = P at *
  generalize kH l = M at *
  generalize kE l = E0 at *
  clear hs
  by_cases q0 : ¬ E0 = 0
  · have E : kL l = false := by rw [HI.out]; simp [q0]
    have d0 : decide ((E0 : Int) = 0) = false := decide_eq_false (by omega)
    have d0' : (((E0 : Int)) == 0) = false := by simp; omega
    have d0'' : (((E0 : Int)) != 0) = true := by simp; omega
    go_enter Try.func93, Try.ntmps93
    go_wp2_with fail
    refine HP.out.mono ?_
    rintro e w1 ⟨rfl, hb1⟩
    have b2 : Below w.heap.size w (w1.alloc (.cells M 42)) := hb1.alloc hb1.size _
    have k2 : Blk (w1.alloc (.cells M 42)) w1.heap.size 42 M := blk_new _ _ _
    generalize hg1 : w1.heap.size = g1 at *
    have c0 := (k2.cellA 0).trans m0
    have c1 := (k2.cellA 1).trans m1
    have c2 := (k2.cellA 2).trans m2
    have c6 := (k2.cellA 6).trans m6
    have c8 := (k2.cellA 8).trans m8
    go_wp2_with (first
      | (refine wpList_allocStore (cs := M) rfl rfl 42 ?ho (.tmp 3) (.tmp 8) ?ho2 Try.zeroHead ?hz ?hx ?hy ?hn ?h1 ?_
         case ho => with_reducible rfl
         case ho2 => rfl
         case hz => exact zH_size
         case hx => rfl
         case hy => rfl
         case hn => exact hsz
         case h1 => exact o1
         rw [hg1]))
    go_ret
    exact ⟨by rw [E]; rfl, b2⟩
  obtain rfl : E0 = 0 := by omega
  obtain ⟨f1, f2, f3, f4, f5⟩ := HF.out rfl
  rw [hl] at f4
  by_cases q2 : V = 4
  · subst q2
    by_cases q3 : G = 0
    · subst q3
      have E : kL l = false := by rw [HI.out]; simp
      go_enter Try.func93, Try.ntmps93
      go_wp2_with fail
      refine HP.out.mono ?_
      rintro e w1 ⟨rfl, hb1⟩
      have b2 : Below w.heap.size w (w1.alloc (.cells M 42)) := hb1.alloc hb1.size _
      have k2 : Blk (w1.alloc (.cells M 42)) w1.heap.size 42 M := blk_new _ _ _
      generalize hg1 : w1.heap.size = g1 at *
      have c0 := (k2.cellA 0).trans m0
      have c1 := (k2.cellA 1).trans m1
      have c2 := (k2.cellA 2).trans m2
      have c6 := (k2.cellA 6).trans m6
      have c8 := (k2.cellA 8).trans m8
      go_wp2_with (first
        | (refine wpList_allocStore (cs := M) rfl rfl 42 ?ho (.tmp 3) (.tmp 8) ?ho2 Try.zeroHead ?hz ?hx ?hy ?hn ?h1 ?_
           case ho => with_reducible rfl
           case ho2 => rfl
           case hz => exact zH_size
           case hx => rfl
           case hy => rfl
           case hn => exact hsz
           case h1 => exact o1
           rw [hg1]))
      go_ret
      exact ⟨by rw [E]; rfl, b2⟩
    · have E : kL l = true := by rw [HI.out]; simp [q3]
      have d3 : decide ((G : Int) = 0) = false := decide_eq_false (by omega)
      have d3' : (((G : Int)) == 0) = false := by simp; omega
      have d3'' : (((G : Int)) != 0) = true := by simp; omega
      go_enter Try.func93, Try.ntmps93
      go_wp2_with fail
      refine HP.out.mono ?_
      rintro e w1 ⟨rfl, hb1⟩
      have b2 : Below w.heap.size w (w1.alloc (.cells M 42)) := hb1.alloc hb1.size _
      have k2 : Blk (w1.alloc (.cells M 42)) w1.heap.size 42 M := blk_new _ _ _
      generalize hg1 : w1.heap.size = g1 at *
      have c0 := (k2.cellA 0).trans m0
      have c1 := (k2.cellA 1).trans m1
      have c2 := (k2.cellA 2).trans m2
      have c6 := (k2.cellA 6).trans m6
      have c8 := (k2.cellA 8).trans m8
      go_wp2_with (first
        | (refine wpList_allocStore (cs := M) rfl rfl 42 ?ho (.tmp 3) (.tmp 8) ?ho2 Try.zeroHead ?hz ?hx ?hy ?hn ?h1 ?_
           case ho => with_reducible rfl
           case ho2 => rfl
           case hz => exact zH_size
           case hx => rfl
           case hy => rfl
           case hn => exact hsz
           case h1 => exact o1
           rw [hg1]))
      go_ret
      exact ⟨by rw [E]; rfl, b2⟩
  · have d2 : decide ((V : Int) = 4) = false := decide_eq_false (by omega)
    have d2' : (((V : Int)) == 4) = false := by simp; omega
    have d2'' : (((V : Int)) != 4) = true := by simp; omega
    obtain rfl : S = 40 := by omega
    have m1' : M[1]? = some (.int .i64 40) := m1
    clear m1
    have m1 := m1'
    clear m1'
    obtain ⟨b, off, rfl, hbb, _⟩ := HA.out (by omega)
    have HC := Lib.hid (HY.out b off rfl)
    clear HY HA HF
    by_cases q3 : ¬ P = 44
    · have E : kL l = false := by rw [HI.out]; simp [q2, q3]
      have d3 : decide ((P : Int) = 44) = false := decide_eq_false (by omega)
      have d3' : (((P : Int)) == 44) = false := by simp; omega
      have d3'' : (((P : Int)) != 44) = true := by simp; omega
      go_enter Try.func93, Try.ntmps93
      go_wp2_with fail
      refine HP.out.mono ?_
      rintro e w1 ⟨rfl, hb1⟩
      have b2 : Below w.heap.size w (w1.alloc (.cells M 42)) := hb1.alloc hb1.size _
      have k2 : Blk (w1.alloc (.cells M 42)) w1.heap.size 42 M := blk_new _ _ _
      generalize hg1 : w1.heap.size = g1 at *
      have c0 := (k2.cellA 0).trans m0
      have c1 := (k2.cellA 1).trans m1
      have c2 := (k2.cellA 2).trans m2
      have c6 := (k2.cellA 6).trans m6
      have c8 := (k2.cellA 8).trans m8
      go_wp2_with (first
        | (refine wpList_allocStore (cs := M) rfl rfl 42 ?ho (.tmp 3) (.tmp 8) ?ho2 Try.zeroHead ?hz ?hx ?hy ?hn ?h1 ?_
           case ho => with_reducible rfl
           case ho2 => rfl
           case hz => exact zH_size
           case hx => rfl
           case hy => rfl
           case hn => exact hsz
           case h1 => exact o1
           rw [hg1])
        | fail)
      have qk : Below w.heap.size w (w1.alloc (.cells M 42)).drew ∧ Blk (w1.alloc (.cells M 42)).drew g1 42 M := ⟨b2.drew, k2⟩
      generalize (w1.alloc (.cells M 42)) = W1 at *
      clear c0 c1 c2 c6 c8 k2 b2
      refine wp_region_held_drew (S := fun W => Below w.heap.size w W ∧ Blk W g1 42 M) (by kernel_rfl) qk ?_
      intro hS
      refine wpAnyH_take (i := 0) (oi := ?o1548) (v := ?vo1548) ?hio1548 (by kernel_rfl) (by kernel_rfl) (by kernel_rfl) ?hQo1548 ?hyo1548 hS ?_
      case hio1548 => (simp only [List.getElem?_toArray, List.getElem?_cons_succ, List.getElem?_cons_zero]; rfl)
      case hQo1548 => exact fun _ _ _ h => h
      case hyo1548 =>
        refine Or.inl ⟨by rfl, ?_⟩
        intro W hW
        go_simp
        first | done | with_reducible rfl
      try simp only [Act.put, List.setIfInBounds_toArray, List.set_cons_zero, List.set_cons_succ]
      refine wpAnyH_take (i := 1) (oi := ?o1549) (v := ?vo1549) ?hio1549 (by kernel_rfl) (by kernel_rfl) (by kernel_rfl) ?hQo1549 ?hyo1549 hS ?_
      case hio1549 => (simp only [List.getElem?_toArray, List.getElem?_cons_succ, List.getElem?_cons_zero]; rfl)
      case hQo1549 => exact fun _ _ _ h => h
      case hyo1549 =>
        refine Or.inl ⟨by rfl, ?_⟩
        intro W hW
        have hcell := (hW.2.cellA 8).trans m8
        go_simp
        first | done | with_reducible rfl
      try simp only [Act.put, List.setIfInBounds_toArray, List.set_cons_zero, List.set_cons_succ]
      refine wpAnyH_take (i := 2) (oi := ?o1550) (v := ?vo1550) ?hio1550 (by kernel_rfl) (by kernel_rfl) (by kernel_rfl) ?hQo1550 ?hyo1550 hS ?_
      case hio1550 => (simp only [List.getElem?_toArray, List.getElem?_cons_succ, List.getElem?_cons_zero]; rfl)
      case hQo1550 => exact fun _ _ _ h => h
      case hyo1550 =>
        refine Or.inl ⟨by rfl, ?_⟩
        intro W hW
        go_simp
        first | done | with_reducible rfl
      try simp only [Act.put, List.setIfInBounds_toArray, List.set_cons_zero, List.set_cons_succ]
      refine wpAnyH_take (i := 3) (oi := ?o1551) (v := ?vo1551) ?hio1551 (by kernel_rfl) (by kernel_rfl) (by kernel_rfl) ?hQo1551 ?hyo1551 hS ?_
      case hio1551 => (simp only [List.getElem?_toArray, List.getElem?_cons_succ, List.getElem?_cons_zero]; rfl)
      case hQo1551 => exact fun _ _ _ h => h
      case hyo1551 =>
        refine Or.inl ⟨by rfl, ?_⟩
        intro W hW
        go_simp
        first | done | with_reducible rfl
      try simp only [Act.put, List.setIfInBounds_toArray, List.set_cons_zero, List.set_cons_succ]
      refine wpAnyH_take (i := 4) (oi := ?o1552) (v := undef) ?hio1552 (by kernel_rfl) (by kernel_rfl) (by kernel_rfl) ?hQo1552 ?hyo1552 hS ?_
      case hio1552 => (simp only [List.getElem?_toArray, List.getElem?_cons_succ, List.getElem?_cons_zero]; rfl)
      case hQo1552 => exact fun _ _ _ h => h
      case hyo1552 => exact Or.inr ⟨by rfl, rfl⟩
      try simp only [Act.put, List.setIfInBounds_toArray, List.set_cons_zero, List.set_cons_succ]
      refine wpAnyH_take (i := 5) (oi := ?o1553) (v := undef) ?hio1553 (by kernel_rfl) (by kernel_rfl) (by kernel_rfl) ?hQo1553 ?hyo1553 hS ?_
      case hio1553 => (simp only [List.getElem?_toArray, List.getElem?_cons_succ, List.getElem?_cons_zero]; rfl)
      case hQo1553 => exact fun _ _ _ h => h
      case hyo1553 => exact Or.inr ⟨by rfl, rfl⟩
      try simp only [Act.put, List.setIfInBounds_toArray, List.set_cons_zero, List.set_cons_succ]
      refine wpAnyH_take (i := 6) (oi := ?o1554) (v := undef) ?hio1554 (by kernel_rfl) (by kernel_rfl) (by kernel_rfl) ?hQo1554 ?hyo1554 hS ?_
      case hio1554 => (simp only [List.getElem?_toArray, List.getElem?_cons_succ, List.getElem?_cons_zero]; rfl)
      case hQo1554 => exact fun _ _ _ h => h
      case hyo1554 => exact Or.inr ⟨by rfl, rfl⟩
      try simp only [Act.put, List.setIfInBounds_toArray, List.set_cons_zero, List.set_cons_succ]
      refine wpAnyH_take (i := 7) (oi := ?o1555) (v := ?vo1555) ?hio1555 (by kernel_rfl) (by kernel_rfl) (by kernel_rfl) ?hQo1555 ?hyo1555 hS ?_
      case hio1555 => (simp only [List.getElem?_toArray, List.getElem?_cons_succ, List.getElem?_cons_zero]; rfl)
      case hQo1555 => exact fun _ _ _ h => h
      case hyo1555 =>
        refine Or.inl ⟨by rfl, ?_⟩
        intro W hW
        go_simp
        first | done | with_reducible rfl
      try simp only [Act.put, List.setIfInBounds_toArray, List.set_cons_zero, List.set_cons_succ]
      refine wpAnyH_take (i := 8) (oi := ?o1556) (v := ?vo1556) ?hio1556 (by kernel_rfl) (by kernel_rfl) (by kernel_rfl) ?hQo1556 ?hyo1556 hS ?_
      case hio1556 => (simp only [List.getElem?_toArray, List.getElem?_cons_succ, List.getElem?_cons_zero]; rfl)
      case hQo1556 => exact fun _ _ _ h => h
      case hyo1556 =>
        refine Or.inl ⟨by rfl, ?_⟩
        intro W hW
        go_simp
        first | done | with_reducible rfl
      try simp only [Act.put, List.setIfInBounds_toArray, List.set_cons_zero, List.set_cons_succ]
      refine wpAnyH_take (i := 9) (oi := ?o1557) (v := undef) ?hio1557 (by kernel_rfl) (by kernel_rfl) (by kernel_rfl) ?hQo1557 ?hyo1557 hS ?_
      case hio1557 => (simp only [List.getElem?_toArray, List.getElem?_cons_succ, List.getElem?_cons_zero]; rfl)
      case hQo1557 => exact fun _ _ _ h => h
      case hyo1557 => exact Or.inr ⟨by rfl, rfl⟩
      try simp only [Act.put, List.setIfInBounds_toArray, List.set_cons_zero, List.set_cons_succ]
      refine wpAnyH_take (i := 10) (oi := ?o1558) (v := undef) ?hio1558 (by kernel_rfl) (by kernel_rfl) (by kernel_rfl) ?hQo1558 ?hyo1558 hS ?_
      case hio1558 => (simp only [List.getElem?_toArray, List.getElem?_cons_succ, List.getElem?_cons_zero]; rfl)
      case hQo1558 => exact fun _ _ _ h => h
      case hyo1558 => exact Or.inr ⟨by rfl, rfl⟩
      try simp only [Act.put, List.setIfInBounds_toArray, List.set_cons_zero, List.set_cons_succ]
      refine wpAnyH_take (i := 11) (oi := ?o1559) (v := undef) ?hio1559 (by kernel_rfl) (by kernel_rfl) (by kernel_rfl) ?hQo1559 ?hyo1559 hS ?_
      case hio1559 => (simp only [List.getElem?_toArray, List.getElem?_cons_succ, List.getElem?_cons_zero]; rfl)
      case hQo1559 => exact fun _ _ _ h => h
      case hyo1559 => exact Or.inr ⟨by rfl, rfl⟩
      try simp only [Act.put, List.setIfInBounds_toArray, List.set_cons_zero, List.set_cons_succ]
      refine wpAnyH_take (i := 12) (oi := ?o1560) (v := undef) ?hio1560 (by kernel_rfl) (by kernel_rfl) (by kernel_rfl) ?hQo1560 ?hyo1560 hS ?_
      case hio1560 => (simp only [List.getElem?_toArray, List.getElem?_cons_succ, List.getElem?_cons_zero]; rfl)
      case hQo1560 => exact fun _ _ _ h => h
      case hyo1560 => exact Or.inr ⟨by rfl, rfl⟩
      try simp only [Act.put, List.setIfInBounds_toArray, List.set_cons_zero, List.set_cons_succ]
      refine wpAnyH_take (i := 13) (oi := ?o1561) (v := undef) ?hio1561 (by kernel_rfl) (by kernel_rfl) (by kernel_rfl) ?hQo1561 ?hyo1561 hS ?_
      case hio1561 => (simp only [List.getElem?_toArray, List.getElem?_cons_succ, List.getElem?_cons_zero]; rfl)
      case hQo1561 => exact fun _ _ _ h => h
      case hyo1561 => exact Or.inr ⟨by rfl, rfl⟩
      try simp only [Act.put, List.setIfInBounds_toArray, List.set_cons_zero, List.set_cons_succ]
      refine wpAnyH_take (i := 14) (oi := ?o1562) (v := undef) ?hio1562 (by kernel_rfl) (by kernel_rfl) (by kernel_rfl) ?hQo1562 ?hyo1562 hS ?_
      case hio1562 => (simp only [List.getElem?_toArray, List.getElem?_cons_succ, List.getElem?_cons_zero]; rfl)
      case hQo1562 => exact fun _ _ _ h => h
      case hyo1562 => exact Or.inr ⟨by rfl, rfl⟩
      try simp only [Act.put, List.setIfInBounds_toArray, List.set_cons_zero, List.set_cons_succ]
      refine wpAnyH_take (i := 15) (oi := ?o1563) (v := undef) ?hio1563 (by kernel_rfl) (by kernel_rfl) (by kernel_rfl) ?hQo1563 ?hyo1563 hS ?_
      case hio1563 => (simp only [List.getElem?_toArray, List.getElem?_cons_succ, List.getElem?_cons_zero]; rfl)
      case hQo1563 => exact fun _ _ _ h => h
      case hyo1563 => exact Or.inr ⟨by rfl, rfl⟩
      try simp only [Act.put, List.setIfInBounds_toArray, List.set_cons_zero, List.set_cons_succ]
      refine wpAnyH_take (i := 16) (oi := ?o1564) (v := undef) ?hio1564 (by kernel_rfl) (by kernel_rfl) (by kernel_rfl) ?hQo1564 ?hyo1564 hS ?_
      case hio1564 => (simp only [List.getElem?_toArray, List.getElem?_cons_succ, List.getElem?_cons_zero]; rfl)
      case hQo1564 => exact fun _ _ _ h => h
      case hyo1564 => exact Or.inr ⟨by rfl, rfl⟩
      try simp only [Act.put, List.setIfInBounds_toArray, List.set_cons_zero, List.set_cons_succ]
      refine wpAnyH_take (i := 17) (oi := ?o1565) (v := undef) ?hio1565 (by kernel_rfl) (by kernel_rfl) (by kernel_rfl) ?hQo1565 ?hyo1565 hS ?_
      case hio1565 => (simp only [List.getElem?_toArray, List.getElem?_cons_succ, List.getElem?_cons_zero]; rfl)
      case hQo1565 => exact fun _ _ _ h => h
      case hyo1565 => exact Or.inr ⟨by rfl, rfl⟩
      try simp only [Act.put, List.setIfInBounds_toArray, List.set_cons_zero, List.set_cons_succ]
      refine wpAnyH_take (i := 18) (oi := ?o1566) (v := undef) ?hio1566 (by kernel_rfl) (by kernel_rfl) (by kernel_rfl) ?hQo1566 ?hyo1566 hS ?_
      case hio1566 => (simp only [List.getElem?_toArray, List.getElem?_cons_succ, List.getElem?_cons_zero]; rfl)
      case hQo1566 => exact fun _ _ _ h => h
      case hyo1566 => exact Or.inr ⟨by rfl, rfl⟩
      try simp only [Act.put, List.setIfInBounds_toArray, List.set_cons_zero, List.set_cons_succ]
      refine wpAnyH_take (i := 19) (oi := ?o1567) (v := undef) ?hio1567 (by kernel_rfl) (by kernel_rfl) (by kernel_rfl) ?hQo1567 ?hyo1567 hS ?_
      case hio1567 => (simp only [List.getElem?_toArray, List.getElem?_cons_succ, List.getElem?_cons_zero]; rfl)
      case hQo1567 => exact fun _ _ _ h => h
      case hyo1567 => exact Or.inr ⟨by rfl, rfl⟩
      try simp only [Act.put, List.setIfInBounds_toArray, List.set_cons_zero, List.set_cons_succ]
      refine wpAnyH_take (i := 20) (oi := ?o1568) (v := ?vo1568) ?hio1568 (by kernel_rfl) (by kernel_rfl) (by kernel_rfl) ?hQo1568 ?hyo1568 hS ?_
      case hio1568 => (simp only [List.getElem?_toArray, List.getElem?_cons_succ, List.getElem?_cons_zero]; rfl)
      case hQo1568 => exact fun _ _ _ h => h
      case hyo1568 =>
        refine Or.inl ⟨by rfl, ?_⟩
        intro W hW
        go_simp
        first | done | with_reducible rfl
      try simp only [Act.put, List.setIfInBounds_toArray, List.set_cons_zero, List.set_cons_succ]
      refine wpAnyH_take (i := 21) (oi := ?o1569) (v := ?vo1569) ?hio1569 (by kernel_rfl) (by kernel_rfl) (by kernel_rfl) ?hQo1569 ?hyo1569 hS ?_
      case hio1569 => (simp only [List.getElem?_toArray, List.getElem?_cons_succ, List.getElem?_cons_zero]; rfl)
      case hQo1569 => exact fun _ _ _ h => h
      case hyo1569 =>
        refine Or.inl ⟨by rfl, ?_⟩
        intro W hW
        go_simp
        first | done | with_reducible rfl
      try simp only [Act.put, List.setIfInBounds_toArray, List.set_cons_zero, List.set_cons_succ]
      refine wpAnyH_done (by kernel_rfl) ?_ _
      go_wp2
      go_ret
      exact ⟨by rw [E]; rfl, qk.1⟩
    obtain rfl : P = 44 := by omega
    have m8' : M[8]? = some (.int .i64 44) := m8
    clear m8
    have m8 := m8'
    clear m8'
    by_cases q4 : ¬ 48 ≤ T
    · have E : kL l = false := by rw [HI.out]; simp [q2, q4]
      have d4 : decide ((48 : Int) ≤ (T : Int)) = false := decide_eq_false (by omega)
      go_enter Try.func93, Try.ntmps93
      go_wp2_with fail
      refine HP.out.mono ?_
      rintro e w1 ⟨rfl, hb1⟩
      have b2 : Below w.heap.size w (w1.alloc (.cells M 42)) := hb1.alloc hb1.size _
      have k2 : Blk (w1.alloc (.cells M 42)) w1.heap.size 42 M := blk_new _ _ _
      generalize hg1 : w1.heap.size = g1 at *
      have c0 := (k2.cellA 0).trans m0
      have c1 := (k2.cellA 1).trans m1
      have c2 := (k2.cellA 2).trans m2
      have c6 := (k2.cellA 6).trans m6
      have c8 := (k2.cellA 8).trans m8
      go_wp2_with (first
        | (refine wpList_allocStore (cs := M) rfl rfl 42 ?ho (.tmp 3) (.tmp 8) ?ho2 Try.zeroHead ?hz ?hx ?hy ?hn ?h1 ?_
           case ho => with_reducible rfl
           case ho2 => rfl
           case hz => exact zH_size
           case hx => rfl
           case hy => rfl
           case hn => exact hsz
           case h1 => exact o1
           rw [hg1])
        | fail)
      have qk : Below w.heap.size w (w1.alloc (.cells M 42)).drew ∧ Blk (w1.alloc (.cells M 42)).drew g1 42 M := ⟨b2.drew, k2⟩
      generalize (w1.alloc (.cells M 42)) = W1 at *
      clear c0 c1 c2 c6 c8 k2 b2
      refine wp_region_held_drew (S := fun W => Below w.heap.size w W ∧ Blk W g1 42 M) (by kernel_rfl) qk ?_
      intro hS
      refine wpAnyH_take (i := 0) (oi := ?o1570) (v := ?vo1570) ?hio1570 (by kernel_rfl) (by kernel_rfl) (by kernel_rfl) ?hQo1570 ?hyo1570 hS ?_
      case hio1570 => (simp only [List.getElem?_toArray, List.getElem?_cons_succ, List.getElem?_cons_zero]; rfl)
      case hQo1570 => exact fun _ _ _ h => h
      case hyo1570 =>
        refine Or.inl ⟨by rfl, ?_⟩
        intro W hW
        go_simp
        first | done | with_reducible rfl
      try simp only [Act.put, List.setIfInBounds_toArray, List.set_cons_zero, List.set_cons_succ]
      refine wpAnyH_take (i := 1) (oi := ?o1571) (v := ?vo1571) ?hio1571 (by kernel_rfl) (by kernel_rfl) (by kernel_rfl) ?hQo1571 ?hyo1571 hS ?_
      case hio1571 => (simp only [List.getElem?_toArray, List.getElem?_cons_succ, List.getElem?_cons_zero]; rfl)
      case hQo1571 => exact fun _ _ _ h => h
      case hyo1571 =>
        refine Or.inl ⟨by rfl, ?_⟩
        intro W hW
        have hcell := (hW.2.cellA 8).trans m8
        go_simp
        first | done | with_reducible rfl
      try simp only [Act.put, List.setIfInBounds_toArray, List.set_cons_zero, List.set_cons_succ]
      refine wpAnyH_take (i := 2) (oi := ?o1572) (v := ?vo1572) ?hio1572 (by kernel_rfl) (by kernel_rfl) (by kernel_rfl) ?hQo1572 ?hyo1572 hS ?_
      case hio1572 => (simp only [List.getElem?_toArray, List.getElem?_cons_succ, List.getElem?_cons_zero]; rfl)
      case hQo1572 => exact fun _ _ _ h => h
      case hyo1572 =>
        refine Or.inl ⟨by rfl, ?_⟩
        intro W hW
        go_simp
        first | done | with_reducible rfl
      try simp only [Act.put, List.setIfInBounds_toArray, List.set_cons_zero, List.set_cons_succ]
      refine wpAnyH_take (i := 3) (oi := ?o1573) (v := ?vo1573) ?hio1573 (by kernel_rfl) (by kernel_rfl) (by kernel_rfl) ?hQo1573 ?hyo1573 hS ?_
      case hio1573 => (simp only [List.getElem?_toArray, List.getElem?_cons_succ, List.getElem?_cons_zero]; rfl)
      case hQo1573 => exact fun _ _ _ h => h
      case hyo1573 =>
        refine Or.inl ⟨by rfl, ?_⟩
        intro W hW
        go_simp
        first | done | with_reducible rfl
      try simp only [Act.put, List.setIfInBounds_toArray, List.set_cons_zero, List.set_cons_succ]
      refine wpAnyH_take (i := 4) (oi := ?o1574) (v := ?vo1574) ?hio1574 (by kernel_rfl) (by kernel_rfl) (by kernel_rfl) ?hQo1574 ?hyo1574 hS ?_
      case hio1574 => (simp only [List.getElem?_toArray, List.getElem?_cons_succ, List.getElem?_cons_zero]; rfl)
      case hQo1574 => exact fun _ _ _ h => h
      case hyo1574 =>
        refine Or.inl ⟨by rfl, ?_⟩
        intro W hW
        go_simp
        first | done | with_reducible rfl
      try simp only [Act.put, List.setIfInBounds_toArray, List.set_cons_zero, List.set_cons_succ]
      refine wpAnyH_take (i := 5) (oi := ?o1575) (v := ?vo1575) ?hio1575 (by kernel_rfl) (by kernel_rfl) (by kernel_rfl) ?hQo1575 ?hyo1575 hS ?_
      case hio1575 => (simp only [List.getElem?_toArray, List.getElem?_cons_succ, List.getElem?_cons_zero]; rfl)
      case hQo1575 => exact fun _ _ _ h => h
      case hyo1575 =>
        refine Or.inl ⟨by rfl, ?_⟩
        intro W hW
        have hcell := (hW.2.cellA 2).trans m2
        go_simp
        first | done | with_reducible rfl
      try simp only [Act.put, List.setIfInBounds_toArray, List.set_cons_zero, List.set_cons_succ]
      refine wpAnyH_take (i := 6) (oi := ?o1576) (v := ?vo1576) ?hio1576 (by kernel_rfl) (by kernel_rfl) (by kernel_rfl) ?hQo1576 ?hyo1576 hS ?_
      case hio1576 => (simp only [List.getElem?_toArray, List.getElem?_cons_succ, List.getElem?_cons_zero]; rfl)
      case hQo1576 => exact fun _ _ _ h => h
      case hyo1576 =>
        refine Or.inl ⟨by rfl, ?_⟩
        intro W hW
        go_simp
        first | done | with_reducible rfl
      try simp only [Act.put, List.setIfInBounds_toArray, List.set_cons_zero, List.set_cons_succ]
      refine wpAnyH_take (i := 7) (oi := ?o1577) (v := ?vo1577) ?hio1577 (by kernel_rfl) (by kernel_rfl) (by kernel_rfl) ?hQo1577 ?hyo1577 hS ?_
      case hio1577 => (simp only [List.getElem?_toArray, List.getElem?_cons_succ, List.getElem?_cons_zero]; rfl)
      case hQo1577 => exact fun _ _ _ h => h
      case hyo1577 =>
        refine Or.inl ⟨by rfl, ?_⟩
        intro W hW
        go_simp
        first | done | with_reducible rfl
      try simp only [Act.put, List.setIfInBounds_toArray, List.set_cons_zero, List.set_cons_succ]
      refine wpAnyH_take (i := 8) (oi := ?o1578) (v := ?vo1578) ?hio1578 (by kernel_rfl) (by kernel_rfl) (by kernel_rfl) ?hQo1578 ?hyo1578 hS ?_
      case hio1578 => (simp only [List.getElem?_toArray, List.getElem?_cons_succ, List.getElem?_cons_zero]; rfl)
      case hQo1578 => exact fun _ _ _ h => h
      case hyo1578 =>
        refine Or.inl ⟨by rfl, ?_⟩
        intro W hW
        go_simp
        first | done | with_reducible rfl
      try simp only [Act.put, List.setIfInBounds_toArray, List.set_cons_zero, List.set_cons_succ]
      refine wpAnyH_take (i := 9) (oi := ?o1579) (v := undef) ?hio1579 (by kernel_rfl) (by kernel_rfl) (by kernel_rfl) ?hQo1579 ?hyo1579 hS ?_
      case hio1579 => (simp only [List.getElem?_toArray, List.getElem?_cons_succ, List.getElem?_cons_zero]; rfl)
      case hQo1579 => exact fun _ _ _ h => h
      case hyo1579 => exact Or.inr ⟨by rfl, rfl⟩
      try simp only [Act.put, List.setIfInBounds_toArray, List.set_cons_zero, List.set_cons_succ]
      refine wpAnyH_take (i := 10) (oi := ?o1580) (v := undef) ?hio1580 (by kernel_rfl) (by kernel_rfl) (by kernel_rfl) ?hQo1580 ?hyo1580 hS ?_
      case hio1580 => (simp only [List.getElem?_toArray, List.getElem?_cons_succ, List.getElem?_cons_zero]; rfl)
      case hQo1580 => exact fun _ _ _ h => h
      case hyo1580 => exact Or.inr ⟨by rfl, rfl⟩
      try simp only [Act.put, List.setIfInBounds_toArray, List.set_cons_zero, List.set_cons_succ]
      refine wpAnyH_take (i := 11) (oi := ?o1581) (v := undef) ?hio1581 (by kernel_rfl) (by kernel_rfl) (by kernel_rfl) ?hQo1581 ?hyo1581 hS ?_
      case hio1581 => (simp only [List.getElem?_toArray, List.getElem?_cons_succ, List.getElem?_cons_zero]; rfl)
      case hQo1581 => exact fun _ _ _ h => h
      case hyo1581 => exact Or.inr ⟨by rfl, rfl⟩
      try simp only [Act.put, List.setIfInBounds_toArray, List.set_cons_zero, List.set_cons_succ]
      refine wpAnyH_take (i := 12) (oi := ?o1582) (v := undef) ?hio1582 (by kernel_rfl) (by kernel_rfl) (by kernel_rfl) ?hQo1582 ?hyo1582 hS ?_
      case hio1582 => (simp only [List.getElem?_toArray, List.getElem?_cons_succ, List.getElem?_cons_zero]; rfl)
      case hQo1582 => exact fun _ _ _ h => h
      case hyo1582 => exact Or.inr ⟨by rfl, rfl⟩
      try simp only [Act.put, List.setIfInBounds_toArray, List.set_cons_zero, List.set_cons_succ]
      refine wpAnyH_take (i := 13) (oi := ?o1583) (v := undef) ?hio1583 (by kernel_rfl) (by kernel_rfl) (by kernel_rfl) ?hQo1583 ?hyo1583 hS ?_
      case hio1583 => (simp only [List.getElem?_toArray, List.getElem?_cons_succ, List.getElem?_cons_zero]; rfl)
      case hQo1583 => exact fun _ _ _ h => h
      case hyo1583 => exact Or.inr ⟨by rfl, rfl⟩
      try simp only [Act.put, List.setIfInBounds_toArray, List.set_cons_zero, List.set_cons_succ]
      refine wpAnyH_take (i := 14) (oi := ?o1584) (v := undef) ?hio1584 (by kernel_rfl) (by kernel_rfl) (by kernel_rfl) ?hQo1584 ?hyo1584 hS ?_
      case hio1584 => (simp only [List.getElem?_toArray, List.getElem?_cons_succ, List.getElem?_cons_zero]; rfl)
      case hQo1584 => exact fun _ _ _ h => h
      case hyo1584 => exact Or.inr ⟨by rfl, rfl⟩
      try simp only [Act.put, List.setIfInBounds_toArray, List.set_cons_zero, List.set_cons_succ]
      refine wpAnyH_take (i := 15) (oi := ?o1585) (v := undef) ?hio1585 (by kernel_rfl) (by kernel_rfl) (by kernel_rfl) ?hQo1585 ?hyo1585 hS ?_
      case hio1585 => (simp only [List.getElem?_toArray, List.getElem?_cons_succ, List.getElem?_cons_zero]; rfl)
      case hQo1585 => exact fun _ _ _ h => h
      case hyo1585 => exact Or.inr ⟨by rfl, rfl⟩
      try simp only [Act.put, List.setIfInBounds_toArray, List.set_cons_zero, List.set_cons_succ]
      refine wpAnyH_take (i := 16) (oi := ?o1586) (v := undef) ?hio1586 (by kernel_rfl) (by kernel_rfl) (by kernel_rfl) ?hQo1586 ?hyo1586 hS ?_
      case hio1586 => (simp only [List.getElem?_toArray, List.getElem?_cons_succ, List.getElem?_cons_zero]; rfl)
      case hQo1586 => exact fun _ _ _ h => h
      case hyo1586 => exact Or.inr ⟨by rfl, rfl⟩
      try simp only [Act.put, List.setIfInBounds_toArray, List.set_cons_zero, List.set_cons_succ]
      refine wpAnyH_take (i := 17) (oi := ?o1587) (v := undef) ?hio1587 (by kernel_rfl) (by kernel_rfl) (by kernel_rfl) ?hQo1587 ?hyo1587 hS ?_
      case hio1587 => (simp only [List.getElem?_toArray, List.getElem?_cons_succ, List.getElem?_cons_zero]; rfl)
      case hQo1587 => exact fun _ _ _ h => h
      case hyo1587 => exact Or.inr ⟨by rfl, rfl⟩
      try simp only [Act.put, List.setIfInBounds_toArray, List.set_cons_zero, List.set_cons_succ]
      refine wpAnyH_take (i := 18) (oi := ?o1588) (v := undef) ?hio1588 (by kernel_rfl) (by kernel_rfl) (by kernel_rfl) ?hQo1588 ?hyo1588 hS ?_
      case hio1588 => (simp only [List.getElem?_toArray, List.getElem?_cons_succ, List.getElem?_cons_zero]; rfl)
      case hQo1588 => exact fun _ _ _ h => h
      case hyo1588 => exact Or.inr ⟨by rfl, rfl⟩
      try simp only [Act.put, List.setIfInBounds_toArray, List.set_cons_zero, List.set_cons_succ]
      refine wpAnyH_take (i := 19) (oi := ?o1589) (v := undef) ?hio1589 (by kernel_rfl) (by kernel_rfl) (by kernel_rfl) ?hQo1589 ?hyo1589 hS ?_
      case hio1589 => (simp only [List.getElem?_toArray, List.getElem?_cons_succ, List.getElem?_cons_zero]; rfl)
      case hQo1589 => exact fun _ _ _ h => h
      case hyo1589 => exact Or.inr ⟨by rfl, rfl⟩
      try simp only [Act.put, List.setIfInBounds_toArray, List.set_cons_zero, List.set_cons_succ]
      refine wpAnyH_take (i := 20) (oi := ?o1590) (v := ?vo1590) ?hio1590 (by kernel_rfl) (by kernel_rfl) (by kernel_rfl) ?hQo1590 ?hyo1590 hS ?_
      case hio1590 => (simp only [List.getElem?_toArray, List.getElem?_cons_succ, List.getElem?_cons_zero]; rfl)
      case hQo1590 => exact fun _ _ _ h => h
      case hyo1590 =>
        refine Or.inl ⟨by rfl, ?_⟩
        intro W hW
        go_simp
        first | done | with_reducible rfl
      try simp only [Act.put, List.setIfInBounds_toArray, List.set_cons_zero, List.set_cons_succ]
      refine wpAnyH_take (i := 21) (oi := ?o1591) (v := ?vo1591) ?hio1591 (by kernel_rfl) (by kernel_rfl) (by kernel_rfl) ?hQo1591 ?hyo1591 hS ?_
      case hio1591 => (simp only [List.getElem?_toArray, List.getElem?_cons_succ, List.getElem?_cons_zero]; rfl)
      case hQo1591 => exact fun _ _ _ h => h
      case hyo1591 =>
        refine Or.inl ⟨by rfl, ?_⟩
        intro W hW
        go_simp
        first | done | with_reducible rfl
      try simp only [Act.put, List.setIfInBounds_toArray, List.set_cons_zero, List.set_cons_succ]
      refine wpAnyH_done (by kernel_rfl) ?_ _
      go_wp2
      go_ret
      exact ⟨by rw [E]; rfl, qk.1⟩
    have d4 : decide ((48 : Int) ≤ (T : Int)) = true := decide_eq_true (by omega)
    have q4' : 48 ≤ T := by omega
    have H42 := Lib.hid (HC.out 42 (by omega))
    have H43 := Lib.hid (HC.out 43 (by omega))
    have E : kL l = decide (8 ≤ byt l 42 * 256 + byt l 43) := by rw [HI.out]; simp [q2, q4']
    clear HC HI
    have i42 : (42 : Int) < (n : Int) := by omega
    have i43 : (43 : Int) < (n : Int) := by omega
    generalize byt l 42 = Y2 at *
    generalize byt l 43 = Y3 at *
    have w2 := wrap_id Y2 (by omega)
    have w3 := wrap_id Y3 (by omega)
    have w4 : IntKind.i64.wrap (256 * (Y2 : Int)) = 256 * (Y2 : Int) := by rw [IntKind.wrap_i64]; omega
    have w5 : IntKind.i64.wrap (256 * (Y2 : Int) + (Y3 : Int)) = ((Y2 * 256 + Y3 : Nat) : Int) := by rw [IntKind.wrap_i64]; omega
    generalize Y2 * 256 + Y3 = Z at *
    have HE := Lib.hid E
    clear E
    by_cases qz : 8 ≤ Z
    · have E : kL l = true := by rw [HE.out]; simp [qz]
      have dz : decide ((8 : Int) ≤ (Z : Int)) = true := decide_eq_true (by omega)
      go_enter Try.func93, Try.ntmps93
      go_wp2_with fail
      refine HP.out.mono ?_
      rintro e w1 ⟨rfl, hb1⟩
      have b2 : Below w.heap.size w (w1.alloc (.cells M 42)) := hb1.alloc hb1.size _
      have k2 : Blk (w1.alloc (.cells M 42)) w1.heap.size 42 M := blk_new _ _ _
      generalize hg1 : w1.heap.size = g1 at *
      have c0 := (k2.cellA 0).trans m0
      have c1 := (k2.cellA 1).trans m1
      have c2 := (k2.cellA 2).trans m2
      have c6 := (k2.cellA 6).trans m6
      have c8 := (k2.cellA 8).trans m8
      go_wp2_with (first
        | (refine wpList_allocStore (cs := M) rfl rfl 42 ?ho (.tmp 3) (.tmp 8) ?ho2 Try.zeroHead ?hz ?hx ?hy ?hn ?h1 ?_
           case ho => with_reducible rfl
           case ho2 => rfl
           case hz => exact zH_size
           case hx => rfl
           case hy => rfl
           case hn => exact hsz
           case h1 => exact o1
           rw [hg1])
        | fail)
      have qk : Below w.heap.size w (w1.alloc (.cells M 42)).drew ∧ Blk (w1.alloc (.cells M 42)).drew g1 42 M := ⟨b2.drew, k2⟩
      generalize (w1.alloc (.cells M 42)) = W1 at *
      clear c0 c1 c2 c6 c8 k2 b2
      refine wp_region_held_drew (S := fun W => Below w.heap.size w W ∧ Blk W g1 42 M) (by kernel_rfl) qk ?_
      intro hS
      refine wpAnyH_take (i := 0) (oi := ?o1592) (v := ?vo1592) ?hio1592 (by kernel_rfl) (by kernel_rfl) (by kernel_rfl) ?hQo1592 ?hyo1592 hS ?_
      case hio1592 => (simp only [List.getElem?_toArray, List.getElem?_cons_succ, List.getElem?_cons_zero]; rfl)
      case hQo1592 => exact fun _ _ _ h => h
      case hyo1592 =>
        refine Or.inl ⟨by rfl, ?_⟩
        intro W hW
        go_simp
        first | done | with_reducible rfl
      try simp only [Act.put, List.setIfInBounds_toArray, List.set_cons_zero, List.set_cons_succ]
      refine wpAnyH_take (i := 1) (oi := ?o1593) (v := ?vo1593) ?hio1593 (by kernel_rfl) (by kernel_rfl) (by kernel_rfl) ?hQo1593 ?hyo1593 hS ?_
      case hio1593 => (simp only [List.getElem?_toArray, List.getElem?_cons_succ, List.getElem?_cons_zero]; rfl)
      case hQo1593 => exact fun _ _ _ h => h
      case hyo1593 =>
        refine Or.inl ⟨by rfl, ?_⟩
        intro W hW
        have hcell := (hW.2.cellA 8).trans m8
        go_simp
        first | done | with_reducible rfl
      try simp only [Act.put, List.setIfInBounds_toArray, List.set_cons_zero, List.set_cons_succ]
      refine wpAnyH_take (i := 2) (oi := ?o1594) (v := ?vo1594) ?hio1594 (by kernel_rfl) (by kernel_rfl) (by kernel_rfl) ?hQo1594 ?hyo1594 hS ?_
      case hio1594 => (simp only [List.getElem?_toArray, List.getElem?_cons_succ, List.getElem?_cons_zero]; rfl)
      case hQo1594 => exact fun _ _ _ h => h
      case hyo1594 =>
        refine Or.inl ⟨by rfl, ?_⟩
        intro W hW
        go_simp
        first | done | with_reducible rfl
      try simp only [Act.put, List.setIfInBounds_toArray, List.set_cons_zero, List.set_cons_succ]
      refine wpAnyH_take (i := 3) (oi := ?o1595) (v := ?vo1595) ?hio1595 (by kernel_rfl) (by kernel_rfl) (by kernel_rfl) ?hQo1595 ?hyo1595 hS ?_
      case hio1595 => (simp only [List.getElem?_toArray, List.getElem?_cons_succ, List.getElem?_cons_zero]; rfl)
      case hQo1595 => exact fun _ _ _ h => h
      case hyo1595 =>
        refine Or.inl ⟨by rfl, ?_⟩
        intro W hW
        go_simp
        first | done | with_reducible rfl
      try simp only [Act.put, List.setIfInBounds_toArray, List.set_cons_zero, List.set_cons_succ]
      refine wpAnyH_take (i := 4) (oi := ?o1596) (v := ?vo1596) ?hio1596 (by kernel_rfl) (by kernel_rfl) (by kernel_rfl) ?hQo1596 ?hyo1596 hS ?_
      case hio1596 => (simp only [List.getElem?_toArray, List.getElem?_cons_succ, List.getElem?_cons_zero]; rfl)
      case hQo1596 => exact fun _ _ _ h => h
      case hyo1596 =>
        refine Or.inl ⟨by rfl, ?_⟩
        intro W hW
        go_simp
        first | done | with_reducible rfl
      try simp only [Act.put, List.setIfInBounds_toArray, List.set_cons_zero, List.set_cons_succ]
      refine wpAnyH_take (i := 5) (oi := ?o1597) (v := ?vo1597) ?hio1597 (by kernel_rfl) (by kernel_rfl) (by kernel_rfl) ?hQo1597 ?hyo1597 hS ?_
      case hio1597 => (simp only [List.getElem?_toArray, List.getElem?_cons_succ, List.getElem?_cons_zero]; rfl)
      case hQo1597 => exact fun _ _ _ h => h
      case hyo1597 =>
        refine Or.inl ⟨by rfl, ?_⟩
        intro W hW
        have hcell := (hW.2.cellA 2).trans m2
        go_simp
        first | done | with_reducible rfl
      try simp only [Act.put, List.setIfInBounds_toArray, List.set_cons_zero, List.set_cons_succ]
      refine wpAnyH_take (i := 6) (oi := ?o1598) (v := ?vo1598) ?hio1598 (by kernel_rfl) (by kernel_rfl) (by kernel_rfl) ?hQo1598 ?hyo1598 hS ?_
      case hio1598 => (simp only [List.getElem?_toArray, List.getElem?_cons_succ, List.getElem?_cons_zero]; rfl)
      case hQo1598 => exact fun _ _ _ h => h
      case hyo1598 =>
        refine Or.inl ⟨by rfl, ?_⟩
        intro W hW
        go_simp
        first | done | with_reducible rfl
      try simp only [Act.put, List.setIfInBounds_toArray, List.set_cons_zero, List.set_cons_succ]
      refine wpAnyH_take (i := 7) (oi := ?o1599) (v := ?vo1599) ?hio1599 (by kernel_rfl) (by kernel_rfl) (by kernel_rfl) ?hQo1599 ?hyo1599 hS ?_
      case hio1599 => (simp only [List.getElem?_toArray, List.getElem?_cons_succ, List.getElem?_cons_zero]; rfl)
      case hQo1599 => exact fun _ _ _ h => h
      case hyo1599 =>
        refine Or.inl ⟨by rfl, ?_⟩
        intro W hW
        go_simp
        first | done | with_reducible rfl
      try simp only [Act.put, List.setIfInBounds_toArray, List.set_cons_zero, List.set_cons_succ]
      refine wpAnyH_take (i := 8) (oi := ?o1600) (v := ?vo1600) ?hio1600 (by kernel_rfl) (by kernel_rfl) (by kernel_rfl) ?hQo1600 ?hyo1600 hS ?_
      case hio1600 => (simp only [List.getElem?_toArray, List.getElem?_cons_succ, List.getElem?_cons_zero]; rfl)
      case hQo1600 => exact fun _ _ _ h => h
      case hyo1600 =>
        refine Or.inl ⟨by rfl, ?_⟩
        intro W hW
        go_simp
        first | done | with_reducible rfl
      try simp only [Act.put, List.setIfInBounds_toArray, List.set_cons_zero, List.set_cons_succ]
      refine wpAnyH_take (i := 9) (oi := ?o1601) (v := ?vo1601) ?hio1601 (by kernel_rfl) (by kernel_rfl) (by kernel_rfl) ?hQo1601 ?hyo1601 hS ?_
      case hio1601 => (simp only [List.getElem?_toArray, List.getElem?_cons_succ, List.getElem?_cons_zero]; rfl)
      case hQo1601 => exact fun _ _ _ h => h
      case hyo1601 =>
        refine Or.inl ⟨by rfl, ?_⟩
        intro W hW
        go_simp
        first | done | with_reducible rfl
      try simp only [Act.put, List.setIfInBounds_toArray, List.set_cons_zero, List.set_cons_succ]
      refine wpAnyH_take (i := 10) (oi := ?o1602) (v := ?vo1602) ?hio1602 (by kernel_rfl) (by kernel_rfl) (by kernel_rfl) ?hQo1602 ?hyo1602 hS ?_
      case hio1602 => (simp only [List.getElem?_toArray, List.getElem?_cons_succ, List.getElem?_cons_zero]; rfl)
      case hQo1602 => exact fun _ _ _ h => h
      case hyo1602 =>
        refine Or.inl ⟨by rfl, ?_⟩
        intro W hW
        go_simp
        first | done | with_reducible rfl
      try simp only [Act.put, List.setIfInBounds_toArray, List.set_cons_zero, List.set_cons_succ]
      refine wpAnyH_take (i := 11) (oi := ?o1603) (v := ?vo1603) ?hio1603 (by kernel_rfl) (by kernel_rfl) (by kernel_rfl) ?hQo1603 ?hyo1603 hS ?_
      case hio1603 => (simp only [List.getElem?_toArray, List.getElem?_cons_succ, List.getElem?_cons_zero]; rfl)
      case hQo1603 => exact fun _ _ _ h => h
      case hyo1603 =>
        refine Or.inl ⟨by rfl, ?_⟩
        intro W hW
        have hcell := H42.out W hW.1
        go_simp
        first | done | with_reducible rfl
      try simp only [Act.put, List.setIfInBounds_toArray, List.set_cons_zero, List.set_cons_succ]
      refine wpAnyH_take (i := 12) (oi := ?o1604) (v := ?vo1604) ?hio1604 (by kernel_rfl) (by kernel_rfl) (by kernel_rfl) ?hQo1604 ?hyo1604 hS ?_
      case hio1604 => (simp only [List.getElem?_toArray, List.getElem?_cons_succ, List.getElem?_cons_zero]; rfl)
      case hQo1604 => exact fun _ _ _ h => h
      case hyo1604 =>
        refine Or.inl ⟨by rfl, ?_⟩
        intro W hW
        go_simp
        first | done | with_reducible rfl
      try simp only [Act.put, List.setIfInBounds_toArray, List.set_cons_zero, List.set_cons_succ]
      refine wpAnyH_take (i := 13) (oi := ?o1605) (v := ?vo1605) ?hio1605 (by kernel_rfl) (by kernel_rfl) (by kernel_rfl) ?hQo1605 ?hyo1605 hS ?_
      case hio1605 => (simp only [List.getElem?_toArray, List.getElem?_cons_succ, List.getElem?_cons_zero]; rfl)
      case hQo1605 => exact fun _ _ _ h => h
      case hyo1605 =>
        refine Or.inl ⟨by rfl, ?_⟩
        intro W hW
        go_simp
        first | done | with_reducible rfl
      try simp only [Act.put, List.setIfInBounds_toArray, List.set_cons_zero, List.set_cons_succ]
      refine wpAnyH_take (i := 14) (oi := ?o1606) (v := ?vo1606) ?hio1606 (by kernel_rfl) (by kernel_rfl) (by kernel_rfl) ?hQo1606 ?hyo1606 hS ?_
      case hio1606 => (simp only [List.getElem?_toArray, List.getElem?_cons_succ, List.getElem?_cons_zero]; rfl)
      case hQo1606 => exact fun _ _ _ h => h
      case hyo1606 =>
        refine Or.inl ⟨by rfl, ?_⟩
        intro W hW
        go_simp
        first | done | with_reducible rfl
      try simp only [Act.put, List.setIfInBounds_toArray, List.set_cons_zero, List.set_cons_succ]
      refine wpAnyH_take (i := 15) (oi := ?o1607) (v := ?vo1607) ?hio1607 (by kernel_rfl) (by kernel_rfl) (by kernel_rfl) ?hQo1607 ?hyo1607 hS ?_
      case hio1607 => (simp only [List.getElem?_toArray, List.getElem?_cons_succ, List.getElem?_cons_zero]; rfl)
      case hQo1607 => exact fun _ _ _ h => h
      case hyo1607 =>
        refine Or.inl ⟨by rfl, ?_⟩
        intro W hW
        go_simp
        first | done | with_reducible rfl
      try simp only [Act.put, List.setIfInBounds_toArray, List.set_cons_zero, List.set_cons_succ]
      refine wpAnyH_take (i := 16) (oi := ?o1608) (v := ?vo1608) ?hio1608 (by kernel_rfl) (by kernel_rfl) (by kernel_rfl) ?hQo1608 ?hyo1608 hS ?_
      case hio1608 => (simp only [List.getElem?_toArray, List.getElem?_cons_succ, List.getElem?_cons_zero]; rfl)
      case hQo1608 => exact fun _ _ _ h => h
      case hyo1608 =>
        refine Or.inl ⟨by rfl, ?_⟩
        intro W hW
        have hcell := H43.out W hW.1
        go_simp
        first | done | with_reducible rfl
      try simp only [Act.put, List.setIfInBounds_toArray, List.set_cons_zero, List.set_cons_succ]
      refine wpAnyH_take (i := 17) (oi := ?o1609) (v := ?vo1609) ?hio1609 (by kernel_rfl) (by kernel_rfl) (by kernel_rfl) ?hQo1609 ?hyo1609 hS ?_
      case hio1609 => (simp only [List.getElem?_toArray, List.getElem?_cons_succ, List.getElem?_cons_zero]; rfl)
      case hQo1609 => exact fun _ _ _ h => h
      case hyo1609 =>
        refine Or.inl ⟨by rfl, ?_⟩
        intro W hW
        go_simp
        first | done | with_reducible rfl
      try simp only [Act.put, List.setIfInBounds_toArray, List.set_cons_zero, List.set_cons_succ]
      refine wpAnyH_take (i := 18) (oi := ?o1610) (v := ?vo1610) ?hio1610 (by kernel_rfl) (by kernel_rfl) (by kernel_rfl) ?hQo1610 ?hyo1610 hS ?_
      case hio1610 => (simp only [List.getElem?_toArray, List.getElem?_cons_succ, List.getElem?_cons_zero]; rfl)
      case hQo1610 => exact fun _ _ _ h => h
      case hyo1610 =>
        refine Or.inl ⟨by rfl, ?_⟩
        intro W hW
        go_simp
        first | done | with_reducible rfl
      try simp only [Act.put, List.setIfInBounds_toArray, List.set_cons_zero, List.set_cons_succ]
      refine wpAnyH_take (i := 19) (oi := ?o1611) (v := ?vo1611) ?hio1611 (by kernel_rfl) (by kernel_rfl) (by kernel_rfl) ?hQo1611 ?hyo1611 hS ?_
      case hio1611 => (simp only [List.getElem?_toArray, List.getElem?_cons_succ, List.getElem?_cons_zero]; rfl)
      case hQo1611 => exact fun _ _ _ h => h
      case hyo1611 =>
        refine Or.inl ⟨by rfl, ?_⟩
        intro W hW
        go_simp
        first | done | with_reducible rfl
      try simp only [Act.put, List.setIfInBounds_toArray, List.set_cons_zero, List.set_cons_succ]
      refine wpAnyH_take (i := 20) (oi := ?o1612) (v := ?vo1612) ?hio1612 (by kernel_rfl) (by kernel_rfl) (by kernel_rfl) ?hQo1612 ?hyo1612 hS ?_
      case hio1612 => (simp only [List.getElem?_toArray, List.getElem?_cons_succ, List.getElem?_cons_zero]; rfl)
      case hQo1612 => exact fun _ _ _ h => h
      case hyo1612 =>
        refine Or.inl ⟨by rfl, ?_⟩
        intro W hW
        go_simp
        first | done | with_reducible rfl
      try simp only [Act.put, List.setIfInBounds_toArray, List.set_cons_zero, List.set_cons_succ]
      refine wpAnyH_take (i := 21) (oi := ?o1613) (v := ?vo1613) ?hio1613 (by kernel_rfl) (by kernel_rfl) (by kernel_rfl) ?hQo1613 ?hyo1613 hS ?_
      case hio1613 => (simp only [List.getElem?_toArray, List.getElem?_cons_succ, List.getElem?_cons_zero]; rfl)
      case hQo1613 => exact fun _ _ _ h => h
      case hyo1613 =>
        refine Or.inl ⟨by rfl, ?_⟩
        intro W hW
        go_simp
        first | done | with_reducible rfl
      try simp only [Act.put, List.setIfInBounds_toArray, List.set_cons_zero, List.set_cons_succ]
      refine wpAnyH_done (by kernel_rfl) ?_ _
      go_wp2
      go_ret
      exact ⟨by rw [E]; rfl, qk.1⟩
    · have E : kL l = false := by rw [HE.out]; simp [qz]
      have dz : decide ((8 : Int) ≤ (Z : Int)) = false := decide_eq_false (by omega)
      go_enter Try.func93, Try.ntmps93
      go_wp2_with fail
      refine HP.out.mono ?_
      rintro e w1 ⟨rfl, hb1⟩
      have b2 : Below w.heap.size w (w1.alloc (.cells M 42)) := hb1.alloc hb1.size _
      have k2 : Blk (w1.alloc (.cells M 42)) w1.heap.size 42 M := blk_new _ _ _
      generalize hg1 : w1.heap.size = g1 at *
      have c0 := (k2.cellA 0).trans m0
      have c1 := (k2.cellA 1).trans m1
      have c2 := (k2.cellA 2).trans m2
      have c6 := (k2.cellA 6).trans m6
      have c8 := (k2.cellA 8).trans m8
      go_wp2_with (first
        | (refine wpList_allocStore (cs := M) rfl rfl 42 ?ho (.tmp 3) (.tmp 8) ?ho2 Try.zeroHead ?hz ?hx ?hy ?hn ?h1 ?_
           case ho => with_reducible rfl
           case ho2 => rfl
           case hz => exact zH_size
           case hx => rfl
           case hy => rfl
           case hn => exact hsz
           case h1 => exact o1
           rw [hg1])
        | fail)
      have qk : Below w.heap.size w (w1.alloc (.cells M 42)).drew ∧ Blk (w1.alloc (.cells M 42)).drew g1 42 M := ⟨b2.drew, k2⟩
      generalize (w1.alloc (.cells M 42)) = W1 at *
      clear c0 c1 c2 c6 c8 k2 b2
      refine wp_region_held_drew (S := fun W => Below w.heap.size w W ∧ Blk W g1 42 M) (by kernel_rfl) qk ?_
      intro hS
      refine wpAnyH_take (i := 0) (oi := ?o1614) (v := ?vo1614) ?hio1614 (by kernel_rfl) (by kernel_rfl) (by kernel_rfl) ?hQo1614 ?hyo1614 hS ?_
      case hio1614 => (simp only [List.getElem?_toArray, List.getElem?_cons_succ, List.getElem?_cons_zero]; rfl)
      case hQo1614 => exact fun _ _ _ h => h
      case hyo1614 =>
        refine Or.inl ⟨by rfl, ?_⟩
        intro W hW
        go_simp
        first | done | with_reducible rfl
      try simp only [Act.put, List.setIfInBounds_toArray, List.set_cons_zero, List.set_cons_succ]
      refine wpAnyH_take (i := 1) (oi := ?o1615) (v := ?vo1615) ?hio1615 (by kernel_rfl) (by kernel_rfl) (by kernel_rfl) ?hQo1615 ?hyo1615 hS ?_
      case hio1615 => (simp only [List.getElem?_toArray, List.getElem?_cons_succ, List.getElem?_cons_zero]; rfl)
      case hQo1615 => exact fun _ _ _ h => h
      case hyo1615 =>
        refine Or.inl ⟨by rfl, ?_⟩
        intro W hW
        have hcell := (hW.2.cellA 8).trans m8
        go_simp
        first | done | with_reducible rfl
      try simp only [Act.put, List.setIfInBounds_toArray, List.set_cons_zero, List.set_cons_succ]
      refine wpAnyH_take (i := 2) (oi := ?o1616) (v := ?vo1616) ?hio1616 (by kernel_rfl) (by kernel_rfl) (by kernel_rfl) ?hQo1616 ?hyo1616 hS ?_
      case hio1616 => (simp only [List.getElem?_toArray, List.getElem?_cons_succ, List.getElem?_cons_zero]; rfl)
      case hQo1616 => exact fun _ _ _ h => h
      case hyo1616 =>
        refine Or.inl ⟨by rfl, ?_⟩
        intro W hW
        go_simp
        first | done | with_reducible rfl
      try simp only [Act.put, List.setIfInBounds_toArray, List.set_cons_zero, List.set_cons_succ]
      refine wpAnyH_take (i := 3) (oi := ?o1617) (v := ?vo1617) ?hio1617 (by kernel_rfl) (by kernel_rfl) (by kernel_rfl) ?hQo1617 ?hyo1617 hS ?_
      case hio1617 => (simp only [List.getElem?_toArray, List.getElem?_cons_succ, List.getElem?_cons_zero]; rfl)
      case hQo1617 => exact fun _ _ _ h => h
      case hyo1617 =>
        refine Or.inl ⟨by rfl, ?_⟩
        intro W hW
        go_simp
        first | done | with_reducible rfl
      try simp only [Act.put, List.setIfInBounds_toArray, List.set_cons_zero, List.set_cons_succ]
      refine wpAnyH_take (i := 4) (oi := ?o1618) (v := ?vo1618) ?hio1618 (by kernel_rfl) (by kernel_rfl) (by kernel_rfl) ?hQo1618 ?hyo1618 hS ?_
      case hio1618 => (simp only [List.getElem?_toArray, List.getElem?_cons_succ, List.getElem?_cons_zero]; rfl)
      case hQo1618 => exact fun _ _ _ h => h
      case hyo1618 =>
        refine Or.inl ⟨by rfl, ?_⟩
        intro W hW
        go_simp
        first | done | with_reducible rfl
      try simp only [Act.put, List.setIfInBounds_toArray, List.set_cons_zero, List.set_cons_succ]
      refine wpAnyH_take (i := 5) (oi := ?o1619) (v := ?vo1619) ?hio1619 (by kernel_rfl) (by kernel_rfl) (by kernel_rfl) ?hQo1619 ?hyo1619 hS ?_
      case hio1619 => (simp only [List.getElem?_toArray, List.getElem?_cons_succ, List.getElem?_cons_zero]; rfl)
      case hQo1619 => exact fun _ _ _ h => h
      case hyo1619 =>
        refine Or.inl ⟨by rfl, ?_⟩
        intro W hW
        have hcell := (hW.2.cellA 2).trans m2
        go_simp
        first | done | with_reducible rfl
      try simp only [Act.put, List.setIfInBounds_toArray, List.set_cons_zero, List.set_cons_succ]
      refine wpAnyH_take (i := 6) (oi := ?o1620) (v := ?vo1620) ?hio1620 (by kernel_rfl) (by kernel_rfl) (by kernel_rfl) ?hQo1620 ?hyo1620 hS ?_
      case hio1620 => (simp only [List.getElem?_toArray, List.getElem?_cons_succ, List.getElem?_cons_zero]; rfl)
      case hQo1620 => exact fun _ _ _ h => h
      case hyo1620 =>
        refine Or.inl ⟨by rfl, ?_⟩
        intro W hW
        go_simp
        first | done | with_reducible rfl
      try simp only [Act.put, List.setIfInBounds_toArray, List.set_cons_zero, List.set_cons_succ]
      refine wpAnyH_take (i := 7) (oi := ?o1621) (v := ?vo1621) ?hio1621 (by kernel_rfl) (by kernel_rfl) (by kernel_rfl) ?hQo1621 ?hyo1621 hS ?_
      case hio1621 => (simp only [List.getElem?_toArray, List.getElem?_cons_succ, List.getElem?_cons_zero]; rfl)
      case hQo1621 => exact fun _ _ _ h => h
      case hyo1621 =>
        refine Or.inl ⟨by rfl, ?_⟩
        intro W hW
        go_simp
        first | done | with_reducible rfl
      try simp only [Act.put, List.setIfInBounds_toArray, List.set_cons_zero, List.set_cons_succ]
      refine wpAnyH_take (i := 8) (oi := ?o1622) (v := ?vo1622) ?hio1622 (by kernel_rfl) (by kernel_rfl) (by kernel_rfl) ?hQo1622 ?hyo1622 hS ?_
      case hio1622 => (simp only [List.getElem?_toArray, List.getElem?_cons_succ, List.getElem?_cons_zero]; rfl)
      case hQo1622 => exact fun _ _ _ h => h
      case hyo1622 =>
        refine Or.inl ⟨by rfl, ?_⟩
        intro W hW
        go_simp
        first | done | with_reducible rfl
      try simp only [Act.put, List.setIfInBounds_toArray, List.set_cons_zero, List.set_cons_succ]
      refine wpAnyH_take (i := 9) (oi := ?o1623) (v := ?vo1623) ?hio1623 (by kernel_rfl) (by kernel_rfl) (by kernel_rfl) ?hQo1623 ?hyo1623 hS ?_
      case hio1623 => (simp only [List.getElem?_toArray, List.getElem?_cons_succ, List.getElem?_cons_zero]; rfl)
      case hQo1623 => exact fun _ _ _ h => h
      case hyo1623 =>
        refine Or.inl ⟨by rfl, ?_⟩
        intro W hW
        go_simp
        first | done | with_reducible rfl
      try simp only [Act.put, List.setIfInBounds_toArray, List.set_cons_zero, List.set_cons_succ]
      refine wpAnyH_take (i := 10) (oi := ?o1624) (v := ?vo1624) ?hio1624 (by kernel_rfl) (by kernel_rfl) (by kernel_rfl) ?hQo1624 ?hyo1624 hS ?_
      case hio1624 => (simp only [List.getElem?_toArray, List.getElem?_cons_succ, List.getElem?_cons_zero]; rfl)
      case hQo1624 => exact fun _ _ _ h => h
      case hyo1624 =>
        refine Or.inl ⟨by rfl, ?_⟩
        intro W hW
        go_simp
        first | done | with_reducible rfl
      try simp only [Act.put, List.setIfInBounds_toArray, List.set_cons_zero, List.set_cons_succ]
      refine wpAnyH_take (i := 11) (oi := ?o1625) (v := ?vo1625) ?hio1625 (by kernel_rfl) (by kernel_rfl) (by kernel_rfl) ?hQo1625 ?hyo1625 hS ?_
      case hio1625 => (simp only [List.getElem?_toArray, List.getElem?_cons_succ, List.getElem?_cons_zero]; rfl)
      case hQo1625 => exact fun _ _ _ h => h
      case hyo1625 =>
        refine Or.inl ⟨by rfl, ?_⟩
        intro W hW
        have hcell := H42.out W hW.1
        go_simp
        first | done | with_reducible rfl
      try simp only [Act.put, List.setIfInBounds_toArray, List.set_cons_zero, List.set_cons_succ]
      refine wpAnyH_take (i := 12) (oi := ?o1626) (v := ?vo1626) ?hio1626 (by kernel_rfl) (by kernel_rfl) (by kernel_rfl) ?hQo1626 ?hyo1626 hS ?_
      case hio1626 => (simp only [List.getElem?_toArray, List.getElem?_cons_succ, List.getElem?_cons_zero]; rfl)
      case hQo1626 => exact fun _ _ _ h => h
      case hyo1626 =>
        refine Or.inl ⟨by rfl, ?_⟩
        intro W hW
        go_simp
        first | done | with_reducible rfl
      try simp only [Act.put, List.setIfInBounds_toArray, List.set_cons_zero, List.set_cons_succ]
      refine wpAnyH_take (i := 13) (oi := ?o1627) (v := ?vo1627) ?hio1627 (by kernel_rfl) (by kernel_rfl) (by kernel_rfl) ?hQo1627 ?hyo1627 hS ?_
      case hio1627 => (simp only [List.getElem?_toArray, List.getElem?_cons_succ, List.getElem?_cons_zero]; rfl)
      case hQo1627 => exact fun _ _ _ h => h
      case hyo1627 =>
        refine Or.inl ⟨by rfl, ?_⟩
        intro W hW
        go_simp
        first | done | with_reducible rfl
      try simp only [Act.put, List.setIfInBounds_toArray, List.set_cons_zero, List.set_cons_succ]
      refine wpAnyH_take (i := 14) (oi := ?o1628) (v := ?vo1628) ?hio1628 (by kernel_rfl) (by kernel_rfl) (by kernel_rfl) ?hQo1628 ?hyo1628 hS ?_
      case hio1628 => (simp only [List.getElem?_toArray, List.getElem?_cons_succ, List.getElem?_cons_zero]; rfl)
      case hQo1628 => exact fun _ _ _ h => h
      case hyo1628 =>
        refine Or.inl ⟨by rfl, ?_⟩
        intro W hW
        go_simp
        first | done | with_reducible rfl
      try simp only [Act.put, List.setIfInBounds_toArray, List.set_cons_zero, List.set_cons_succ]
      refine wpAnyH_take (i := 15) (oi := ?o1629) (v := ?vo1629) ?hio1629 (by kernel_rfl) (by kernel_rfl) (by kernel_rfl) ?hQo1629 ?hyo1629 hS ?_
      case hio1629 => (simp only [List.getElem?_toArray, List.getElem?_cons_succ, List.getElem?_cons_zero]; rfl)
      case hQo1629 => exact fun _ _ _ h => h
      case hyo1629 =>
        refine Or.inl ⟨by rfl, ?_⟩
        intro W hW
        go_simp
        first | done | with_reducible rfl
      try simp only [Act.put, List.setIfInBounds_toArray, List.set_cons_zero, List.set_cons_succ]
      refine wpAnyH_take (i := 16) (oi := ?o1630) (v := ?vo1630) ?hio1630 (by kernel_rfl) (by kernel_rfl) (by kernel_rfl) ?hQo1630 ?hyo1630 hS ?_
      case hio1630 => (simp only [List.getElem?_toArray, List.getElem?_cons_succ, List.getElem?_cons_zero]; rfl)
      case hQo1630 => exact fun _ _ _ h => h
      case hyo1630 =>
        refine Or.inl ⟨by rfl, ?_⟩
        intro W hW
        have hcell := H43.out W hW.1
        go_simp
        first | done | with_reducible rfl
      try simp only [Act.put, List.setIfInBounds_toArray, List.set_cons_zero, List.set_cons_succ]
      refine wpAnyH_take (i := 17) (oi := ?o1631) (v := ?vo1631) ?hio1631 (by kernel_rfl) (by kernel_rfl) (by kernel_rfl) ?hQo1631 ?hyo1631 hS ?_
      case hio1631 => (simp only [List.getElem?_toArray, List.getElem?_cons_succ, List.getElem?_cons_zero]; rfl)
      case hQo1631 => exact fun _ _ _ h => h
      case hyo1631 =>
        refine Or.inl ⟨by rfl, ?_⟩
        intro W hW
        go_simp
        first | done | with_reducible rfl
      try simp only [Act.put, List.setIfInBounds_toArray, List.set_cons_zero, List.set_cons_succ]
      refine wpAnyH_take (i := 18) (oi := ?o1632) (v := ?vo1632) ?hio1632 (by kernel_rfl) (by kernel_rfl) (by kernel_rfl) ?hQo1632 ?hyo1632 hS ?_
      case hio1632 => (simp only [List.getElem?_toArray, List.getElem?_cons_succ, List.getElem?_cons_zero]; rfl)
      case hQo1632 => exact fun _ _ _ h => h
      case hyo1632 =>
        refine Or.inl ⟨by rfl, ?_⟩
        intro W hW
        go_simp
        first | done | with_reducible rfl
      try simp only [Act.put, List.setIfInBounds_toArray, List.set_cons_zero, List.set_cons_succ]
      refine wpAnyH_take (i := 19) (oi := ?o1633) (v := ?vo1633) ?hio1633 (by kernel_rfl) (by kernel_rfl) (by kernel_rfl) ?hQo1633 ?hyo1633 hS ?_
      case hio1633 => (simp only [List.getElem?_toArray, List.getElem?_cons_succ, List.getElem?_cons_zero]; rfl)
      case hQo1633 => exact fun _ _ _ h => h
      case hyo1633 =>
        refine Or.inl ⟨by rfl, ?_⟩
        intro W hW
        go_simp
        first | done | with_reducible rfl
      try simp only [Act.put, List.setIfInBounds_toArray, List.set_cons_zero, List.set_cons_succ]
      refine wpAnyH_take (i := 20) (oi := ?o1634) (v := ?vo1634) ?hio1634 (by kernel_rfl) (by kernel_rfl) (by kernel_rfl) ?hQo1634 ?hyo1634 hS ?_
      case hio1634 => (simp only [List.getElem?_toArray, List.getElem?_cons_succ, List.getElem?_cons_zero]; rfl)
      case hQo1634 => exact fun _ _ _ h => h
      case hyo1634 =>
        refine Or.inl ⟨by rfl, ?_⟩
        intro W hW
        go_simp
        first | done | with_reducible rfl
      try simp only [Act.put, List.setIfInBounds_toArray, List.set_cons_zero, List.set_cons_succ]
      refine wpAnyH_take (i := 21) (oi := ?o1635) (v := ?vo1635) ?hio1635 (by kernel_rfl) (by kernel_rfl) (by kernel_rfl) ?hQo1635 ?hyo1635 hS ?_
      case hio1635 => (simp only [List.getElem?_toArray, List.getElem?_cons_succ, List.getElem?_cons_zero]; rfl)
      case hQo1635 => exact fun _ _ _ h => h
      case hyo1635 =>
        refine Or.inl ⟨by rfl, ?_⟩
        intro W hW
        go_simp
        first | done | with_reducible rfl
      try simp only [Act.put, List.setIfInBounds_toArray, List.set_cons_zero, List.set_cons_succ]
      refine wpAnyH_done (by kernel_rfl) ?_ _
      go_wp2
      go_ret
      exact ⟨by rw [E]; rfl, qk.1⟩

end Go.Proofs.Ytkokgoodpibboaa
