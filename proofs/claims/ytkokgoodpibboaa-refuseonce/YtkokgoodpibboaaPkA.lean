
/- Packets of either family: own words; contracts: packet.Parse, Whole; crawlwayref21.Parse, Whole. -/
import Derived.Test.YtkokgoodpibboaaSxD
namespace Go.Proofs.Ytkokgoodpibboaa
open Go.RowKit
set_option maxRecDepth 100000
set_option linter.unusedSimpArgs false
set_option linter.unusedVariables false

/-- Which family the first byte says; why bytes are no packet; their head. -/
def fam (l : List UInt8) : Nat := ((l[0]?).getD 0).toNat / 16
def kE (l : List UInt8) : Nat := if l.length = 0 then 3 else if fam l = 4 then pE l else if fam l = 6 then pE6 l else 9
def kH (l : List UInt8) : Array Value := if l.length = 0 then zH else if fam l = 4 then pH l else if fam l = 6 then pH6 l else zH
theorem kH_size (l : List UInt8) : (kH l).size = 43 := by
  unfold kH
  split
  · exact zH_size
  · split
    · exact pH_size l
    · split
      · exact pH6_size l
      · exact zH_size
theorem kH_one (l : List UInt8) : ((kH l).all fun x => x.oneCell') = true := by
  unfold kH
  split
  · exact zH_one
  · split
    · exact pH_one l
    · split
      · exact pH6_one l
      · exact zH_one
theorem kH_self (l : List UInt8) (w : World) : (Op.equalIn 10000 42 (.agg (kH l)) (.agg (kH l))).run Try.prog w = .ok true w := by
  unfold kH
  split
  · exact hd_self _ _ _ _ _ _ _ _ _ _ _ _ _ rfl rfl w
  · split
    · exact pH_self l w
    · split
      · exact pH6_self l w
      · exact hd_self _ _ _ _ _ _ _ _ _ _ _ _ _ rfl rfl w
/-- A head's numbers. -/
def kX (l : List UInt8) (i : Nat) : Nat := match (kH l)[i]? with | some (.int .i64 z) => z.toNat | _ => 0
theorem kH_form (l : List UInt8) : ∃ xs s d, kH l = hdv xs s d ∧ xs.length = 9 ∧ ∀ x ∈ xs, 0 ≤ x := by
  have hz : ∃ xs s d, zH = hdv xs s d ∧ xs.length = 9 ∧ ∀ x ∈ xs, 0 ≤ x := ⟨_, _, _, rfl, rfl, by intro x hx; simp at hx; omega⟩
  unfold kH
  split
  · exact hz
  · split
    · unfold pH
      split
      · refine ⟨_, _, _, rfl, rfl, ?_⟩
        intro x hx
        simp only [List.mem_cons, List.not_mem_nil, or_false] at hx
        rcases hx with rfl | rfl | rfl | rfl | rfl | rfl | rfl | rfl | rfl <;> exact Int.natCast_nonneg _
      · exact hz
    · split
      · unfold pH6
        split
        · refine ⟨_, _, _, rfl, rfl, ?_⟩
          intro x hx
          simp only [List.mem_cons, List.not_mem_nil, or_false] at hx
          rcases hx with rfl | rfl | rfl | rfl | rfl | rfl | rfl | rfl | rfl <;> first | exact Int.natCast_nonneg _ | decide
        · exact hz
      · exact hz
theorem kX_cell (l : List UInt8) (i : Nat) (hi : i < 9) : (kH l)[i]? = some (.int .i64 (kX l i : Int)) := by
  obtain ⟨xs, s, d, e, hx, h0⟩ := kH_form l
  have hj : i < xs.length := by omega
  have h := hdv_num xs s d i xs[i] (List.getElem?_eq_getElem hj)
  unfold kX
  rw [e, h]
  have := h0 xs[i] (List.getElem_mem hj)
  simp only
  rw [Int.toNat_of_nonneg this]
def kW (l : List UInt8) : Bool := decide (kE l = 0 ∧ kX l 2 = l.length ∧ l.length ≤ 65535)

theorem refParse4_all (A : Option Addr) (n c : Nat) (l : List UInt8) (w : World) (hn : n ≤ 1000000) (hc : n ≤ c) (hcm : c ≤ maxLen) (hs : Shows w w.heap.size A n l) :
    Calls Try.prog 96 #[.slice A n c] w fun e w' => e = .returned (.tuple #[.agg (pH l), .int .i64 (pE l : Int)]) ∧ Below w.heap.size w w' := by
  by_cases h20 : n < 20
  · exact refParse4_short A n c l w hs.len h20
  · obtain ⟨b, off, rfl, hbb, _⟩ := hs.2 (by omega)
    exact refParse4_any b off n c l w hn (by omega) hc hcm hs hbb
theorem refParse6_all (A : Option Addr) (n c : Nat) (l : List UInt8) (w : World) (hn : n ≤ 1000000) (hc : n ≤ c) (hcm : c ≤ maxLen) (hs : Shows w w.heap.size A n l) :
    Calls Try.prog 87 #[.slice A n c] w fun e w' => e = .returned (.tuple #[.agg (pH6 l), .int .i64 (pE6 l : Int)]) ∧ Below w.heap.size w w' := by
  by_cases h20 : n < 40
  · exact refParse6_short A n c l w hs.len h20
  · obtain ⟨b, off, rfl, hbb, _⟩ := hs.2 (by omega)
    exact refParse6_any b off n c l w hn (by omega) hc hcm hs hbb

set_option maxHeartbeats 2000000 in
theorem kparse_any (A : Option Addr) (n c : Nat) (l : List UInt8) (w : World) (hn : n ≤ 1000000) (hc : n ≤ c) (hcm : c ≤ maxLen) (hs : Shows w w.heap.size A n l) :
    Calls Try.prog 89 #[.slice A n c] w fun e w' => e = .returned (.tuple #[.agg (kH l), .int .i64 (kE l : Int)]) ∧ Below w.heap.size w w' := by
  have hz := (zero_of_info Try.zeroHead).1
  have hne : ¬ zH = #[] := by intro h; have := zH_size; rw [h] at this; cases this
  have zs : (Try.prog.info? 42).map (·.size) = some zH.size := by rw [zH_size]; exact Try.infoHead
  have k0 : Blk (w.alloc (.cells zH 42)) w.heap.size 42 zH := blk_new _ _ _
  have hb0 : Below w.heap.size w (w.alloc (.cells zH 42)) := (Below.refl _ _).alloc (Nat.le_refl _) _
  have hl := hs.len
  have s0 := (hs.below hb0).up hb0.size
  by_cases q : n = 0
  · subst q
    have E : kE l = 3 := by unfold kE; rw [if_pos hl]
    have EH : kH l = zH := by unfold kH; rw [if_pos hl]
    go_enter Try.func89, Try.ntmps89
    go_wp2_with (first
      | (refine wpList_storeBlk (g := w.heap.size) (t := 42) (cs := zH) rfl 42 (.tmp 2) (.tmp 7) ?ho ?hx2 ?hy2 zH k0 ?hi ?hs ?h1 ?_
         case ho => with_reducible rfl
         case hx2 => rfl
         case hy2 => rfl
         case hi => exact zs
         case hs => rfl
         case h1 => exact zH_one
         intro w5 kb hg5
         have b5 : Below w.heap.size w w5 := hb0.grown hg5 hb0.size (fun k hk => by injection hk with hk; omega)))
    refine bodyPost_blk2 rfl _ rfl kb Try.underlying42 rfl zs rfl ?_
    exact ⟨by rw [EH, E]; rfl, b5⟩
  · have ql : ¬ l.length = 0 := by omega
    have dn : decide ((n : Int) = 0) = false := decide_eq_false (by omega)
    have dn' : ((n : Int) == 0) = false := by simp; omega
    have np : (0 : Int) < (n : Int) := by omega
    have np' : 0 < n := by omega
    obtain ⟨b, off, x, rfl, hbb, c0, hx, hx0⟩ := s0.byte (k := 0) np'
    rw [Nat.add_zero] at c0
    have hF : fam l = x.toNat / 16 := by unfold fam; rw [hx0]; rfl
    have eF : (x.toNat : Int) / 16 = (fam l : Int) := by omega
    have xi : (x.toNat : Int) < 256 := by omega
    have HE := Lib.hid (show kE l = if fam l = 4 then pE l else if fam l = 6 then pE6 l else 9 by unfold kE; rw [if_neg ql])
    have HH := Lib.hid (show kH l = if fam l = 4 then pH l else if fam l = 6 then pH6 l else zH by unfold kH; rw [if_neg ql])
    clear hF
    generalize fam l = F at *
    generalize x.toNat = X at *
    by_cases q4 : F = 4
    · subst q4
      have d4 : decide (((4 : Nat) : Int) = 4) = true := by decide
      have E : kE l = pE l := by rw [HE.out]; rfl
      have EH : kH l = pH l := by rw [HH.out]; rfl
      have HC := Lib.hid (parse4_any (some ⟨b, off, none⟩) n c l _ hn hc hcm s0)
      have hsz := pH_size l
      have o1 := pH_one l
      have ms : (Try.prog.info? 42).map (·.size) = some (pH l).size := by rw [hsz]; exact Try.infoHead
      generalize pH l = M at *
      generalize pE l = E4 at *
      go_enter Try.func89, Try.ntmps89
      go_wp2_with fail
      refine HC.out.mono ?_
      rintro e w1 ⟨rfl, hb1⟩
      have k1 := k0.on hb1
      have b1 := Below.on hb0 hb0.size hb1
      clear k0 hb0 s0 hb1 HC
      go_wp2_with (first
        | (refine wpList_storeBlk (g := w.heap.size) (t := 42) (cs := M) rfl 42 (.tmp 2) (.tmp 16) ?ho ?hx2 ?hy2 zH k1 ?hi ?hs ?h1 ?_
           case ho => with_reducible rfl
           case hx2 => rfl
           case hy2 => rfl
           case hi => exact ms
           case hs => rw [hsz]; exact zH_size
           case h1 => exact o1
           intro w5 kb hg5
           have b5 : Below w.heap.size w w5 := b1.grown hg5 b1.size (fun k hk => by injection hk with hk; omega)))
      refine bodyPost_blk2 rfl _ rfl kb Try.underlying42 rfl ms rfl ?_
      exact ⟨by rw [EH, E]; rfl, b5⟩
    · have d4 : decide ((F : Int) = 4) = false := decide_eq_false (by omega)
      have d4' : ((F : Int) == 4) = false := by simp; omega
      by_cases q6 : F = 6
      · subst q6
        have E : kE l = pE6 l := by rw [HE.out]; rfl
        have EH : kH l = pH6 l := by rw [HH.out]; rfl
        have HC := Lib.hid (parse6_any (some ⟨b, off, none⟩) n c l _ hn hc hcm s0)
        have hsz := pH6_size l
        have o1 := pH6_one l
        have ms : (Try.prog.info? 42).map (·.size) = some (pH6 l).size := by rw [hsz]; exact Try.infoHead
        generalize pH6 l = M at *
        generalize pE6 l = E4 at *
        go_enter Try.func89, Try.ntmps89
        go_wp2_with fail
        refine HC.out.mono ?_
        rintro e w1 ⟨rfl, hb1⟩
        have k1 := k0.on hb1
        have b1 := Below.on hb0 hb0.size hb1
        clear k0 hb0 s0 hb1 HC
        go_wp2_with (first
          | (refine wpList_storeBlk (g := w.heap.size) (t := 42) (cs := M) rfl 42 (.tmp 2) (.tmp 22) ?ho ?hx2 ?hy2 zH k1 ?hi ?hs ?h1 ?_
             case ho => with_reducible rfl
             case hx2 => rfl
             case hy2 => rfl
             case hi => exact ms
             case hs => rw [hsz]; exact zH_size
             case h1 => exact o1
             intro w5 kb hg5
             have b5 : Below w.heap.size w w5 := b1.grown hg5 b1.size (fun k hk => by injection hk with hk; omega)))
        refine bodyPost_blk2 rfl _ rfl kb Try.underlying42 rfl ms rfl ?_
        exact ⟨by rw [EH, E]; rfl, b5⟩
      · have d6 : decide ((F : Int) = 6) = false := decide_eq_false (by omega)
        have d6' : ((F : Int) == 6) = false := by simp; omega
        have E : kE l = 9 := by rw [HE.out, if_neg q4, if_neg q6]
        have EH : kH l = zH := by rw [HH.out, if_neg q4, if_neg q6]
        go_enter Try.func89, Try.ntmps89
        go_wp2_with (first
          | (refine wpList_storeBlk (g := w.heap.size) (t := 42) (cs := zH) rfl 42 (.tmp 2) (.tmp 24) ?ho ?hx2 ?hy2 zH k0 ?hi ?hs ?h1 ?_
             case ho => with_reducible rfl
             case hx2 => rfl
             case hy2 => rfl
             case hi => exact zs
             case hs => rfl
             case h1 => exact zH_one
             intro w5 kb hg5
             have b5 : Below w.heap.size w w5 := hb0.grown hg5 hb0.size (fun k hk => by injection hk with hk; omega)))
        refine bodyPost_blk2 rfl _ rfl kb Try.underlying42 rfl zs rfl ?_
        exact ⟨by rw [EH, E]; rfl, b5⟩

set_option maxHeartbeats 2000000 in
theorem krefParse_any (A : Option Addr) (n c : Nat) (l : List UInt8) (w : World) (hn : n ≤ 1000000) (hc : n ≤ c) (hcm : c ≤ maxLen) (hs : Shows w w.heap.size A n l) :
    Calls Try.prog 48 #[.slice A n c] w fun e w' => e = .returned (.tuple #[.agg (kH l), .int .i64 (kE l : Int)]) ∧ Below w.heap.size w w' := by
  have hz := (zero_of_info Try.zeroHead).1
  have hne : ¬ zH = #[] := by intro h; have := zH_size; rw [h] at this; cases this
  have zs : (Try.prog.info? 42).map (·.size) = some zH.size := by rw [zH_size]; exact Try.infoHead
  have k0 : Blk (w.alloc (.cells zH 42)) w.heap.size 42 zH := blk_new _ _ _
  have hb0 : Below w.heap.size w (w.alloc (.cells zH 42)) := (Below.refl _ _).alloc (Nat.le_refl _) _
  have hl := hs.len
  have s0 := (hs.below hb0).up hb0.size
  by_cases q : n = 0
  · subst q
    have E : kE l = 3 := by unfold kE; rw [if_pos hl]
    have EH : kH l = zH := by unfold kH; rw [if_pos hl]
    go_enter Try.func48, Try.ntmps48
    go_wp2_with (first
      | (refine wpList_storeBlk (g := w.heap.size) (t := 42) (cs := zH) rfl 42 (.tmp 2) (.tmp 7) ?ho ?hx2 ?hy2 zH k0 ?hi ?hs ?h1 ?_
         case ho => with_reducible rfl
         case hx2 => rfl
         case hy2 => rfl
         case hi => exact zs
         case hs => rfl
         case h1 => exact zH_one
         intro w5 kb hg5
         have b5 : Below w.heap.size w w5 := hb0.grown hg5 hb0.size (fun k hk => by injection hk with hk; omega)))
    refine bodyPost_blk2 rfl _ rfl kb Try.underlying42 rfl zs rfl ?_
    exact ⟨by rw [EH, E]; rfl, b5⟩
  · have ql : ¬ l.length = 0 := by omega
    have dn : decide ((n : Int) = 0) = false := decide_eq_false (by omega)
    have dn' : ((n : Int) == 0) = false := by simp; omega
    have np : (0 : Int) < (n : Int) := by omega
    have np' : 0 < n := by omega
    obtain ⟨b, off, x, rfl, hbb, c0, hx, hx0⟩ := s0.byte (k := 0) np'
    rw [Nat.add_zero] at c0
    have hF : fam l = x.toNat / 16 := by unfold fam; rw [hx0]; rfl
    have eF : (x.toNat : Int) / 16 = (fam l : Int) := by omega
    have xi : (x.toNat : Int) < 256 := by omega
    have HE := Lib.hid (show kE l = if fam l = 4 then pE l else if fam l = 6 then pE6 l else 9 by unfold kE; rw [if_neg ql])
    have HH := Lib.hid (show kH l = if fam l = 4 then pH l else if fam l = 6 then pH6 l else zH by unfold kH; rw [if_neg ql])
    clear hF
    generalize fam l = F at *
    generalize x.toNat = X at *
    by_cases q4 : F = 4
    · subst q4
      have d4 : decide (((4 : Nat) : Int) = 4) = true := by decide
      have E : kE l = pE l := by rw [HE.out]; rfl
      have EH : kH l = pH l := by rw [HH.out]; rfl
      have HC := Lib.hid (refParse4_all (some ⟨b, off, none⟩) n c l _ hn hc hcm s0)
      have hsz := pH_size l
      have o1 := pH_one l
      have ms : (Try.prog.info? 42).map (·.size) = some (pH l).size := by rw [hsz]; exact Try.infoHead
      generalize pH l = M at *
      generalize pE l = E4 at *
      go_enter Try.func48, Try.ntmps48
      go_wp2_with fail
      refine HC.out.mono ?_
      rintro e w1 ⟨rfl, hb1⟩
      have k1 := k0.on hb1
      have b1 := Below.on hb0 hb0.size hb1
      clear k0 hb0 s0 hb1 HC
      go_wp2_with (first
        | (refine wpList_storeBlk (g := w.heap.size) (t := 42) (cs := M) rfl 42 (.tmp 2) (.tmp 15) ?ho ?hx2 ?hy2 zH k1 ?hi ?hs ?h1 ?_
           case ho => with_reducible rfl
           case hx2 => rfl
           case hy2 => rfl
           case hi => exact ms
           case hs => rw [hsz]; exact zH_size
           case h1 => exact o1
           intro w5 kb hg5
           have b5 : Below w.heap.size w w5 := b1.grown hg5 b1.size (fun k hk => by injection hk with hk; omega)))
      refine bodyPost_blk2 rfl _ rfl kb Try.underlying42 rfl ms rfl ?_
      exact ⟨by rw [EH, E]; rfl, b5⟩
    · have d4 : decide ((F : Int) = 4) = false := decide_eq_false (by omega)
      have d4' : ((F : Int) == 4) = false := by simp; omega
      by_cases q6 : F = 6
      · subst q6
        have E : kE l = pE6 l := by rw [HE.out]; rfl
        have EH : kH l = pH6 l := by rw [HH.out]; rfl
        have HC := Lib.hid (refParse6_all (some ⟨b, off, none⟩) n c l _ hn hc hcm s0)
        have hsz := pH6_size l
        have o1 := pH6_one l
        have ms : (Try.prog.info? 42).map (·.size) = some (pH6 l).size := by rw [hsz]; exact Try.infoHead
        generalize pH6 l = M at *
        generalize pE6 l = E4 at *
        go_enter Try.func48, Try.ntmps48
        go_wp2_with fail
        refine HC.out.mono ?_
        rintro e w1 ⟨rfl, hb1⟩
        have k1 := k0.on hb1
        have b1 := Below.on hb0 hb0.size hb1
        clear k0 hb0 s0 hb1 HC
        go_wp2_with (first
          | (refine wpList_storeBlk (g := w.heap.size) (t := 42) (cs := M) rfl 42 (.tmp 2) (.tmp 24) ?ho ?hx2 ?hy2 zH k1 ?hi ?hs ?h1 ?_
             case ho => with_reducible rfl
             case hx2 => rfl
             case hy2 => rfl
             case hi => exact ms
             case hs => rw [hsz]; exact zH_size
             case h1 => exact o1
             intro w5 kb hg5
             have b5 : Below w.heap.size w w5 := b1.grown hg5 b1.size (fun k hk => by injection hk with hk; omega)))
        refine bodyPost_blk2 rfl _ rfl kb Try.underlying42 rfl ms rfl ?_
        exact ⟨by rw [EH, E]; rfl, b5⟩
      · have d6 : decide ((F : Int) = 6) = false := decide_eq_false (by omega)
        have d6' : ((F : Int) == 6) = false := by simp; omega
        have E : kE l = 9 := by rw [HE.out, if_neg q4, if_neg q6]
        have EH : kH l = zH := by rw [HH.out, if_neg q4, if_neg q6]
        go_enter Try.func48, Try.ntmps48
        go_wp2_with (first
          | (refine wpList_storeBlk (g := w.heap.size) (t := 42) (cs := zH) rfl 42 (.tmp 2) (.tmp 26) ?ho ?hx2 ?hy2 zH k0 ?hi ?hs ?h1 ?_
             case ho => with_reducible rfl
             case hx2 => rfl
             case hy2 => rfl
             case hi => exact zs
             case hs => rfl
             case h1 => exact zH_one
             intro w5 kb hg5
             have b5 : Below w.heap.size w w5 := hb0.grown hg5 hb0.size (fun k hk => by injection hk with hk; omega)))
        refine bodyPost_blk2 rfl _ rfl kb Try.underlying42 rfl zs rfl ?_
        exact ⟨by rw [EH, E]; rfl, b5⟩

set_option maxHeartbeats 1000000 in
theorem whole_any (A : Option Addr) (n c : Nat) (l : List UInt8) (w : World) (hn : n ≤ 1000000) (hc : n ≤ c) (hcm : c ≤ maxLen) (hs : Shows w w.heap.size A n l) :
    Calls Try.prog 81 #[.slice A n c] w fun e w' => e = .returned (.bool (kW l)) ∧ Below w.heap.size w w' := by
  have hz := (zero_of_info Try.zeroHead).1
  have hne : ¬ zH = #[] := by intro h; have := zH_size; rw [h] at this; cases this
  have HP := Lib.hid (kparse_any A n c l w hn hc hcm hs)
  have hl := hs.len
  have hsz := kH_size l
  have o1 := kH_one l
  have m2 := kX_cell l 2 (by omega)
  have HW := Lib.hid (show kW l = decide (kE l = 0 ∧ kX l 2 = n ∧ n ≤ 65535) by unfold kW; rw [hl])
  clear hs
  generalize kX l 2 = T at *
  generalize kH l = M at *
  generalize kE l = E0 at *
  by_cases q0 : E0 = 0
  · subst q0
    by_cases q1 : T = n
    · subst q1
      by_cases q2 : T ≤ 65535
      · have E : kW l = true := by rw [HW.out]; simp [q2]
        have d2 : decide ((T : Int) ≤ 65535) = true := decide_eq_true (by omega)
        go_enter Try.func81, Try.ntmps81
        go_wp2_with fail
        refine HP.out.mono ?_
        rintro e w1 ⟨rfl, hb1⟩
        have b2 : Below w.heap.size w (w1.alloc (.cells M 42)) := hb1.alloc hb1.size _
        have k2 : Blk (w1.alloc (.cells M 42)) w1.heap.size 42 M := blk_new _ _ _
        generalize hg1 : w1.heap.size = g1 at *
        have c2 := (k2.cellA 2).trans m2
        go_wp2_with (first
          | (refine wpList_allocStore (cs := M) rfl rfl 42 ?ho (.tmp 3) (.tmp 8) ?ho2 Try.zeroHead ?hz ?hx ?hy ?hn ?h1 ?_
             case ho => with_reducible rfl
             case ho2 => rfl
             case hz => exact zH_size
             case hx => rfl
             case hy => rfl
             case hn => exact hsz
             case h1 => exact o1
             rw [hg1]))
        go_ret
        exact ⟨by rw [E]; rfl, b2⟩
      · have E : kW l = false := by rw [HW.out]; simp; omega
        have d2 : decide ((T : Int) ≤ 65535) = false := decide_eq_false (by omega)
        go_enter Try.func81, Try.ntmps81
        go_wp2_with fail
        refine HP.out.mono ?_
        rintro e w1 ⟨rfl, hb1⟩
        have b2 : Below w.heap.size w (w1.alloc (.cells M 42)) := hb1.alloc hb1.size _
        have k2 : Blk (w1.alloc (.cells M 42)) w1.heap.size 42 M := blk_new _ _ _
        generalize hg1 : w1.heap.size = g1 at *
        have c2 := (k2.cellA 2).trans m2
        go_wp2_with (first
          | (refine wpList_allocStore (cs := M) rfl rfl 42 ?ho (.tmp 3) (.tmp 8) ?ho2 Try.zeroHead ?hz ?hx ?hy ?hn ?h1 ?_
             case ho => with_reducible rfl
             case ho2 => rfl
             case hz => exact zH_size
             case hx => rfl
             case hy => rfl
             case hn => exact hsz
             case h1 => exact o1
             rw [hg1]))
        go_ret
        exact ⟨by rw [E]; rfl, b2⟩
    · have E : kW l = false := by rw [HW.out]; simp [q1]
      have d1 : decide ((T : Int) = (n : Int)) = false := decide_eq_false (by omega)
      have d1' : ((T : Int) == (n : Int)) = false := by simp; omega
      go_enter Try.func81, Try.ntmps81
      go_wp2_with fail
      refine HP.out.mono ?_
      rintro e w1 ⟨rfl, hb1⟩
      have b2 : Below w.heap.size w (w1.alloc (.cells M 42)) := hb1.alloc hb1.size _
      have k2 : Blk (w1.alloc (.cells M 42)) w1.heap.size 42 M := blk_new _ _ _
      generalize hg1 : w1.heap.size = g1 at *
      have c2 := (k2.cellA 2).trans m2
      go_wp2_with (first
        | (refine wpList_allocStore (cs := M) rfl rfl 42 ?ho (.tmp 3) (.tmp 8) ?ho2 Try.zeroHead ?hz ?hx ?hy ?hn ?h1 ?_
           case ho => with_reducible rfl
           case ho2 => rfl
           case hz => exact zH_size
           case hx => rfl
           case hy => rfl
           case hn => exact hsz
           case h1 => exact o1
           rw [hg1]))
      go_ret
      exact ⟨by rw [E]; rfl, b2⟩
  · have E : kW l = false := by rw [HW.out]; simp [q0]
    have d0 : decide ((E0 : Int) = 0) = false := decide_eq_false (by omega)
    have d0' : ((E0 : Int) == 0) = false := by simp; omega
    go_enter Try.func81, Try.ntmps81
    go_wp2_with fail
    refine HP.out.mono ?_
    rintro e w1 ⟨rfl, hb1⟩
    have b2 : Below w.heap.size w (w1.alloc (.cells M 42)) := hb1.alloc hb1.size _
    have k2 : Blk (w1.alloc (.cells M 42)) w1.heap.size 42 M := blk_new _ _ _
    generalize hg1 : w1.heap.size = g1 at *
    have c2 := (k2.cellA 2).trans m2
    go_wp2_with (first
      | (refine wpList_allocStore (cs := M) rfl rfl 42 ?ho (.tmp 3) (.tmp 8) ?ho2 Try.zeroHead ?hz ?hx ?hy ?hn ?h1 ?_
         case ho => with_reducible rfl
         case ho2 => rfl
         case hz => exact zH_size
         case hx => rfl
         case hy => rfl
         case hn => exact hsz
         case h1 => exact o1
         rw [hg1]))
    go_ret
    exact ⟨by rw [E]; rfl, b2⟩

set_option maxHeartbeats 1000000 in
theorem refWhole_any (A : Option Addr) (n c : Nat) (l : List UInt8) (w : World) (hn : n ≤ 1000000) (hc : n ≤ c) (hcm : c ≤ maxLen) (hs : Shows w w.heap.size A n l) :
    Calls Try.prog 36 #[.slice A n c] w fun e w' => e = .returned (.bool (kW l)) ∧ Below w.heap.size w w' := by
  have hz := (zero_of_info Try.zeroHead).1
  have hne : ¬ zH = #[] := by intro h; have := zH_size; rw [h] at this; cases this
  have HP := Lib.hid (krefParse_any A n c l w hn hc hcm hs)
  have hl := hs.len
  have hsz := kH_size l
  have o1 := kH_one l
  have m2 := kX_cell l 2 (by omega)
  have HW := Lib.hid (show kW l = decide (kE l = 0 ∧ kX l 2 = n ∧ n ≤ 65535) by unfold kW; rw [hl])
  clear hs
  generalize kX l 2 = T at *
  generalize kH l = M at *
  generalize kE l = E0 at *
  by_cases q0 : E0 = 0
  · subst q0
    by_cases q1 : T = n
    · subst q1
      by_cases q2 : T ≤ 65535
      · have E : kW l = true := by rw [HW.out]; simp [q2]
        have d2 : decide ((T : Int) ≤ 65535) = true := decide_eq_true (by omega)
        go_enter Try.func36, Try.ntmps36
        go_wp2_with fail
        refine HP.out.mono ?_
        rintro e w1 ⟨rfl, hb1⟩
        have b2 : Below w.heap.size w (w1.alloc (.cells M 42)) := hb1.alloc hb1.size _
        have k2 : Blk (w1.alloc (.cells M 42)) w1.heap.size 42 M := blk_new _ _ _
        generalize hg1 : w1.heap.size = g1 at *
        have c2 := (k2.cellA 2).trans m2
        go_wp2_with (first
          | (refine wpList_allocStore (cs := M) rfl rfl 42 ?ho (.tmp 3) (.tmp 8) ?ho2 Try.zeroHead ?hz ?hx ?hy ?hn ?h1 ?_
             case ho => with_reducible rfl
             case ho2 => rfl
             case hz => exact zH_size
             case hx => rfl
             case hy => rfl
             case hn => exact hsz
             case h1 => exact o1
             rw [hg1]))
        go_ret
        exact ⟨by rw [E]; rfl, b2⟩
      · have E : kW l = false := by rw [HW.out]; simp; omega
        have d2 : decide ((T : Int) ≤ 65535) = false := decide_eq_false (by omega)
        go_enter Try.func36, Try.ntmps36
        go_wp2_with fail
        refine HP.out.mono ?_
        rintro e w1 ⟨rfl, hb1⟩
        have b2 : Below w.heap.size w (w1.alloc (.cells M 42)) := hb1.alloc hb1.size _
        have k2 : Blk (w1.alloc (.cells M 42)) w1.heap.size 42 M := blk_new _ _ _
        generalize hg1 : w1.heap.size = g1 at *
        have c2 := (k2.cellA 2).trans m2
        go_wp2_with (first
          | (refine wpList_allocStore (cs := M) rfl rfl 42 ?ho (.tmp 3) (.tmp 8) ?ho2 Try.zeroHead ?hz ?hx ?hy ?hn ?h1 ?_
             case ho => with_reducible rfl
             case ho2 => rfl
             case hz => exact zH_size
             case hx => rfl
             case hy => rfl
             case hn => exact hsz
             case h1 => exact o1
             rw [hg1]))
        go_ret
        exact ⟨by rw [E]; rfl, b2⟩
    · have E : kW l = false := by rw [HW.out]; simp [q1]
      have d1 : decide ((T : Int) = (n : Int)) = false := decide_eq_false (by omega)
      have d1' : ((T : Int) == (n : Int)) = false := by simp; omega
      go_enter Try.func36, Try.ntmps36
      go_wp2_with fail
      refine HP.out.mono ?_
      rintro e w1 ⟨rfl, hb1⟩
      have b2 : Below w.heap.size w (w1.alloc (.cells M 42)) := hb1.alloc hb1.size _
      have k2 : Blk (w1.alloc (.cells M 42)) w1.heap.size 42 M := blk_new _ _ _
      generalize hg1 : w1.heap.size = g1 at *
      have c2 := (k2.cellA 2).trans m2
      go_wp2_with (first
        | (refine wpList_allocStore (cs := M) rfl rfl 42 ?ho (.tmp 3) (.tmp 8) ?ho2 Try.zeroHead ?hz ?hx ?hy ?hn ?h1 ?_
           case ho => with_reducible rfl
           case ho2 => rfl
           case hz => exact zH_size
           case hx => rfl
           case hy => rfl
           case hn => exact hsz
           case h1 => exact o1
           rw [hg1]))
      go_ret
      exact ⟨by rw [E]; rfl, b2⟩
  · have E : kW l = false := by rw [HW.out]; simp [q0]
    have d0 : decide ((E0 : Int) = 0) = false := decide_eq_false (by omega)
    have d0' : ((E0 : Int) == 0) = false := by simp; omega
    go_enter Try.func36, Try.ntmps36
    go_wp2_with fail
    refine HP.out.mono ?_
    rintro e w1 ⟨rfl, hb1⟩
    have b2 : Below w.heap.size w (w1.alloc (.cells M 42)) := hb1.alloc hb1.size _
    have k2 : Blk (w1.alloc (.cells M 42)) w1.heap.size 42 M := blk_new _ _ _
    generalize hg1 : w1.heap.size = g1 at *
    have c2 := (k2.cellA 2).trans m2
    go_wp2_with (first
      | (refine wpList_allocStore (cs := M) rfl rfl 42 ?ho (.tmp 3) (.tmp 8) ?ho2 Try.zeroHead ?hz ?hx ?hy ?hn ?h1 ?_
         case ho => with_reducible rfl
         case ho2 => rfl
         case hz => exact zH_size
         case hx => rfl
         case hy => rfl
         case hn => exact hsz
         case h1 => exact o1
         rw [hg1]))
    go_ret
    exact ⟨by rw [E]; rfl, b2⟩

end Go.Proofs.Ytkokgoodpibboaa
