
/- The walk of law16.DataReads. -/
import Derived.Test.YtffdgknfllpnoabDatF
namespace Go.Proofs.Ytffdgknfllpnoab
open Go.RowKit

theorem dataReads_bad (A : Option Addr) (n c : Nat) (E : Int) (w : World) (hn : n ≤ 1000) (hE : (E != 0) = true)
    (hP : ∀ W : World, Below w.heap.size w W → Calls Try.prog 11 #[.slice A n c] W fun e w' => e = .returned (.tuple #[.agg (trv 0 0 none 0 0), .int .i64 E]) ∧ Below W.heap.size W w')
    (hR : ∀ W : World, Below w.heap.size w W → Calls Try.prog 14 #[.slice A n c] W fun e w' => e = .returned (.tuple #[.agg (trv 0 0 none 0 0), .int .i64 E]) ∧ Below W.heap.size W w') :
    Calls Try.prog 4 #[.slice A n c] w fun e w' => e = .returned (.bool true) ∧ Below w.heap.size w w' := by
  have HP := Lib.hid hP
  have HR := Lib.hid hR
  have hE0 : E ≠ 0 := by simpa using hE
  clear hP hR
  go_enter Try.func4, Try.ntmps4
  go_wp2_with fail
  refine (HP.out w (Below.refl _ _)).mono ?_
  rintro e w1 ⟨rfl, hb1⟩
  go_wp2_with (
    refine wpList_allocStore (cs := trv 0 0 none 0 0) rfl rfl 26 ?ho (.tmp 3) (.tmp 16) ?ho2 Try.zeroTr rfl ?hx ?hy ?hn ?h1 ?_
    case ho => with_reducible rfl
    case ho2 => rfl
    case hx => rfl
    case hy => rfl
    case hn => rfl
    case h1 => exact one_trv 0 0 none 0 0)
  have m2 := blk_new w1 26 (trv 0 0 none 0 0)
  have hb2 := hb1.alloc hb1.size (.cells (trv 0 0 none 0 0) 26)
  generalize w1.alloc (.cells (trv 0 0 none 0 0) 26) = w2 at *
  generalize hg1 : w1.heap.size = g1 at *
  refine (HR.out w2 hb2).mono ?_
  rintro e w3 ⟨rfl, hb3⟩
  have m3 := m2.on hb3
  have hb03 := Below.on hb2 hb2.size hb3
  clear m2 hb1 hb2 hb3 HP HR
  have m4 := m3.alloc (.cells (trv 0 0 none 0 0) 26)
  have x4 := blk_new w3 26 (trv 0 0 none 0 0)
  have hb04 := hb03.alloc hb03.size (.cells (trv 0 0 none 0 0) 26)
  generalize hw4 : w3.alloc (.cells (trv 0 0 none 0 0) 26) = w4 at *
  generalize hg3 : w3.heap.size = g3 at *
  have Hw4 := Lib.hid hw4
  have Hg3 := Lib.hid hg3
  clear m3 hb03 hw4 hg3
  go_wp2_with (first
    | (refine wpList_allocStore (cs := trv 0 0 none 0 0) rfl rfl 26 ?ho (.tmp 5) (.tmp 21) ?ho2 Try.zeroTr rfl ?hx ?hy ?hn ?h1 ?_
       case ho => with_reducible rfl
       case ho2 => rfl
       case hx => rfl
       case hy => rfl
       case hn => rfl
       case h1 => exact one_trv 0 0 none 0 0
       rw [Hw4.out, Hg3.out])
    | (refine wpList_loadBlk (g := g1) (t := 26) (cs := trv 0 0 none 0 0) rfl 26 (.tmp 3) ?ho ?hx ?hA _ Try.underlying26 rfl Try.infoTr ?_
       case ho => with_reducible rfl
       case hx => rfl
       case hA => exact m4)
    | (refine wpList_loadBlk (g := g3) (t := 26) (cs := trv 0 0 none 0 0) rfl 26 (.tmp 5) ?ho ?hx ?hA _ Try.underlying26 rfl Try.infoTr ?_
       case ho => with_reducible rfl
       case hx => rfl
       case hA => exact x4))
  refine (ref16Same_dec 0 0 0 0 none none 0 0 0 0 [] [] w4 (by simp [maxLen]) (by simp [maxLen]) (shows_none _ _) (shows_none _ _)).mono ?_
  rintro e w5 ⟨rfl, hb5⟩
  rw [decide_eq_true (by simp)]
  have m5 := m4.on hb5
  have hb05 := Below.on hb04 hb04.size hb5
  clear m4 x4 hb04 hb5 Hw4 Hg3
  go_wp2_with (
    refine wpList_loadBlk (g := g1) (t := 26) (cs := trv 0 0 none 0 0) rfl 26 (.tmp 3) ?ho ?hx ?hA _ Try.underlying26 rfl Try.infoTr ?_
    case ho => with_reducible rfl
    case hx => rfl
    case hA => exact m5)
  refine (dataBytes_short 0 0 none 0 0 w5 (by omega)).mono ?_
  rintro e w6 ⟨rfl, hb6⟩
  have hb06 := Below.on hb05 hb05.size hb6
  clear m5 hb05 hb6
  go_wp2_with fail
  refine (alive16 w6).mono ?_
  rintro e w7 ⟨rfl, hb7⟩
  have hb07 := Below.on hb06 hb06.size hb7
  clear hb06 hb7
  go_wp2
  go_ret
  exact ⟨rfl, hb07⟩

/-- What is read has just these bytes. -/
theorem dataL_back (l : List UInt8) (h : 12 ≤ l.length) : dataL (leNat (l.take 4)) (leNat ((l.drop 4).take 8)) (l.drop 12) = 4 :: 0 :: 0 :: 0 :: l := by
  have e1 : leBytes (leNat (l.take 4)) 4 = l.take 4 := by
    have := leBytes_leNat (l.take 4)
    rwa [List.length_take, Nat.min_eq_left (by omega)] at this
  have e2 : leBytes (leNat ((l.drop 4).take 8)) 8 = (l.drop 4).take 8 := by
    have := leBytes_leNat ((l.drop 4).take 8)
    rwa [List.length_take, List.length_drop, Nat.min_eq_left (by omega)] at this
  have e3 : l.drop 12 = (l.drop 4).drop 8 := by rw [List.drop_drop]
  rw [dataL, e1, e2, e3, List.take_append_drop, List.take_append_drop]
  rfl

theorem dataReads_ok (ad : Addr) (n c : Nat) (l : List UInt8) (w : World) (h32 : 32 ≤ n) (hn : n ≤ 1000) (hnc : n ≤ c) (hs : Shows w w.heap.size (some ad) n (4 :: 0 :: 0 :: 0 :: l)) :
    Calls Try.prog 4 #[.slice (some ad) n c] w fun e w' => e = .returned (.bool true) ∧ Below w.heap.size w w' := by
  have hl : l.length = n - 4 := by have := hs.len; simp at this; omega
  have hr : leNat (l.take 4) < 4294967296 := by have := leNat_take_lt l 4; simpa using this
  have hk : leNat ((l.drop 4).take 8) < 18446744073709551616 := by have := leNat_take_lt (l.drop 4) 8; simpa using this
  have HB := Lib.hid (dataL_back l (by omega))
  have HP := Lib.hid (dataParse_ok (some ad) n c l w h32 (by omega) hs)
  have HR := Lib.hid (fun (W : World) (hW : Below w.heap.size w W) => ref16Parse_ok ad n c l W h32 (by omega) hnc ((hs.below hW).up hW.size))
  have hmx : n - 16 ≤ maxLen := by unfold maxLen; omega
  have hmx2 : n ≤ maxLen := by unfold maxLen; omega
  generalize leNat (l.take 4) = r at *
  generalize leNat ((l.drop 4).take 8) = k at *
  go_enter Try.func4, Try.ntmps4
  go_wp2_with fail
  refine HP.out.mono ?_
  rintro e w1 ⟨b, rfl, hbw, s1, hb1⟩
  go_wp2_with (
    refine wpList_allocStore (cs := trv r k (some ⟨b, 0, none⟩) (n - 16) (n - 16)) rfl rfl 26 ?ho (.tmp 3) (.tmp 16) ?ho2 Try.zeroTr rfl ?hx ?hy ?hn ?h1 ?_
    case ho => with_reducible rfl
    case ho2 => rfl
    case hx => rfl
    case hy => rfl
    case hn => rfl
    case h1 => exact one_trv _ _ _ _ _)
  have m2 := blk_new w1 26 (trv r k (some ⟨b, 0, none⟩) (n - 16) (n - 16))
  have hb2 := hb1.alloc hb1.size (.cells (trv r k (some ⟨b, 0, none⟩) (n - 16) (n - 16)) 26)
  have s2 := (s1.alloc (Nat.le_refl _) (.cells (trv r k (some ⟨b, 0, none⟩) (n - 16) (n - 16)) 26)).up (B' := (w1.alloc (.cells (trv r k (some ⟨b, 0, none⟩) (n - 16) (n - 16)) 26)).heap.size) (by simp)
  generalize w1.alloc (.cells (trv r k (some ⟨b, 0, none⟩) (n - 16) (n - 16)) 26) = w2 at *
  generalize hg1 : w1.heap.size = g1 at *
  refine (HR.out w2 hb2).mono ?_
  rintro e w3 ⟨A3, c3, rfl, s3x, hb3⟩
  have m3 := m2.on hb3
  have s3 := Sh.on (f := bv) s2 hb3
  have hb03 := Below.on hb2 hb2.size hb3
  clear m2 s1 s2 hb1 hb2 hb3 HP HR
  have m4 := m3.alloc (.cells (trv r k A3 (n - 16) c3) 26)
  have x4 := blk_new w3 26 (trv r k A3 (n - 16) c3)
  have hb04 := hb03.alloc hb03.size (.cells (trv r k A3 (n - 16) c3) 26)
  have s4 := (Sh.alloc (f := bv) s3 (Nat.le_refl _) (.cells (trv r k A3 (n - 16) c3) 26)).up (B' := (w3.alloc (.cells (trv r k A3 (n - 16) c3) 26)).heap.size) (by simp)
  have s4x := (s3x.alloc (Nat.le_refl _) (.cells (trv r k A3 (n - 16) c3) 26)).up (B' := (w3.alloc (.cells (trv r k A3 (n - 16) c3) 26)).heap.size) (by simp)
  generalize hw4 : w3.alloc (.cells (trv r k A3 (n - 16) c3) 26) = w4 at *
  generalize hg3 : w3.heap.size = g3 at *
  have Hw4 := Lib.hid hw4
  have Hg3 := Lib.hid hg3
  clear m3 hb03 hw4 hg3 s3 s3x
  go_wp2_with (first
    | (refine wpList_allocStore (cs := trv r k A3 (n - 16) c3) rfl rfl 26 ?ho (.tmp 5) (.tmp 21) ?ho2 Try.zeroTr rfl ?hx ?hy ?hn ?h1 ?_
       case ho => with_reducible rfl
       case ho2 => rfl
       case hx => rfl
       case hy => rfl
       case hn => rfl
       case h1 => exact one_trv _ _ _ _ _
       rw [Hw4.out, Hg3.out])
    | (refine wpList_loadBlk (g := g1) (t := 26) (cs := trv r k (some ⟨b, 0, none⟩) (n - 16) (n - 16)) rfl 26 (.tmp 3) ?ho ?hx ?hA _ Try.underlying26 rfl Try.infoTr ?_
       case ho => with_reducible rfl
       case hx => rfl
       case hA => exact m4)
    | (refine wpList_loadBlk (g := g3) (t := 26) (cs := trv r k A3 (n - 16) c3) rfl 26 (.tmp 5) ?ho ?hx ?hA _ Try.underlying26 rfl Try.infoTr ?_
       case ho => with_reducible rfl
       case hx => rfl
       case hA => exact x4))
  refine (ref16Same_dec r k r k _ _ _ _ _ _ _ _ w4 hmx hmx s4 s4x).mono ?_
  rintro e w5 ⟨rfl, hb5⟩
  rw [decide_eq_true (by simp)]
  have m5 := m4.on hb5
  have s5 := Sh.on (f := bv) s4 hb5
  have hb05 := Below.on hb04 hb04.size hb5
  clear m4 x4 s4 s4x hb04 hb5 Hw4 Hg3
  go_wp2_with (
    refine wpList_loadBlk (g := g1) (t := 26) (cs := trv r k (some ⟨b, 0, none⟩) (n - 16) (n - 16)) rfl 26 (.tmp 3) ?ho ?hx ?hA _ Try.underlying26 rfl Try.infoTr ?_
    case ho => with_reducible rfl
    case hx => rfl
    case hA => exact m5)
  refine (dataBytes_ok r k _ _ _ _ w5 hr hk (by omega) (by omega) s5).mono ?_
  rintro e w6 ⟨v, rfl, ho6, hb6⟩
  have hb06 := Below.on hb05 hb05.size hb6
  rw [HB.out, show 16 + (n - 16) = n by omega] at ho6
  obtain ⟨a6, c6, rfl, _, s6⟩ := ho6.at_some (by omega)
  have s6b := (hs.below hb06).up hb06.size
  clear m5 hb05 hb6 s5 HB ho6 hs
  go_wp2_with fail
  refine (same_below _ _ _ _ _ _ w6 hmx2 s6 s6b).mono ?_
  rintro e w7 ⟨rfl, hb7⟩
  have hb07 := Below.on hb06 hb06.size hb7
  clear hb06 hb7 s6 s6b
  go_wp2_with fail
  refine (alive16 w7).mono ?_
  rintro e w8 ⟨rfl, hb8⟩
  have hb08 := Below.on hb07 hb07.size hb8
  clear hb07 hb8
  go_wp2
  go_ret
  exact ⟨rfl, hb08⟩

/-- A heading of three bytes that are not all 0: the first that is not. -/
theorem head_bad (x y z : UInt8) (l : List UInt8) (h : ¬ (x = 0 ∧ y = 0 ∧ z = 0)) : ∃ (K : Nat) (u : UInt8), K < 3 ∧ (∀ j, j < K → (x :: y :: z :: l)[j]? = some 0) ∧ (x :: y :: z :: l)[K]? = some u ∧ u ≠ 0 := by
  by_cases h1 : x = 0
  · by_cases h2 : y = 0
    · exact ⟨2, z, by omega, fun j hj => match j, hj with | 0, _ => by simp [h1] | 1, _ => by simp [h2], rfl, fun h3 => h ⟨h1, h2, h3⟩⟩
    · exact ⟨1, y, by omega, fun j hj => match j, hj with | 0, _ => by simp [h1], rfl, h2⟩
  · exact ⟨0, x, by omega, fun j hj => absurd hj (by omega), rfl, h1⟩

theorem list4 (l : List UInt8) (h : 4 ≤ l.length) : ∃ a b c d t, l = a :: b :: c :: d :: t := by
  match l, h with
  | a :: b :: c :: d :: t, _ => exact ⟨a, b, c, d, t, rfl⟩

theorem same_world {f : Nat} {args : Array Value} {e0 : Ending} {w : World} (h : Calls Try.prog f args w fun e w' => e = e0 ∧ w = w') : Calls Try.prog f args w fun e w' => e = e0 ∧ Below w.heap.size w w' :=
  h.mono fun _ _ ⟨he, hw⟩ => ⟨he, hw ▸ Below.refl _ _⟩

theorem walk_DataReads (A : Option Addr) (n c : Nat) (l : List UInt8) {w : World} (hc : n ≤ c ∧ c ≤ maxLen) (hs : Shows w w.heap.size A n l) :
    Calls Try.prog 4 #[.slice A n c] w fun e w' => e = .returned (.bool true) ∧ Below w.heap.size w w' := by
  have hm : n ≤ 9223372036854775807 := by have := Nat.le_trans hc.1 hc.2; unfold maxLen at this; omega
  by_cases hbig : 1000 < n
  · go_enter Try.func4, Try.ntmps4
    go_wp2_with fail
    refine (alive16 w).mono ?_
    rintro e w1 ⟨rfl, hb1⟩
    go_wp2
    go_ret
    exact ⟨rfl, hb1⟩
  by_cases hsh : n < 32
  · exact dataReads_bad A n c 3 w (by omega) rfl
      (fun W _ => dataParse_err A n c 3 W rfl (fun W _ => same_world (take_short A n c 4 32 65567 W (by omega) (by omega))))
      (fun W _ => ref16Parse_short A n c W hsh)
  obtain ⟨x, y, z, u, t, rfl⟩ := list4 l (by have := hs.len; omega)
  obtain ⟨b, off, rfl, _, _⟩ := hs.2 (by omega)
  have up : ∀ W : World, Below w.heap.size w W → Shows W W.heap.size (some ⟨b, off, none⟩) n (x :: y :: z :: u :: t) := fun W hW => (hs.below hW).up hW.size
  by_cases hx : x = 4
  · subst hx
    by_cases h0 : y = 0 ∧ z = 0 ∧ u = 0
    · obtain ⟨rfl, rfl, rfl⟩ := h0
      exact dataReads_ok _ n c t w (by omega) (by omega) hc.1 hs
    · obtain ⟨K, v, hK, hz, hv, hv0⟩ := head_bad y z u t h0
      exact dataReads_bad _ n c 10 w (by omega) rfl
        (fun W hW => dataParse_err _ n c 10 W rfl (fun W' hW' => take_zero _ n c K 4 v _ 32 65567 W' (by omega) (by omega) (by omega) (by omega) (((up W hW).below hW').up hW'.size) hK hz hv hv0))
        (fun W hW => ref16Parse_zero _ n c y z u t W (by omega) (by omega) (up W hW) h0)
  · exact dataReads_bad _ n c 9 w (by omega) rfl
      (fun W hW => dataParse_err _ n c 9 W rfl (fun W' hW' => take_kind _ n c 4 x _ 32 65567 W' (by omega) (by omega) (by omega) (by omega) (((up W hW).below hW').up hW'.size) rfl hx))
      (fun W hW => ref16Parse_kind _ n c x _ W (by omega) (by omega) (up W hW) hx)

end Go.Proofs.Ytffdgknfllpnoab
