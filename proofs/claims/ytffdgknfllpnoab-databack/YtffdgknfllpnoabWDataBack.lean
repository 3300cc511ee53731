
/- The walk of law16.DataBack. -/
import Derived.Test.YtffdgknfllpnoabWDataReads
namespace Go.Proofs.Ytffdgknfllpnoab
open Go.RowKit

theorem dataBack_short (r k : Nat) (A : Option Addr) (n c : Nat) (w : World) (hn : n < 16) :
    Calls Try.prog 3 #[.agg (trv r k A n c)] w fun e w' => e = .returned (.bool true) ∧ Below w.heap.size w w' := by
  have hb0 : Below w.heap.size w (w.alloc (.cells (trv r k A n c) 26)) := (Below.refl _ _).alloc (Nat.le_refl _) _
  have k0 := blk_new w 26 (trv r k A n c)
  have hi : (n : Int) ≤ 1000 := by omega
  go_enter Try.func3, Try.ntmps3
  go_wp2_with (
    refine wpList_loadBlk (g := w.heap.size) (t := 26) (cs := trv r k A n c) rfl 26 (.tmp 1) ?ho ?hx ?hA _ Try.underlying26 rfl Try.infoTr ?_
    case ho => with_reducible rfl
    case hx => rfl
    case hA => exact k0)
  generalize w.alloc (.cells (trv r k A n c) 26) = w0 at *
  refine (dataBytes_short r k A n c w0 hn).mono ?_
  rintro e w1 ⟨rfl, hb1⟩
  have k1 := k0.on hb1
  have hb01 := Below.on hb0 hb0.size hb1
  clear k0 hb0 hb1
  go_wp2_with (
    refine wpList_loadBlk (g := w.heap.size) (t := 26) (cs := trv r k A n c) rfl 26 (.tmp 1) ?ho ?hx ?hA _ Try.underlying26 rfl Try.infoTr ?_
    case ho => with_reducible rfl
    case hx => rfl
    case hA => exact k1)
  refine (ref16Bytes_short r k A n c w1 hn).mono ?_
  rintro e w2 ⟨rfl, hb2⟩
  have hb02 := Below.on hb01 hb01.size hb2
  clear k1 hb01 hb2
  go_wp2_with fail
  refine (same_below none none 0 0 0 [] w2 (by simp [maxLen]) (shows_none _ _) (shows_none _ _)).mono ?_
  rintro e w3 ⟨rfl, hb3⟩
  have hb03 := Below.on hb02 hb02.size hb3
  clear hb02 hb3
  go_wp2_with fail
  refine (alive16 w3).mono ?_
  rintro e w4 ⟨rfl, hb4⟩
  have hb04 := Below.on hb03 hb03.size hb4
  clear hb03 hb4
  go_wp2
  go_ret
  exact ⟨rfl, hb04⟩

theorem dataL_parts (r k : Nat) (l : List UInt8) (hr : r < 4294967296) (hk : k < 18446744073709551616) :
    leNat ((leBytes r 4 ++ (leBytes k 8 ++ l)).take 4) = r ∧ leNat (((leBytes r 4 ++ (leBytes k 8 ++ l)).drop 4).take 8) = k ∧ (leBytes r 4 ++ (leBytes k 8 ++ l)).drop 12 = l := by
  have e1 : (leBytes r 4 ++ (leBytes k 8 ++ l)).take 4 = leBytes r 4 := List.take_left' (leBytes_len r 4)
  have e2 : (leBytes r 4 ++ (leBytes k 8 ++ l)).drop 4 = leBytes k 8 ++ l := List.drop_left' (leBytes_len r 4)
  refine ⟨?_, ?_, ?_⟩
  · rw [e1, leNat_leBytes]; exact Nat.mod_eq_of_lt hr
  · rw [e2, List.take_left' (leBytes_len k 8), leNat_leBytes]; exact Nat.mod_eq_of_lt hk
  · rw [show (12 : Nat) = 4 + 8 from rfl, ← List.drop_drop, e2, List.drop_left' (leBytes_len k 8)]

theorem dataBack_ok (r k : Nat) (ad : Addr) (n c : Nat) (l : List UInt8) (w : World) (hr : r < 4294967296) (hk : k < 18446744073709551616) (h16 : 16 ≤ n) (hn : n ≤ 1000) (hs : Shows w w.heap.size (some ad) n l) :
    Calls Try.prog 3 #[.agg (trv r k (some ad) n c)] w fun e w' => e = .returned (.bool true) ∧ Below w.heap.size w w' := by
  have hb0 : Below w.heap.size w (w.alloc (.cells (trv r k (some ad) n c) 26)) := (Below.refl _ _).alloc (Nat.le_refl _) _
  have k0 := blk_new w 26 (trv r k (some ad) n c)
  have HS := Lib.hid (fun (W : World) (hW : Below w.heap.size w W) => (hs.below hW).up hW.size)
  have hi : (n : Int) ≤ 1000 := by omega
  have mx : n ≤ maxLen := by unfold maxLen; omega
  have mx16 : 16 + n ≤ maxLen := by unfold maxLen; omega
  have HD := Lib.hid (dataL_parts r k l hr hk)
  clear hs
  go_enter Try.func3, Try.ntmps3
  go_wp2_with (
    refine wpList_loadBlk (g := w.heap.size) (t := 26) (cs := trv r k (some ad) n c) rfl 26 (.tmp 1) ?ho ?hx ?hA _ Try.underlying26 rfl Try.infoTr ?_
    case ho => with_reducible rfl
    case hx => rfl
    case hA => exact k0)
  generalize w.alloc (.cells (trv r k (some ad) n c) 26) = w0 at *
  refine (dataBytes_ok r k ad n c l w0 hr hk h16 (by omega) (HS.out _ hb0)).mono ?_
  rintro e w1 ⟨v1, rfl, ho1, hb1⟩
  obtain ⟨a1, c1, rfl, _, s1⟩ := ho1.at_some (by omega)
  have k1 := k0.on hb1
  have hb01 := Below.on hb0 hb0.size hb1
  clear k0 hb0 hb1 ho1
  go_wp2_with (
    refine wpList_loadBlk (g := w.heap.size) (t := 26) (cs := trv r k (some ad) n c) rfl 26 (.tmp 1) ?ho ?hx ?hA _ Try.underlying26 rfl Try.infoTr ?_
    case ho => with_reducible rfl
    case hx => rfl
    case hA => exact k1)
  refine (ref16Bytes_ok r k ad n c l w1 hr hk h16 (by omega) (HS.out _ hb01)).mono ?_
  rintro e w2 ⟨v2, rfl, ho2, hb2⟩
  obtain ⟨a2, c2, rfl, _, s2x⟩ := ho2.at_some (by omega)
  have k2 := k1.on hb2
  have s2 := Sh.on (f := bv) s1 hb2
  have hb02 := Below.on hb01 hb01.size hb2
  clear k1 hb01 hb2 s1 ho2
  go_wp2_with fail
  refine (same_below _ _ _ _ _ _ w2 mx16 s2 s2x).mono ?_
  rintro e w3 ⟨rfl, hb3⟩
  have k3 := k2.on hb3
  have s3 : Shows w3 w3.heap.size (some a1) (16 + n) (4 :: 0 :: 0 :: 0 :: (leBytes r 4 ++ (leBytes k 8 ++ l))) := Sh.on (f := bv) s2 hb3
  have hb03 := Below.on hb02 hb02.size hb3
  clear k2 s2 s2x hb02 hb3
  go_wp2_with fail
  refine (dataParse_ok (some a1) (16 + n) c1 _ w3 (by omega) (by omega) s3).mono ?_
  rintro e w4 ⟨b, rfl, hbw, s4, hb4⟩
  rw [HD.out.1, HD.out.2.1, show 16 + n - 16 = n by omega]
  rw [HD.out.2.2, show 16 + n - 16 = n by omega] at s4
  have k4 := k3.on hb4
  have hb04 := Below.on hb03 hb03.size hb4
  clear k3 s3 hb03 hb4 HD
  have m5 := blk_new w4 26 (trv r k (some ⟨b, 0, none⟩) n n)
  have k5 := k4.alloc (.cells (trv r k (some ⟨b, 0, none⟩) n n) 26)
  have hb05 := hb04.alloc hb04.size (.cells (trv r k (some ⟨b, 0, none⟩) n n) 26)
  have s5 := (s4.alloc (Nat.le_refl _) (.cells (trv r k (some ⟨b, 0, none⟩) n n) 26)).up (B' := (w4.alloc (.cells (trv r k (some ⟨b, 0, none⟩) n n) 26)).heap.size) (by simp)
  generalize hw5 : w4.alloc (.cells (trv r k (some ⟨b, 0, none⟩) n n) 26) = w5 at *
  generalize hg4 : w4.heap.size = g4 at *
  have Hw5 := Lib.hid hw5
  have Hg4 := Lib.hid hg4
  clear k4 s4 hb04 hw5 hg4
  go_wp2_with (first
    | (refine wpList_allocStore (cs := trv r k (some ⟨b, 0, none⟩) n n) rfl rfl 26 ?ho (.tmp 7) (.tmp 39) ?ho2 Try.zeroTr rfl ?hx ?hy ?hn ?h1 ?_
       case ho => with_reducible rfl
       case ho2 => rfl
       case hx => rfl
       case hy => rfl
       case hn => rfl
       case h1 => exact one_trv _ _ _ _ _
       rw [Hw5.out, Hg4.out])
    | (refine wpList_loadBlk (g := g4) (t := 26) (cs := trv r k (some ⟨b, 0, none⟩) n n) rfl 26 (.tmp 7) ?ho ?hx ?hA _ Try.underlying26 rfl Try.infoTr ?_
       case ho => with_reducible rfl
       case hx => rfl
       case hA => exact m5)
    | (refine wpList_loadBlk (g := w.heap.size) (t := 26) (cs := trv r k (some ad) n c) rfl 26 (.tmp 1) ?ho ?hx ?hA _ Try.underlying26 rfl Try.infoTr ?_
       case ho => with_reducible rfl
       case hx => rfl
       case hA => exact k5))
  refine (ref16Same_dec r k r k _ _ _ _ _ _ _ _ w5 mx mx s5 (HS.out _ hb05)).mono ?_
  rintro e w6 ⟨rfl, hb6⟩
  rw [decide_eq_true (by simp)]
  have m6 := m5.on hb6
  have k6 := k5.on hb6
  have s6 := Sh.on (f := bv) s5 hb6
  have hb06 := Below.on hb05 hb05.size hb6
  clear m5 k5 s5 hb05 hb6 Hw5 Hg4
  go_wp2_with (first
    | (refine wpList_loadBlk (g := g4) (t := 26) (cs := trv r k (some ⟨b, 0, none⟩) n n) rfl 26 (.tmp 7) ?ho ?hx ?hA _ Try.underlying26 rfl Try.infoTr ?_
       case ho => with_reducible rfl
       case hx => rfl
       case hA => exact m6)
    | (refine wpList_loadBlk (g := w.heap.size) (t := 26) (cs := trv r k (some ad) n c) rfl 26 (.tmp 1) ?ho ?hx ?hA _ Try.underlying26 rfl Try.infoTr ?_
       case ho => with_reducible rfl
       case hx => rfl
       case hA => exact k6))
  refine (dataSame_dec r k r k _ _ _ _ _ _ _ _ w6 mx mx s6 (HS.out _ hb06)).mono ?_
  rintro e w7 ⟨rfl, hb7⟩
  rw [decide_eq_true (by simp)]
  have hb07 := Below.on hb06 hb06.size hb7
  clear m6 k6 s6 hb06 hb7
  go_wp2_with fail
  refine (alive16 w7).mono ?_
  rintro e w8 ⟨rfl, hb8⟩
  have hb08 := Below.on hb07 hb07.size hb8
  clear hb07 hb8
  go_wp2
  go_ret
  exact ⟨rfl, hb08⟩

theorem walk_DataBack (r k : Nat) (A : Option Addr) (n c : Nat) (l : List UInt8) (w : World) (hr : r < 4294967296) (hk : k < 18446744073709551616) (hc : n ≤ c ∧ c ≤ maxLen) (hs : Shows w w.heap.size A n l) :
    Calls Try.prog 3 #[.agg (trv r k A n c)] w fun e w' => e = .returned (.bool true) ∧ Below w.heap.size w w' := by
  have hm : n ≤ 9223372036854775807 := by have := Nat.le_trans hc.1 hc.2; unfold maxLen at this; omega
  by_cases h1 : 1000 < n
  · have hb0 : Below w.heap.size w (w.alloc (.cells (trv r k A n c) 26)) := (Below.refl _ _).alloc (Nat.le_refl _) _
    clear hs
    go_enter Try.func3, Try.ntmps3
    go_wp2_with fail
    refine (alive16 _).mono ?_
    rintro e w1 ⟨rfl, hb1⟩
    have hb2 := Below.on hb0 hb0.size hb1
    clear hb0 hb1
    go_wp2
    go_ret
    exact ⟨rfl, hb2⟩
  by_cases h2 : n < 16
  · exact dataBack_short r k A n c w h2
  · obtain ⟨b, off, rfl, _, _⟩ := hs.2 (by omega)
    exact dataBack_ok r k _ n c l w hr hk (by omega) (by omega) hs

end Go.Proofs.Ytffdgknfllpnoab
