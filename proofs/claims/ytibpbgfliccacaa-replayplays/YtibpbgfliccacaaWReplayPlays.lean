
/- The walk of law28.ReplayPlays. -/
import Derived.Test.YtibpbgfliccacaaRepD
namespace Go.Proofs.Ytibpbgfliccacaa
open Go.RowKit

set_option maxRecDepth 100000 in
set_option maxHeartbeats 400000 in
theorem walk_ReplayPlays (A : Option Addr) (n c : Nat) (l : List Nat) (a1 : Int) (w : World) (hc : n ≤ c ∧ c ≤ maxLen) (hs : Sh6 w w.heap.size A n l) (hb : ∀ x ∈ l, x < 18446744073709551616) (w1 : (Lit.int .u64 a1).wf = true) :
    Calls Try.prog 3 #[.slice A n c, .int .u64 a1] w fun e w' => e = .returned (.bool true) ∧ Below w.heap.size w w' := by
  obtain ⟨h0, h1⟩ := bounds_u64 w1
  obtain ⟨q, rfl⟩ := Int.eq_ofNat_of_zero_le h0
  have hq : q < 18446744073709551616 := by omega
  have hm : n ≤ 9223372036854775807 := by have := Nat.le_trans hc.1 hc.2; unfold maxLen at this; omega
  clear w1 h0 h1 hc
  by_cases hbig : 100 < n
  · clear hs hb
    go_enter Try.func3, Try.ntmps3
    go_wp2_with (go_at_call 13; refine (alive28 _).mono ?_; rintro e w' ⟨rfl, hb⟩)
    go_ret
    exact ⟨rfl, hb⟩
  · have hl := hs.len
    obtain ⟨hW0, b0⟩ := winL_33 w 27
    generalize hw : w.alloc (.cells #[.int .u64 0, .int .u64 0, .int .u64 0, .int .u64 0, .int .u64 0, .int .u64 0, .int .u64 0, .int .u64 0, .int .u64 0, .int .u64 0, .int .u64 0, .int .u64 0, .int .u64 0, .int .u64 0, .int .u64 0, .int .u64 0, .int .u64 0, .int .u64 0, .int .u64 0, .int .u64 0, .int .u64 0, .int .u64 0, .int .u64 0, .int .u64 0, .int .u64 0, .int .u64 0, .int .u64 0, .int .u64 0, .int .u64 0, .int .u64 0, .int .u64 0, .int .u64 0, .int .u64 0] 27) = w1 at *
    have HE := Lib.hid hw
    clear hw
    have HS := Lib.hid hs
    have HB := Lib.hid hb
    clear hs hb
    have hgl := hW0.lt
    have HQ : ∀ (W : World), Hid (q < 18446744073709551616) := fun _ => Lib.hid hq
    go_enter Try.func3, Try.ntmps3
    go_wp2
    rw [HE.out]
    clear HE
    generalize hg : w.heap.size = g at *
    have HG := Lib.hid hg
    clear hg
    go_loopw [6, 7] (fun v i wr => ∃ (k : Nat) (L : List Nat), k ≤ n ∧ i = .int .i64 (k : Int) ∧ L.length ≤ k ∧ WinL wr g 27 [] L ∧ Own6 wr (g + 1) v L.length L ∧ Below g w wr) (fun _ i _ => n - (intOf i).toNat)
    case atStart => exact ⟨0, [], Nat.zero_le _, rfl, Nat.le_refl _, hW0, own6_nil _ _, b0⟩
    case round =>
      obtain ⟨k, L, hk, rfl, hLk, hW, hO, bel⟩ := hrel
      have hSr := HS.out.below bel
      obtain ⟨A', c', rfl, hnc', hcm', hSL⟩ := hO.sh
      have htop := hW.lim
      have hgl := hW.lt
      by_cases hlt : k < n
      · obtain ⟨b, off, y, rfl, hbb, hcell, hy⟩ := hSr.elem hlt
        have hy64 : y < 18446744073709551616 := HB.out y (List.mem_of_getElem? hy)
        have HRC := Lib.hid (refCan_any A' L.length c' L y _ wr hSL (by omega) hy64 (by omega))
        have HC := Lib.hid (wcan_any g 0 _ [] L y wr hW rfl hy64)
        clear hSr hy
        cases hcan : canB L y
        · rw [hcan] at HRC HC
          have HT := Lib.hid (take_no g 0 _ [] L y wr hW rfl hy64 hcan)
          have HTop := Lib.hid (wtop_any g 0 _ [] L wr hW rfl)
          have HRT := Lib.hid (refTop_any A' L.length c' L _ wr hSL (by omega))
          have HSm := Lib.hid (wsome_any g 0 _ [] L wr hW rfl)
          have HCQ := Lib.hid (wcan_any g 0 _ [] L q wr hW rfl hq)
          have HRQ := Lib.hid (refCan_any A' L.length c' L q _ wr hSL (by omega) hq (by omega))
          have HKeep := Lib.hid (And.intro hW (And.intro hO bel))
          have hd : L.length = 0 ∨ 0 < L.length := Nat.eq_zero_or_pos _
          generalize canB L q = bq at *
          clear hW hO bel hSL hcan htop HB HS
          generalize topOf L = tp at *
          generalize hLN : L.length = N at *
          have HLN := Lib.hid hLN
          clear hLN
          rcases hd with hd | hd
          · subst hd
            rw [show decide (0 < 0) = false from rfl] at HSm
            cases bq
            all_goals
              go_wp2_with (first
                | (go_at_call 14; (with_reducible refine HRC.out.mono ?_); rintro e w' ⟨rfl, rfl⟩)
                | (go_at_call 15; (with_reducible refine HC.out.mono ?_); rintro e w' ⟨rfl, rfl⟩)
                | (go_at_call 16; (with_reducible refine HT.out.mono ?_); rintro e w' ⟨rfl, rfl⟩)
                | (go_at_call 17; (with_reducible refine HTop.out.mono ?_); rintro e w' ⟨rfl, rfl⟩)
                | (go_at_call 18; (with_reducible refine HRT.out.mono ?_); rintro e w' ⟨rfl, rfl⟩)
                | (go_at_call 19; (with_reducible refine HSm.out.mono ?_); rintro e w' ⟨rfl, rfl⟩)
                | (go_at_call 15; (with_reducible refine HCQ.out.mono ?_); rintro e w' ⟨rfl, rfl⟩)
                | (go_at_call 14; (with_reducible refine HRQ.out.mono ?_); rintro e w' ⟨rfl, rfl⟩))
              go_roundw
              case rel => exact ⟨k + 1, L, by omega, by go_num, by rw [HLN.out]; omega, HKeep.out.1, by rw [HLN.out]; exact HKeep.out.2.1, HKeep.out.2.2⟩
              case measure => simp [intOf]; omega
          · have hd2 : (0 : Int) < (N : Int) := by omega
            rw [show decide (0 < N) = true by simp [hd]] at HSm
            cases bq
            all_goals
              go_wp2_with (first
                | (go_at_call 14; (with_reducible refine HRC.out.mono ?_); rintro e w' ⟨rfl, rfl⟩)
                | (go_at_call 15; (with_reducible refine HC.out.mono ?_); rintro e w' ⟨rfl, rfl⟩)
                | (go_at_call 16; (with_reducible refine HT.out.mono ?_); rintro e w' ⟨rfl, rfl⟩)
                | (go_at_call 17; (with_reducible refine HTop.out.mono ?_); rintro e w' ⟨rfl, rfl⟩)
                | (go_at_call 18; (with_reducible refine HRT.out.mono ?_); rintro e w' ⟨rfl, rfl⟩)
                | (go_at_call 19; (with_reducible refine HSm.out.mono ?_); rintro e w' ⟨rfl, rfl⟩)
                | (go_at_call 15; (with_reducible refine HCQ.out.mono ?_); rintro e w' ⟨rfl, rfl⟩)
                | (go_at_call 14; (with_reducible refine HRQ.out.mono ?_); rintro e w' ⟨rfl, rfl⟩))
              go_roundw
              case rel => exact ⟨k + 1, L, by omega, by go_num, by rw [HLN.out]; omega, HKeep.out.1, by rw [HLN.out]; exact HKeep.out.2.1, HKeep.out.2.2⟩
              case measure => simp [intOf]; omega
        · rw [hcan] at HRC HC
          have HT := Lib.hid (take_yes g 0 _ [] L y wr hW rfl hy64 hcan)
          have hbk := hO.lt
          clear hW hSL hcan htop
          go_wp2_with (first
            | (go_at_call 14; (with_reducible refine HRC.out.mono ?_); rintro e w' ⟨rfl, rfl⟩)
            | (go_at_call 15; (with_reducible refine HC.out.mono ?_); rintro e w' ⟨rfl, rfl⟩))
          (with_reducible refine HT.out.mono ?_)
          rintro e w2 ⟨rfl, hW2, hg2⟩
          have hO2 := own6_gr hO hg2 (Nat.lt_succ_self g)
          have bel2 := below_gr1 bel hg2 (Nat.le_refl _) hgl
          have hcell2 := hg2.cell hcell (fun e => by injection e with e; simp at e; omega)
          have hsz2 := hg2.size
          have hgl2 := hW2.lt
          clear hcell HT HRC HC hO bel hg2
          go_wp2_with (at_builtin; refine wpList_app6 _ rfl _ _ rfl (g + 1) _ _ L rfl (by exact hO2.alloc _) ⟨w2.heap.size, 0, none⟩ 1 y rfl ?c1 ?c2 ?c3 ?_)
          case c1 => rw [World.cell?_alloc_at (hn := rfl)]; rfl
          case c2 => omega
          case c3 => simp; omega
          intro v3 w3 hO3 hg3
          have hW3 := (hW2.alloc _).gr hg3 (fun e => by have := hbk _ e; omega)
          have bel3 := below_gr (bel2.alloc (by omega) _) hg3 (by simp; omega) (fun k hk => by have := hbk _ hk; omega)
          obtain ⟨A3, c3, rfl, hnc3, hcm3, hS3⟩ := hO3.sh
          have htop3 := hW3.lim
          have hlen3 := hO3.len
          clear hO2 hg3 bel2 hW2 hcell2
          have HTop := Lib.hid (wtop_any g 0 _ [] (L ++ [y]) w3 hW3 rfl)
          have HRT := Lib.hid (refTop_any A3 (L.length + 1) c3 (L ++ [y]) _ w3 hS3 (by omega))
          have HSm := Lib.hid (wsome_any g 0 _ [] (L ++ [y]) w3 hW3 rfl)
          have HCQ := Lib.hid (wcan_any g 0 _ [] (L ++ [y]) q w3 hW3 rfl hq)
          have HRQ := Lib.hid (refCan_any A3 (L.length + 1) c3 (L ++ [y]) q _ w3 hS3 (by omega) hq (by omega))
          rw [show decide (0 < (L ++ [y]).length) = true by simp] at HSm
          have HKeep := Lib.hid (And.intro hW3 (And.intro hO3 bel3))
          generalize canB (L ++ [y]) q = bq at *
          generalize topOf (L ++ [y]) = tp at *
          generalize hL1 : L ++ [y] = L1 at *
          obtain ⟨N, hN⟩ : ∃ N, L.length + 1 = N := ⟨_, rfl⟩
          rw [hN] at HRT HRQ HKeep hlen3 hnc3
          have HLN := Lib.hid hlen3
          have hNk : N ≤ k + 1 := by omega
          have hd2 : (0 : Int) < (N : Int) := by omega
          rw [hN]
          clear hW3 hO3 bel3 hS3 htop3 hL1 hN hlen3 hLk hbk
          cases bq
          all_goals
            go_wp2_with (first
                | (go_at_call 17; (with_reducible refine HTop.out.mono ?_); rintro e w' ⟨rfl, rfl⟩)
                | (go_at_call 18; (with_reducible refine HRT.out.mono ?_); rintro e w' ⟨rfl, rfl⟩)
                | (go_at_call 19; (with_reducible refine HSm.out.mono ?_); rintro e w' ⟨rfl, rfl⟩)
                | (go_at_call 15; (with_reducible refine HCQ.out.mono ?_); rintro e w' ⟨rfl, rfl⟩)
                | (go_at_call 14; (with_reducible refine HRQ.out.mono ?_); rintro e w' ⟨rfl, rfl⟩))
            go_roundw
            case rel => exact ⟨k + 1, L1, by omega, by go_num, by rw [HLN.out]; omega, HKeep.out.1, by rw [HLN.out]; exact HKeep.out.2.1, HKeep.out.2.2⟩
            case measure => simp [intOf]; omega
      · obtain rfl : k = n := by omega
        have Hb := Lib.hid bel
        clear hW hO bel hSL hSr
        go_wp2_with (go_at_call 13; refine (alive28 _).mono ?_; rintro e w' ⟨rfl, hb⟩)
        go_ret
        exact ⟨rfl, by rw [HG.out]; exact Below.on Hb.out (by have := Hb.out.size; omega) hb⟩

end Go.Proofs.Ytibpbgfliccacaa
