
/- The walks of law28.ReplayNobody, ReplayOnce, ReplayOrder. -/
import Derived.Test.YtibpbgfliccacaaRepD
namespace Go.Proofs.Ytibpbgfliccacaa
open Go.RowKit

theorem walk_ReplayNobody (a1 : Int) (w : World) (_ : (Lit.int .u64 a1).wf = true) :
    Calls Try.prog 6 #[.int .u64 a1] w fun e w' => e = .returned (.bool true) ∧ Below w.heap.size w w' := by
  go_enter Try.func6, Try.ntmps6
  go_wp2_with (first
    | (go_at_call 15; (with_reducible refine (can_nil _ _).mono ?_); rintro e w' ⟨rfl, rfl⟩)
    | (go_at_call 16; (with_reducible refine (take_nil _ _).mono ?_); rintro e w' ⟨rfl, rfl⟩)
    | (go_at_call 17; (with_reducible refine (top_nil _).mono ?_); rintro e w' ⟨rfl, rfl⟩)
    | (go_at_call 19; (with_reducible refine (some_nil _).mono ?_); rintro e w' ⟨rfl, rfl⟩)
    | (go_at_call 13; (with_reducible refine (alive28 _).mono ?_); rintro e w' ⟨rfl, hb⟩))
  go_ret
  exact ⟨rfl, hb⟩

/-- The list behind a number that came. -/
def takeL (L : List Nat) (y : Nat) : List Nat := if canB L y then L ++ [y] else L

theorem wtake_any (g o : Nat) (ty : TypeId) (pre : List Value) (l : List Nat) (n : Nat) (w : World) (hW : WinL w g ty pre l) (ho : pre.length = o) (hn : n < 18446744073709551616) :
    Calls Try.prog 16 #[.pointer (some ⟨g, o, none⟩), .int .u64 (n : Int)] w fun e w' => e = .returned (.bool (canB l n)) ∧ WinL w' g ty pre (takeL l n) ∧ w.grownBy w' (some g) := by
  unfold takeL
  cases hc : canB l n
  · exact (take_no g o ty pre l n w hW ho hn hc).mono fun e w' ⟨he, hw⟩ => ⟨he, by subst hw; simpa using hW, by subst hw; exact ⟨rfl, rfl, rfl, Nat.le_refl _, fun _ _ _ => rfl⟩⟩
  · exact (take_yes g o ty pre l n w hW ho hn hc).mono fun e w' ⟨he, hw, hg⟩ => ⟨he, by simpa using hw, hg⟩

theorem canB_false (L : List Nat) (n : Nat) : canB L n = false ↔ (18446744073709543423 ≤ n ∨ n ∈ L ∨ (n < topOf L ∧ 1984 < topOf L - n)) := by
  unfold canB
  by_cases h1 : n < 18446744073709543423
  · by_cases h2 : n ∈ L
    · simp [h1, h2]
    · simp [h1, h2]
      omega
  · simp [h1]
    omega

theorem canB_keep (L : List Nat) (n y : Nat) (h : canB L n = false) : canB (takeL L y) n = false := by
  unfold takeL
  split
  · rw [canB_false] at *
    rw [topOf_snoc]
    rcases h with h | h | h
    · exact .inl h
    · exact .inr (.inl (List.mem_append_left _ h))
    · exact .inr (.inr (by omega))
  · exact h
theorem canB_took (L : List Nat) (n : Nat) : canB (takeL L n) n = false := by
  unfold takeL
  split
  · rw [canB_false]
    exact .inr (.inl (by simp))
  · next h => simpa using h

set_option maxRecDepth 100000 in
set_option maxHeartbeats 1000000 in
theorem walk_ReplayOnce (A : Option Addr) (n c : Nat) (l : List Nat) (a1 : Int) (A2 : Option Addr) (n2 c2 : Nat) (l2 : List Nat) (w : World) (hc : n ≤ c ∧ c ≤ maxLen) (hs : Sh6 w w.heap.size A n l) (hb : ∀ x ∈ l, x < 18446744073709551616)
    (w1 : (Lit.int .u64 a1).wf = true) (hc2 : n2 ≤ c2 ∧ c2 ≤ maxLen) (hs2 : Sh6 w w.heap.size A2 n2 l2) (hb2 : ∀ x ∈ l2, x < 18446744073709551616) :
    Calls Try.prog 4 #[.slice A n c, .int .u64 a1, .slice A2 n2 c2] w fun e w' => e = .returned (.bool true) ∧ Below w.heap.size w w' := by
  obtain ⟨h0, h1⟩ := bounds_u64 w1
  obtain ⟨q, rfl⟩ := Int.eq_ofNat_of_zero_le h0
  have hq : q < 18446744073709551616 := by omega
  have hm : n ≤ 9223372036854775807 := by have := Nat.le_trans hc.1 hc.2; unfold maxLen at this; omega
  have hm2 : n2 ≤ 9223372036854775807 := by have := Nat.le_trans hc2.1 hc2.2; unfold maxLen at this; omega
  clear w1 h0 h1 hc hc2
  by_cases hbig : 100 < n
  · clear hs hb hs2 hb2
    go_enter Try.func4, Try.ntmps4
    go_wp2_with (go_at_call 13; refine (alive28 _).mono ?_; rintro e w' ⟨rfl, hb⟩)
    go_ret
    exact ⟨rfl, hb⟩
  by_cases hbig2 : 100 < n2
  · clear hs hb hs2 hb2
    go_enter Try.func4, Try.ntmps4
    go_wp2_with (go_at_call 13; refine (alive28 _).mono ?_; rintro e w' ⟨rfl, hb⟩)
    go_ret
    exact ⟨rfl, hb⟩
  obtain ⟨hW0, b0⟩ := winL_33 w 27
  generalize hw : w.alloc (.cells #[.int .u64 0, .int .u64 0, .int .u64 0, .int .u64 0, .int .u64 0, .int .u64 0, .int .u64 0, .int .u64 0, .int .u64 0, .int .u64 0, .int .u64 0, .int .u64 0, .int .u64 0, .int .u64 0, .int .u64 0, .int .u64 0, .int .u64 0, .int .u64 0, .int .u64 0, .int .u64 0, .int .u64 0, .int .u64 0, .int .u64 0, .int .u64 0, .int .u64 0, .int .u64 0, .int .u64 0, .int .u64 0, .int .u64 0, .int .u64 0, .int .u64 0, .int .u64 0, .int .u64 0] 27) = w1 at *
  have HE := Lib.hid hw
  have HS := Lib.hid hs
  have HB := Lib.hid hb
  have HS2 := Lib.hid hs2
  have HB2 := Lib.hid hb2
  clear hw hs hb hs2 hb2
  go_enter Try.func4, Try.ntmps4
  go_wp2
  rw [HE.out]
  clear HE
  generalize hg : w.heap.size = g at *
  have HG := Lib.hid hg
  clear hg
  go_loopw [8] (fun i wr => ∃ (k : Nat) (L : List Nat), k ≤ n ∧ i = .int .i64 (k : Int) ∧ WinL wr g 27 [] L ∧ Below g w wr) (fun i _ => n - (intOf i).toNat)
  case atStart => exact ⟨0, [], Nat.zero_le _, rfl, hW0, b0⟩
  case round =>
    obtain ⟨k, L, hk, rfl, hW, bel⟩ := hrel
    have hgl := hW.lt
    by_cases hlt : k < n
    · obtain ⟨b, off, y, rfl, hbb, hcell, hy⟩ := (HS.out.below bel).elem hlt
      have hy64 : y < 18446744073709551616 := HB.out y (List.mem_of_getElem? hy)
      have HT := Lib.hid (wtake_any g 0 _ [] L y wr hW rfl hy64)
      have Hb := Lib.hid bel
      clear hy hW bel
      go_wp2_with fail
      refine HT.out.mono ?_
      rintro e w2 ⟨rfl, hW2, hg2⟩
      have HX := Lib.hid (And.intro hW2 (below_gr1 Hb.out hg2 (Nat.le_refl _) hgl))
      clear hW2 hg2
      go_wp2
      go_roundw
      case rel => exact ⟨k + 1, _, by omega, by go_num, HX.out.1, HX.out.2⟩
      case measure => simp [intOf]; omega
    · obtain rfl : k = n := by omega
      have HT := Lib.hid (wtake_any g 0 _ [] L q wr hW rfl hq)
      have Hb := Lib.hid bel
      clear hW bel
      go_wp2_with fail
      refine HT.out.mono ?_
      rintro e w2 ⟨rfl, hW2, hg2⟩
      have hb2 := below_gr1 Hb.out hg2 (Nat.le_refl _) hgl
      have hno := canB_took L q
      generalize takeL L q = L2 at *
      generalize canB L q = bt at *
      clear hg2 HT
      have HW := Lib.hid hW2
      have Hb2 := Lib.hid hb2
      have HN := Lib.hid hno
      clear hW2 hb2 hno
      go_wp2
      go_loopw [9] (fun i wr => ∃ (k : Nat) (L : List Nat), k ≤ n2 ∧ i = .int .i64 (k : Int) ∧ WinL wr g 27 [] L ∧ canB L q = false ∧ Below g w wr) (fun i _ => n2 - (intOf i).toNat)
      case atStart => exact ⟨0, L2, Nat.zero_le _, rfl, HW.out, HN.out, Hb2.out⟩
      case round =>
        obtain ⟨j, L3, hj, rfl, hW, hno, bel⟩ := hrel
        have hgl := hW.lt
        have HC := Lib.hid (wcan_any g 0 _ [] L3 q _ hW rfl hq)
        rw [hno] at HC
        have HT := Lib.hid (take_no g 0 _ [] L3 q _ hW rfl hq hno)
        by_cases hlt2 : j < n2
        · obtain ⟨b, off, y, rfl, hbb, hcell, hy⟩ := (HS2.out.below bel).elem hlt2
          have hy64 : y < 18446744073709551616 := HB2.out y (List.mem_of_getElem? hy)
          have HT2 := Lib.hid (wtake_any g 0 _ [] L3 y _ hW rfl hy64)
          have Hb := Lib.hid bel
          have HN2 := Lib.hid (canB_keep L3 q y hno)
          clear hy hW bel hno
          go_wp2_with fail
          refine HT.out.mono ?_
          rintro e w2 ⟨rfl, rfl⟩
          go_wp2_with fail
          refine HT2.out.mono ?_
          rintro e w3 ⟨rfl, hW2, hg2⟩
          have HX := Lib.hid (And.intro hW2 (below_gr1 Hb.out hg2 (Nat.le_refl _) hgl))
          clear hW2 hg2
          go_wp2
          go_roundw
          case rel => exact ⟨j + 1, _, by omega, by go_num, HX.out.1, HN2.out, HX.out.2⟩
          case measure => simp [intOf]; omega
        · obtain rfl : j = n2 := by omega
          have Hb := Lib.hid bel
          clear hW bel hno
          go_wp2_with fail
          refine HC.out.mono ?_
          rintro e w2 ⟨rfl, rfl⟩
          go_wp2_with fail
          refine (alive28 _).mono ?_
          rintro e w' ⟨rfl, hb⟩
          go_wp2
          go_ret
          exact ⟨rfl, by rw [HG.out]; exact Below.on Hb.out (by have := Hb.out.size; omega) hb⟩

theorem canB_near (L M : List Nat) (f y : Nat) (hf : f ≤ 1000000000) (hL : ∀ x, x ∈ L ↔ x ∈ M) (hM : ∀ x ∈ M, f ≤ x ∧ x ≤ f + 1984) (h1 : f ≤ y) (h2 : y ≤ f + 1984) : canB L y = !M.contains y := by
  have ht : topOf L ≤ f + 1984 := by
    by_cases h0 : L = []
    · subst h0; simp [topOf_nil]
    · exact (hM _ ((hL _).1 (topOf_mem L h0))).2
  have hc := hL y
  by_cases hm : y ∈ M
  · rw [(canB_false L y).2 (.inr (.inl (hc.2 hm)))]
    simp [hm]
  · have hn : y ∉ L := fun h => hm (hc.1 h)
    have : canB L y ≠ false := fun h => by
      rw [canB_false] at h
      rcases h with h | h | h
      · omega
      · exact hn h
      · omega
    simpa [hm] using this

set_option maxRecDepth 100000 in
set_option maxHeartbeats 1000000 in
theorem walk_ReplayOrder (a0 : Int) (A : Option Addr) (n c : Nat) (l : List Nat) (w : World) (w0 : (Lit.int .u64 a0).wf = true) (hc : n ≤ c ∧ c ≤ maxLen) (hs : Sh (fun m : Nat => .int .u16 (m : Int)) w w.heap.size A n l) (hb : ∀ x ∈ l, x < 65536) :
    Calls Try.prog 5 #[.int .u64 a0, .slice A n c] w fun e w' => e = .returned (.bool true) ∧ Below w.heap.size w w' := by
  obtain ⟨h0, h1⟩ := bounds_u64 w0
  obtain ⟨f, rfl⟩ := Int.eq_ofNat_of_zero_le h0
  have hm : n ≤ 9223372036854775807 := by have := Nat.le_trans hc.1 hc.2; unfold maxLen at this; omega
  clear w0 h0 h1 hc
  by_cases hbig : 100 < n
  · clear hs hb
    go_enter Try.func5, Try.ntmps5
    go_wp2_with (go_at_call 13; refine (alive28 _).mono ?_; rintro e w' ⟨rfl, hb⟩)
    go_ret
    exact ⟨rfl, hb⟩
  by_cases hbig2 : 1000000000 < f
  · clear hs hb
    go_enter Try.func5, Try.ntmps5
    go_wp2_with (go_at_call 13; refine (alive28 _).mono ?_; rintro e w' ⟨rfl, hb⟩)
    go_ret
    exact ⟨rfl, hb⟩
  have hf : f ≤ 1000000000 := by omega
  obtain ⟨hW0, b0⟩ := winL_33 w 27
  generalize hw : w.alloc (.cells #[.int .u64 0, .int .u64 0, .int .u64 0, .int .u64 0, .int .u64 0, .int .u64 0, .int .u64 0, .int .u64 0, .int .u64 0, .int .u64 0, .int .u64 0, .int .u64 0, .int .u64 0, .int .u64 0, .int .u64 0, .int .u64 0, .int .u64 0, .int .u64 0, .int .u64 0, .int .u64 0, .int .u64 0, .int .u64 0, .int .u64 0, .int .u64 0, .int .u64 0, .int .u64 0, .int .u64 0, .int .u64 0, .int .u64 0, .int .u64 0, .int .u64 0, .int .u64 0, .int .u64 0] 27) = w1 at *
  have HE := Lib.hid hw
  have HS := Lib.hid hs
  have HB := Lib.hid hb
  clear hw hs hb
  go_enter Try.func5, Try.ntmps5
  go_wp2
  rw [HE.out]
  clear HE
  generalize hg : w.heap.size = g at *
  have HG := Lib.hid hg
  clear hg
  go_loopw [6, 7] (fun v i wr => ∃ (k : Nat) (L M : List Nat), k ≤ n ∧ i = .int .i64 (k : Int) ∧ M.length ≤ k ∧ WinL wr g 27 [] L ∧ Own6 wr (g + 1) v M.length M ∧ (∀ x, x ∈ L ↔ x ∈ M) ∧ (∀ x ∈ M, f ≤ x ∧ x ≤ f + 1984) ∧ Below g w wr) (fun _ i _ => n - (intOf i).toNat)
  case atStart => exact ⟨0, [], [], Nat.zero_le _, rfl, Nat.le_refl _, hW0, own6_nil _ _, fun _ => Iff.rfl, fun x hx => (by cases hx), b0⟩
  case round =>
    obtain ⟨k, L, M, hk, rfl, hMk, hW, hO, hLM, hM, bel⟩ := hrel
    obtain ⟨A', c', rfl, hnc', hcm', hSM⟩ := hO.sh
    have hgl := hW.lt
    by_cases hlt : k < n
    · obtain ⟨b, off, y, rfl, hbb, hcell, hy⟩ := (HS.out.below bel).elem hlt
      have hy16 : y < 65536 := HB.out y (List.mem_of_getElem? hy)
      obtain ⟨z, hz⟩ : ∃ z : Nat, (f : Int) + (y : Int) % 1985 = (z : Int) := ⟨f + y % 1985, by omega⟩
      have hz1 : f ≤ z := by omega
      have hz2 : z ≤ f + 1984 := by omega
      have HT := Lib.hid (wtake_any g 0 _ [] L z wr hW rfl (by omega))
      have HC := canB_near L M f z hf hLM hM hz1 hz2
      rw [HC] at HT
      have hbk := hO.lt
      have HK := Lib.hid (And.intro hLM (And.intro hM (And.intro bel hO)))
      have HTL : Hid (∀ x, x ∈ takeL L z ↔ x ∈ M ++ [z]) := Lib.hid (fun x => by
        unfold takeL
        rw [HC, List.mem_append, List.mem_singleton]
        cases hm : M.contains z
        · simp [hLM x]
        · have : z ∈ M := by simpa using hm
          simp only [Bool.not_true, Bool.false_eq_true, if_false]
          rw [hLM x]
          constructor
          · exact .inl
          · rintro (h | rfl)
            · exact h
            · exact this)
      have hcz : M.length ≤ 100 := by omega
      clear hy hW bel HC hLM hM hO hSM
      have hz0 : 0 ≤ (y : Int) % 1985 := by omega
      go_wp2_with fail
      refine HT.out.mono ?_
      rintro e w2 ⟨rfl, hW2, hg2⟩
      obtain ⟨_, _, hbel, hO⟩ := HK.out
      have hO2 := own6_gr hO hg2 (Nat.lt_succ_self g)
      have bel2 := below_gr1 hbel hg2 (Nat.le_refl _) hgl
      obtain ⟨A2, cc2, hv2, _, _, hS2⟩ := hO2.sh
      injection hv2 with hv3 _ hv4
      subst hv3
      subst hv4
      have HH := Lib.hid (has_any A' M.length c' M z _ w2 hS2 (by omega))
      have HO2 := Lib.hid hO2
      have HB2 := Lib.hid bel2
      have HW2 := Lib.hid hW2
      clear hO hO2 bel2 hg2 hbel hS2 hW2
      generalize M.contains z = bm at *
      go_wp2_with (first
        | (go_at_call 20; (with_reducible refine HH.out.mono ?_); rintro e w' ⟨rfl, rfl⟩)
        | (at_builtin; refine wpList_app6 _ rfl _ _ rfl (g + 1) _ _ M rfl (by exact HO2.out.alloc _) ⟨w2.heap.size, 0, none⟩ 1 z rfl ?c1 ?c2 ?c3 ?_))
      case c1 => rw [World.cell?_alloc_at (hn := rfl)]; rfl
      case c2 => omega
      case c3 => have := HW2.out.lt; simp; omega
      intro v3 w3 hO3 hg3
      have hlt2 := HW2.out.lt
      have hW3 := (HW2.out.alloc _).gr hg3 (fun e => by have := hbk _ e; omega)
      have bel3 := below_gr (HB2.out.alloc (by omega) _) hg3 (by simp; omega) (fun k hk => by have := hbk _ hk; omega)
      have HX := Lib.hid (And.intro hW3 (And.intro hO3 bel3))
      clear hW3 hO3 bel3 hg3
      go_wp2
      go_roundw
      case rel => exact ⟨k + 1, _, M ++ [z], by omega, by go_num, by simp; omega, HX.out.1, by simpa using HX.out.2.1, HTL.out, (fun x hx => by rcases List.mem_append.1 hx with h | h; exact HK.out.2.1 x h; rw [List.mem_singleton.1 h]; exact ⟨hz1, hz2⟩), HX.out.2.2⟩
      case measure => simp [intOf]; omega
    · obtain rfl : k = n := by omega
      have Hb := Lib.hid bel
      clear hW hO bel hSM hLM hM
      go_wp2_with (go_at_call 13; refine (alive28 _).mono ?_; rintro e w' ⟨rfl, hb⟩)
      go_ret
      exact ⟨rfl, by rw [HG.out]; exact Below.on Hb.out (by have := Hb.out.size; omega) hb⟩

end Go.Proofs.Ytibpbgfliccacaa
