
/- The walk of law19.IpfourTurned. -/
import Derived.Test.YtolmejmmbdclfaaHdE
import Derived.Test.YtolmejmmbdclfaaWOnesumCheck
namespace Go.Proofs.Ytolmejmmbdclfaa
open Go.RowKit
set_option linter.unusedSimpArgs false
set_option linter.unusedVariables false

theorem wE_zero {V S T n : Nat} {l : List UInt8} (h : wE V S T n l = 0) : V = 4 ∧ 20 ≤ S ∧ S ≤ n ∧ S ≤ T ∧ T ≤ n ∧ osum (l.take S) = 65535 := by
  unfold wE at h
  split at h
  · split at h
    · cases h
    · split at h
      · cases h
      · split at h
        · cases h
        · split at h
          · cases h
          · split at h
            · rename_i h0 h1 h2 h3 h4 h5
              exact ⟨h0, by omega, by omega, by omega, by omega, h5⟩
            · cases h
  · cases h
theorem pE_zero {l : List UInt8} (h : pE l = 0) : 20 ≤ l.length ∧ wE (n1 l / 1152921504606846976) (n1 l / 72057594037927936 % 16 * 4) (n1 l / 4294967296 % 65536) l.length l = 0 := by
  unfold pE at h
  split at h
  · cases h
  · exact ⟨by omega, h⟩
def sizeL (l : List UInt8) : Nat := n1 l / 72057594037927936 % 16 * 4
theorem turned_take (l : List UInt8) (bit S : Nat) (h : bit / 8 < S) : (turned l bit).take S = turned (l.take S) bit := by
  unfold turned
  rw [List.take_set, List.getElem?_take, if_pos h]
theorem turned_pE (l : List UInt8) (bit : Nat) (h : pE l = 0) (h8 : 8 ≤ bit) (hb : bit < 8 * sizeL l) : ¬ pE (turned l bit) = 0 := by
  intro h'
  obtain ⟨h20, hw⟩ := pE_zero h
  obtain ⟨h20', hw'⟩ := pE_zero h'
  obtain ⟨_, h1, h2, _, _, h5⟩ := wE_zero hw
  obtain ⟨_, _, _, _, _, h5'⟩ := wE_zero hw'
  have hS : n1 (turned l bit) / 72057594037927936 % 16 * 4 = sizeL l := by
    unfold sizeL
    obtain ⟨b0, b1, b2, b3, b4, b5, b6, b7, b8, b9, ⟨g0, _⟩, _, fS, _⟩ := head_fields l h20
    obtain ⟨c0, c1, c2, c3, c4, c5, c6, c7, c8, c9, ⟨k0, _⟩, _, fS', _⟩ := head_fields (turned l bit) h20'
    have e : (turned l bit)[0]? = l[0]? := by unfold turned; rw [List.getElem?_set_ne (by omega)]
    rw [e, g0] at k0
    injection k0 with k0
    subst k0
    rw [fS, fS']
  rw [hS, turned_take l bit _ (by omega)] at h5'
  refine turned_bad (l.take (sizeL l)) bit ?_ h5 h5'
  have : sizeL l ≤ l.length := h2
  simp [Nat.min_eq_left this]
  omega
theorem pH_one1 (l : List UInt8) (h : pE l = 0) : (pH l)[1]? = some (.int .i64 (sizeL l : Int)) := by
  unfold pH
  rw [if_pos h]
  unfold hdL hdN
  exact hdv_num _ _ _ 1 _ rfl

set_option maxRecDepth 100000 in
set_option maxHeartbeats 2000000 in
theorem ipfourTurned_out (A : Option Addr) (n c : Nat) (l : List UInt8) (a1 : Int) {w : World} (hn : n ≤ 300) (hc1 : n ≤ c) (hc2 : c ≤ maxLen) (hs : Shows w w.heap.size A n l) (hx : ¬ pE l = 0 ∨ a1 < 8 ∨ ((8 * sizeL l : Nat) : Int) ≤ a1) :
    Calls Try.prog 8 #[.slice A n c, .int .i64 a1] w fun e w' => e = .returned (.bool true) ∧ Below w.heap.size w w' := by
  have d : decide ((300 : Int) < (n : Int)) = false := decide_eq_false (by omega)
  have HP := Lib.hid (parse4_any A n c l w (by omega) hc1 hc2 hs)
  have hz := (zero_of_info Try.zeroHead).1
  have hne : ¬ zH = #[] := by intro h; have := zH_size; rw [h] at this; cases this
  have hsz := pH_size l
  have h1c := pH_one l
  have m1 := pH_one1 l
  have lS : sizeL l ≤ 60 := by unfold sizeL; omega
  generalize pH l = M at *
  generalize pE l = E at *
  generalize sizeL l = S at *
  have iS : (S : Int) ≤ 60 := by omega
  clear hs
  have key : ∀ (w1 : World), Below w.heap.size w w1 → ∀ g1, w1.heap.size = g1 → Blk (w1.alloc (.cells M 39)) g1 39 M ∧ Below w.heap.size w (w1.alloc (.cells M 39)) := fun w1 hb1 g1 hg => ⟨by rw [← hg]; exact blk_new _ _ _, hb1.alloc hb1.size _⟩
  by_cases q0 : E = 0
  · subst q0
    have m1' := m1 rfl
    by_cases q1 : a1 < 8
    · have d1 : decide (a1 < 8) = true := decide_eq_true q1
      go_enter Try.func8, Try.ntmps8
      go_wp2_with fail
      refine HP.out.mono ?_
      rintro e w1 ⟨rfl, hb1⟩
      generalize hg1 : w1.heap.size = g1 at *
      obtain ⟨k2, b2⟩ := key w1 hb1 g1 hg1
      go_wp2_with (first
        | (refine wpList_allocStore (cs := M) rfl rfl 39 ?ho (.tmp 5) (.tmp 16) ?ho2 Try.zeroHead ?hz ?hx ?hy ?hn ?h1 ?_
           case ho => with_reducible rfl
           case ho2 => rfl
           case hz => exact zH_size
           case hx => rfl
           case hy => rfl
           case hn => exact hsz
           case h1 => exact h1c
           rw [hg1])
        | fail)
      refine (alive19 _).mono ?_
      rintro e w6 ⟨rfl, hb6⟩
      have b6 := Below.on b2 b2.size hb6
      clear k2 b2 hb6
      go_wp2
      go_ret
      exact ⟨rfl, b6⟩
    · have d1 : decide (a1 < 8) = false := decide_eq_false q1
      have q2 : 8 * (S : Int) ≤ a1 := by omega
      have d2 : decide (8 * (S : Int) ≤ a1) = true := decide_eq_true q2
      go_enter Try.func8, Try.ntmps8
      go_wp2_with fail
      refine HP.out.mono ?_
      rintro e w1 ⟨rfl, hb1⟩
      generalize hg1 : w1.heap.size = g1 at *
      obtain ⟨k2, b2⟩ := key w1 hb1 g1 hg1
      have c1 := (k2.cellA 1).trans m1'
      go_wp2_with (first
        | (refine wpList_allocStore (cs := M) rfl rfl 39 ?ho (.tmp 5) (.tmp 16) ?ho2 Try.zeroHead ?hz ?hx ?hy ?hn ?h1 ?_
           case ho => with_reducible rfl
           case ho2 => rfl
           case hz => exact zH_size
           case hx => rfl
           case hy => rfl
           case hn => exact hsz
           case h1 => exact h1c
           rw [hg1])
        | fail)
      refine (alive19 _).mono ?_
      rintro e w6 ⟨rfl, hb6⟩
      have b6 := Below.on b2 b2.size hb6
      clear k2 b2 hb6
      go_wp2
      go_ret
      exact ⟨rfl, b6⟩
  · have q0' : ¬ (E : Int) = 0 := by omega
    have d0 : decide ((E : Int) = 0) = false := decide_eq_false q0'
    have d0' : ((E : Int) == 0) = false := by simpa using q0
    have d0'' : ((E : Int) != 0) = true := by simpa using q0
    go_enter Try.func8, Try.ntmps8
    go_wp2_with fail
    refine HP.out.mono ?_
    rintro e w1 ⟨rfl, hb1⟩
    generalize hg1 : w1.heap.size = g1 at *
    obtain ⟨k2, b2⟩ := key w1 hb1 g1 hg1
    go_wp2_with (first
      | (refine wpList_allocStore (cs := M) rfl rfl 39 ?ho (.tmp 5) (.tmp 16) ?ho2 Try.zeroHead ?hz ?hx ?hy ?hn ?h1 ?_
         case ho => with_reducible rfl
         case ho2 => rfl
         case hz => exact zH_size
         case hx => rfl
         case hy => rfl
         case hn => exact hsz
         case h1 => exact h1c
         rw [hg1])
      | fail)
    refine (alive19 _).mono ?_
    rintro e w6 ⟨rfl, hb6⟩
    have b6 := Below.on b2 b2.size hb6
    clear k2 b2 hb6
    go_wp2
    go_ret
    exact ⟨rfl, b6⟩

set_option maxRecDepth 100000 in
set_option maxHeartbeats 2000000 in
theorem ipfourTurned_in (A : Option Addr) (n c bit : Nat) (l : List UInt8) {w : World} (hn : n ≤ 300) (hc1 : n ≤ c) (hc2 : c ≤ maxLen) (hs : Shows w w.heap.size A n l) (q0 : pE l = 0) (q1 : 8 ≤ bit) (q2 : bit < 8 * sizeL l) :
    Calls Try.prog 8 #[.slice A n c, .int .i64 (bit : Int)] w fun e w' => e = .returned (.bool true) ∧ Below w.heap.size w w' := by
  have d : decide ((300 : Int) < (n : Int)) = false := decide_eq_false (by omega)
  have HP := Lib.hid (parse4_any A n c l w (by omega) hc1 hc2 hs)
  have hz := (zero_of_info Try.zeroHead).1
  have hne : ¬ zH = #[] := by intro h; have := zH_size; rw [h] at this; cases this
  have hsz := pH_size l
  have h1c := pH_one l
  have m1 := pH_one1 l q0
  have lS : sizeL l ≤ 60 := by unfold sizeL; omega
  have hlen := hs.len
  have hSn : sizeL l ≤ n := by
    obtain ⟨_, hw⟩ := pE_zero q0
    have := (wE_zero hw).2.2.1
    rw [hlen] at this
    exact this
  have HT := Lib.hid (fun (W : World) (hW : Below w.heap.size w W) => turned_any A n c bit l W (by omega) (by omega) ((hs.below hW).up hW.size))
  have hTn := turned_pE l bit q0 q1 q2
  rw [q0] at HP
  have HP2 := Lib.hid (fun (A' : Option Addr) (c' : Nat) (W : World) (h1 : n ≤ c') (h2 : c' ≤ maxLen) (hS : Shows W W.heap.size A' n (turned l bit)) => parse4_any A' n c' (turned l bit) W (by omega) h1 h2 hS)
  have hsz2 := pH_size (turned l bit)
  have h1c2 := pH_one (turned l bit)
  generalize hM : pH l = M at *
  generalize hM2 : pH (turned l bit) = M2 at *
  generalize pE (turned l bit) = E2 at *
  generalize sizeL l = S at *
  clear hM hM2
  have iS : (S : Int) ≤ 60 := by omega
  have d1 : decide ((bit : Int) < 8) = false := decide_eq_false (by omega)
  have d2 : decide (8 * (S : Int) ≤ (bit : Int)) = false := decide_eq_false (by omega)
  have q0' : ¬ (E2 : Int) = 0 := by omega
  have d0 : decide ((E2 : Int) = 0) = false := decide_eq_false q0'
  have d0' : ((E2 : Int) == 0) = false := by simpa using hTn
  have d0'' : ((E2 : Int) != 0) = true := by simpa using hTn
  clear hs q0 q2
  go_enter Try.func8, Try.ntmps8
  go_wp2_with fail
  refine HP.out.mono ?_
  rintro e w1 ⟨rfl, hb1⟩
  have k2 : Blk (w1.alloc (.cells M 39)) w1.heap.size 39 M := blk_new _ _ _
  have b2 : Below w.heap.size w (w1.alloc (.cells M 39)) := hb1.alloc hb1.size _
  generalize hg1 : w1.heap.size = g1 at *
  have c1 := (k2.cellA 1).trans m1
  go_wp2_with (first
    | (refine wpList_allocStore (cs := M) rfl rfl 39 ?ho (.tmp 5) (.tmp 16) ?ho2 Try.zeroHead ?hz ?hx ?hy ?hn ?h1 ?_
       case ho => with_reducible rfl
       case ho2 => rfl
       case hz => exact zH_size
       case hx => rfl
       case hy => rfl
       case hn => exact hsz
       case h1 => exact h1c
       rw [hg1])
    | fail)
  refine (HT.out _ b2).mono ?_
  rintro e w3 ⟨v, rfl, ho3, hb3⟩
  have b3 := Below.on b2 b2.size hb3
  obtain ⟨A', c', rfl, h1, h2, s3⟩ := ho3.shows
  clear k2 b2 hb3 c1 hb1 HT ho3
  go_wp2_with fail
  refine (HP2.out A' c' _ h1 h2 s3).mono ?_
  rintro e w4 ⟨rfl, hb4⟩
  have b4 := Below.on b3 b3.size hb4
  clear b3 hb4 s3
  have b5 : Below w.heap.size w (w4.alloc (.cells M2 39)) := b4.alloc b4.size _
  go_wp2_with (first
    | (refine wpList_allocStore (cs := M2) rfl rfl 39 ?ho (.tmp 7) (.tmp 37) ?ho2 Try.zeroHead ?hz ?hx ?hy ?hn ?h1 ?_
       case ho => with_reducible rfl
       case ho2 => rfl
       case hz => exact zH_size
       case hx => rfl
       case hy => rfl
       case hn => exact hsz2
       case h1 => exact h1c2)
    | fail)
  refine (alive19 _).mono ?_
  rintro e w6 ⟨rfl, hb6⟩
  have b6 := Below.on b5 b5.size hb6
  clear b4 b5 hb6
  go_wp2
  go_ret
  exact ⟨rfl, b6⟩

theorem walk_IpfourTurned (A : Option Addr) (n c : Nat) (l : List UInt8) (a1 : Int) {w : World} (hc : n ≤ c ∧ c ≤ maxLen) (hs : Shows w w.heap.size A n l) (_w1 : (Lit.int .i64 a1).wf = true) :
    Calls Try.prog 8 #[.slice A n c, .int .i64 a1] w fun e w' => e = .returned (.bool true) ∧ Below w.heap.size w w' := by
  by_cases hn : 300 < n
  · have hni : (300 : Int) < (n : Int) := by omega
    have d : decide ((300 : Int) < (n : Int)) = true := decide_eq_true hni
    go_enter Try.func8, Try.ntmps8
    go_wp2_with fail
    refine (alive19 w).mono ?_
    rintro e w1 ⟨rfl, hb1⟩
    go_wp2
    go_ret
    exact ⟨rfl, hb1⟩
  · by_cases hx : ¬ pE l = 0 ∨ a1 < 8 ∨ ((8 * sizeL l : Nat) : Int) ≤ a1
    · exact ipfourTurned_out A n c l a1 (by omega) hc.1 hc.2 hs hx
    · obtain ⟨bit, rfl⟩ := Int.eq_ofNat_of_zero_le (show 0 ≤ a1 by omega)
      exact ipfourTurned_in A n c bit l (by omega) hc.1 hc.2 hs (by omega) (by omega) (by omega)

end Go.Proofs.Ytolmejmmbdclfaa
