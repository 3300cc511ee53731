
/- Contracts: law18's alive; ref18.Turned. -/
import Derived.Test.YtolmejmmbdclfaaSumA
import Derived.Test.YtolmejmmbdclfaaApp
namespace Go.Proofs.Ytolmejmmbdclfaa
open Go.RowKit

/-- One part, in a list of its own. -/
theorem parts1 (w : World) (A : Option Addr) (n c : Nat) (l : List UInt8) (h : Shows w w.heap.size A n l) :
    Parts (w.alloc (.cells #[.slice A n c] 25)) (w.alloc (.cells #[.slice A n c] 25)).heap.size (some ⟨w.heap.size, 0, none⟩) 1 [⟨A, n, c, l⟩] := by
  refine ⟨sh_new pv 25 w #[.slice A n c] [⟨A, n, c, l⟩] rfl, fun p hp => ?_⟩
  simp at hp
  subst hp
  exact (h.alloc (Nat.le_refl _) _).up (by simp)

theorem sum1_of (w : World) (g : Nat) (hg : w.heap.size = g) (A : Option Addr) (n c : Nat) (l : List UInt8) (hn : n ≤ 1000000000) (h : Shows w w.heap.size A n l) :
    Calls Try.prog 14 #[.slice (some ⟨g, 0, none⟩) 1 1] (w.alloc (.cells #[.slice A n c] 25)) fun e w' => e = .returned (.int .u16 (osum l : Int)) ∧ w.alloc (.cells #[.slice A n c] 25) = w' := by
  subst hg
  have := sumOf_any (some ⟨w.heap.size, 0, none⟩) 1 1 [⟨A, n, c, l⟩] _ (by omega) (by simp [joinP, h.len]; omega) (parts1 w A n c l h)
  simpa [joinP] using this
theorem sum1_check (w : World) (g : Nat) (hg : w.heap.size = g) (A : Option Addr) (n c : Nat) (l : List UInt8) (hn : n ≤ 1000000000) (h : Shows w w.heap.size A n l) :
    Calls Try.prog 15 #[.slice (some ⟨g, 0, none⟩) 1 1] (w.alloc (.cells #[.slice A n c] 25)) fun e w' => e = .returned (.int .u16 ((65535 - osum l : Nat) : Int)) ∧ w.alloc (.cells #[.slice A n c] 25) = w' := by
  subst hg
  have := sumCheck_any (some ⟨w.heap.size, 0, none⟩) 1 1 [⟨A, n, c, l⟩] _ (by omega) (by simp [joinP, h.len]; omega) (parts1 w A n c l h)
  simpa only [joinP, List.map_cons, List.map_nil, List.flatten_cons, List.flatten_nil, List.append_nil] using this
theorem sum1_good (w : World) (g : Nat) (hg : w.heap.size = g) (A : Option Addr) (n c : Nat) (l : List UInt8) (hn : n ≤ 1000000000) (h : Shows w w.heap.size A n l) :
    Calls Try.prog 17 #[.slice (some ⟨g, 0, none⟩) 1 1] (w.alloc (.cells #[.slice A n c] 25)) fun e w' => e = .returned (.bool (decide (osum l = 65535))) ∧ w.alloc (.cells #[.slice A n c] 25) = w' := by
  subst hg
  have := sumGood_any (some ⟨w.heap.size, 0, none⟩) 1 1 [⟨A, n, c, l⟩] _ (by omega) (by simp [joinP, h.len]; omega) (parts1 w A n c l h)
  simpa only [joinP, List.map_cons, List.map_nil, List.flatten_cons, List.flatten_nil, List.append_nil] using this

theorem sum_ex (w : World) (g : Nat) (hg : w.heap.size = g) (A : Option Addr) (h : Shows w w.heap.size A 4 [255, 255, 0, 1]) :
    Calls Try.prog 14 #[.slice (some ⟨g, 0, none⟩) 1 1] (w.alloc (.cells #[.slice A 4 4] 25)) fun e w' => e = .returned (.int .u16 1) ∧ w.alloc (.cells #[.slice A 4 4] 25) = w' := by
  have := sum1_of w g hg A 4 4 _ (by omega) h
  rw [show osum [255, 255, 0, 1] = 1 by decide +kernel] at this
  exact this
theorem add_ex (w : World) : Calls Try.prog 18 #[.int .u16 65535, .int .u16 1] w fun e w' => e = .returned (.int .u16 1) ∧ w = w' :=
  by
  have := add_any 65535 1 w (by decide) (by decide)
  rw [show foldN (65535 + 1) = 1 by decide +kernel] at this
  exact this
theorem check_ex (w : World) : Calls Try.prog 15 #[.slice none 0 0] w fun e w' => e = .returned (.int .u16 65535) ∧ w = w' :=
  by
  have := sumCheck_any none 0 0 [] w (by decide) (by decide) ⟨Sh.none_, fun p hp => by cases hp⟩
  rw [show 65535 - osum (joinP []) = 65535 by decide +kernel] at this
  exact this

theorem alive18 (w : World) : Calls Try.prog 11 #[] w fun e w' => e = .returned (.bool true) ∧ Below w.heap.size w w' := by
  go_enter Try.func11, Try.ntmps11
  go_wp2_with fail
  refine (sum_ex (w.alloc (.cells #[.int .u8 255, .int .u8 255, .int .u8 0, .int .u8 1] 5)) (w.heap.size + 1) (by simp) _ (shows_new w _ [255, 255, 0, 1] rfl)).mono ?_
  rintro e w1 ⟨rfl, rfl⟩
  go_wp2_with fail
  refine (add_ex _).mono ?_
  rintro e w1 ⟨rfl, rfl⟩
  go_wp2_with fail
  refine (check_ex _).mono ?_
  rintro e w1 ⟨rfl, rfl⟩
  go_wp2
  go_ret
  exact ⟨rfl, ((Below.refl _ _).alloc (Nat.le_refl _) _).alloc (by simp) _⟩

/-- A byte with one bit turned, counted from the highest on. -/
def turnN (x t : Nat) : Nat := if x / 2 ^ (7 - t) % 2 = 1 then x - 2 ^ (7 - t) else x + 2 ^ (7 - t)
theorem turnN_cases (x t : Nat) (hx : x < 256) (ht : t < 8) :
    (x / 2 ^ (7 - t) % 2 = 1 ∧ turnN x t + 2 ^ (7 - t) = x) ∨ (x / 2 ^ (7 - t) % 2 = 0 ∧ turnN x t = x + 2 ^ (7 - t) ∧ x + 2 ^ (7 - t) < 256) := by
  unfold turnN
  have : t = 0 ∨ t = 1 ∨ t = 2 ∨ t = 3 ∨ t = 4 ∨ t = 5 ∨ t = 6 ∨ t = 7 := by omega
  rcases this with rfl | rfl | rfl | rfl | rfl | rfl | rfl | rfl <;> simp only [Nat.reduceSub, Nat.reducePow] <;> split <;> omega
theorem turnN_lt (x t : Nat) (hx : x < 256) (ht : t < 8) : turnN x t < 256 := by
  have := turnN_cases x t hx ht
  generalize turnN x t = a at *
  generalize 2 ^ (7 - t) = b at *
  omega
/-- Bytes with one bit turned. -/
def turned (l : List UInt8) (bit : Nat) : List UInt8 := l.set (bit / 8) (UInt8.ofNat (turnN (l[bit / 8]?.getD 0).toNat (bit % 8)))
theorem turned_len (l : List UInt8) (bit : Nat) : (turned l bit).length = l.length := by simp [turned]

theorem pow_half (t : Nat) (h : t ≤ 7) : 128 / 2 ^ t = 2 ^ (7 - t) := by
  have : t = 0 ∨ t = 1 ∨ t = 2 ∨ t = 3 ∨ t = 4 ∨ t = 5 ∨ t = 6 ∨ t = 7 := by omega
  rcases this with rfl | rfl | rfl | rfl | rfl | rfl | rfl | rfl <;> rfl

theorem vdm_num (v d : Nat) (hv : v < 256) : (wrap64 ((v : Int) / (d : Int))).tmod 2 = ((v / d % 2 : Nat) : Int) := by
  rw [← Int.natCast_ediv]
  have hle : v / d ≤ v := Nat.div_le_self _ _
  generalize v / d = q at *
  rw [IntWalk.wrap64_in _ (by omega), Int.tmod_eq_emod_of_nonneg (by omega)]
  omega

theorem turned_any (A : Option Addr) (n c bit : Nat) (l : List UInt8) (w : World) (hb : bit < 8 * n) (hn : n ≤ 900000) (h : Shows w w.heap.size A n l) :
    Calls Try.prog 19 #[.slice A n c, .int .i64 (bit : Int)] w fun e w' => ∃ v, e = .returned v ∧ Own w' w.heap.size v n (turned l bit) ∧ Below w.heap.size w w' := by
  obtain ⟨b, off, x, rfl, hb', hc, hx, hlx⟩ := h.byte (k := bit / 8) (by omega)
  have HT := Lib.hid (show turned l bit = l.set (bit / 8) (UInt8.ofNat (turnN x.toNat (bit % 8))) by unfold turned; rw [hlx]; rfl)
  have hcs := turnN_cases x.toNat (bit % 8) hx (by omega)
  have hlt := turnN_lt x.toNat (bit % 8) hx (by omega)
  clear hlx
  go_enter Try.func19, Try.ntmps19
  go_wp2_with (at_builtin; refine wpList_appAll _ rfl _ _ rfl w.heap.size _ 0 [] rfl (own_lit0 w w.heap.size (Nat.le_refl _)) ⟨b, off, none⟩ n c w.heap.size l rfl (h.alloc (Nat.le_refl _) _) (by omega) (by simp) ?_)
  intro v1 w1 ho1 hg1
  have hb1 : Below w.heap.size w w1 := Below.grown ((Below.refl _ _).alloc (Nat.le_refl _) _) hg1 (by simp) (fun k hk => by simp [Value.ownBlock] at hk; omega)
  have hc1 : w1.cell? ⟨b, off + bit / 8, none⟩ = some (.int .u8 (x.toNat : Int)) := (hb1.cell hb').trans hc
  clear h hg1 hc
  obtain ⟨g, cap, rfl, hgw⟩ : ∃ g cap, v1 = .slice (some ⟨g, 0, none⟩) n cap ∧ w.heap.size ≤ g := by
    rcases ho1.2 with ⟨_, e⟩ | ⟨g', cap, cur, e, h4, _⟩
    · omega
    · exact ⟨g', cap, e, h4⟩
  go_wp2
  go_loop [6, 7] (fun v i => ∃ t : Nat, t ≤ bit % 8 ∧ i = .int .i64 t ∧ v = .int .i64 ((128 / 2 ^ t : Nat) : Int)) (fun _ i => 8 - (intOf i).toNat)
  case atStart => exact ⟨0, Nat.zero_le _, rfl, rfl⟩
  case round =>
    obtain ⟨t, ht, rfl, rfl⟩ := hrel
    have hm1 : 128 / 2 ^ t ≤ 128 := Nat.div_le_self _ _
    by_cases htl : t < bit % 8
    · have Hs := Lib.hid (show 128 / 2 ^ (t + 1) = 128 / 2 ^ t / 2 by rw [Nat.div_div_eq_div_mul, ← Nat.pow_succ])
      clear hc1 ho1 hcs
      generalize 128 / 2 ^ t = M at *
      go_wp2
      go_round
      case rel => exact ⟨t + 1, by omega, by go_num, by rw [Hs.out]; go_num⟩
      case measure => simp [intOf] <;> omega
    · obtain rfl : t = bit % 8 := by omega
      rw [pow_half _ (by omega)]
      have hP : 0 < 2 ^ (7 - bit % 8) := Nat.two_pow_pos _
      have hP2 : 2 ^ (7 - bit % 8) ≤ 128 := Nat.pow_le_pow_right (n := 2) (by omega) (show 7 - bit % 8 ≤ 7 by omega)
      have hj : bit / 8 < n := by omega
      obtain ⟨old, hold, _⟩ := ho1.at hj
      have hfr := World.ownsRow.frozenAt ho1 (bit / 8)
      have hput := ho1.put (bit / 8) (UInt8.ofNat (turnN x.toNat (bit % 8)))
      rw [← HT.out] at hput
      have hbv : bv (UInt8.ofNat (turnN x.toNat (bit % 8))) = .int .u8 ((turnN x.toNat (bit % 8) : Nat) : Int) := by simp [bv]; omega
      rw [hbv] at hput
      obtain ⟨ho2, hg2⟩ := hput
      have hb2 := Below.grown hb1 hg2 (by have := hb1.size; omega) (fun k hk => by injection hk with hk; omega)
      clear ho1 hbv
      have HO := Lib.hid ho2
      have HB := Lib.hid hb2
      clear hg2 ho2 hb2 hb1 hm1
      generalize turnN x.toNat (bit % 8) = T at *
      generalize 2 ^ (7 - bit % 8) = M at *
      rcases hcs with ⟨h1, h2⟩ | ⟨h1, h2, h3⟩
      · have hd := vdm_num x.toNat M hx
        rw [h1] at hd
        have hT : (x.toNat : Int) - (M : Int) = (T : Int) := by omega
        clear h2 h1
        go_wp2
        go_ret
        exact ⟨_, rfl, HO.out, HB.out⟩
      · have hd := vdm_num x.toNat M hx
        rw [h1] at hd
        have hT : (x.toNat : Int) + (M : Int) = (T : Int) := by omega
        clear h2 h3 h1
        go_wp2
        go_ret
        exact ⟨_, rfl, HO.out, HB.out⟩

end Go.Proofs.Ytolmejmmbdclfaa
