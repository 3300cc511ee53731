
/- Contracts: hexes.Group, ref05.Group; law05's alive. -/
import Derived.Test.YtccidoigjdbepaaDoorHexG
namespace Go.Proofs.YtccidoigjdbepaaDoor.Hex
open Go.RowKit
set_option maxRecDepth 100000

/-- The first m of d digits of a number. -/
def gd (n d m : Nat) : List UInt8 := (List.range m).map fun t => hexd (n / 16 ^ (d - 1 - t) % 16)

theorem gd_succ (n d m : Nat) : gd n d (m + 1) = gd n d m ++ [hexd (n / 16 ^ (d - 1 - m) % 16)] := by simp [gd, List.range_succ]
theorem gd_len (n d m : Nat) : (gd n d m).length = m := by simp [gd]

/-- A number has d digits. -/
def Digs (n d : Nat) : Prop := 1 ≤ d ∧ n < 16 ^ d ∧ (d = 1 ∨ 16 ^ (d - 1) ≤ n)

theorem digs_some (n : Nat) (h : n < 65536) : ∃ d, d ≤ 4 ∧ Digs n d := by
  by_cases h1 : n < 16
  · exact ⟨1, by omega, by omega, by omega, .inl rfl⟩
  · by_cases h2 : n < 256
    · exact ⟨2, by omega, by omega, by omega, .inr (by omega)⟩
    · by_cases h3 : n < 4096
      · exact ⟨3, by omega, by omega, by omega, .inr (by omega)⟩
      · exact ⟨4, by omega, by omega, by omega, .inr (by omega)⟩

theorem shr_4 (n j : Nat) : (n : Int) / 2 ^ (4 * j) = ((n / 16 ^ j : Nat) : Int) := by
  have e : (2 : Int) ^ (4 * j) = ((16 ^ j : Nat) : Int) := by rw [Int.pow_mul]; simp
  rw [e]; simp

theorem and15_16 (q : Nat) (h : q < 65536) : bits BinOp.and IntKind.u16 (q : Int) 15 = ((q % 16 : Nat) : Int) := by
  rw [show (15 : Int) = ((15 : Nat) : Int) from rfl, u16_and_nat _ _ h (by omega), nat_mask4]

theorem group_any (n d : Nat) (w : World) (hn : n < 65536) (hd4 : d ≤ 4) (hd : Digs n d) :
    Calls Tryd.prog 101 #[.int .u16 (n : Int)] w fun e w' => e = .returned (.string ⟨⟨gd n d d⟩⟩) ∧ Below w.heap.size w w' := by
  obtain ⟨hd1, hlt, hge⟩ := hd
  have Hlt := Lib.hid hlt
  have Hge := Lib.hid hge
  clear hlt hge
  go_enter Tryd.func101, Tryd.ntmps101
  go_wp2
  go_loop [3] (fun i => ∃ j : Nat, d ≤ j + 1 ∧ j ≤ 3 ∧ i = .int .i64 (4 * (j : Int))) (fun i => (intOf i).toNat)
  case atStart => exact ⟨3, by omega, by omega, rfl⟩
  case round =>
    obtain ⟨j, hj, hj3, rfl⟩ := hrel
    have hs := shr_4 n j
    by_cases hjd : d < j + 1
    · have hz : n / 16 ^ j = 0 := Nat.div_eq_of_lt (Nat.lt_of_lt_of_le Hlt.out (Nat.pow_le_pow_right (by omega) (by omega)))
      rw [hz] at hs
      clear hz
      go_wp2
      go_round
      case rel => exact ⟨j - 1, by omega, by omega, by go_num⟩
      case measure => simp [intOf] <;> omega
    · obtain rfl : d = j + 1 := by omega
      have hcase : j = 0 ∨ (0 < j ∧ 1 ≤ n / 16 ^ j) := by
        rcases Nat.eq_zero_or_pos j with h | h
        · exact .inl h
        · refine .inr ⟨h, ?_⟩
          rcases Hge.out with h2 | h2
          · omega
          · exact (Nat.one_le_div_iff (Nat.pow_pos (by omega))).2 h2
      have hq : n / 16 ^ j ≤ n := Nat.div_le_self _ _
      generalize n / 16 ^ j = q at *
      have t : decide ((0 : Int) < 4 * (j : Int)) = false ∨ (decide ((0 : Int) < 4 * (j : Int)) = true ∧ ((q : Int) == 0) = false) := by
        rcases hcase with h | ⟨h, h'⟩
        · exact .inl (by simp; omega)
        · exact .inr ⟨by simp; omega, by rw [beq_eq_false_iff_ne]; omega⟩
      clear hcase
      rcases t with t0 | ⟨t0, t1⟩
      all_goals
        go_wp2_with (at_make; refine wpList_mk0 _ rfl _ _ rfl w.heap.size 4 _ rfl rfl rfl (by omega) (Nat.le_refl _) ?_; intro w1 hown hgrow)
        go_loopw [3, 4] (fun i v wr => ∃ t m : Nat, m + t = j + 1 ∧ i = .int .i64 (4 * (t : Int) - 4) ∧ Own wr w.heap.size v m (gd n (j + 1) m) ∧ Below w.heap.size w wr) (fun i _ _ => ((intOf i) + 4).toNat)
        case atStart => exact ⟨j + 1, 0, by omega, by go_num, hown, (Below.refl _ _).grown hgrow (Nat.le_refl _) (fun k hk => by cases hk)⟩
        case round =>
          clear hown hgrow hs hq
          obtain ⟨t, m, htm, rfl, hown, hbel⟩ := hrel
          rcases Nat.eq_zero_or_pos t with ht | ht
          · subst ht
            obtain rfl : m = j + 1 := by omega
            obtain ⟨A', c', rfl, _, _, hs⟩ := hown.shows
            have htx := run_text wr A' (j + 1) c' _ hs
            go_wp2
            go_ret
            exact ⟨rfl, hbel⟩
          · obtain ⟨u, rfl⟩ : ∃ u, t = u + 1 := ⟨t - 1, by omega⟩
            rw [show (4 * ((u + 1 : Nat) : Int) - 4) = 4 * (u : Int) by omega]
            have hu := shr_4 n u
            have hgs := gd_succ n (j + 1) m
            rw [show j + 1 - 1 - m = u by omega] at hgs
            have HG := Lib.hid hgs
            clear hgs
            have hqu : n / 16 ^ u ≤ n := Nat.div_le_self _ _
            have ha := and15_16 (n / 16 ^ u) (by omega)
            have hr : n / 16 ^ u % 16 < 16 := by omega
            have hu3 : u ≤ 3 := by omega
            have g16 := hexd_get
            have hsz := hbel.size
            have Htm := Lib.hid htm
            have hm5 : m ≤ 4 := by omega
            clear htm
            generalize n / 16 ^ u % 16 = r at *
            generalize n / 16 ^ u = Q at *
            have hr' : (r : Int) < 16 := by omega
            go_wp2_with (at_builtin; refine wpList_app1 _ rfl _ _ rfl w.heap.size _ _ _ rfl (hown.alloc _) ⟨wr.heap.size, 0, none⟩ 1 (hexd r) rfl ?_ ?_ ?_ ?_)
            · exact one_new _ _ _ _ rfl
            · omega
            · simp; omega
            intro v' w2 hown' hgrow
            have hb1 : Below w.heap.size w w2 := by
              refine Below.grown ?_ hgrow ?_ (fun g hg => (hown.lt g hg).1)
              · exact hbel.alloc hsz _
              · simp; omega
            clear hgrow
            go_wp2
            go_roundw
            case rel => exact ⟨u, m + 1, by have := Htm.out; omega, by go_num, by rw [HG.out]; exact hown', hb1⟩
            case measure => simp [intOf] <;> omega

theorem gd_step (n d : Nat) (h : 2 ≤ d) : gd n d d = gd (n / 16) (d - 1) (d - 1) ++ [hexd (n % 16)] := by
  obtain ⟨e, rfl⟩ : ∃ e, d = e + 1 := ⟨d - 1, by omega⟩
  rw [gd_succ, show e + 1 - 1 = e by omega]
  congr 1
  · unfold gd
    apply List.map_congr_left
    intro t ht
    have ht' : t < e := List.mem_range.1 ht
    rw [Nat.div_div_eq_div_mul, show e + 1 - 1 - t = (e - 1 - t) + 1 by omega, Nat.pow_succ, Nat.mul_comm]
  · simp

/-- What the reference says of a number of d digits. -/
theorem refGroup_any : ∀ (d n : Nat) (w : World), d ≤ 4 → Digs n d →
    Calls Tryd.prog 102 #[.int .i64 (n : Int)] w fun e w' => e = .returned (.string ⟨⟨gd n d d⟩⟩) ∧ w = w' := by
  intro d
  induction d with
  | zero => intro n w _ hd; exact absurd hd.1 (by omega)
  | succ e ih =>
    intro n w h4 hd
    obtain ⟨h1, hlt, hge⟩ := hd
    have Hih := Lib.hid ih
    clear ih
    by_cases he : e = 0
    · subst he
      have H := Lib.hid (show gd n 1 1 = [hexd n] by simp [gd]; congr 1; omega)
      have hn16 : n < 16 := by simpa using hlt
      clear hlt hge
      go_enter Tryd.func102, Tryd.ntmps102
      go_wp2_with (go_at_call 113; refine (digit_any _ _ (by omega) (by omega)).mono ?_; rintro e w' ⟨rfl, rfl⟩; rw [Int.toNat_natCast])
      go_ret
      exact ⟨ret_string (by rw [H.out]), rfl⟩
    · have hn : 16 ≤ n := by
        rcases hge with h | h
        · omega
        · have : 16 ^ 1 ≤ 16 ^ (e + 1 - 1) := Nat.pow_le_pow_right (by omega) (by omega)
          omega
      have hnm : n < 65536 := by
        have : 16 ^ (e + 1) ≤ 16 ^ 4 := Nat.pow_le_pow_right (by omega) h4
        omega
      have hD : Digs (n / 16) e := by
        refine ⟨by omega, ?_, ?_⟩
        · rw [Nat.div_lt_iff_lt_mul (by omega), ← Nat.pow_succ]; exact hlt
        · rcases hge with h | h
          · omega
          · by_cases h1 : e = 1
            · exact .inl h1
            · refine .inr ?_
              rw [Nat.le_div_iff_mul_le (by omega), ← Nat.pow_succ]
              rw [show (e - 1).succ = e + 1 - 1 by omega]
              exact h
      have H := Lib.hid (gd_step n (e + 1) (by omega))
      have HD := Lib.hid hD
      have hl : (gd (n / 16) e e).length ≤ 4 := by rw [gd_len]; omega
      rw [show e + 1 - 1 = e by omega] at H
      obtain ⟨q, hq, Hq⟩ : ∃ q : Nat, (n : Int) / 16 = (q : Int) ∧ Hid (n / 16 = q) := ⟨n / 16, by omega, rfl⟩
      obtain ⟨r, hr, hr16, Hr⟩ : ∃ r : Nat, (n : Int) % 16 = (r : Int) ∧ r < 16 ∧ Hid (n % 16 = r) := ⟨n % 16, by omega, by omega, rfl⟩
      rw [Hq.out] at H HD hl
      rw [Hr.out] at H
      clear hlt hge hD
      generalize hE : gd q e e = E at *
      have HE := Lib.hid hE
      clear hE
      go_enter Tryd.func102, Tryd.ntmps102
      go_wp2_with fail
      refine (Hih.out q _ (by omega) HD.out).mono ?_
      rintro e' w' ⟨rfl, rfl⟩
      rw [HE.out]
      go_wp2_with fail
      refine (digit_any _ _ (by omega) (by omega)).mono ?_
      rintro e' w' ⟨rfl, rfl⟩
      rw [Int.toNat_natCast]
      go_wp2
      go_ret
      exact ⟨ret_string (by rw [H.out]; exact str_add _ _), rfl⟩

end Go.Proofs.YtccidoigjdbepaaDoor.Hex
