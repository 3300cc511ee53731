
/- Contracts: onesum.fold, Of, Check, Good, Add; ref18.Of, Check. -/
import Derived.Test.YtkokgoodpibboaaBase
import Derived.Test.YtkokgoodpibboaaGen
import Derived.Test.YtkokgoodpibboaaSumN
import Derived.Test.YtkokgoodpibboaaEndA
namespace Go.Proofs.Ytkokgoodpibboaa
open Go.RowKit
set_option maxRecDepth 100000

/-- One of several parts: a slice value, and what it shows. -/
structure Part where
  A : Option Addr
  n : Nat
  c : Nat
  l : List UInt8

abbrev pv (p : Part) : Value := .slice p.A p.n p.c

/-- Parts that a slice value shows. -/
def Parts (w : World) (B : Nat) (A : Option Addr) (n : Nat) (L : List Part) : Prop :=
  Sh pv w B A n L ∧ ∀ p ∈ L, Shows w B p.A p.n p.l

/-- All bytes of parts, one behind the other. -/
abbrev joinP (L : List Part) : List UInt8 := (L.map (·.l)).flatten

theorem joinP_succ (L : List Part) (k : Nat) (p : Part) (h : L[k]? = some p) : joinP (L.take (k + 1)) = joinP (L.take k) ++ p.l := by
  obtain ⟨hk, rfl⟩ := List.getElem?_eq_some_iff.1 h
  unfold joinP
  rw [List.take_succ_eq_append_getElem hk]
  simp only [List.map_append, List.map_cons, List.map_nil, List.flatten_append, List.flatten_cons, List.flatten_nil, List.append_nil]
theorem joinP_le (L : List Part) (k : Nat) : (joinP (L.take k)).length ≤ (joinP L).length := by
  have : joinP L = joinP (L.take k) ++ joinP (L.drop k) := by
    unfold joinP
    rw [← List.flatten_append, ← List.map_append, List.take_append_drop]
  rw [this, List.length_append]
  omega

/-- Where the next byte of a word stands. -/
def place (l : List UInt8) : Int := if evenLen l then 8 else 0

theorem fold_any (n : Nat) (w : World) (h : n ≤ 1000000000000000000) :
    Calls Try.prog 127 #[.int .u64 (n : Int)] w fun e w' => e = .returned (.int .u16 (foldN n : Int)) ∧ w = w' := by
  go_enter Try.func127, Try.ntmps127
  go_wp2
  go_loop [0] (fun v => ∃ k : Nat, k ≤ 1000000000000000000 ∧ v = .int .u64 (k : Int) ∧ foldN k = foldN n) (fun v => (intOf v).toNat)
  case atStart => exact ⟨n, h, rfl, rfl⟩
  case round =>
    obtain ⟨k, hk, rfl, he⟩ := hrel
    have He := Lib.hid he
    clear he
    by_cases hlt : 65535 < k
    · have ha := and_ffff k (by omega)
      go_wp2
      go_round
      case rel => exact ⟨k / 65536 + k % 65536, by omega, by go_num, (foldN_step k hlt).trans He.out⟩
      case measure => simp [intOf] <;> omega
    · go_wp2
      go_ret
      exact ⟨ret_int (by rw [← He.out, foldN_id k (by omega)]), rfl⟩

theorem sumOf_any (A : Option Addr) (n c : Nat) (L : List Part) (w : World) (hn : n ≤ 1000000) (hN : (joinP L).length ≤ 1000000000) (h : Parts w w.heap.size A n L) :
    Calls Try.prog 109 #[.slice A n c] w fun e w' => e = .returned (.int .u16 (osum (joinP L) : Int)) ∧ w = w' := by
  obtain ⟨hS, hP⟩ := h
  have hl := hS.len
  go_enter Try.func109, Try.ntmps109
  go_wp2
  go_loop [3, 4, 6, 8, 11] (fun s p _ _ i => ∃ k : Nat, k ≤ n ∧ i = .int .i64 k ∧ s = .int .u64 (raw true (joinP (L.take k)) : Int) ∧ p = .int .i64 (place (joinP (L.take k)))) (fun _ _ _ _ i => n - (intOf i).toNat)
  case atStart => exact ⟨0, Nat.zero_le _, rfl, rfl, rfl⟩
  case round =>
    obtain ⟨k, hk, rfl, rfl, rfl⟩ := hrel
    by_cases hlt : k < n
    · obtain ⟨b, off, q, rfl, hb, hc, hq⟩ := hS.elem hlt
      have hmem : q ∈ L := List.mem_of_getElem? hq
      have hsh := hP q hmem
      have hql := hsh.len
      have HJ := Lib.hid (joinP_succ L k q hq)
      have hJle : (joinP (L.take (k + 1))).length ≤ 1000000000 := Nat.le_trans (joinP_le L (k + 1)) hN
      have hJlen : (joinP (L.take k)).length + q.n ≤ 1000000000 := by rw [HJ.out, List.length_append, hql] at hJle; exact hJle
      clear hJle
      obtain ⟨qA, qn, qc, ql⟩ := q
      simp only [pv] at hc
      simp only at hsh hql hJlen HJ
      clear hq hmem
      generalize joinP (L.take k) = J at *
      have hqn : qn ≤ 1000000000 := by omega
      go_wp2
      go_loop [3, 4, 8, 17] (fun s p _ i => ∃ j : Nat, j ≤ qn ∧ i = .int .i64 j ∧ s = .int .u64 (raw true (J ++ ql.take j) : Int) ∧ p = .int .i64 (place (J ++ ql.take j))) (fun _ _ _ i => qn - (intOf i).toNat)
      case atStart => exact ⟨0, Nat.zero_le _, rfl, by rw [List.take_zero, List.append_nil], by rw [List.take_zero, List.append_nil]⟩
      case round =>
        obtain ⟨j, hj, rfl, rfl, rfl⟩ := hrel
        by_cases hjl : j < qn
        · obtain ⟨b', off', x, rfl, hb', hc', hx, hlx⟩ := hsh.byte hjl
          have hT : J ++ ql.take (j + 1) = (J ++ ql.take j) ++ [x] := by
            obtain ⟨h1, rfl⟩ := List.getElem?_eq_some_iff.1 hlx
            rw [List.take_succ_eq_append_getElem h1, List.append_assoc]
          have HR := Lib.hid ((congrArg (raw true) hT).trans (raw_snoc (J ++ ql.take j) x))
          have HE := Lib.hid ((congrArg evenLen hT).trans (evenLen_snoc (J ++ ql.take j) x))
          have hb1 : raw true (J ++ ql.take j) ≤ 65536 * 1000000000 := Nat.le_trans (raw_lt _ _) (Nat.mul_le_mul_left _ (by rw [List.length_append, List.length_take]; omega))
          clear hT hlx
          generalize raw true (J ++ ql.take j) = R at *
          cases hev : evenLen (J ++ ql.take j)
          · rw [hev] at HR HE
            rw [show place (J ++ ql.take j) = 0 by unfold place; rw [hev]; rfl]
            clear hev
            go_wp2
            go_round
            case rel => exact ⟨j + 1, by omega, by go_num, by rw [HR.out]; simp, by unfold place; rw [HE.out]; simp⟩
            case measure => simp [intOf] <;> omega
          · rw [hev] at HR HE
            rw [show place (J ++ ql.take j) = 8 by unfold place; rw [hev]; rfl]
            clear hev
            go_wp2
            go_round
            case rel => exact ⟨j + 1, by omega, by go_num, by rw [HR.out]; simp <;> omega, by unfold place; rw [HE.out]; simp⟩
            case measure => simp [intOf] <;> omega
        · obtain rfl : j = qn := by omega
          have hfull : ql.take j = ql := List.take_of_length_le (by omega)
          rw [hfull]
          clear hfull
          rw [← HJ.out]
          go_wp2
          go_round
          case rel => exact ⟨k + 1, by omega, by go_num, rfl, rfl⟩
          case measure => simp [intOf] <;> omega
    · obtain rfl : k = n := by omega
      have hfull : L.take k = L := List.take_of_length_le (by omega)
      rw [hfull]
      clear hfull
      have hb1 : raw true (joinP L) ≤ 65536 * 1000000000 := Nat.le_trans (raw_lt _ _) (Nat.mul_le_mul_left _ hN)
      go_wp2_with (go_at_call 127; refine (fold_any _ _ (by omega)).mono ?_; rintro e w' ⟨rfl, rfl⟩)
      go_ret
      exact ⟨rfl, rfl⟩

theorem sumCheck_any (A : Option Addr) (n c : Nat) (L : List Part) (w : World) (hn : n ≤ 1000000) (hN : (joinP L).length ≤ 1000000000) (h : Parts w w.heap.size A n L) :
    Calls Try.prog 70 #[.slice A n c] w fun e w' => e = .returned (.int .u16 ((65535 - osum (joinP L) : Nat) : Int)) ∧ w = w' := by
  have H := Lib.hid (sumOf_any A n c L w hn hN h)
  have hle := osum_le (joinP L)
  clear h
  generalize osum (joinP L) = s at *
  go_enter Try.func70, Try.ntmps70
  go_wp2_with (go_at_call 109; refine H.out.mono ?_; rintro e w' ⟨rfl, rfl⟩)
  go_ret
  exact ⟨ret_int (by omega), rfl⟩

theorem sumGood_any (A : Option Addr) (n c : Nat) (L : List Part) (w : World) (hn : n ≤ 1000000) (hN : (joinP L).length ≤ 1000000000) (h : Parts w w.heap.size A n L) :
    Calls Try.prog 113 #[.slice A n c] w fun e w' => e = .returned (.bool (decide (osum (joinP L) = 65535))) ∧ w = w' := by
  have H := Lib.hid (sumOf_any A n c L w hn hN h)
  have hle := osum_le (joinP L)
  clear h
  generalize osum (joinP L) = s at *
  go_enter Try.func113, Try.ntmps113
  by_cases hs : s = 65535
  · subst hs
    go_wp2_with (go_at_call 109; refine H.out.mono ?_; rintro e w' ⟨rfl, rfl⟩)
    go_ret
    exact ⟨rfl, rfl⟩
  · have hd : decide (s = 65535) = false := by simp [hs]
    rw [hd]
    go_wp2_with (go_at_call 109; refine H.out.mono ?_; rintro e w' ⟨rfl, rfl⟩)
    go_ret
    exact ⟨by simp <;> omega, rfl⟩

theorem refSum_any (A : Option Addr) (n c : Nat) (l : List UInt8) (w : World) (hn : n ≤ 1000000000) (h : Shows w w.heap.size A n l) :
    Calls Try.prog 88 #[.slice A n c] w fun e w' => e = .returned (.int .i64 (osum l : Int)) ∧ w = w' := by
  have hl := h.len
  go_enter Try.func88, Try.ntmps88
  go_wp2
  go_loop [3, 4] (fun v i => ∃ k : Nat, k ≤ n ∧ i = .int .i64 k ∧ v = .int .i64 (raw true (l.take k) : Int)) (fun _ i => n - (intOf i).toNat)
  case atStart => exact ⟨0, Nat.zero_le _, rfl, rfl⟩
  case round =>
    obtain ⟨k, hk, rfl, rfl⟩ := hrel
    by_cases hlt : k < n
    · obtain ⟨b, off, x, rfl, hb, hc, hx, hlx⟩ := h.byte hlt
      have hT : l.take (k + 1) = l.take k ++ [x] := by
        obtain ⟨h1, rfl⟩ := List.getElem?_eq_some_iff.1 hlx
        rw [List.take_succ_eq_append_getElem h1]
      have HR := Lib.hid ((congrArg (raw true) hT).trans (raw_snoc (l.take k) x))
      have hEv : evenLen (l.take k) = (k % 2 == 0) := by unfold evenLen; rw [List.length_take, Nat.min_eq_left (by omega)]
      have hb1 : raw true (l.take k) ≤ 65536 * 1000000000 := Nat.le_trans (raw_lt _ _) (Nat.mul_le_mul_left _ (by rw [List.length_take]; omega))
      clear hT hlx h
      rw [hEv] at HR
      clear hEv
      generalize raw true (l.take k) = R at *
      rcases Nat.mod_two_eq_zero_or_one k with hm | hm
      · rw [hm] at HR
        have hz : decide ((k : Int) % 2 = 0) = true := by simp; omega
        go_wp2
        go_round
        case rel => exact ⟨k + 1, by omega, by go_num, by rw [HR.out]; simp <;> omega⟩
        case measure => simp [intOf] <;> omega
      · rw [hm] at HR
        have hz : decide ((k : Int) % 2 = 0) = false := by simp; omega
        go_wp2
        go_round
        case rel => exact ⟨k + 1, by omega, by go_num, by rw [HR.out]; simp <;> omega⟩
        case measure => simp [intOf] <;> omega
    · obtain rfl : k = n := by omega
      have hfull : l.take k = l := List.take_of_length_le (by omega)
      rw [hfull]
      clear hfull h
      have hb1 : raw true l ≤ 65536 * 1000000000 := Nat.le_trans (raw_lt _ _) (Nat.mul_le_mul_left _ (by omega))
      have HO := Lib.hid (show osum l = foldN (raw true l) from rfl)
      generalize raw true l = R at *
      go_wp2
      go_loop [3] (fun v => ∃ k : Nat, k ≤ 65536 * 1000000000 ∧ v = .int .i64 (k : Int) ∧ foldN k = foldN R) (fun v => (intOf v).toNat)
      case atStart => exact ⟨R, hb1, rfl, rfl⟩
      case round =>
        obtain ⟨j, hj, rfl, he⟩ := hrel
        have He := Lib.hid he
        clear he
        by_cases hlt : 65535 < j
        · go_wp2
          go_round
          case rel => exact ⟨j / 65536 + j % 65536, by omega, by go_num, (foldN_step j hlt).trans He.out⟩
          case measure => simp [intOf] <;> omega
        · go_wp2
          go_ret
          exact ⟨ret_int (by rw [HO.out, ← He.out, foldN_id j (by omega)]), rfl⟩

theorem refCheck_any (A : Option Addr) (n c : Nat) (l : List UInt8) (w : World) (hn : n ≤ 1000000000) (h : Shows w w.heap.size A n l) :
    Calls Try.prog 75 #[.slice A n c] w fun e w' => e = .returned (.int .i64 ((65535 - osum l : Nat) : Int)) ∧ w = w' := by
  have H := Lib.hid (refSum_any A n c l w hn h)
  have hle := osum_le l
  clear h
  generalize osum l = s at *
  go_enter Try.func75, Try.ntmps75
  go_wp2_with (go_at_call 88; refine H.out.mono ?_; rintro e w' ⟨rfl, rfl⟩)
  go_ret
  exact ⟨ret_int (by omega), rfl⟩

end Go.Proofs.Ytkokgoodpibboaa
