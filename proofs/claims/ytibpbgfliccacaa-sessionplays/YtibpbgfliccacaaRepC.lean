
/- Contracts: crawlwayref28.Has, Top, Can; law28.alive. -/
import Derived.Test.YtibpbgfliccacaaRepB
namespace Go.Proofs.Ytibpbgfliccacaa
open Go.RowKit

/-- Numbers of 64 bits that a slice value shows. -/
abbrev Sh6 (w : World) (B : Nat) (A : Option Addr) (n : Nat) (l : List Nat) : Prop := Sh u6 w B A n l

theorem take_succ6 {l : List Nat} {k y : Nat} (h : l[k]? = some y) : l.take (k + 1) = l.take k ++ [y] := by
  obtain ⟨hk, rfl⟩ := List.getElem?_eq_some_iff.1 h
  rw [List.take_succ_eq_append_getElem hk]

theorem has_any (A : Option Addr) (n c : Nat) (l : List Nat) (x B : Nat) (w : World) (h : Sh6 w B A n l) (hn : n ≤ 1000000) :
    Calls Try.prog 20 #[.slice A n c, .int .u64 (x : Int)] w fun e w' => e = .returned (.bool (l.contains x)) ∧ w = w' := by
  have hl := h.len
  go_enter Try.func20, Try.ntmps20
  go_wp2
  go_loop [5] (fun i => ∃ k : Nat, k ≤ n ∧ i = .int .i64 (k : Int) ∧ x ∉ l.take k) (fun i => n - (intOf i).toNat)
  case atStart => exact ⟨0, Nat.zero_le _, rfl, by simp⟩
  case round =>
    obtain ⟨k, hk, rfl, hx⟩ := hrel
    have HX := Lib.hid hx
    clear hx
    by_cases hlt : k < n
    · obtain ⟨b, off, y, rfl, hb, hc, hy⟩ := h.elem hlt
      have HT := Lib.hid (take_succ6 hy)
      have HM : Hid (y ∈ l) := Lib.hid (List.mem_of_getElem? hy)
      clear hy h
      by_cases hxy : y = x
      · have hd : decide ((y : Int) = (x : Int)) = true := by simp [hxy]
        go_wp2
        go_ret
        exact ⟨by rw [show decide (x ∈ l) = true by rw [← hxy]; simpa using HM.out]; rfl, rfl⟩
      · have hd : decide ((y : Int) = (x : Int)) = false := by simp; omega
        go_wp2
        go_round
        case rel => exact ⟨k + 1, by omega, by go_num, by rw [HT.out, List.mem_append, List.mem_singleton]; rintro (h | h); exact HX.out h; exact hxy h.symm⟩
        case measure => simp [intOf]; omega
    · obtain rfl : k = n := by omega
      have hf : x ∉ l := by have := HX.out; rwa [List.take_of_length_le (by omega)] at this
      go_wp2
      go_ret
      exact ⟨rfl, rfl⟩

theorem refTop_any (A : Option Addr) (n c : Nat) (l : List Nat) (B : Nat) (w : World) (h : Sh6 w B A n l) (hn : n ≤ 1000000) :
    Calls Try.prog 18 #[.slice A n c] w fun e w' => e = .returned (.int .u64 (topOf l : Int)) ∧ w = w' := by
  have hl := h.len
  go_enter Try.func18, Try.ntmps18
  go_wp2
  go_loop [3, 4] (fun v i => ∃ k : Nat, k ≤ n ∧ i = .int .i64 (k : Int) ∧ v = .int .u64 (topOf (l.take k) : Int)) (fun _ i => n - (intOf i).toNat)
  case atStart => exact ⟨0, Nat.zero_le _, rfl, rfl⟩
  case round =>
    obtain ⟨k, hk, rfl, rfl⟩ := hrel
    by_cases hlt : k < n
    · obtain ⟨b, off, y, rfl, hb, hc, hy⟩ := h.elem hlt
      have HT := Lib.hid (take_succ6 hy)
      have HM := Lib.hid (topOf_snoc (l.take k) y)
      generalize topOf (l.take k) = t at *
      clear hy h
      by_cases hty : t < y
      · go_wp2
        go_round
        case rel => exact ⟨k + 1, by omega, by go_num, by rw [HT.out, HM.out, show max t y = y by omega]⟩
        case measure => simp [intOf]; omega
      · go_wp2
        go_round
        case rel => exact ⟨k + 1, by omega, by go_num, by rw [HT.out, HM.out, show max t y = t by omega]⟩
        case measure => simp [intOf]; omega
    · obtain rfl : k = n := by omega
      rw [List.take_of_length_le (by omega)]
      go_wp2
      go_ret
      exact ⟨rfl, rfl⟩

theorem refCan_any (A : Option Addr) (n c : Nat) (l : List Nat) (x B : Nat) (w : World) (h : Sh6 w B A n l) (hn : n ≤ 1000000) (hx : x < 18446744073709551616) (ht : topOf l < 18446744073709551616) :
    Calls Try.prog 14 #[.slice A n c, .int .u64 (x : Int)] w fun e w' => e = .returned (.bool (canB l x)) ∧ w = w' := by
  have HH := Lib.hid (fun W (h : Sh6 W B A n l) => has_any A n c l x B W h hn)
  have HT := Lib.hid (fun W (h : Sh6 W B A n l) => refTop_any A n c l B W h hn)
  have HS := Lib.hid h
  have hxI : (x : Int) < 18446744073709551616 := by omega
  have htI : (topOf l : Int) < 18446744073709551616 := by omega
  have HC : Hid (canB l x = (decide (x < 18446744073709543423) && !l.contains x && (decide (topOf l ≤ x) || decide (topOf l - x ≤ 1984)))) := Lib.hid rfl
  generalize canB l x = r at *
  generalize topOf l = t at *
  generalize l.contains x = b at *
  clear h
  by_cases hL : x < 18446744073709543423
  · have hLB : decide ((18446744073709543423 : Int) ≤ (x : Int)) = false := by simp; omega
    have HL : Hid (decide (x < 18446744073709543423) = true) := Lib.hid (by simp [hL])
    clear hL hx ht
    cases b
    · by_cases h1 : t ≤ x
      · have HR : Hid (r = true) := Lib.hid (by rw [HC.out, HL.out]; simp [h1])
        clear HC
        go_enter Try.func14, Try.ntmps14
        go_wp2_with (first | (go_at_call 20; refine (HH.out _ HS.out).mono ?_; rintro e w' ⟨rfl, rfl⟩) | (go_at_call 18; refine (HT.out _ HS.out).mono ?_; rintro e w' ⟨rfl, rfl⟩))
        go_ret
        exact ⟨by rw [HR.out]; rfl, rfl⟩
      · by_cases h2 : t - x ≤ 1984
        · have h3 : (t : Int) - (x : Int) ≤ 1984 := by omega
          have HR : Hid (r = true) := Lib.hid (by rw [HC.out, HL.out]; simp [h2])
          clear HC
          go_enter Try.func14, Try.ntmps14
          go_wp2_with (first | (go_at_call 20; refine (HH.out _ HS.out).mono ?_; rintro e w' ⟨rfl, rfl⟩) | (go_at_call 18; refine (HT.out _ HS.out).mono ?_; rintro e w' ⟨rfl, rfl⟩))
          go_ret
          exact ⟨by rw [HR.out]; rfl, rfl⟩
        · have h3 : ¬ (t : Int) - (x : Int) ≤ 1984 := by omega
          have HR : Hid (r = false) := Lib.hid (by rw [HC.out, HL.out]; simp [h1, h2])
          have hd3 : decide ((t : Int) - (x : Int) ≤ 1984) = false := by simp; omega
          clear HC
          go_enter Try.func14, Try.ntmps14
          go_wp2_with (first | (go_at_call 20; refine (HH.out _ HS.out).mono ?_; rintro e w' ⟨rfl, rfl⟩) | (go_at_call 18; refine (HT.out _ HS.out).mono ?_; rintro e w' ⟨rfl, rfl⟩))
          go_ret
          exact ⟨by rw [HR.out]; rfl, rfl⟩
    · have HR : Hid (r = false) := Lib.hid (by rw [HC.out, HL.out]; simp)
      clear HC
      go_enter Try.func14, Try.ntmps14
      go_wp2_with (go_at_call 20; refine (HH.out _ HS.out).mono ?_; rintro e w' ⟨rfl, rfl⟩)
      go_ret
      exact ⟨by rw [HR.out]; rfl, rfl⟩
  · have hLB : decide ((18446744073709543423 : Int) ≤ (x : Int)) = true := by simp; omega
    have HR : Hid (r = false) := Lib.hid (by rw [HC.out]; simp [hL])
    clear HC hL hx ht
    go_enter Try.func14, Try.ntmps14
    go_wp2
    go_ret
    exact ⟨by rw [HR.out]; rfl, rfl⟩

/-- A new window. -/
theorem winL_new (w : World) (ty : TypeId) : WinL (w.alloc (.cells ((List.replicate 33 (Value.int .u64 0)).toArray) ty)) w.heap.size ty [] [] :=
  ⟨_, rings_nil, blk_new w ty _, rfl⟩

theorem WinL.on {w w' : World} {g : Nat} {ty : TypeId} {pre : List Value} {l : List Nat} (h : WinL w g ty pre l) (hb : Below w.heap.size w w') : WinL w' g ty pre l := by
  obtain ⟨ws, h1, h2⟩ := h
  exact ⟨ws, h1, h2.on hb⟩

theorem wcan_any (g o : Nat) (ty : TypeId) (pre : List Value) (l : List Nat) (n : Nat) (w : World) (hW : WinL w g ty pre l) (ho : pre.length = o) (hn : n < 18446744073709551616) :
    Calls Try.prog 15 #[.pointer (some ⟨g, o, none⟩), .int .u64 (n : Int)] w fun e w' => e = .returned (.bool (canB l n)) ∧ w = w' := by
  obtain ⟨ws, hR, hW⟩ := hW
  rw [hR.can n]
  exact can_any g o ty pre ws (topOf l) n w hW ho hn hR.top hR.word
theorem wtop_any (g o : Nat) (ty : TypeId) (pre : List Value) (l : List Nat) (w : World) (hW : WinL w g ty pre l) (ho : pre.length = o) :
    Calls Try.prog 17 #[.pointer (some ⟨g, o, none⟩)] w fun e w' => e = .returned (.int .u64 (topOf l : Int)) ∧ w = w' := by
  obtain ⟨ws, hR, hW⟩ := hW
  exact top_any g o ty pre ws (topOf l) w hW ho
theorem wsome_any (g o : Nat) (ty : TypeId) (pre : List Value) (l : List Nat) (w : World) (hW : WinL w g ty pre l) (ho : pre.length = o) :
    Calls Try.prog 19 #[.pointer (some ⟨g, o, none⟩)] w fun e w' => e = .returned (.bool (decide (0 < l.length))) ∧ w = w' := by
  obtain ⟨ws, hR, hW⟩ := hW
  rw [← hR.some]
  exact some_any g o ty pre ws (topOf l) w hW ho (Nat.lt_trans hR.top (by decide)) hR.word

end Go.Proofs.Ytibpbgfliccacaa
