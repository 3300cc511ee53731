/- The walk of law06.LinesJoin. -/
import Derived.Test.YtmnkikkffmhnjabLinE
import Derived.SliceStrings
namespace Go.Proofs.Ytmnkikkffmhnjab
open Go.RowKit

/-- A slice of texts that came in shows some texts. -/
theorem shows_of_strs {w : World} {x : Addr} {len cap : Nat} {ss : List ByteArray} (hl : len ≤ cap) (hz : ss.length = cap) (hc : ∀ i, i < ss.length → w.cell? (x.add i) = some (.string (ss.getD i ByteArray.empty))) :
    ∃ ls : List (List UInt8), Sh sv w w.heap.size (some x) len ls ∧ ∀ l ∈ ls, ∃ s ∈ ss, l = s.data.toList := by
  refine ⟨(ss.take len).map fun s => s.data.toList, ⟨by simp; omega, fun hn => ?_⟩, ?_⟩
  · obtain ⟨b, off, spot⟩ := x
    have h0 := hc 0 (by omega)
    have hspot : spot = none := by simpa [Addr.add] using World.cell?_spot h0
    subst hspot
    have hlt : b < w.heap.size := by
      have := World.block_lt_of_cell? w _ h0
      simpa [Addr.add] using this
    refine ⟨b, off, rfl, hlt, fun j hj => ?_⟩
    have hj' : j < ss.length := by simp at hj; omega
    have h2 := hc j hj'
    rw [Go.WideShapes.add_plain] at h2
    rw [h2]
    simp [sv, hj']
  · intro l hl'
    obtain ⟨s, hs, rfl⟩ := List.mem_map.1 hl'
    exact ⟨s, List.mem_of_mem_take hs, rfl⟩

theorem large_many (A : Option Addr) (n c : Nat) (w : World) (h : 20 < n) (hm : n ≤ maxLen) :
    Calls Try.prog 25 #[.slice A n c, .int .i64 20, .int .i64 60] w fun e w' => e = .returned (.bool true) ∧ w = w' := by
  unfold maxLen at hm
  go_enter Try.func25, Try.ntmps25
  go_wp2
  go_ret
  exact ⟨rfl, rfl⟩

theorem large_any (A : Option Addr) (n c : Nat) (ls : List (List UInt8)) (w : World) (h : n ≤ 20) (hs : Sh sv w w.heap.size A n ls) (hsz : ∀ l ∈ ls, l.length ≤ 9223372036854775807) (K : Nat) (hK : K ≤ n)
    (hno : ∀ k x, k < K → ls[k]? = some x → x.length ≤ 60) (hyes : K < n → ∃ x, ls[K]? = some x ∧ 60 < x.length) :
    Calls Try.prog 25 #[.slice A n c, .int .i64 20, .int .i64 60] w fun e w' => e = .returned (.bool (decide (K < n))) ∧ w = w' := by
  have Hno := Lib.hid hno
  have Hyes := Lib.hid hyes
  have Hsz := Lib.hid hsz
  clear hno hyes hsz
  by_cases hKn : K < n
  · rw [decide_eq_true hKn]
    go_enter Try.func25, Try.ntmps25
    go_wp2
    go_loop [7] (fun i => ∃ k : Nat, k ≤ K ∧ i = .int .i64 k) (fun i => n - (intOf i).toNat)
    case atStart => exact ⟨0, Nat.zero_le _, rfl⟩
    case round =>
      obtain ⟨k, hk, rfl⟩ := hrel
      obtain ⟨b, off, x, rfl, hb, hc, hlx⟩ := hs.elem (k := k) (by omega)
      have hxs : (ByteArray.mk ⟨x⟩).size = x.length := rfl
      by_cases hlt : k < K
      · have hx := Hno.out k x hlt hlx
        clear hlx
        go_wp2
        go_round
        case rel => exact ⟨k + 1, by omega, by go_num⟩
        case measure => simp [intOf] <;> omega
      · obtain rfl : k = K := by omega
        obtain ⟨y, hy, hgt⟩ := Hyes.out hKn
        obtain rfl : x = y := by rw [hlx] at hy; injection hy
        have hmx := Hsz.out x (List.mem_of_getElem? hlx)
        clear hlx hy
        go_wp2
        go_ret
        exact ⟨rfl, rfl⟩
  · rw [decide_eq_false hKn]
    obtain rfl : K = n := by omega
    go_enter Try.func25, Try.ntmps25
    go_wp2
    go_loop [7] (fun i => ∃ k : Nat, k ≤ K ∧ i = .int .i64 k) (fun i => K - (intOf i).toNat)
    case atStart => exact ⟨0, Nat.zero_le _, rfl⟩
    case round =>
      obtain ⟨k, hk, rfl⟩ := hrel
      by_cases hlt : k < K
      · obtain ⟨b, off, x, rfl, hb, hc, hlx⟩ := hs.elem (k := k) (by omega)
        have hxs : (ByteArray.mk ⟨x⟩).size = x.length := rfl
        have hx := Hno.out k x hlt hlx
        clear hlx
        go_wp2
        go_round
        case rel => exact ⟨k + 1, by omega, by go_num⟩
        case measure => simp [intOf] <;> omega
      · go_wp2
        go_ret
        exact ⟨rfl, rfl⟩

/-- The first text that is too long, if any. -/
theorem first_long (ls : List (List UInt8)) : ∃ K, K ≤ ls.length ∧ (∀ (k : Nat) (x : List UInt8), k < K → ls[k]? = some x → x.length ≤ 60) ∧ (K < ls.length → ∃ x, ls[K]? = some x ∧ 60 < x.length) := by
  induction ls with
  | nil => exact ⟨0, Nat.le_refl _, fun k x h => absurd h (by omega), fun h => absurd h (by simp)⟩
  | cons a t ih =>
    by_cases ha : 60 < a.length
    · exact ⟨0, Nat.zero_le _, (fun k x h => absurd h (by omega)), fun _ => ⟨a, rfl, ha⟩⟩
    · obtain ⟨K, h1, h2, h3⟩ := ih
      refine ⟨K + 1, by simp; exact h1, fun k x hk hx => ?_, fun hK => ?_⟩
      · cases k with
        | zero => simp at hx; subst hx; omega
        | succ k => exact h2 k x (by omega) (by simpa using hx)
      · simpa using h3 (by simpa using hK)

theorem joinL_bound (ls : List (List UInt8)) (N : Nat) (h : ∀ x ∈ ls, x.length ≤ N) : (joinL ls).length ≤ ls.length * (N + 1) := by
  induction ls with
  | nil => simp [joinL]
  | cons a t ih =>
    have h1 := ih (fun x hx => h x (by simp [hx]))
    have h2 := h a (by simp)
    have e : joinL (a :: t) = (a ++ [10]) ++ joinL t := by simp [joinL]
    have e2 : (a :: t).length * (N + 1) = t.length * (N + 1) + (N + 1) := by rw [List.length_cons, Nat.succ_mul]
    rw [e, e2, List.length_append, List.length_append]
    simp only [List.length_cons, List.length_nil]
    omega

theorem walk_LinesJoin (A : Option Addr) (n c : Nat) (ls : List (List UInt8)) (w : World) (hc : n ≤ c ∧ c ≤ maxLen) (hsz : ∀ l ∈ ls, l.length ≤ 9223372036854775807) (h : Sh sv w w.heap.size A n ls) :
    Calls Try.prog 7 #[.slice A n c] w fun e w' => e = .returned (.bool true) ∧ Below w.heap.size w w' := by
  have hmx : n ≤ maxLen := Nat.le_trans hc.1 hc.2
  have Hsz := Lib.hid hsz
  clear hc hsz
  by_cases hn : 20 < n
  · go_enter Try.func7, Try.ntmps7
    go_wp2_with fail
    refine (large_many _ _ _ _ hn hmx).mono ?_; rintro e w1 ⟨rfl, rfl⟩
    go_wp2_with fail
    refine (alive6 _).mono ?_; rintro e w3 ⟨rfl, hb3⟩
    go_wp2
    go_ret
    exact ⟨rfl, hb3⟩
  · obtain ⟨K, hK, hno, hyes⟩ := first_long ls
    have hl := h.len
    rw [hl] at hK hyes
    have HL := Lib.hid (fun W (hW : Sh sv W W.heap.size A n ls) => large_any A n c ls W (by omega) hW Hsz.out K hK hno hyes)
    by_cases hKn : K < n
    · rw [decide_eq_true hKn] at HL
      clear hyes hno
      go_enter Try.func7, Try.ntmps7
      go_wp2_with fail
      refine (HL.out _ h).mono ?_; rintro e w1 ⟨rfl, rfl⟩
      go_wp2_with fail
      refine (alive6 _).mono ?_; rintro e w3 ⟨rfl, hb3⟩
      go_wp2
      go_ret
      exact ⟨rfl, hb3⟩
    · rw [decide_eq_false hKn] at HL
      have h60 : ∀ x ∈ ls, x.length ≤ 60 := by
        intro x hx
        obtain ⟨k, hk, rfl⟩ := List.mem_iff_getElem.1 hx
        exact hno k _ (by omega) (List.getElem?_eq_getElem hk)
      have hJ := joinL_bound ls 60 h60
      have hJ2 : (joinL ls).length ≤ 1220 := by
        have : ls.length * 61 ≤ 20 * 61 := Nat.mul_le_mul_right _ (by omega)
        omega
      have H60 := Lib.hid h60
      clear hyes hno h60 hJ
      go_enter Try.func7, Try.ntmps7
      go_wp2_with fail
      refine (HL.out _ h).mono ?_; rintro e w1 ⟨rfl, rfl⟩
      go_wp2_with fail
      refine (join_any _ _ _ ls _ (by omega) (by omega) h).mono ?_; rintro e w1 ⟨rfl, hb1⟩
      have s1 := h.on hb1
      go_wp2_with fail
      refine (refJoin_any _ _ _ ls _ (by omega) (by omega) s1).mono ?_; rintro e w2 ⟨rfl, rfl⟩
      go_wp2_with fail
      go_loopw [4] (fun i wr => ∃ k : Nat, k ≤ n ∧ i = .int .i64 k ∧ Hid (∀ (j : Nat) (x : List UInt8), j < k → ls[j]? = some x → (10 : UInt8) ∉ x) ∧ Below w1.heap.size w1 wr) (fun i _ => n - (intOf i).toNat)
      case atStart => exact ⟨0, Nat.zero_le _, rfl, (fun j x hj => absurd hj (by omega)), Below.refl _ _⟩
      case round =>
        obtain ⟨k, hk, rfl, Hdone, hbel⟩ := hrel
        have sr := s1.on hbel
        have b2 := Below.on hb1 hb1.size hbel
        by_cases hlt : k < n
        · obtain ⟨b, off, x, rfl, hb, hcc, hlx⟩ := sr.elem hlt
          have hx60 := H60.out x (List.mem_of_getElem? hlx)
          have Hlx := Lib.hid hlx
          clear hlx
          rcases cut_cases 10 x with hno | ⟨a, bb, hx, hna⟩
          · have HP := Lib.hid (parts_no 10 x hno)
            go_wp2_with fail
            refine (refParts10 x _ (by omega)).mono ?_; rintro e w3 ⟨⟨v, rfl, ho⟩, hb3⟩
            rw [HP.out] at ho
            obtain ⟨A3, c3, rfl, _, _, _⟩ := ho.sh
            have b3 := Below.on hbel hbel.size hb3
            clear ho hb3 b2 sr
            go_wp2
            go_roundw
            case rel =>
              refine ⟨k + 1, by omega, by go_num, fun j y hj hy => ?_, b3⟩
              by_cases e : j = k
              · subst e
                have := Hlx.out
                rw [this] at hy
                injection hy with hy
                subst hy
                exact hno
              · exact Hdone.out j y (by omega) hy
            case measure => simp [intOf] <;> omega
          · have hp : parts 10 x = a :: parts 10 bb := by rw [hx]; exact parts_yes 10 a bb hna
            obtain ⟨ph, pr, hpb⟩ := parts_ne 10 bb
            have hpl := parts_len 10 x
            have hlen2 : 2 ≤ (parts 10 x).length := by rw [hp, hpb]; simp
            have HC := Lib.hid (fun W => refParts10 x W (by omega))
            clear hp hpb hx hna
            generalize parts 10 x = PX at *
            go_wp2_with fail
            refine (HC.out _).mono ?_; rintro e w3 ⟨⟨v, rfl, ho⟩, hb3⟩
            obtain ⟨A3, c3, rfl, _, _, _⟩ := ho.sh
            have b3 := Below.on b2 b2.size hb3
            clear ho hb3 b2 sr
            go_wp2_with fail
            refine (alive6 _).mono ?_; rintro e w4 ⟨rfl, hb4⟩
            have b4 := Below.on b3 b3.size hb4
            go_wp2
            go_ret
            exact ⟨rfl, b4⟩
        · obtain rfl : k = n := by omega
          have hall : ∀ x ∈ ls, (10 : UInt8) ∉ x := by
            intro x hx
            obtain ⟨j, hj, rfl⟩ := List.mem_iff_getElem.1 hx
            exact Hdone.out j _ (by omega) (List.getElem?_eq_getElem hj)
          have hlj := loose_join ls hall
          have hends : joinL ls = [] ∨ ∃ m, joinL ls = m ++ [10] := by
            rcases List.eq_nil_or_concat ls with e | ⟨d, x, e⟩
            · exact .inl (by rw [e]; rfl)
            · refine .inr ⟨joinL d ++ x, ?_⟩
              rw [e, List.concat_eq_append]
              simp [joinL]
          have HC := Lib.hid (fun W => split_yes (joinL ls) W hends (by omega))
          rw [hlj, hl] at HC
          clear hall hlj hends
          go_wp2_with fail
          refine (HC.out _).mono ?_; rintro e w3 ⟨⟨A3, c3, rfl, _, _, s3⟩, hb3⟩
          have sr3 := sr.on hb3
          have b3 := Below.on b2 b2.size hb3
          clear hb3 b2 sr
          go_wp2_with fail
          refine (sameS_yes _ _ _ _ _ _ _ (by omega) s3 sr3).mono ?_; rintro e w4 ⟨rfl, hb4⟩
          have b4 := Below.on b3 b3.size hb4
          clear hb4 b3 s3 sr3
          go_wp2_with fail
          refine (alive6 _).mono ?_; rintro e w5 ⟨rfl, hb5⟩
          have b5 := Below.on b4 b4.size hb5
          go_wp2
          go_ret
          exact ⟨rfl, b5⟩

end Go.Proofs.Ytmnkikkffmhnjab
