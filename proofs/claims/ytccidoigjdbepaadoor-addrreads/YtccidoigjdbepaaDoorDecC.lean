
/- Contracts: ref03.Read. -/
import Derived.Test.YtccidoigjdbepaaDoorDecB
namespace Go.Proofs.YtccidoigjdbepaaDoor.Dec
open Go.RowKit
set_option maxRecDepth 100000

theorem refRead_empty (most : Int) (w : World) : Calls Tryd.prog 73 #[sv [], .int .u64 most] w fun e w' => e = .returned (.tuple #[.int .u64 0, .int .i64 5]) ∧ w = w' := by
  go_enter Tryd.func73, Tryd.ntmps73
  go_wp2
  go_ret2
  exact ⟨rfl, rfl⟩

theorem refRead_short (s : ByteArray) (D : Nat) (most : Int) (w : World) (h0 : 0 < s.size) (hn : s.size ≤ 1000000000) (hD : LeadD s.data.toList D) (hlt : D < s.size) :
    Calls Tryd.prog 73 #[.string s, .int .u64 most] w fun e w' => e = .returned (.tuple #[.int .u64 0, .int .i64 5]) ∧ w = w' := by
  have t0 : ((s.size : Int) == 0) = false := by rw [beq_eq_false_iff_ne]; omega
  have t1 : decide ((D : Int) < (s.size : Int)) = true := by simp; omega
  go_enter Tryd.func73, Tryd.ntmps73
  go_wp2_with fail
  refine (refPrefix_any s D _ hn hD).mono ?_; rintro e w1 ⟨rfl, rfl⟩
  go_wp2
  go_ret2
  exact ⟨rfl, rfl⟩

theorem refRead_nought (s : ByteArray) (most : Int) (w : World) (h1 : 1 < s.size) (hn : s.size ≤ 1000000000) (hD : LeadD s.data.toList s.size) (h48 : s.data.toList[0]? = some 48) :
    Calls Tryd.prog 73 #[.string s, .int .u64 most] w fun e w' => e = .returned (.tuple #[.int .u64 0, .int .i64 5]) ∧ w = w' := by
  have t0 : ((s.size : Int) == 0) = false := by rw [beq_eq_false_iff_ne]; omega
  have t1 : decide ((s.size : Int) < (s.size : Int)) = false := by simp
  have t2 : decide ((1 : Int) < (s.size : Int)) = true := by simp; omega
  have ha := byte_at s 0 48 h48
  have hp : 0 < s.size := by omega
  go_enter Tryd.func73, Tryd.ntmps73
  go_wp2_with fail
  refine (refPrefix_any s s.size _ hn hD).mono ?_; rintro e w1 ⟨rfl, rfl⟩
  go_wp2
  go_ret2
  exact ⟨rfl, rfl⟩

theorem lead_of_formed (l : List UInt8) (h : Formed l) : LeadD l l.length := ⟨Nat.le_refl _, fun _ c _ hc => h.2.1 c (List.mem_of_getElem? hc), fun c hc => by simp at hc⟩

theorem refRead_form (l : List UInt8) (most : Int) (w : World) (hn : l.length ≤ 1000000000) (h : ¬ Formed l) :
    Calls Tryd.prog 73 #[sv l, .int .u64 most] w fun e w' => e = .returned (.tuple #[.int .u64 0, .int .i64 5]) ∧ w = w' := by
  cases l with
  | nil => exact refRead_empty most w
  | cons a t =>
    obtain ⟨D, hD⟩ := leadD_some (a :: t)
    have hsz : (ByteArray.mk ⟨a :: t⟩).size = (a :: t).length := rfl
    by_cases hlt : D < (a :: t).length
    · exact refRead_short ⟨⟨a :: t⟩⟩ D most w (by rw [hsz]; simp) hn hD hlt
    · obtain rfl : D = (a :: t).length := by have := hD.1; omega
      have hall : ∀ c ∈ a :: t, isD c = true := by
        intro c hc
        obtain ⟨j, hj, rfl⟩ := List.mem_iff_getElem.1 hc
        exact hD.2.1 j _ hj (List.getElem?_eq_getElem hj)
      have ha : a = 48 := by
        by_cases e : a = 48
        · exact e
        · exact absurd ⟨by simp, hall, .inr (by simpa using e)⟩ h
      have ht : 1 < (a :: t).length := by
        cases t with
        | nil => exact absurd ⟨by simp, hall, .inl (by rw [ha])⟩ h
        | cons b u => simp
      exact refRead_nought ⟨⟨a :: t⟩⟩ most w ht hn hD (by show (a :: t)[0]? = some 48; rw [ha]; rfl)

theorem refRead_walk (s : ByteArray) (l : List UInt8) (hl : s.data.toList = l) (most : Nat) (r : Value) (w : World) (hn : s.size ≤ 1000000000) (h : Formed l) (hmost : most ≤ 18446744073709551615)
    (hr : (dval l ≤ most ∧ r = .tuple #[.int .u64 (dval l : Int), .int .i64 0]) ∨ (most < dval l ∧ r = .tuple #[.int .u64 0, .int .i64 6])) :
    Calls Tryd.prog 73 #[.string s, .int .u64 (most : Int)] w fun e w' => e = .returned r ∧ w = w' := by
  have Hr := Lib.hid hr
  have Hm := Lib.hid (fun k => dval_mono l k)
  have Hall := Lib.hid h.2.1
  have hlen : l.length = s.size := by rw [← hl]; rfl
  have HP := Lib.hid (fun W => refPrefix_any s s.size W hn (by rw [hl, ← hlen]; exact lead_of_formed l h))
  have h0 : 0 < s.size := by
    rcases Nat.eq_zero_or_pos s.size with e | e
    · exact absurd (List.eq_nil_of_length_eq_zero (by omega)) h.1
    · exact e
  have t0 : ((s.size : Int) == 0) = false := by rw [beq_eq_false_iff_ne]; omega
  have t1 : decide ((s.size : Int) < (s.size : Int)) = false := by simp
  obtain ⟨c0, hc0⟩ : ∃ c, l[0]? = some c := ⟨l[0]'(by omega), List.getElem?_eq_getElem _⟩
  have ha0 := byte_at s 0 c0 (by rw [hl]; exact hc0)
  have tt : decide ((1 : Int) < (s.size : Int)) = false ∨ (decide ((1 : Int) < (s.size : Int)) = true ∧ ((c0.toNat : Int) == 48) = false) := by
    rcases h.2.2 with e | e
    · refine .inl ?_
      have : s.size = 1 := by rw [← hlen, e]; rfl
      simp; omega
    · by_cases h1 : 1 < s.size
      · refine .inr ⟨by simp; omega, ?_⟩
        exact byte_ne (x := c0) (c := 48) (fun e2 => e (by rw [hc0, e2]))
      · exact .inl (by simp; omega)
  have Hlen := Lib.hid hlen
  have Hl := Lib.hid hl
  clear hr h hl hc0 hlen
  rcases tt with t2 | ⟨t2, t3⟩
  all_goals
    go_enter Tryd.func73, Tryd.ntmps73
    go_wp2_with fail
    refine (HP.out _).mono ?_; rintro e w1 ⟨rfl, rfl⟩
    go_wp2_with fail
    go_loop [6, 7] (fun v i => ∃ k : Nat, k ≤ s.size ∧ i = .int .i64 k ∧ v = .int .u64 (dval (l.take k) : Int) ∧ dval (l.take k) ≤ most) (fun _ i => s.size - (intOf i).toNat)
    case atStart => exact ⟨0, Nat.zero_le _, rfl, rfl, by simp [dval]⟩
    case round =>
      obtain ⟨k, hk, rfl, rfl, hle⟩ := hrel
      by_cases hks : k < s.size
      · obtain ⟨c, hc⟩ : ∃ c, l[k]? = some c := ⟨l[k]'(by rw [Hlen.out]; exact hks), List.getElem?_eq_getElem _⟩
        have hcd := Hall.out c (List.mem_of_getElem? hc)
        have ha := byte_at s k c (by rw [Hl.out]; exact hc)
        have hb : 48 ≤ c.toNat ∧ c.toNat ≤ 57 := by unfold isD at hcd; simpa using hcd
        obtain ⟨d, hd, hd9⟩ : ∃ d : Nat, (c.toNat : Int) - 48 = (d : Int) ∧ d ≤ 9 := ⟨c.toNat - 48, by omega, by omega⟩
        have Hs := Lib.hid (show dval (l.take (k + 1)) = 10 * dval (l.take k) + d by rw [dval_snoc l k c hc]; omega)
        have Hms := Lib.hid (Hm.out (k + 1))
        obtain ⟨hb1', hb2'⟩ := hb
        clear hcd hc
        generalize dval (l.take k) = v at *
        by_cases hov : 10 * v + d ≤ most
        · have f1 : decide ((most : Int) / 10 < (v : Int)) = false := by rw [decide_eq_false_iff_not]; omega
          have f2 : decide ((most : Int) - (d : Int) < 10 * (v : Int)) = false := by rw [decide_eq_false_iff_not]; omega
          have f3 : decide (most < d) = false := by simp; omega
          have f4 : d ≤ most := by omega
          go_wp2
          go_round
          case rel => exact ⟨k + 1, by omega, by go_num, by rw [Hs.out]; go_num, by rw [Hs.out]; exact hov⟩
          case measure => simp [intOf] <;> omega
        · have hfin : r = .tuple #[.int .u64 0, .int .i64 6] := by
            have h1 := Hms.out
            rw [Hs.out] at h1
            rcases Hr.out with ⟨h2, _⟩ | ⟨_, h2⟩
            · omega
            · exact h2
          have Hfin := Lib.hid hfin
          clear hfin
          by_cases g1 : most / 10 < v
          · have f1 : decide ((most : Int) / 10 < (v : Int)) = true := by rw [decide_eq_true_iff]; omega
            go_wp2
            go_ret2
            exact ⟨by rw [Hfin.out]; rfl, rfl⟩
          · have f1 : decide ((most : Int) / 10 < (v : Int)) = false := by rw [decide_eq_false_iff_not]; omega
            by_cases g2 : d ≤ most
            · have f2 : decide ((most : Int) - (d : Int) < 10 * (v : Int)) = true := by rw [decide_eq_true_iff]; omega
              go_wp2
              go_ret2
              exact ⟨by rw [Hfin.out]; rfl, rfl⟩
            · have hv0 : v = 0 := by omega
              subst hv0
              have g3 : most < d := by omega
              go_wp2
              go_ret2
              exact ⟨by rw [Hfin.out]; rfl, rfl⟩
      · obtain rfl : k = s.size := by omega
        have hfull : l.take s.size = l := List.take_of_length_le (Nat.le_of_eq Hlen.out)
        rw [hfull] at hle ⊢
        clear hfull
        generalize dval l = v at *
        have hfin : r = .tuple #[.int .u64 (v : Int), .int .i64 0] := by
          rcases Hr.out with ⟨_, h2⟩ | ⟨h2, _⟩
          · exact h2
          · omega
        have Hfin := Lib.hid hfin
        clear hfin
        go_wp2
        go_ret2
        exact ⟨by rw [Hfin.out]; rfl, rfl⟩

end Go.Proofs.YtccidoigjdbepaaDoor.Dec
