
/- Contracts: decimal.formed, decimal.Read, ref03.Read. -/
import Derived.Test.YtccidoigjdbepaaDoorDecA
namespace Go.Proofs.YtccidoigjdbepaaDoor.Dec
open Go.RowKit
set_option maxRecDepth 100000

theorem formed_empty (w : World) : Calls Tryd.prog 94 #[sv []] w fun e w' => e = .returned (.bool false) ∧ Below w.heap.size w w' := by
  go_enter Tryd.func94, Tryd.ntmps94
  go_wp2
  go_ret
  exact ⟨rfl, Below.refl _ _⟩

theorem formed_short (l : List UInt8) (D : Nat) (w : World) (hl : l ≠ []) (hn : l.length ≤ 1000000000) (hD : LeadD l D) (hlt : D < l.length) :
    Calls Tryd.prog 94 #[sv l] w fun e w' => e = .returned (.bool false) ∧ Below w.heap.size w w' := by
  have he : (ByteArray.mk ⟨l⟩).toList.isEmpty = false := by simp; exact hl
  have hsz : (ByteArray.mk ⟨l⟩).size = l.length := rfl
  have HC := Lib.hid (fun W => prefix_any ⟨⟨l⟩⟩ D W hn hD)
  have hne : ((D : Int) != (l.length : Int)) = true := by rw [bne_iff_ne]; omega
  unfold sv
  generalize ByteArray.mk ⟨l⟩ = s at *
  go_enter Tryd.func94, Tryd.ntmps94
  go_wp2_with fail
  refine (HC.out _).mono ?_; rintro e w1 ⟨rfl, hb1⟩
  go_wp2
  go_ret
  exact ⟨rfl, hb1⟩

theorem formed_zero (w : World) : Calls Tryd.prog 94 #[sv [48]] w fun e w' => e = .returned (.bool true) ∧ Below w.heap.size w w' := by
  have HC := Lib.hid (fun W => prefix_any ⟨⟨[48]⟩⟩ 1 W (by decide) ⟨by decide, (fun j c hj hc => by
    obtain rfl : j = 0 := by omega
    simp at hc; subst hc; rfl), fun c hc => by simp at hc⟩)
  go_enter Tryd.func94, Tryd.ntmps94
  go_wp2_with fail
  refine (HC.out _).mono ?_; rintro e w1 ⟨rfl, hb1⟩
  go_wp2
  go_ret
  exact ⟨rfl, hb1⟩

theorem formed_full (a : UInt8) (t : List UInt8) (w : World) (hn : (a :: t).length ≤ 1000000000) (hD : LeadD (a :: t) (a :: t).length) (hz : a :: t ≠ [48]) :
    Calls Tryd.prog 94 #[sv (a :: t)] w fun e w' => e = .returned (.bool (decide (a ≠ 48))) ∧ Below w.heap.size w w' := by
  have he : (ByteArray.mk ⟨a :: t⟩).toList.isEmpty = false := by simp
  have hsz : (ByteArray.mk ⟨a :: t⟩).size = t.length + 1 := rfl
  have h48 : ((ByteArray.mk ⟨a :: t⟩).toList == [48]) = false := by
    rw [beq_eq_false_iff_ne]; simpa using hz
  have h0 := byte_at (ByteArray.mk ⟨a :: t⟩) 0 a rfl
  have HC := Lib.hid (fun W => prefix_any ⟨⟨a :: t⟩⟩ (t.length + 1) W hn hD)
  have hne : ((t.length : Int) + 1 != (t.length : Int) + 1) = false := by simp
  have hn' : t.length ≤ 1000000000 := by simp at hn; omega
  have hpos : 0 < (ByteArray.mk ⟨a :: t⟩).size := by rw [hsz]; omega
  unfold sv
  clear hn hD hz
  have key : ((a.toNat : Int) != 48) = decide (a ≠ 48) := by
    by_cases h : a = 48
    · subst h; rfl
    · rw [decide_eq_true h, bne_iff_ne]
      intro e
      exact h (UInt8.toNat_inj.1 (by simpa using (Int.ofNat.inj e : a.toNat = 48)))
  have Hkey := Lib.hid key
  clear key
  generalize ByteArray.mk ⟨a :: t⟩ = s at *
  go_enter Tryd.func94, Tryd.ntmps94
  go_wp2_with fail
  refine (HC.out _).mono ?_; rintro e w1 ⟨rfl, hb1⟩
  go_wp2
  go_ret
  exact ⟨by rw [← Hkey.out]; rfl, hb1⟩

theorem formed_yes (l : List UInt8) (w : World) (hn : l.length ≤ 1000000000) (h : Formed l) :
    Calls Tryd.prog 94 #[sv l] w fun e w' => e = .returned (.bool true) ∧ Below w.heap.size w w' := by
  obtain ⟨h1, h2, h3⟩ := h
  cases l with
  | nil => exact absurd rfl h1
  | cons a t =>
    by_cases hz : a :: t = [48]
    · rw [hz]; exact formed_zero w
    · have hD : LeadD (a :: t) (a :: t).length := ⟨Nat.le_refl _, fun j c _ hc => h2 c (List.mem_of_getElem? hc), fun c hc => by simp at hc⟩
      have := formed_full a t w hn hD hz
      have ha : a ≠ 48 := by
        rcases h3 with h3 | h3
        · exact absurd h3 hz
        · simpa using h3
      rwa [decide_eq_true ha] at this

theorem formed_no (l : List UInt8) (w : World) (hn : l.length ≤ 1000000000) (h : ¬ Formed l) :
    Calls Tryd.prog 94 #[sv l] w fun e w' => e = .returned (.bool false) ∧ Below w.heap.size w w' := by
  cases l with
  | nil => exact formed_empty w
  | cons a t =>
    obtain ⟨D, hD⟩ := leadD_some (a :: t)
    by_cases hlt : D < (a :: t).length
    · exact formed_short (a :: t) D w (by simp) hn hD hlt
    · obtain rfl : D = (a :: t).length := by have := hD.1; omega
      have hall : ∀ c ∈ a :: t, isD c = true := by
        intro c hc
        obtain ⟨j, hj, rfl⟩ := List.mem_iff_getElem.1 hc
        exact hD.2.1 j _ hj (List.getElem?_eq_getElem hj)
      have hz : a :: t ≠ [48] := fun e => h ⟨by simp, hall, .inl e⟩
      have ha : a = 48 := by
        by_cases e : a = 48
        · exact e
        · exact absurd ⟨by simp, hall, .inr (by simpa using e)⟩ h
      have := formed_full a t w hn hD hz
      have hd : decide (a ≠ 48) = false := by simp [ha]
      rwa [hd] at this

theorem read_form (l : List UInt8) (most : Int) (w : World) (hn : l.length ≤ 1000000000) (h : ¬ Formed l) :
    Calls Tryd.prog 72 #[sv l, .int .u64 most] w fun e w' => e = .returned (.tuple #[.int .u64 0, .int .i64 5]) ∧ Below w.heap.size w w' := by
  go_enter Tryd.func72, Tryd.ntmps72
  go_wp2_with fail
  refine (formed_no l _ hn h).mono ?_; rintro e w1 ⟨rfl, hb1⟩
  go_wp2
  go_ret2
  exact ⟨rfl, hb1⟩

theorem over_no (v d : Nat) (h : 10 * v + d ≤ 18446744073709551615) : decide ((18446744073709551615 - (d : Int)) / 10 < (v : Int)) = false := by
  rw [decide_eq_false_iff_not]; omega
theorem over_yes (v d : Nat) (h : 18446744073709551615 < 10 * v + d) : decide ((18446744073709551615 - (d : Int)) / 10 < (v : Int)) = true := by
  rw [decide_eq_true_iff]; omega

theorem read_walk (s : ByteArray) (l : List UInt8) (hl : s.data.toList = l) (most : Nat) (r : Value) (w : World) (h : Formed l)
    (hF : ∀ W : World, Calls Tryd.prog 94 #[.string s] W fun e w' => e = .returned (.bool true) ∧ Below W.heap.size W w')
    (hr : (dval l ≤ 18446744073709551615 ∧ dval l ≤ most ∧ r = .tuple #[.int .u64 (dval l : Int), .int .i64 0]) ∨ ((18446744073709551615 < dval l ∨ most < dval l) ∧ r = .tuple #[.int .u64 0, .int .i64 6])) :
    Calls Tryd.prog 72 #[.string s, .int .u64 (most : Int)] w fun e w' => e = .returned r ∧ Below w.heap.size w w' := by
  have Hr := Lib.hid hr
  have HF := Lib.hid hF
  have Hm := Lib.hid (fun k => dval_mono l k)
  have Hall := Lib.hid h.2.1
  have Hat := Lib.hid (fun k c (hk : k < s.size) hc => rune_at s k c hk hc)
  have Hlen := Lib.hid (show l.length = s.size by rw [← hl]; rfl)
  have Hl := Lib.hid hl
  clear hr hF h hl
  go_enter Tryd.func72, Tryd.ntmps72
  go_wp2_with fail
  refine (HF.out _).mono ?_; rintro e w1 ⟨rfl, hb1⟩
  go_wp2_with fail
  go_loopw [6] (fun v wr => ∃ k : Nat, k ≤ s.size ∧ wr = w1.iter s k ∧ v = .int .u64 (dval (l.take k) : Int) ∧ dval (l.take k) ≤ 18446744073709551615) (fun _ wr => s.size - wr.iterPos w1.heap.size)
  case atStart => exact ⟨0, Nat.zero_le _, rfl, rfl, by simp [dval]⟩
  case round =>
    obtain ⟨k, hk, rfl, rfl, hle⟩ := hrel
    have hb2 : Below w.heap.size w (w1.iter s k) := hb1.alloc hb1.size _
    by_cases hks : k < s.size
    · obtain ⟨c, hc⟩ : ∃ c, l[k]? = some c := ⟨l[k]'(by rw [Hlen.out]; exact hks), List.getElem?_eq_getElem _⟩
      have hcd := Hall.out c (List.mem_of_getElem? hc)
      have hnx := fun ty => run_next_any (P := Tryd.prog) w1 s k ty hks
      rw [(Hat.out k c hks (by rw [Hl.out]; exact hc)).1 hcd] at hnx
      have hb : 48 ≤ c.toNat ∧ c.toNat ≤ 57 := by unfold isD at hcd; simpa using hcd
      obtain ⟨d, hd, hd9⟩ : ∃ d : Nat, (c.toNat : Int) - 48 = (d : Int) ∧ d ≤ 9 := ⟨c.toNat - 48, by omega, by omega⟩
      have Hs := Lib.hid (show dval (l.take (k + 1)) = 10 * dval (l.take k) + d by rw [dval_snoc l k c hc]; omega)
      have Hms := Lib.hid (Hm.out (k + 1))
      obtain ⟨hb1', hb2'⟩ := hb
      clear hcd hc
      generalize dval (l.take k) = v at *
      by_cases hov : 10 * v + d ≤ 18446744073709551615
      · have t := over_no v d hov
        go_wp2
        go_roundw
        case rel => exact ⟨k + 1, by omega, rfl, by rw [Hs.out]; go_num, by rw [Hs.out]; exact hov⟩
        case measure => simp <;> omega
      · have t := over_yes v d (by omega)
        have hfin : r = .tuple #[.int .u64 0, .int .i64 6] := by
          have h1 := Hms.out
          rw [Hs.out] at h1
          rcases Hr.out with ⟨h2, _, _⟩ | ⟨_, h2⟩
          · omega
          · exact h2
        have Hfin := Lib.hid hfin
        clear hfin hov
        go_wp2
        go_ret2
        exact ⟨by rw [Hfin.out]; rfl, hb1.alloc hb1.size _⟩
    · obtain rfl : k = s.size := by omega
      have hnx := fun ty => run_next_end (P := Tryd.prog) w1 s s.size ty hks
      have hfull : l.take s.size = l := List.take_of_length_le (Nat.le_of_eq Hlen.out)
      rw [hfull] at hle ⊢
      clear hfull
      generalize dval l = v at *
      by_cases hgt : most < v
      · have hfin : r = .tuple #[.int .u64 0, .int .i64 6] := by
          rcases Hr.out with ⟨_, h2, _⟩ | ⟨_, h2⟩
          · omega
          · exact h2
        have Hfin := Lib.hid hfin
        clear hfin
        go_wp2
        go_ret2
        exact ⟨by rw [Hfin.out]; rfl, hb1.alloc hb1.size _⟩
      · have hfin : r = .tuple #[.int .u64 (v : Int), .int .i64 0] := by
          rcases Hr.out with ⟨_, _, h2⟩ | ⟨h2, _⟩
          · exact h2
          · omega
        have Hfin := Lib.hid hfin
        clear hfin
        go_wp2
        go_ret2
        exact ⟨by rw [Hfin.out]; rfl, hb1.alloc hb1.size _⟩

end Go.Proofs.YtccidoigjdbepaaDoor.Dec
