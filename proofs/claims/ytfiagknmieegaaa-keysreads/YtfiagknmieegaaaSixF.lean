
/- Contract: sixtyfour.Decode of a text with a byte that is no sign. -/
import Derived.Test.YtfiagknmieegaaaSixE
namespace Go.Proofs.Ytfiagknmieegaaa.Six
open Go.RowKit

theorem first_bad : ∀ t : List UInt8, (∃ c, c ∈ t ∧ c ∉ sgs) → ∃ K, FirstBad t K
  | [], h => by obtain ⟨c, hc, _⟩ := h; cases hc
  | x :: t, h => by
    rcases sg_or x with ⟨v, hv, rfl⟩ | hx
    · obtain ⟨c, hc, hn⟩ := h
      have hct : c ∈ t := by
        rcases List.mem_cons.1 hc with e | e
        · exact absurd (e ▸ sg_mem v hv) hn
        · exact e
      obtain ⟨K, ⟨d, hd, hdn⟩, hg⟩ := first_bad t ⟨c, hct, hn⟩
      refine ⟨K + 1, ⟨d, by simpa using hd, hdn⟩, fun j hj => ?_⟩
      match j with
      | 0 => exact ⟨v, hv, rfl⟩
      | j + 1 =>
        obtain ⟨u, hu, e⟩ := hg j (by omega)
        exact ⟨u, hu, by simpa using e⟩
    · exact ⟨0, ⟨x, rfl, hx⟩, fun j hj => absurd hj (by omega)⟩

theorem three_bad (v : Value) (t : List UInt8) (w : World) (h4 : t.length ≤ 4) (h : ∃ c, c ∈ t ∧ c ∉ sgs) :
    Calls Try.prog 79 #[v, sv t] w fun e w' => (∃ x y, e = .returned (.tuple #[x, y])) ∧ e = .returned (.tuple #[.slice none 0 0, .int .i64 5]) ∧ w = w' := by
  obtain ⟨K, hK⟩ := first_bad t h
  exact (appendThree_bad v t K t.length w rfl h4 hK).mono fun _ _ ⟨he, hw⟩ => ⟨⟨_, _, he⟩, he, hw⟩

theorem last_bad (v : Value) (r : List UInt8) (w : World) (hB : Bad r) (hr : r.length ≤ 4) :
    Calls Try.prog 80 #[v, sv r] w fun e w' => e = .returned (.tuple #[.slice none 0 0, .int .i64 5]) ∧ w = w' := by
  cases hB with
  | last2 a b h =>
    refine last_two v a b _ w (three_bad v [a, b] w (by simp) ?_)
    rcases h with h | h
    · exact ⟨a, by simp, h⟩
    · exact ⟨b, by simp, h⟩
  | last1 a b c hc h =>
    refine last_one v a b c hc _ w (three_bad v [a, b, c] w (by simp) ?_)
    rcases h with h | h | h
    · exact ⟨a, by simp, h⟩
    · exact ⟨b, by simp, h⟩
    · exact ⟨c, by simp, h⟩
  | last0 a b c d hd h =>
    refine last_none v [a, b, c, d] (by simp) (by rw [List.suffix_iff_eq_drop]; simp; exact fun e => hd e.symm) _ w (three_bad v [a, b, c, d] w (by simp) ?_)
    rcases h with h | h | h | h
    · exact ⟨a, by simp, h⟩
    · exact ⟨b, by simp, h⟩
    · exact ⟨c, by simp, h⟩
    · exact ⟨d, by simp, h⟩
  | here a b c d r hr' h =>
    simp only [List.length_cons] at hr
    exact absurd (List.eq_nil_of_length_eq_zero (by omega)) hr'
  | more a b c d ha hb hc hd r hr' h =>
    simp only [List.length_cons] at hr
    exact absurd (List.eq_nil_of_length_eq_zero (by omega)) hr'

theorem decode_bad (s : List UInt8) (w : World) (hB : Bad s) (h4 : s.length % 4 = 0) (hn : s.length ≤ 100000) :
    Calls Try.prog 53 #[sv s] w fun e w' => e = .returned (.tuple #[.slice none 0 0, .int .i64 5]) ∧ Below w.heap.size w w' := by
  have hsz : (ByteArray.mk ⟨s⟩).size = s.length := rfl
  have d0 : ((s.length : Int) % 4 != 0) = false := by rw [bne_eq_false_iff_eq]; omega
  have HT := Lib.hid hB
  clear hB h4
  go_enter Try.func53, Try.ntmps53
  go_wp2_with (at_make; refine wpList_mk0 _ rfl _ _ rfl w.heap.size (s.length / 4 * 3) _ rfl rfl (by omega) (by omega) (Nat.le_refl _) ?_; intro w1 hown hgrow)
  have hb0 : Below w.heap.size w w1 := (Below.refl _ _).grown hgrow (Nat.le_refl _) (fun k hk => by cases hk)
  clear d0
  go_loopw [0, 4] (fun t v wr => ∃ (k : Nat) (r E : List UInt8), t = sv r ∧ Bad r ∧ r.length ≤ s.length ∧ k + r.length ≤ s.length ∧ Own wr w.heap.size v k E ∧ Below w.heap.size w wr) (fun t _ _ => sizeOf4 t)
  case atStart => exact ⟨0, s, [], rfl, HT.out, Nat.le_refl _, by omega, hown, hb0⟩
  case round =>
    clear hown hgrow hb0
    obtain ⟨k, r, E, rfl, hT, hr, hkr, hown, hbel⟩ := hrel
    have hsr := hbel.size
    by_cases h4 : r.length ≤ 4
    · have hz : (ByteArray.mk ⟨r⟩).size = r.length := rfl
      have HL := Lib.hid (fun v => last_bad v r wr hT h4)
      clear hT
      go_wp2_with fail
      refine (HL.out _).mono ?_
      rintro e w2 ⟨rfl, rfl⟩
      go_wp2
      go_ret2
      exact ⟨rfl, hbel⟩
    · cases hT with
      | last2 => simp at h4
      | last1 => simp at h4
      | last0 => simp at h4
      | here a b c d r' hr' h =>
        have hz : (ByteArray.mk ⟨a :: b :: c :: d :: r'⟩).size = r'.length + 4 := rfl
        have hrl : 0 < r'.length := by cases r' with | nil => exact absurd rfl hr' | cons => simp
        simp only [List.length_cons] at hr hkr h4
        have HC := Lib.hid (text_cut (a :: b :: c :: d :: r') 0 4)
        have HL := Lib.hid (fun v => three_bad v [a, b, c, d] wr (by simp) (by
          rcases h with h | h | h | h
          · exact ⟨a, by simp, h⟩
          · exact ⟨b, by simp, h⟩
          · exact ⟨c, by simp, h⟩
          · exact ⟨d, by simp, h⟩))
        have d0 : decide ((4 : Int) < (r'.length : Int) + 4) = true := decide_eq_true (by omega)
        go_wp2_with fail
        rw [HC.out]
        refine (HL.out _).mono ?_
        rintro e w2 ⟨_, rfl, rfl⟩
        go_wp2
        go_ret2
        exact ⟨rfl, hbel⟩
      | more a b c d ha hb hc hd r' hr' hT' =>
        have hz : (ByteArray.mk ⟨sg a :: sg b :: sg c :: sg d :: r'⟩).size = r'.length + 4 := rfl
        have hrl : 0 < r'.length := by cases r' with | nil => exact absurd rfl hr' | cons => simp
        simp only [List.length_cons] at hr hkr h4
        have HC := Lib.hid (text_cut (sg a :: sg b :: sg c :: sg d :: r') 0 4)
        have HD := Lib.hid (show (ByteArray.mk ⟨sg a :: sg b :: sg c :: sg d :: r'⟩).extract 4 (r'.length + 4) = ⟨⟨r'⟩⟩ by rw [text_cut, List.take_of_length_le (by simp)]; rfl)
        have HL := Lib.hid (four_txt w.heap.size _ k E a b c d wr ha hb hc hd (by omega) hown hsr)
        have d0 : decide ((4 : Int) < (r'.length : Int) + 4) = true := decide_eq_true (by omega)
        go_wp2_with fail
        rw [HC.out]
        refine HL.out.mono ?_
        rintro e w2 ⟨⟨v', rfl, hown'⟩, hb2⟩
        have hb3 := hbel.trans hb2
        clear hb2 hown
        go_wp2
        go_roundw
        case rel => exact ⟨k + 3, r', E ++ [by1 a b, by2 b c, by3 c d], congrArg Value.string HD.out, hT', by omega, by omega, hown', hb3⟩
        case measure => simp [sizeOf4, ByteArray.size] <;> omega

end Go.Proofs.Ytfiagknmieegaaa.Six
