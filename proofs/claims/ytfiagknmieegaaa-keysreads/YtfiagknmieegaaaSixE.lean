
/- Contract: sixtyfour.Decode. -/
import Derived.Test.YtfiagknmieegaaaSixD
namespace Go.Proofs.Ytfiagknmieegaaa.Six
open Go.RowKit

/-- What Decode answers to a text that says something. -/
def Decs (z : Nat) (L : List UInt8) (w : World) (e : Ending) (w' : World) : Prop :=
  (z = 0 → ∃ v', e = .returned (.tuple #[v', .int .i64 0]) ∧ Own w' w.heap.size v' L.length L) ∧ (z ≠ 0 → e = .returned (.tuple #[.slice none 0 0, .int .i64 10])) ∧ Below w.heap.size w w'

def sizeOf4 : Value → Nat
  | .string s => s.size
  | _ => 0

theorem ds0 (q : Nat) (hq : q < 16777216) (x : Nat) (h : q / 65536 = x) : ds q 0 = UInt8.ofNat x := by unfold ds qs; congr 1; simp; omega
theorem ds1 (q : Nat) (x : Nat) (h : q / 256 % 256 = x) : ds q 1 = UInt8.ofNat x := by unfold ds qs; congr 1; simp; omega
theorem ds2 (q : Nat) (x : Nat) (h : q % 256 = x) : ds q 2 = UInt8.ofNat x := by unfold ds qs; congr 1; simp; omega

theorem three_or (base n N z : Nat) (E D : List UInt8) (w : World) (e : Ending) (w' : World) (h : Three base n N z E D w e w') : (∃ x y, e = .returned (.tuple #[x, y])) ∧ Three base n N z E D w e w' := by
  refine ⟨?_, h⟩
  by_cases hz : z = 0
  · obtain ⟨v', he, _⟩ := h.1 hz
    exact ⟨_, _, he⟩
  · exact ⟨_, _, h.2.1 hz⟩

theorem txt_len {s L : List UInt8} {z : Nat} (h : Txt s L z) : s.length % 4 = 0 := by
  induction h with
  | more a b c d _ _ _ _ r L z _ _ ih => simp only [List.length_cons]; omega
  | _ => simp

/-- The last group, or none. -/
theorem last_txt (base : Nat) (v : Value) (n : Nat) (E r L : List UInt8) (z : Nat) (w : World) (hT : Txt r L z) (hr : r.length ≤ 4) (hn : n ≤ 1000000) (hown : Own w base v n E) (hbase : base ≤ w.heap.size) :
    Calls Try.prog 80 #[v, sv r] w (Three base n L.length z E L w) := by
  have key : ∀ (vs : List Nat) (m N z' q : Nat), vs.length = m → m ≤ 4 → N = m - 1 → (∀ v ∈ vs, v < 64) → q = pv vs m → z' = qs q N → N = L.length → (List.range N).map (ds q) = L → (z' = 0 ↔ z = 0) →
      Calls Try.prog 79 #[v, sv (vs.map sg)] w fun e w' => (∃ x y, e = .returned (.tuple #[x, y])) ∧ Three base n L.length z E L w e w' := by
    intro vs m N z' q h1 h2 h3 h4 h5 h6 h7 h8 h9
    refine (appendThree_good base v n E vs m N z' q w h1 h2 h3 h4 hn hown hbase h5 h6).mono ?_
    intro e w' h
    rw [h8, h7] at h
    obtain ⟨ha, hb⟩ := three_or _ _ _ _ _ _ _ _ _ h
    exact ⟨ha, fun hz => hb.1 (h9.2 hz), fun hz => hb.2.1 (fun hh => hz (h9.1 hh)), hb.2.2⟩
  cases hT with
  | nil => exact last_none v [] (by simp) (by simp) _ w (key [] 0 0 0 0 rfl (by omega) rfl (by simp) (by simp [pv]) (by simp [qs]) rfl rfl Iff.rfl)
  | two a b ha hb =>
    refine last_two v (sg a) (sg b) _ w (key [a, b] 2 1 _ (a * 262144 + b * 4096) rfl (by omega) rfl (by simp [ha, hb]) (by simp [pv]) rfl rfl ?_ ?_)
    · simp only [List.range_succ, List.range_zero, List.nil_append, List.map_cons, List.map_nil]
      rw [ds0 _ (by omega) (a * 4 + b / 16) (by omega)]; rfl
    · unfold qs; omega
  | three a b c ha hb hc =>
    refine last_one v (sg a) (sg b) (sg c) (sg_ne c hc) _ w (key [a, b, c] 3 2 _ (a * 262144 + b * 4096 + c * 64) rfl (by omega) rfl (by simp [ha, hb, hc]) (by simp [pv]) rfl rfl ?_ ?_)
    · simp only [List.range_succ, List.range_zero, List.nil_append, List.cons_append, List.map_cons, List.map_nil]
      rw [ds0 _ (by omega) (a * 4 + b / 16) (by omega), ds1 _ (b % 16 * 16 + c / 4) (by omega)]; rfl
    · unfold qs; omega
  | four a b c d ha hb hc hd =>
    refine last_none v [sg a, sg b, sg c, sg d] (by simp) (by rw [List.suffix_iff_eq_drop]; simp; exact fun e => sg_ne d hd e.symm) _ w (key [a, b, c, d] 4 3 0 (a * 262144 + b * 4096 + c * 64 + d) rfl (by omega) rfl (by simp [ha, hb, hc, hd]) (by simp [pv]) ?_ rfl ?_ Iff.rfl)
    · unfold qs; omega
    · simp only [List.range_succ, List.range_zero, List.nil_append, List.cons_append, List.map_cons, List.map_nil]
      rw [ds0 _ (by omega) (a * 4 + b / 16) (by omega), ds1 _ (b % 16 * 16 + c / 4) (by omega), ds2 _ (c % 4 * 64 + d) (by omega)]; rfl
  | more a b c d ha hb hc hd r L z hr' h =>
    simp only [List.length_cons] at hr
    exact absurd (List.eq_nil_of_length_eq_zero (by omega)) hr'

/-- A group that is not the last. -/
theorem four_txt (base : Nat) (v : Value) (n : Nat) (E : List UInt8) (a b c d : Nat) (w : World) (ha : a < 64) (hb : b < 64) (hc : c < 64) (hd : d < 64) (hn : n ≤ 1000000) (hown : Own w base v n E) (hbase : base ≤ w.heap.size) :
    Calls Try.prog 79 #[v, sv [sg a, sg b, sg c, sg d]] w fun e w' => (∃ v', e = .returned (.tuple #[v', .int .i64 0]) ∧ Own w' base v' (n + 3) (E ++ [by1 a b, by2 b c, by3 c d])) ∧ Below base w w' := by
  refine (appendThree_good base v n E [a, b, c, d] 4 3 0 (a * 262144 + b * 4096 + c * 64 + d) w rfl (by omega) rfl (by simp [ha, hb, hc, hd]) hn hown hbase (by simp [pv]) (by unfold qs; omega)).mono ?_
  intro e w' h
  have e3 : (List.range 3).map (ds (a * 262144 + b * 4096 + c * 64 + d)) = [by1 a b, by2 b c, by3 c d] := by
    simp only [List.range_succ, List.range_zero, List.nil_append, List.cons_append, List.map_cons, List.map_nil]
    rw [ds0 _ (by omega) (a * 4 + b / 16) (by omega), ds1 _ (b % 16 * 16 + c / 4) (by omega), ds2 _ (c % 4 * 64 + d) (by omega)]; rfl
  rw [e3] at h
  exact ⟨h.1 rfl, h.2.2⟩

theorem decode_len (l : List UInt8) (w : World) (h : l.length % 4 ≠ 0) (hn : l.length ≤ 1000000) :
    Calls Try.prog 53 #[sv l] w fun e w' => e = .returned (.tuple #[.slice none 0 0, .int .i64 5]) ∧ w = w' := by
  have hsz : (ByteArray.mk ⟨l⟩).size = l.length := rfl
  have d0 : ((l.length : Int) % 4 != 0) = true := by simp; omega
  go_enter Try.func53, Try.ntmps53
  go_wp2
  go_ret2
  exact ⟨rfl, rfl⟩

theorem decode_txt (s L : List UInt8) (z : Nat) (w : World) (hT : Txt s L z) (hn : s.length ≤ 100000) :
    Calls Try.prog 53 #[sv s] w (Decs z L w) := by
  have hsz : (ByteArray.mk ⟨s⟩).size = s.length := rfl
  have h4 := txt_len hT
  have d0 : ((s.length : Int) % 4 != 0) = false := by rw [bne_eq_false_iff_eq]; omega
  have HT := Lib.hid hT
  clear hT h4
  go_enter Try.func53, Try.ntmps53
  go_wp2_with (at_make; refine wpList_mk0 _ rfl _ _ rfl w.heap.size (s.length / 4 * 3) _ rfl rfl (by omega) (by omega) (Nat.le_refl _) ?_; intro w1 hown hgrow)
  have hb0 : Below w.heap.size w w1 := (Below.refl _ _).grown hgrow (Nat.le_refl _) (fun k hk => by cases hk)
  clear d0
  go_loopw [0, 4] (fun t v wr => ∃ (k : Nat) (r E L' : List UInt8), t = sv r ∧ Txt r L' z ∧ r.length ≤ s.length ∧ k + r.length ≤ s.length ∧ Own wr w.heap.size v k E ∧ E ++ L' = L ∧ Below w.heap.size w wr) (fun t _ _ => sizeOf4 t)
  case atStart => exact ⟨0, s, [], L, rfl, HT.out, Nat.le_refl _, by omega, hown, rfl, hb0⟩
  case round =>
    clear hown hgrow hb0
    obtain ⟨k, r, E, L', rfl, hT, hr, hkr, hown, hE, hbel⟩ := hrel
    have hsr := hbel.size
    have hEl := hown.len
    have HE := Lib.hid hE
    clear hE
    by_cases h4 : r.length ≤ 4
    · have hz : (ByteArray.mk ⟨r⟩).size = r.length := rfl
      have HL := Lib.hid (last_txt w.heap.size _ k E r L' z wr hT h4 (by omega) hown hsr)
      clear hT
      go_wp2_with fail
      refine HL.out.mono ?_
      intro e w2 h3
      obtain ⟨⟨x, y, he⟩, h3'⟩ := three_or _ _ _ _ _ _ _ _ _ h3
      subst he
      have H3 := Lib.hid h3'
      clear h3 h3'
      go_wp2
      go_ret2
      refine ⟨fun hz0 => ?_, fun hz0 => H3.out.2.1 hz0, hbel.trans H3.out.2.2⟩
      obtain ⟨v', he, ho⟩ := H3.out.1 hz0
      refine ⟨v', he, ?_⟩
      rw [← HE.out, List.length_append, hEl]
      exact ho
    · cases hT with
      | nil => simp at h4
      | two => simp at h4
      | three => simp at h4
      | four => simp at h4
      | more a b c d ha hb hc hd r' L'' _ hr' hT' =>
        have hz : (ByteArray.mk ⟨sg a :: sg b :: sg c :: sg d :: r'⟩).size = r'.length + 4 := rfl
        have hrl : 0 < r'.length := by cases r' with | nil => exact absurd rfl hr' | cons => simp
        simp only [List.length_cons] at hr hkr h4
        have HC := Lib.hid (text_cut (sg a :: sg b :: sg c :: sg d :: r') 0 4)
        have HD := Lib.hid (show (ByteArray.mk ⟨sg a :: sg b :: sg c :: sg d :: r'⟩).extract 4 (r'.length + 4) = ⟨⟨r'⟩⟩ by rw [text_cut, List.take_of_length_le (by simp)]; rfl)
        have HL := Lib.hid (four_txt w.heap.size _ k E a b c d wr ha hb hc hd (by omega) hown hsr)
        have d0 : decide ((4 : Int) < (r'.length : Int) + 4) = true := decide_eq_true (by omega)
        go_wp2_with fail
        rw [HC.out]
        refine HL.out.mono ?_
        rintro e w2 ⟨⟨v', rfl, hown'⟩, hb2⟩
        have hb3 := hbel.trans hb2
        clear hb2 hown
        go_wp2
        go_roundw
        case rel => exact ⟨k + 3, r', E ++ [by1 a b, by2 b c, by3 c d], L'', congrArg Value.string HD.out, hT', by omega, by omega, hown', by rw [← HE.out]; simp, hb3⟩
        case measure => simp [sizeOf4, ByteArray.size] <;> omega

end Go.Proofs.Ytfiagknmieegaaa.Six
