
/- Out of the texts Gen2, DecN, DecA, DecB, DecC, DecD. -/
import Derived.Test.YtccidoigjdbepaaDoorGen
import Derived.WalkKit
import Derived.Lib.ItoaNum
import Derived.Deep.QuietTactic
import Derived.BigQuiet
import Derived.WalkSpells
import Derived.WalkLawsBesides
import Derived.Outline
import Derived.Laws.RangeAny
import Derived.Test.YtccidoigjdbepaaDoorShelf
import Derived.Lib.AppendIntMem
import Derived.Laws.IdiomStrings
import Derived.Laws.Concat
/- Gen2 -/
namespace Go.Proofs.YtccidoigjdbepaaDoor
open Go.RowKit
set_option maxRecDepth 100000

theorem byte_at (s : ByteArray) (i : Nat) (c : UInt8) (h : s.data.toList[i]? = some c) : ∀ h' : i < s.size, s[i]'h' = c := by
  intro h'
  obtain ⟨_, e⟩ := List.getElem?_eq_some_iff.1 h
  exact e
theorem byte_ne {x c : UInt8} (h : x ≠ c) : ((x.toNat : Int) == (c.toNat : Int)) = false := by
  rw [beq_eq_false_iff_ne]; exact fun e => h (UInt8.toNat_inj.1 (Int.ofNat.inj e))
theorem ret_string {a b : ByteArray} (h : a = b) : Ending.returned (.string a) = .returned (.string b) := by rw [h]
theorem ret_int {k : IntKind} {a b : Int} (h : a = b) : Ending.returned (.int k a) = .returned (.int k b) := by rw [h]

end Go.Proofs.YtccidoigjdbepaaDoor

/- DecN -/
namespace Go.Proofs.YtccidoigjdbepaaDoor.Dec

def isD (c : UInt8) : Bool := 48 ≤ c.toNat && c.toNat ≤ 57
/-- D bytes are digits, and then comes none, or the end. -/
def LeadD (l : List UInt8) (D : Nat) : Prop := D ≤ l.length ∧ (∀ (j : Nat) (c : UInt8), j < D → l[j]? = some c → isD c = true) ∧ (∀ c, l[D]? = some c → isD c = false)

theorem leadD_some (l : List UInt8) : ∃ D, LeadD l D := by
  induction l with
  | nil => exact ⟨0, Nat.le_refl _, (fun j c h => absurd h (by omega)), fun c h => by simp at h⟩
  | cons a t ih =>
    cases ha : isD a with
    | false => exact ⟨0, Nat.zero_le _, (fun j c h => absurd h (by omega)), fun c h => by simp at h; subst h; exact ha⟩
    | true =>
      obtain ⟨D, h1, h2, h3⟩ := ih
      refine ⟨D + 1, by simp; exact h1, fun j c hj hc => ?_, fun c hc => h3 c (by simpa using hc)⟩
      cases j with
      | zero => simp at hc; subst hc; exact ha
      | succ j => exact h2 j c (by omega) (by simpa using hc)

/-- The number of digits. -/
def dval (l : List UInt8) : Nat := l.foldl (fun a c => 10 * a + (c.toNat - 48)) 0

theorem dval_snoc (l : List UInt8) (k : Nat) (c : UInt8) (h : l[k]? = some c) : dval (l.take (k + 1)) = 10 * dval (l.take k) + (c.toNat - 48) := by
  obtain ⟨hk, rfl⟩ := List.getElem?_eq_some_iff.1 h
  rw [List.take_succ_eq_append_getElem hk, dval, List.foldl_append]
  rfl

theorem dval_mono (l : List UInt8) (k : Nat) : dval (l.take k) ≤ dval l := by
  have key : ∀ (m : List UInt8) (a : Nat), a ≤ m.foldl (fun a c => 10 * a + (c.toNat - 48)) a := by
    intro m
    induction m with
    | nil => intro a; exact Nat.le_refl _
    | cons c t ih => intro a; exact Nat.le_trans (by omega) (ih (10 * a + (c.toNat - 48)))
  conv => rhs; rw [← List.take_append_drop k l]
  unfold dval
  rw [List.foldl_append]
  exact key _ _

/-- A number's text: digits, no nought ahead of others. -/
def Formed (l : List UInt8) : Prop := l ≠ [] ∧ (∀ c ∈ l, isD c = true) ∧ (l = [48] ∨ l[0]? ≠ some 48)

theorem digit_of (d : Nat) (h : d < 10) : (UInt8.ofNat (48 + d)).toNat = 48 + d := by simp; omega

theorem dec_small (u : Nat) (h : u < 10) : Lib.decDigits u = [UInt8.ofNat (48 + u)] := by rw [Lib.decDigits]; simp [h]
theorem dec_step (u : Nat) (h : 10 ≤ u) : Lib.decDigits u = Lib.decDigits (u / 10) ++ [UInt8.ofNat (48 + u % 10)] := by
  rw [Lib.decDigits]; simp [show ¬ u < 10 by omega]

theorem dec_props (u : Nat) : Formed (Lib.decDigits u) ∧ dval (Lib.decDigits u) = u ∧ (1 ≤ u → (Lib.decDigits u)[0]? ≠ some 48) := by
  induction u using Nat.strongRecOn with
  | ind u ih =>
    by_cases h : u < 10
    · rw [dec_small u h]
      have hd := digit_of u h
      refine ⟨⟨by simp, ?_, ?_⟩, ?_, ?_⟩
      · intro c hc
        simp only [List.mem_singleton] at hc
        subst hc
        have hd' := digit_of u h
        unfold isD
        simp only [hd', Bool.and_eq_true, decide_eq_true_eq]
        omega
      · by_cases hz : u = 0
        · subst hz; exact .inl rfl
        · refine .inr ?_
          simp only [List.getElem?_cons_zero, ne_eq, Option.some.injEq]
          intro e
          have := congrArg UInt8.toNat e
          rw [hd] at this
          simp at this
          omega
      · simp only [dval, List.foldl_cons, List.foldl_nil]; rw [hd]; omega
      · intro h1
        simp only [List.getElem?_cons_zero, ne_eq, Option.some.injEq]
        intro e
        have := congrArg UInt8.toNat e
        rw [hd] at this
        simp at this
        omega
    · rw [dec_step u (by omega)]
      obtain ⟨⟨h1, h2, h3⟩, h4, h5⟩ := ih (u / 10) (by omega)
      have h0 : (Lib.decDigits (u / 10) ++ [UInt8.ofNat (48 + u % 10)])[0]? ≠ some 48 := by
        have hne := h5 (by omega)
        cases hL : Lib.decDigits (u / 10) with
        | nil => exact absurd hL h1
        | cons a t => rw [hL] at hne; simpa using hne
      refine ⟨⟨by simp, ?_, .inr h0⟩, ?_, fun _ => h0⟩
      · intro c hc
        rcases List.mem_append.1 hc with hc | hc
        · exact h2 c hc
        · simp only [List.mem_singleton] at hc
          subst hc
          have hd' := digit_of (u % 10) (by omega)
          unfold isD
          simp only [hd', Bool.and_eq_true, decide_eq_true_eq]
          omega
      · have hd' := digit_of (u % 10) (by omega)
        unfold dval at *
        rw [List.foldl_append, h4]
        simp only [List.foldl_cons, List.foldl_nil]
        rw [hd']
        omega

/-- What is formed is its number's own text. -/
theorem dec_back (n : Nat) : ∀ l : List UInt8, l.length = n → Formed l → Lib.decDigits (dval l) = l := by
  induction n with
  | zero => intro l hl h; exact absurd (List.eq_nil_of_length_eq_zero hl) h.1
  | succ n ih =>
    intro l hl h
    rcases List.eq_nil_or_concat l with e | ⟨m, c, e⟩
    · exact absurd e h.1
    · rw [List.concat_eq_append] at e
      subst e
      have hc : isD c = true := h.2.1 c (by simp)
      unfold isD at hc
      simp only [Bool.and_eq_true, decide_eq_true_eq] at hc
      have hcc : UInt8.ofNat (48 + (c.toNat - 48)) = c := by
        apply UInt8.toNat_inj.1
        rw [digit_of _ (by omega)]
        omega
      have hv : dval (m ++ [c]) = 10 * dval m + (c.toNat - 48) := by simp [dval, List.foldl_append]
      cases m with
      | nil =>
        have hv0 : dval ([] ++ [c]) = c.toNat - 48 := by simp [dval]
        rw [hv0, dec_small _ (by omega), hcc]
        rfl
      | cons a t =>
        have hF : Formed (a :: t) := by
          refine ⟨by simp, fun x hx => h.2.1 x (List.mem_append.2 (.inl hx)), .inr ?_⟩
          rcases h.2.2 with h2 | h2
          · simp at h2
          · simpa using h2
        have hi := ih (a :: t) (by simp at hl ⊢; omega) hF
        have hpos : 1 ≤ dval (a :: t) := by
          rcases Nat.eq_zero_or_pos (dval (a :: t)) with h0 | h0
          · rw [h0, dec_small 0 (by omega)] at hi
            have : a = 48 := by
              have h6 := congrArg List.head? hi
              simp at h6
              exact h6.symm
            rcases h.2.2 with h2 | h2
            · simp at h2
            · simp [this] at h2
          · exact h0
        rw [hv, dec_step _ (by omega), show (10 * dval (a :: t) + (c.toNat - 48)) / 10 = dval (a :: t) by omega, show (10 * dval (a :: t) + (c.toNat - 48)) % 10 = c.toNat - 48 by omega, hi, hcc]

end Go.Proofs.YtccidoigjdbepaaDoor.Dec

/- DecA -/
namespace Go.Proofs.YtccidoigjdbepaaDoor.Dec
open Go.RowKit
set_option maxRecDepth 100000

theorem digit_yes (r : Int) (w : World) (h1 : 48 ≤ r) (h2 : r ≤ 57) : Calls Tryd.prog 122 #[.int .i32 r] w fun e w' => e = .returned (.bool true) ∧ w = w' := by
  go_enter Tryd.func122, Tryd.ntmps122
  go_wp2
  go_ret
  exact ⟨rfl, rfl⟩

theorem digit_no (r : Int) (w : World) (h : r < 48 ∨ 57 < r) : Calls Tryd.prog 122 #[.int .i32 r] w fun e w' => e = .returned (.bool false) ∧ w = w' := by
  have dd : decide ((48 : Int) ≤ r) = false ∨ (decide ((48 : Int) ≤ r) = true ∧ decide (r ≤ 57) = false) := by
    rcases h with h | h
    · exact .inl (by simp; omega)
    · exact .inr ⟨by simp; omega, by simp; omega⟩
  clear h
  rcases dd with d1 | ⟨d1, d2⟩
  all_goals
    go_enter Tryd.func122, Tryd.ntmps122
    go_wp2
    go_ret
    exact ⟨rfl, rfl⟩

/-- The rune at a byte: a digit's own number, or none of a digit. -/
theorem rune_at (s : ByteArray) (k : Nat) (c : UInt8) (h : k < s.size) (hc : s.data.toList[k]? = some c) :
    (isD c = true → Utf8.decode s k = (c.toNat, 1)) ∧ (isD c = false → ((Utf8.decode s k).1 : Int) < 48 ∨ 57 < ((Utf8.decode s k).1 : Int)) := by
  have e : s[k]'h = c := byte_at s k c hc h
  unfold isD
  simp only [Bool.and_eq_true, decide_eq_true_eq, Bool.and_eq_false_iff, decide_eq_false_iff_not]
  refine ⟨fun hd => ?_, fun hd => ?_⟩
  · rw [decode_ascii s k h (by rw [e]; omega), e]
  · by_cases ha : (s[k]'h).toNat < 128
    · rw [decode_ascii s k h ha, e]
      show (c.toNat : Int) < 48 ∨ 57 < (c.toNat : Int)
      omega
    · have := (decode_high s k h (by omega)).1
      omega

theorem prefix_any (s : ByteArray) (D : Nat) (w : World) (_hs : s.size ≤ 1000000000) (hD : LeadD s.data.toList D) :
    Calls Tryd.prog 109 #[.string s] w fun e w' => e = .returned (.int .i64 (D : Int)) ∧ Below w.heap.size w w' := by
  obtain ⟨h1, h2, h3⟩ := hD
  have hlen : s.data.toList.length = s.size := rfl
  rw [hlen] at h1
  have H2 := Lib.hid h2
  have H3 := Lib.hid h3
  have Hlen := Lib.hid hlen
  clear h2 h3 hlen
  go_enter Tryd.func109, Tryd.ntmps109
  go_wp2
  go_loopw [7] (fun _ wr => ∃ k : Nat, k ≤ D ∧ wr = w.iter s k) (fun _ wr => s.size - wr.iterPos w.heap.size)
  case atStart => exact ⟨0, Nat.zero_le _, rfl⟩
  case round =>
    obtain ⟨k, hk, rfl⟩ := hrel
    by_cases hks : k < s.size
    · obtain ⟨c, hc⟩ : ∃ c, s.data.toList[k]? = some c := ⟨s.data.toList[k]'(by rw [Hlen.out]; exact hks), List.getElem?_eq_getElem _⟩
      obtain ⟨r1, r2⟩ := rune_at s k c hks hc
      have hnx := fun ty => run_next_any (P := Tryd.prog) w s k ty hks
      by_cases hlt : k < D
      · have hcd := H2.out k c hlt hc
        rw [r1 hcd] at hnx
        have hb : 48 ≤ c.toNat ∧ c.toNat ≤ 57 := by unfold isD at hcd; simpa using hcd
        obtain ⟨hb1, hb2⟩ := hb
        clear r1 r2 hcd hc
        go_wp2_with (go_at_call 122; refine (digit_yes _ _ (by omega) (by omega)).mono ?_; rintro e w' ⟨rfl, rfl⟩)
        go_roundw
        case rel => exact ⟨k + 1, by omega, rfl⟩
        case measure => simp <;> omega
      · obtain rfl : k = D := by omega
        have hcd := H3.out c hc
        have hr := r2 hcd
        clear r1 r2 hcd hc
        generalize hr1 : (Utf8.decode s k).1 = R at *
        generalize hr2 : (Utf8.decode s k).2 = R2 at *
        clear hr1 hr2
        go_wp2_with (go_at_call 122; refine (digit_no _ _ hr).mono ?_; rintro e w' ⟨rfl, rfl⟩)
        go_ret
        exact ⟨rfl, (Below.refl _ _).alloc (Nat.le_refl _) _⟩
    · obtain rfl : k = D := by omega
      obtain rfl : k = s.size := by omega
      have hnx := fun ty => run_next_end (P := Tryd.prog) w s s.size ty hks
      go_wp2
      go_ret
      exact ⟨rfl, (Below.refl _ _).alloc (Nat.le_refl _) _⟩

theorem refPrefix_any (s : ByteArray) (D : Nat) (w : World) (hs : s.size ≤ 1000000000) (hD : LeadD s.data.toList D) :
    Calls Tryd.prog 95 #[.string s] w fun e w' => e = .returned (.int .i64 (D : Int)) ∧ w = w' := by
  obtain ⟨h1, h2, h3⟩ := hD
  have hlen : s.data.toList.length = s.size := rfl
  rw [hlen] at h1
  have H2 := Lib.hid h2
  have H3 := Lib.hid h3
  have Hlen := Lib.hid hlen
  clear h2 h3 hlen
  go_enter Tryd.func95, Tryd.ntmps95
  go_wp2
  go_loop [3] (fun i => ∃ k : Nat, k ≤ D ∧ i = .int .i64 k) (fun i => s.size - (intOf i).toNat)
  case atStart => exact ⟨0, Nat.zero_le _, rfl⟩
  case round =>
    obtain ⟨k, hk, rfl⟩ := hrel
    by_cases hks : k < s.size
    · obtain ⟨c, hc⟩ : ∃ c, s.data.toList[k]? = some c := ⟨s.data.toList[k]'(by rw [Hlen.out]; exact hks), List.getElem?_eq_getElem _⟩
      have ha := byte_at s k c hc
      have t0 : decide ((k : Int) < (s.size : Int)) = true := by simp; omega
      by_cases hlt : k < D
      · have hcd := H2.out k c hlt hc
        have hb : 48 ≤ c.toNat ∧ c.toNat ≤ 57 := by unfold isD at hcd; simpa using hcd
        obtain ⟨hb1, hb2⟩ := hb
        clear hcd hc
        go_wp2
        go_round
        case rel => exact ⟨k + 1, by omega, by go_num⟩
        case measure => simp [intOf] <;> omega
      · obtain rfl : k = D := by omega
        have hcd := H3.out c hc
        have dd : decide ((48 : Int) ≤ (c.toNat : Int)) = false ∨ (decide ((48 : Int) ≤ (c.toNat : Int)) = true ∧ decide ((c.toNat : Int) ≤ 57) = false) := by
          unfold isD at hcd
          simp only [Bool.and_eq_false_iff, decide_eq_false_iff_not] at hcd
          by_cases h : 48 ≤ c.toNat
          · exact .inr ⟨by simp; omega, by simp; omega⟩
          · exact .inl (by simp; omega)
        clear hcd hc
        rcases dd with d1 | ⟨d1, d2⟩
        all_goals
          go_wp2
          go_ret
          exact ⟨rfl, rfl⟩
    · obtain rfl : k = D := by omega
      have t0 : decide ((k : Int) < (s.size : Int)) = false := by simp; omega
      go_wp2
      go_ret
      exact ⟨rfl, rfl⟩

end Go.Proofs.YtccidoigjdbepaaDoor.Dec

/- DecB -/
namespace Go.Proofs.YtccidoigjdbepaaDoor.Dec
open Go.RowKit
set_option maxRecDepth 100000

theorem formed_empty (w : World) : Calls Tryd.prog 94 #[sv []] w fun e w' => e = .returned (.bool false) ∧ Below w.heap.size w w' := by
  go_enter Tryd.func94, Tryd.ntmps94
  go_wp2
  go_ret
  exact ⟨rfl, Below.refl _ _⟩

theorem formed_short (l : List UInt8) (D : Nat) (w : World) (hl : l ≠ []) (hn : l.length ≤ 1000000000) (hD : LeadD l D) (hlt : D < l.length) :
    Calls Tryd.prog 94 #[sv l] w fun e w' => e = .returned (.bool false) ∧ Below w.heap.size w w' := by
  have he : (ByteArray.mk ⟨l⟩).toList.isEmpty = false := by simp; exact hl
  have hsz : (ByteArray.mk ⟨l⟩).size = l.length := rfl
  have HC := Lib.hid (fun W => prefix_any ⟨⟨l⟩⟩ D W hn hD)
  have hne : ((D : Int) != (l.length : Int)) = true := by rw [bne_iff_ne]; omega
  unfold sv
  generalize ByteArray.mk ⟨l⟩ = s at *
  go_enter Tryd.func94, Tryd.ntmps94
  go_wp2_with fail
  refine (HC.out _).mono ?_; rintro e w1 ⟨rfl, hb1⟩
  go_wp2
  go_ret
  exact ⟨rfl, hb1⟩

theorem formed_zero (w : World) : Calls Tryd.prog 94 #[sv [48]] w fun e w' => e = .returned (.bool true) ∧ Below w.heap.size w w' := by
  have HC := Lib.hid (fun W => prefix_any ⟨⟨[48]⟩⟩ 1 W (by decide) ⟨by decide, (fun j c hj hc => by
    obtain rfl : j = 0 := by omega
    simp at hc; subst hc; rfl), fun c hc => by simp at hc⟩)
  go_enter Tryd.func94, Tryd.ntmps94
  go_wp2_with fail
  refine (HC.out _).mono ?_; rintro e w1 ⟨rfl, hb1⟩
  go_wp2
  go_ret
  exact ⟨rfl, hb1⟩

theorem formed_full (a : UInt8) (t : List UInt8) (w : World) (hn : (a :: t).length ≤ 1000000000) (hD : LeadD (a :: t) (a :: t).length) (hz : a :: t ≠ [48]) :
    Calls Tryd.prog 94 #[sv (a :: t)] w fun e w' => e = .returned (.bool (decide (a ≠ 48))) ∧ Below w.heap.size w w' := by
  have he : (ByteArray.mk ⟨a :: t⟩).toList.isEmpty = false := by simp
  have hsz : (ByteArray.mk ⟨a :: t⟩).size = t.length + 1 := rfl
  have h48 : ((ByteArray.mk ⟨a :: t⟩).toList == [48]) = false := by
    rw [beq_eq_false_iff_ne]; simpa using hz
  have h0 := byte_at (ByteArray.mk ⟨a :: t⟩) 0 a rfl
  have HC := Lib.hid (fun W => prefix_any ⟨⟨a :: t⟩⟩ (t.length + 1) W hn hD)
  have hne : ((t.length : Int) + 1 != (t.length : Int) + 1) = false := by simp
  have hn' : t.length ≤ 1000000000 := by simp at hn; omega
  have hpos : 0 < (ByteArray.mk ⟨a :: t⟩).size := by rw [hsz]; omega
  unfold sv
  clear hn hD hz
  have key : ((a.toNat : Int) != 48) = decide (a ≠ 48) := by
    by_cases h : a = 48
    · subst h; rfl
    · rw [decide_eq_true h, bne_iff_ne]
      intro e
      exact h (UInt8.toNat_inj.1 (by simpa using (Int.ofNat.inj e : a.toNat = 48)))
  have Hkey := Lib.hid key
  clear key
  generalize ByteArray.mk ⟨a :: t⟩ = s at *
  go_enter Tryd.func94, Tryd.ntmps94
  go_wp2_with fail
  refine (HC.out _).mono ?_; rintro e w1 ⟨rfl, hb1⟩
  go_wp2
  go_ret
  exact ⟨by rw [← Hkey.out]; rfl, hb1⟩

theorem formed_yes (l : List UInt8) (w : World) (hn : l.length ≤ 1000000000) (h : Formed l) :
    Calls Tryd.prog 94 #[sv l] w fun e w' => e = .returned (.bool true) ∧ Below w.heap.size w w' := by
  obtain ⟨h1, h2, h3⟩ := h
  cases l with
  | nil => exact absurd rfl h1
  | cons a t =>
    by_cases hz : a :: t = [48]
    · rw [hz]; exact formed_zero w
    · have hD : LeadD (a :: t) (a :: t).length := ⟨Nat.le_refl _, fun j c _ hc => h2 c (List.mem_of_getElem? hc), fun c hc => by simp at hc⟩
      have := formed_full a t w hn hD hz
      have ha : a ≠ 48 := by
        rcases h3 with h3 | h3
        · exact absurd h3 hz
        · simpa using h3
      rwa [decide_eq_true ha] at this

theorem formed_no (l : List UInt8) (w : World) (hn : l.length ≤ 1000000000) (h : ¬ Formed l) :
    Calls Tryd.prog 94 #[sv l] w fun e w' => e = .returned (.bool false) ∧ Below w.heap.size w w' := by
  cases l with
  | nil => exact formed_empty w
  | cons a t =>
    obtain ⟨D, hD⟩ := leadD_some (a :: t)
    by_cases hlt : D < (a :: t).length
    · exact formed_short (a :: t) D w (by simp) hn hD hlt
    · obtain rfl : D = (a :: t).length := by have := hD.1; omega
      have hall : ∀ c ∈ a :: t, isD c = true := by
        intro c hc
        obtain ⟨j, hj, rfl⟩ := List.mem_iff_getElem.1 hc
        exact hD.2.1 j _ hj (List.getElem?_eq_getElem hj)
      have hz : a :: t ≠ [48] := fun e => h ⟨by simp, hall, .inl e⟩
      have ha : a = 48 := by
        by_cases e : a = 48
        · exact e
        · exact absurd ⟨by simp, hall, .inr (by simpa using e)⟩ h
      have := formed_full a t w hn hD hz
      have hd : decide (a ≠ 48) = false := by simp [ha]
      rwa [hd] at this

theorem read_form (l : List UInt8) (most : Int) (w : World) (hn : l.length ≤ 1000000000) (h : ¬ Formed l) :
    Calls Tryd.prog 72 #[sv l, .int .u64 most] w fun e w' => e = .returned (.tuple #[.int .u64 0, .int .i64 5]) ∧ Below w.heap.size w w' := by
  go_enter Tryd.func72, Tryd.ntmps72
  go_wp2_with fail
  refine (formed_no l _ hn h).mono ?_; rintro e w1 ⟨rfl, hb1⟩
  go_wp2
  go_ret2
  exact ⟨rfl, hb1⟩

theorem over_no (v d : Nat) (h : 10 * v + d ≤ 18446744073709551615) : decide ((18446744073709551615 - (d : Int)) / 10 < (v : Int)) = false := by
  rw [decide_eq_false_iff_not]; omega
theorem over_yes (v d : Nat) (h : 18446744073709551615 < 10 * v + d) : decide ((18446744073709551615 - (d : Int)) / 10 < (v : Int)) = true := by
  rw [decide_eq_true_iff]; omega

theorem read_walk (s : ByteArray) (l : List UInt8) (hl : s.data.toList = l) (most : Nat) (r : Value) (w : World) (h : Formed l)
    (hF : ∀ W : World, Calls Tryd.prog 94 #[.string s] W fun e w' => e = .returned (.bool true) ∧ Below W.heap.size W w')
    (hr : (dval l ≤ 18446744073709551615 ∧ dval l ≤ most ∧ r = .tuple #[.int .u64 (dval l : Int), .int .i64 0]) ∨ ((18446744073709551615 < dval l ∨ most < dval l) ∧ r = .tuple #[.int .u64 0, .int .i64 6])) :
    Calls Tryd.prog 72 #[.string s, .int .u64 (most : Int)] w fun e w' => e = .returned r ∧ Below w.heap.size w w' := by
  have Hr := Lib.hid hr
  have HF := Lib.hid hF
  have Hm := Lib.hid (fun k => dval_mono l k)
  have Hall := Lib.hid h.2.1
  have Hat := Lib.hid (fun k c (hk : k < s.size) hc => rune_at s k c hk hc)
  have Hlen := Lib.hid (show l.length = s.size by rw [← hl]; rfl)
  have Hl := Lib.hid hl
  clear hr hF h hl
  go_enter Tryd.func72, Tryd.ntmps72
  go_wp2_with fail
  refine (HF.out _).mono ?_; rintro e w1 ⟨rfl, hb1⟩
  go_wp2_with fail
  go_loopw [6] (fun v wr => ∃ k : Nat, k ≤ s.size ∧ wr = w1.iter s k ∧ v = .int .u64 (dval (l.take k) : Int) ∧ dval (l.take k) ≤ 18446744073709551615) (fun _ wr => s.size - wr.iterPos w1.heap.size)
  case atStart => exact ⟨0, Nat.zero_le _, rfl, rfl, by simp [dval]⟩
  case round =>
    obtain ⟨k, hk, rfl, rfl, hle⟩ := hrel
    have hb2 : Below w.heap.size w (w1.iter s k) := hb1.alloc hb1.size _
    by_cases hks : k < s.size
    · obtain ⟨c, hc⟩ : ∃ c, l[k]? = some c := ⟨l[k]'(by rw [Hlen.out]; exact hks), List.getElem?_eq_getElem _⟩
      have hcd := Hall.out c (List.mem_of_getElem? hc)
      have hnx := fun ty => run_next_any (P := Tryd.prog) w1 s k ty hks
      rw [(Hat.out k c hks (by rw [Hl.out]; exact hc)).1 hcd] at hnx
      have hb : 48 ≤ c.toNat ∧ c.toNat ≤ 57 := by unfold isD at hcd; simpa using hcd
      obtain ⟨d, hd, hd9⟩ : ∃ d : Nat, (c.toNat : Int) - 48 = (d : Int) ∧ d ≤ 9 := ⟨c.toNat - 48, by omega, by omega⟩
      have Hs := Lib.hid (show dval (l.take (k + 1)) = 10 * dval (l.take k) + d by rw [dval_snoc l k c hc]; omega)
      have Hms := Lib.hid (Hm.out (k + 1))
      obtain ⟨hb1', hb2'⟩ := hb
      clear hcd hc
      generalize dval (l.take k) = v at *
      by_cases hov : 10 * v + d ≤ 18446744073709551615
      · have t := over_no v d hov
        go_wp2
        go_roundw
        case rel => exact ⟨k + 1, by omega, rfl, by rw [Hs.out]; go_num, by rw [Hs.out]; exact hov⟩
        case measure => simp <;> omega
      · have t := over_yes v d (by omega)
        have hfin : r = .tuple #[.int .u64 0, .int .i64 6] := by
          have h1 := Hms.out
          rw [Hs.out] at h1
          rcases Hr.out with ⟨h2, _, _⟩ | ⟨_, h2⟩
          · omega
          · exact h2
        have Hfin := Lib.hid hfin
        clear hfin hov
        go_wp2
        go_ret2
        exact ⟨by rw [Hfin.out]; rfl, hb1.alloc hb1.size _⟩
    · obtain rfl : k = s.size := by omega
      have hnx := fun ty => run_next_end (P := Tryd.prog) w1 s s.size ty hks
      have hfull : l.take s.size = l := List.take_of_length_le (Nat.le_of_eq Hlen.out)
      rw [hfull] at hle ⊢
      clear hfull
      generalize dval l = v at *
      by_cases hgt : most < v
      · have hfin : r = .tuple #[.int .u64 0, .int .i64 6] := by
          rcases Hr.out with ⟨_, h2, _⟩ | ⟨_, h2⟩
          · omega
          · exact h2
        have Hfin := Lib.hid hfin
        clear hfin
        go_wp2
        go_ret2
        exact ⟨by rw [Hfin.out]; rfl, hb1.alloc hb1.size _⟩
      · have hfin : r = .tuple #[.int .u64 (v : Int), .int .i64 0] := by
          rcases Hr.out with ⟨_, _, h2⟩ | ⟨h2, _⟩
          · exact h2
          · omega
        have Hfin := Lib.hid hfin
        clear hfin
        go_wp2
        go_ret2
        exact ⟨by rw [Hfin.out]; rfl, hb1.alloc hb1.size _⟩

end Go.Proofs.YtccidoigjdbepaaDoor.Dec

/- DecC -/
namespace Go.Proofs.YtccidoigjdbepaaDoor.Dec
open Go.RowKit
set_option maxRecDepth 100000

theorem refRead_empty (most : Int) (w : World) : Calls Tryd.prog 73 #[sv [], .int .u64 most] w fun e w' => e = .returned (.tuple #[.int .u64 0, .int .i64 5]) ∧ w = w' := by
  go_enter Tryd.func73, Tryd.ntmps73
  go_wp2
  go_ret2
  exact ⟨rfl, rfl⟩

theorem refRead_short (s : ByteArray) (D : Nat) (most : Int) (w : World) (h0 : 0 < s.size) (hn : s.size ≤ 1000000000) (hD : LeadD s.data.toList D) (hlt : D < s.size) :
    Calls Tryd.prog 73 #[.string s, .int .u64 most] w fun e w' => e = .returned (.tuple #[.int .u64 0, .int .i64 5]) ∧ w = w' := by
  have t0 : ((s.size : Int) == 0) = false := by rw [beq_eq_false_iff_ne]; omega
  have t1 : decide ((D : Int) < (s.size : Int)) = true := by simp; omega
  go_enter Tryd.func73, Tryd.ntmps73
  go_wp2_with fail
  refine (refPrefix_any s D _ hn hD).mono ?_; rintro e w1 ⟨rfl, rfl⟩
  go_wp2
  go_ret2
  exact ⟨rfl, rfl⟩

theorem refRead_nought (s : ByteArray) (most : Int) (w : World) (h1 : 1 < s.size) (hn : s.size ≤ 1000000000) (hD : LeadD s.data.toList s.size) (h48 : s.data.toList[0]? = some 48) :
    Calls Tryd.prog 73 #[.string s, .int .u64 most] w fun e w' => e = .returned (.tuple #[.int .u64 0, .int .i64 5]) ∧ w = w' := by
  have t0 : ((s.size : Int) == 0) = false := by rw [beq_eq_false_iff_ne]; omega
  have t1 : decide ((s.size : Int) < (s.size : Int)) = false := by simp
  have t2 : decide ((1 : Int) < (s.size : Int)) = true := by simp; omega
  have ha := byte_at s 0 48 h48
  have hp : 0 < s.size := by omega
  go_enter Tryd.func73, Tryd.ntmps73
  go_wp2_with fail
  refine (refPrefix_any s s.size _ hn hD).mono ?_; rintro e w1 ⟨rfl, rfl⟩
  go_wp2
  go_ret2
  exact ⟨rfl, rfl⟩

theorem lead_of_formed (l : List UInt8) (h : Formed l) : LeadD l l.length := ⟨Nat.le_refl _, fun _ c _ hc => h.2.1 c (List.mem_of_getElem? hc), fun c hc => by simp at hc⟩

theorem refRead_form (l : List UInt8) (most : Int) (w : World) (hn : l.length ≤ 1000000000) (h : ¬ Formed l) :
    Calls Tryd.prog 73 #[sv l, .int .u64 most] w fun e w' => e = .returned (.tuple #[.int .u64 0, .int .i64 5]) ∧ w = w' := by
  cases l with
  | nil => exact refRead_empty most w
  | cons a t =>
    obtain ⟨D, hD⟩ := leadD_some (a :: t)
    have hsz : (ByteArray.mk ⟨a :: t⟩).size = (a :: t).length := rfl
    by_cases hlt : D < (a :: t).length
    · exact refRead_short ⟨⟨a :: t⟩⟩ D most w (by rw [hsz]; simp) hn hD hlt
    · obtain rfl : D = (a :: t).length := by have := hD.1; omega
      have hall : ∀ c ∈ a :: t, isD c = true := by
        intro c hc
        obtain ⟨j, hj, rfl⟩ := List.mem_iff_getElem.1 hc
        exact hD.2.1 j _ hj (List.getElem?_eq_getElem hj)
      have ha : a = 48 := by
        by_cases e : a = 48
        · exact e
        · exact absurd ⟨by simp, hall, .inr (by simpa using e)⟩ h
      have ht : 1 < (a :: t).length := by
        cases t with
        | nil => exact absurd ⟨by simp, hall, .inl (by rw [ha])⟩ h
        | cons b u => simp
      exact refRead_nought ⟨⟨a :: t⟩⟩ most w ht hn hD (by show (a :: t)[0]? = some 48; rw [ha]; rfl)

theorem refRead_walk (s : ByteArray) (l : List UInt8) (hl : s.data.toList = l) (most : Nat) (r : Value) (w : World) (hn : s.size ≤ 1000000000) (h : Formed l) (hmost : most ≤ 18446744073709551615)
    (hr : (dval l ≤ most ∧ r = .tuple #[.int .u64 (dval l : Int), .int .i64 0]) ∨ (most < dval l ∧ r = .tuple #[.int .u64 0, .int .i64 6])) :
    Calls Tryd.prog 73 #[.string s, .int .u64 (most : Int)] w fun e w' => e = .returned r ∧ w = w' := by
  have Hr := Lib.hid hr
  have Hm := Lib.hid (fun k => dval_mono l k)
  have Hall := Lib.hid h.2.1
  have hlen : l.length = s.size := by rw [← hl]; rfl
  have HP := Lib.hid (fun W => refPrefix_any s s.size W hn (by rw [hl, ← hlen]; exact lead_of_formed l h))
  have h0 : 0 < s.size := by
    rcases Nat.eq_zero_or_pos s.size with e | e
    · exact absurd (List.eq_nil_of_length_eq_zero (by omega)) h.1
    · exact e
  have t0 : ((s.size : Int) == 0) = false := by rw [beq_eq_false_iff_ne]; omega
  have t1 : decide ((s.size : Int) < (s.size : Int)) = false := by simp
  obtain ⟨c0, hc0⟩ : ∃ c, l[0]? = some c := ⟨l[0]'(by omega), List.getElem?_eq_getElem _⟩
  have ha0 := byte_at s 0 c0 (by rw [hl]; exact hc0)
  have tt : decide ((1 : Int) < (s.size : Int)) = false ∨ (decide ((1 : Int) < (s.size : Int)) = true ∧ ((c0.toNat : Int) == 48) = false) := by
    rcases h.2.2 with e | e
    · refine .inl ?_
      have : s.size = 1 := by rw [← hlen, e]; rfl
      simp; omega
    · by_cases h1 : 1 < s.size
      · refine .inr ⟨by simp; omega, ?_⟩
        exact byte_ne (x := c0) (c := 48) (fun e2 => e (by rw [hc0, e2]))
      · exact .inl (by simp; omega)
  have Hlen := Lib.hid hlen
  have Hl := Lib.hid hl
  clear hr h hl hc0 hlen
  rcases tt with t2 | ⟨t2, t3⟩
  all_goals
    go_enter Tryd.func73, Tryd.ntmps73
    go_wp2_with fail
    refine (HP.out _).mono ?_; rintro e w1 ⟨rfl, rfl⟩
    go_wp2_with fail
    go_loop [6, 7] (fun v i => ∃ k : Nat, k ≤ s.size ∧ i = .int .i64 k ∧ v = .int .u64 (dval (l.take k) : Int) ∧ dval (l.take k) ≤ most) (fun _ i => s.size - (intOf i).toNat)
    case atStart => exact ⟨0, Nat.zero_le _, rfl, rfl, by simp [dval]⟩
    case round =>
      obtain ⟨k, hk, rfl, rfl, hle⟩ := hrel
      by_cases hks : k < s.size
      · obtain ⟨c, hc⟩ : ∃ c, l[k]? = some c := ⟨l[k]'(by rw [Hlen.out]; exact hks), List.getElem?_eq_getElem _⟩
        have hcd := Hall.out c (List.mem_of_getElem? hc)
        have ha := byte_at s k c (by rw [Hl.out]; exact hc)
        have hb : 48 ≤ c.toNat ∧ c.toNat ≤ 57 := by unfold isD at hcd; simpa using hcd
        obtain ⟨d, hd, hd9⟩ : ∃ d : Nat, (c.toNat : Int) - 48 = (d : Int) ∧ d ≤ 9 := ⟨c.toNat - 48, by omega, by omega⟩
        have Hs := Lib.hid (show dval (l.take (k + 1)) = 10 * dval (l.take k) + d by rw [dval_snoc l k c hc]; omega)
        have Hms := Lib.hid (Hm.out (k + 1))
        obtain ⟨hb1', hb2'⟩ := hb
        clear hcd hc
        generalize dval (l.take k) = v at *
        by_cases hov : 10 * v + d ≤ most
        · have f1 : decide ((most : Int) / 10 < (v : Int)) = false := by rw [decide_eq_false_iff_not]; omega
          have f2 : decide ((most : Int) - (d : Int) < 10 * (v : Int)) = false := by rw [decide_eq_false_iff_not]; omega
          have f3 : decide (most < d) = false := by simp; omega
          have f4 : d ≤ most := by omega
          go_wp2
          go_round
          case rel => exact ⟨k + 1, by omega, by go_num, by rw [Hs.out]; go_num, by rw [Hs.out]; exact hov⟩
          case measure => simp [intOf] <;> omega
        · have hfin : r = .tuple #[.int .u64 0, .int .i64 6] := by
            have h1 := Hms.out
            rw [Hs.out] at h1
            rcases Hr.out with ⟨h2, _⟩ | ⟨_, h2⟩
            · omega
            · exact h2
          have Hfin := Lib.hid hfin
          clear hfin
          by_cases g1 : most / 10 < v
          · have f1 : decide ((most : Int) / 10 < (v : Int)) = true := by rw [decide_eq_true_iff]; omega
            go_wp2
            go_ret2
            exact ⟨by rw [Hfin.out]; rfl, rfl⟩
          · have f1 : decide ((most : Int) / 10 < (v : Int)) = false := by rw [decide_eq_false_iff_not]; omega
            by_cases g2 : d ≤ most
            · have f2 : decide ((most : Int) - (d : Int) < 10 * (v : Int)) = true := by rw [decide_eq_true_iff]; omega
              go_wp2
              go_ret2
              exact ⟨by rw [Hfin.out]; rfl, rfl⟩
            · have hv0 : v = 0 := by omega
              subst hv0
              have g3 : most < d := by omega
              go_wp2
              go_ret2
              exact ⟨by rw [Hfin.out]; rfl, rfl⟩
      · obtain rfl : k = s.size := by omega
        have hfull : l.take s.size = l := List.take_of_length_le (Nat.le_of_eq Hlen.out)
        rw [hfull] at hle ⊢
        clear hfull
        generalize dval l = v at *
        have hfin : r = .tuple #[.int .u64 (v : Int), .int .i64 0] := by
          rcases Hr.out with ⟨_, h2⟩ | ⟨h2, _⟩
          · exact h2
          · omega
        have Hfin := Lib.hid hfin
        clear hfin
        go_wp2
        go_ret2
        exact ⟨by rw [Hfin.out]; rfl, rfl⟩

end Go.Proofs.YtccidoigjdbepaaDoor.Dec

/- DecD -/
namespace Go.Proofs.YtccidoigjdbepaaDoor.Dec
open Go.RowKit Go.Sort
set_option maxRecDepth 100000

/-- The library's table of powers lies as it was laid. -/
abbrev Tab (w : World) : Prop := Lib.TabIs Tryd.prog w "internal/strconv.uint64pow10" .u64 Lib.pow10Tab

theorem Tab.on {w w' : World} (h : Tab w) (hb : Below w.heap.size w w') : Tab w' := by
  unfold Tab Lib.TabIs World.var? at *
  cases hg : Tryd.prog.globalNamed "internal/strconv.uint64pow10" with
  | none => rw [hg] at h; simp at h
  | some g =>
    rw [hg] at h
    simp only [Option.bind_some] at h ⊢
    have hlt : g < w.heap.size := by
      rcases Nat.lt_or_ge g w.heap.size with h1 | h1
      · exact h1
      · rw [Array.getElem?_eq_none h1] at h; simp at h
    rw [hb.block g hlt]
    exact h

set_option maxRecDepth 100000 in
theorem fmt_small (u : Nat) (w : World) (h : u < 100) :
    Calls Tryd.prog 108 #[.int .u64 (u : Int), .int .i64 10] w fun e w' => e = .returned (sv (Lib.decDigits u)) ∧ Below w.heap.size w w' := by
  go_enter Tryd.func108, Tryd.ntmps108
  go_wp2_with fail
  refine (Tryd.internal_strconv_small u h _).mono ?_; rintro e w1 ⟨rfl, rfl⟩
  go_wp2
  go_ret
  exact ⟨rfl, Below.refl _ _⟩

set_option maxRecDepth 100000 in
theorem fmt_big (u : Nat) (w : World) (hu : 100 ≤ u) (hu64 : u < 18446744073709551616) (htab : Tab w) :
    Calls Tryd.prog 108 #[.int .u64 (u : Int), .int .i64 10] w fun e w' => e = .returned (sv (Lib.decDigits u)) ∧ Below w.heap.size w w' := by
  have hu1 : 1 ≤ u := by omega
  have hnd20 : Lib.nDigits u ≤ 20 := by have := Lib.numDigits_eq u hu1 hu64; split at this <;> omega
  have hal : Tryd.prog.arrayLen 139 = 24 := by simp [Program.arrayLen, Tryd.underlying139]
  have hsl : ∀ W, (Instr.sliceAt 139 (.pointer (some ⟨w.heap.size, 0, none⟩)) none (some (.int .i64 (Lib.nDigits u : Int))) none).run Tryd.prog W = .ok (.slice (some ⟨w.heap.size, 0, none⟩) (Lib.nDigits u) 24) W := fun W => by
    rw [run_sliceAt_array_h W 139 ⟨w.heap.size, 0, none⟩ (by simp [Program.arrayLen, Program.elem, Tryd.underlying139]) .i64 (Lib.nDigits u : Int) (by omega) (by rw [hal]; omega)]
    go_simp
  have hH0 := Lib.holds_zero0 w 139 (Lib.nDigits u) (by omega)
  have hfmt := Tryd.internal_strconv_formatBase10 w.heap.size 0 24 u (Array.replicate (Lib.nDigits u) 0) (w.alloc (.cells Lib.zeros24 139)) hH0 (by rw [Array.size_replicate]; exact Lib.lt_pow_nDigits u) hu64 (by rw [Array.size_replicate]; omega)
  rw [Array.size_replicate] at hfmt
  have HH0 := Lib.hid hH0
  have Hfmt := Lib.hid hfmt
  have H64 := Lib.hid hu64
  have Htab := Lib.hid (Lib.tabIs_alloc htab (.cells Lib.zeros24 139))
  have iu : (100 : Int) ≤ (u : Int) := by omega
  clear hH0 hal hfmt hu64 htab
  go_enter Tryd.func108, Tryd.ntmps108
  go_wp2_with fail
  refine (Tryd.internal_strconv_numDigits u hu1 H64.out _ Htab.out).mono ?_; rintro e w1 ⟨rfl, rfl⟩
  go_wp2_with fail
  refine Hfmt.out.mono ?_
  rintro e w1 ⟨rfl, k, v', dk, rfl, hF⟩
  have hcell : ∀ j (hj : j < (Lib.decDigits u).length), ((putRow (fun (b : UInt8) => Value.int .u8 (b.toNat : Int)) (w.alloc (.cells Lib.zeros24 139)) w.heap.size 0 dk).drewN k).cell? ((⟨w.heap.size, 0, none⟩ : Addr).add j) = some (.int .u8 ((Lib.decDigits u)[j].toNat : Int)) := by
    intro j hj
    rw [Lib.row_is_numeral hF j hj, Lib.add_plain, World.cell?_drewN]
    exact cell?_putRow (fun (b : UInt8) => Value.int .u8 (b.toNat : Int)) _ w.heap.size 0 _ dk HH0.out (by rw [hF.size, Array.size_replicate]) j (by rw [hF.size]; rw [Lib.decDigits_length] at hj; exact hj)
  have hcv := run_convert_bytes_back (P := Tryd.prog) ((putRow (fun (b : UInt8) => Value.int .u8 (b.toNat : Int)) (w.alloc (.cells Lib.zeros24 139)) w.heap.size 0 dk).drewN k) 26 9 5 ⟨w.heap.size, 0, none⟩ 24 (Lib.decDigits u) Tryd.underlying26 Tryd.underlying5 Tryd.underlying9 hcell
  rw [Lib.decDigits_length] at hcv
  obtain ⟨os, eo⟩ := Lib.fin_at w (.cells Lib.zeros24 139) dk k 0
  have hbel : Below w.heap.size w ((putRow (fun (b : UInt8) => Value.int .u8 (b.toNat : Int)) (w.alloc (.cells Lib.zeros24 139)) w.heap.size 0 dk).drewN k) := by rw [eo]; exact Lib.below_grow w.heap.size w (Nat.le_refl _) k os
  clear hcell eo
  generalize (putRow (fun (b : UInt8) => Value.int .u8 (b.toNat : Int)) (w.alloc (.cells Lib.zeros24 139)) w.heap.size 0 dk).drewN k = w2 at *
  go_wp2
  go_ret
  exact ⟨rfl, hbel⟩

theorem fmt_any (u : Nat) (w : World) (hu64 : u < 18446744073709551616) (htab : Tab w) :
    Calls Tryd.prog 93 #[.int .u64 (u : Int), .int .i64 10] w fun e w' => e = .returned (sv (Lib.decDigits u)) ∧ Below w.heap.size w w' := by
  have HC := Lib.hid (show ∀ W, Tab W → Calls Tryd.prog 108 #[.int .u64 (u : Int), .int .i64 10] W fun e w' => e = .returned (sv (Lib.decDigits u)) ∧ Below W.heap.size W w' from by
    intro W hW
    by_cases h : u < 100
    · exact fmt_small u W h
    · exact fmt_big u W (by omega) hu64 hW)
  have Htab := Lib.hid htab
  clear hu64 htab
  generalize Lib.decDigits u = L at *
  go_enter Tryd.func93, Tryd.ntmps93
  go_wp2_with fail
  refine (HC.out _ Htab.out).mono ?_; rintro e w1 ⟨rfl, hb⟩
  go_wp2
  go_ret
  exact ⟨rfl, hb⟩

theorem text_any (u : Nat) (w : World) (hu64 : u < 18446744073709551616) (htab : Tab w) :
    Calls Tryd.prog 70 #[.int .u64 (u : Int)] w fun e w' => e = .returned (sv (Lib.decDigits u)) ∧ Below w.heap.size w w' := by
  have HC := Lib.hid (fmt_any u w hu64 htab)
  clear hu64 htab
  generalize Lib.decDigits u = L at *
  go_enter Tryd.func70, Tryd.ntmps70
  go_wp2_with fail
  refine HC.out.mono ?_; rintro e w1 ⟨rfl, hb⟩
  go_wp2
  go_ret
  exact ⟨rfl, hb⟩

theorem str_add (a b : List UInt8) : (ByteArray.mk ⟨a⟩ ++ ByteArray.mk ⟨b⟩) = ByteArray.mk ⟨a ++ b⟩ := ByteArray.mk_append_mk a b

theorem dec_len (u : Nat) (h : u < 18446744073709551616) : (Lib.decDigits u).length ≤ 20 := by
  rw [Lib.decDigits_length]
  by_cases h1 : 1 ≤ u
  · have := Lib.numDigits_eq u h1 h; split at this <;> omega
  · obtain rfl : u = 0 := by omega
    rw [← Lib.decDigits_length, dec_small 0 (by omega)]
    simp

/-- The reference's digits. -/
theorem refText_any : ∀ (f u : Nat) (w : World), u < 10 ^ f → u < 18446744073709551616 →
    Calls Tryd.prog 71 #[.int .u64 (u : Int)] w fun e w' => e = .returned (sv (Lib.decDigits u)) ∧ Below w.heap.size w w' := by
  intro f
  induction f with
  | zero =>
    intro u w hu h64
    obtain rfl : u = 0 := by simpa using hu
    have H := Lib.hid (dec_small 0 (by omega))
    have ht := run_text (w.alloc (.cells #[.int .u8 48] 5)) (some ⟨w.heap.size, 0, none⟩) 1 1 [48] (shows_new w _ [48] rfl)
    go_enter Tryd.func71, Tryd.ntmps71
    go_wp2
    go_ret
    exact ⟨ret_string (by rw [H.out]; rfl), (Below.refl _ _).alloc (Nat.le_refl _) _⟩
  | succ f ih =>
    intro u w hu h64
    have Hih := Lib.hid ih
    clear ih
    obtain ⟨r, hr, hr10, Hr⟩ : ∃ r : Nat, (u : Int) % 10 = (r : Int) ∧ r < 10 ∧ Hid (u % 10 = r) := ⟨u % 10, by omega, by omega, rfl⟩
    obtain ⟨c, hc, hc'⟩ : ∃ c : UInt8, (48 : Int) + (r : Int) = (c.toNat : Int) ∧ c = UInt8.ofNat (48 + r) := ⟨UInt8.ofNat (48 + r), by rw [digit_of r hr10]; omega, rfl⟩
    have Hc := Lib.hid hc'
    have hcm : (c.toNat : Int) % 256 = (c.toNat : Int) := by have := c.toNat_lt; omega
    clear hc'
    have ht := run_text (w.alloc (.cells #[.int .u8 (c.toNat : Int)] 5)) (some ⟨w.heap.size, 0, none⟩) 1 1 [c] (shows_new w _ [c] rfl)
    by_cases h : u < 10
    · have H := Lib.hid (show Lib.decDigits u = [c] by rw [dec_small u h, Hc.out, ← Hr.out]; congr 2; omega)
      clear hu h64
      go_enter Tryd.func71, Tryd.ntmps71
      go_wp2
      go_ret
      exact ⟨ret_string (by rw [H.out]), (Below.refl _ _).alloc (Nat.le_refl _) _⟩
    · obtain ⟨q, hq, Hq⟩ : ∃ q : Nat, (u : Int) / 10 = (q : Int) ∧ Hid (u / 10 = q) := ⟨u / 10, by omega, rfl⟩
      have H := Lib.hid (show Lib.decDigits u = Lib.decDigits q ++ [c] by rw [dec_step u (by omega), Hq.out, Hr.out, Hc.out])
      have HQ := Lib.hid (show q < 10 ^ f by
        have := Hq.out
        rw [Nat.pow_succ] at hu
        omega)
      have HQ64 := Lib.hid (show q < 18446744073709551616 by have := Hq.out; omega)
      have hl := dec_len q HQ64.out
      have h64' : u ≤ 18446744073709551615 := by omega
      clear hu h64
      generalize hE : Lib.decDigits q = E at *
      have HE := Lib.hid hE
      clear hE
      go_enter Tryd.func71, Tryd.ntmps71
      go_wp2_with fail
      refine (Hih.out q _ HQ.out HQ64.out).mono ?_
      rintro e w1 ⟨rfl, hb⟩
      rw [HE.out]
      have hb1 := Below.step (Below.refl w.heap.size w) (Nat.le_refl _) hb
      clear hb ht
      go_wp2
      go_ret
      exact ⟨ret_string (by rw [H.out]; exact str_add _ _), hb1⟩

end Go.Proofs.YtccidoigjdbepaaDoor.Dec
