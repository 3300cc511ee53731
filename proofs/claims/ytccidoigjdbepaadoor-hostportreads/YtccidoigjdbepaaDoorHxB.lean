
/- Layer 12. How an endpoint's text is parted; contracts: crawlwayref12.cut, strings.CutPrefix at one letter, hostport.part. -/
import Derived.Test.YtccidoigjdbepaaDoorHxA
import Derived.Test.YtccidoigjdbepaaDoorCxE
namespace Go.Proofs.YtccidoigjdbepaaDoor
open Go.RowKit Dec Lin
set_option maxRecDepth 100000
set_option linter.unusedVariables false
set_option linter.unusedSimpArgs false

theorem occ_ab (a b : UInt8) (l : List UInt8) (k : Nat) : Lib.occAt l [a, b] k = (l[k]? == some a && l[k + 1]? == some b) := by
  unfold Lib.occAt
  rcases hd : l.drop k with _ | ⟨x, t⟩
  · have h0 : l[k]? = none := by rw [List.getElem?_eq_none_iff]; exact List.drop_eq_nil_iff.1 hd
    rw [h0]; rfl
  · have h0 : l[k]? = some x := by have := List.getElem?_drop (xs := l) (i := k) (j := 0); rw [hd] at this; simpa using this.symm
    rcases t with _ | ⟨y, u⟩
    · have h1 : l[k + 1]? = none := by have := List.getElem?_drop (xs := l) (i := k) (j := 1); rw [hd] at this; simpa using this.symm
      rw [h0, h1]
      simp [List.isPrefixOf]
    · have h1 : l[k + 1]? = some y := by have := List.getElem?_drop (xs := l) (i := k) (j := 1); rw [hd] at this; simpa using this.symm
      rw [h0, h1]
      simp [List.isPrefixOf, Bool.beq_comm]
/-- What stands ahead of the first ]:, and behind it. -/
def kC (l : List UInt8) : List UInt8 × List UInt8 × Bool := Lib.cut l [93, 58]
def kR (l : List UInt8) : List UInt8 × List UInt8 × Bool := if (kC l).2.2 = true then kC l else ([], [], false)
theorem kR_at (l : List UInt8) (k : Nat) (hk : k + 1 < l.length) (h0 : l[k]? = some 93) (h1 : l[k + 1]? = some 58) (hn : ∀ j < k, Lib.occAt l [93, 58] j = false) : kR l = (l.take k, l.drop (k + 2), true) := by
  have hi : Lib.index l [93, 58] = (k : Int) := Lib.index_first (by omega) (by rw [occ_ab, h0, h1]; rfl) hn
  have hc : kC l = (l.take k, l.drop (k + 2), true) := by
    unfold kC Lib.cut
    rw [if_pos (by omega), hi]
    rfl
  unfold kR
  rw [hc]
  rfl
theorem kR_none (l : List UInt8) (k : Nat) (hk : l.length ≤ k + 1) (hn : ∀ j < k, Lib.occAt l [93, 58] j = false) : kR l = ([], [], false) := by
  have hi : Lib.index l [93, 58] = -1 := Lib.index_none fun j hj => by
    rcases Nat.lt_or_ge j k with h | h
    · exact hn j h
    · rw [occ_ab, show l[j + 1]? = none by rw [List.getElem?_eq_none_iff]; omega]
      simp
  have hc : kC l = (l, [], false) := by
    unfold kC Lib.cut
    rw [if_neg (by omega)]
  unfold kR
  rw [hc]
  rfl
theorem occ_next2 (l : List UInt8) (k : Nat) (h : ¬ (l[k]? = some 93 ∧ l[k + 1]? = some 58)) (hn : ∀ j < k, Lib.occAt l [93, 58] j = false) : ∀ j < k + 1, Lib.occAt l [93, 58] j = false := by
  intro j hj
  rcases Nat.lt_or_ge j k with h' | h'
  · exact hn j h'
  · obtain rfl : j = k := by omega
    rw [occ_ab]
    simpa using h

set_option maxHeartbeats 1000000 in
theorem refhcut_any (l : List UInt8) (w : World) (hn : l.length ≤ 1000000) :
    Calls Tryd.prog 75 #[sv l] w fun e w' => e = .returned (.tuple #[sv (kR l).1, sv (kR l).2.1, .bool (kR l).2.2]) ∧ Below w.heap.size w w' := by
  have HA := Lib.hid (fun k hk h0 h1 hj => kR_at l k hk h0 h1 hj)
  have HN := Lib.hid (fun k hk hj => kR_none l k hk hj)
  have HO := Lib.hid (fun k h hj => occ_next2 l k h hj)
  have hsz : (ByteArray.mk ⟨l⟩).size = l.length := rfl
  have Hat := Lib.hid (fun i c => byte_at (ByteArray.mk ⟨l⟩) i c)
  have HL := Lib.hid (show (ByteArray.mk ⟨l⟩).data.toList = l from rfl)
  have HE1 := Lib.hid (fun k : Nat => show (ByteArray.mk ⟨l⟩).extract 0 k = ⟨⟨l.take k⟩⟩ by rw [text_cut]; simp)
  have HE2 := Lib.hid (fun k : Nat => show (ByteArray.mk ⟨l⟩).extract (k + 2) l.length = ⟨⟨l.drop (k + 2)⟩⟩ by rw [text_cut, List.take_length])
  unfold sv
  generalize ByteArray.mk ⟨l⟩ = s at *
  generalize kR l = G at *
  generalize hN : l.length = N at *
  have HNl := Lib.hid hN
  clear hN
  go_enter Tryd.func75, Tryd.ntmps75
  go_wp2
  go_loopw [5] (fun i wr => ∃ k : Nat, k ≤ N ∧ i = .int .i64 (k : Int) ∧ Hid (∀ j < k, Lib.occAt l [93, 58] j = false) ∧ w = wr) (fun i _ => N - (intOf i).toNat)
  case atStart => exact ⟨0, Nat.zero_le _, rfl, Lib.hid (fun j hj => absurd hj (by omega)), rfl⟩
  case round =>
    obtain ⟨k, hkN, rfl, hj, rfl⟩ := hrel
    by_cases hlt : k + 1 < N
    · obtain ⟨c, hc⟩ : ∃ c, l[k]? = some c := ⟨l[k]'(by rw [HNl.out]; omega), List.getElem?_eq_getElem _⟩
      obtain ⟨d, hd⟩ : ∃ d, l[k + 1]? = some d := ⟨l[k + 1]'(by rw [HNl.out]; omega), List.getElem?_eq_getElem _⟩
      have ha := Hat.out k c (by rw [HL.out]; exact hc)
      have hb := Hat.out (k + 1) d (by rw [HL.out]; exact hd)
      have hkI : (k : Int) + 1 < (N : Int) := by omega
      have hk0 : (0 : Int) ≤ (k : Int) + 1 := by omega
      have hkt : ((k : Int) + 1).toNat = k + 1 := by omega
      have hkw : IntKind.i64.wrap ((k : Int) + 2) = (k : Int) + 2 := IntWalk.i64_in _ (by omega)
      have hk2 : (k : Int) + 2 ≤ (N : Int) := by omega
      have hk3 : (0 : Int) ≤ (k : Int) + 2 := by omega
      have hk4 : ((k : Int) + 2).toNat = k + 2 := by omega
      have hk5 : (k : Int) ≤ (N : Int) := by omega
      have Hc := Lib.hid hc
      have Hd := Lib.hid hd
      clear hc hd
      by_cases h1 : c = 93
      · subst h1
        by_cases h2 : d = 58
        · subst h2
          have HG := Lib.hid (HA.out k hlt Hc.out Hd.out hj.out)
          go_wp2
          go_quiet (fail)
          go_wp2
          go_ret3
          refine ⟨?_, below_draw (Below.refl _ _) _⟩
          rw [HG.out]
          show _ = Ending.returned (.tuple #[.string ⟨⟨l.take k⟩⟩, .string ⟨⟨l.drop (k + 2)⟩⟩, .bool true])
          rw [← HE1.out k, ← HE2.out k]
          rfl
        · have hne : ((d.toNat : Int) == 58) = false := byte_ne (c := 58) h2
          have HJ := Lib.hid (HO.out k (fun h => h2 (by have := h.2; rw [Hd.out] at this; injection this)) hj.out)
          go_wp2
          go_roundw
          case rel => exact ⟨k + 1, by omega, by go_num, HJ, trivial⟩
          case measure => simp [intOf] <;> omega
      · have hne : ((c.toNat : Int) == 93) = false := byte_ne (c := 93) h1
        have HJ := Lib.hid (HO.out k (fun h => h1 (by have := h.1; rw [Hc.out] at this; injection this)) hj.out)
        go_wp2
        go_roundw
        case rel => exact ⟨k + 1, by omega, by go_num, HJ, trivial⟩
        case measure => simp [intOf] <;> omega
    · have hkI : ¬ (k : Int) + 1 < (N : Int) := by omega
      have HG := Lib.hid (HN.out k (by omega) hj.out)
      go_wp2
      go_ret3
      refine ⟨?_, Below.refl _ _⟩
      rw [HG.out]
      rfl

theorem eq_one (c : UInt8) : ((ByteArray.mk ⟨[c]⟩).toList == [91]) = (c == 91) := by
  simp
theorem pre_cons (c : UInt8) (r : List UInt8) (w : World) (hn : r.length ≤ 1000000) :
    Calls Tryd.prog 123 #[sv (c :: r), .string ⟨#[91]⟩] w fun e w' => e = .returned (.bool (c == 91)) ∧ w = w' := by
  have hx : (ByteArray.mk ⟨c :: r⟩).extract 0 1 = ⟨⟨[c]⟩⟩ := by rw [text_cut]; rfl
  have he : (((ByteArray.mk ⟨c :: r⟩).extract 0 1).toList == [91]) = (c == 91) := by rw [hx]; exact eq_one c
  have hsz : (ByteArray.mk ⟨c :: r⟩).size = r.length + 1 := rfl
  have h1 : (1 : Int) ≤ ((r.length + 1 : Nat) : Int) := by omega
  clear hx
  unfold sv
  generalize ByteArray.mk ⟨c :: r⟩ = s at *
  generalize (c == 91) = B at *
  generalize r.length + 1 = N at *
  go_enter Tryd.func123, Tryd.ntmps123
  go_wp2
  go_ret
  exact ⟨rfl, rfl⟩
theorem pre_nil (w : World) :
    Calls Tryd.prog 123 #[sv [], .string ⟨#[91]⟩] w fun e w' => e = .returned (.bool false) ∧ w = w' := by
  go_enter Tryd.func123, Tryd.ntmps123
  go_wp2
  go_ret
  exact ⟨rfl, rfl⟩
theorem cpre_yes (r : List UInt8) (w : World) (hn : r.length ≤ 1000000) :
    Calls Tryd.prog 96 #[sv (91 :: r), .string ⟨#[91]⟩] w fun e w' => e = .returned (.tuple #[sv r, .bool true]) ∧ Below w.heap.size w w' := by
  have HP := Lib.hid (fun W => pre_cons 91 r W hn)
  have hx : (ByteArray.mk ⟨91 :: r⟩).extract 1 (r.length + 1) = ⟨⟨r⟩⟩ := by
    rw [text_cut, List.take_of_length_le (by simp)]
    rfl
  have HX := Lib.hid hx
  have hsz : (ByteArray.mk ⟨91 :: r⟩).size = r.length + 1 := rfl
  have h1 : (1 : Int) ≤ ((r.length + 1 : Nat) : Int) := by omega
  have hb : ((91 : UInt8) == 91) = true := rfl
  rw [hb] at HP
  clear hx hb
  unfold sv at HP ⊢
  generalize ByteArray.mk ⟨91 :: r⟩ = s at *
  generalize r.length + 1 = N at *
  have HL : ∀ W : World, Calls Tryd.prog 110 #[.string s, .string ⟨#[91]⟩] W fun e w' => e = .returned (.tuple #[.string (s.extract 1 N), .bool true]) ∧ W = w' := by
    intro W
    go_enter Tryd.func110, Tryd.ntmps110
    go_wp2_with fail
    refine (HP.out _).mono ?_; rintro e w1 ⟨rfl, hw1⟩
    subst hw1
    go_wp2
    go_ret2
    exact ⟨rfl, rfl⟩
  go_enter Tryd.func96, Tryd.ntmps96
  go_wp2_with fail
  refine (HL _).mono ?_; rintro e w1 ⟨rfl, hw1⟩
  subst hw1
  go_wp2
  go_ret2
  exact ⟨by rw [HX.out]; rfl, Below.refl _ _⟩
theorem cpre_no (l : List UInt8) (w : World) (hn : l.length ≤ 1000000) (h : l[0]? ≠ some 91) :
    Calls Tryd.prog 96 #[sv l, .string ⟨#[91]⟩] w fun e w' => e = .returned (.tuple #[sv l, .bool false]) ∧ Below w.heap.size w w' := by
  have HP : Hid (∀ W : World, Calls Tryd.prog 123 #[sv l, .string ⟨#[91]⟩] W fun e w' => e = .returned (.bool false) ∧ W = w') := Lib.hid (fun W => by
    cases l with
    | nil => exact pre_nil W
    | cons c r =>
      have hc : (c == 91) = false := by rw [beq_eq_false_iff_ne]; intro e; exact h (by rw [e]; rfl)
      have := pre_cons c r W (by simp at hn; omega)
      rw [hc] at this
      exact this)
  unfold sv at HP ⊢
  generalize ByteArray.mk ⟨l⟩ = s at *
  have HL : ∀ W : World, Calls Tryd.prog 110 #[.string s, .string ⟨#[91]⟩] W fun e w' => e = .returned (.tuple #[.string s, .bool false]) ∧ W = w' := by
    intro W
    go_enter Tryd.func110, Tryd.ntmps110
    go_wp2_with fail
    refine (HP.out _).mono ?_; rintro e w1 ⟨rfl, hw1⟩
    subst hw1
    go_wp2
    go_ret2
    exact ⟨rfl, rfl⟩
  go_enter Tryd.func96, Tryd.ntmps96
  go_wp2_with fail
  refine (HL _).mono ?_; rintro e w1 ⟨rfl, hw1⟩
  subst hw1
  go_wp2
  go_ret2
  exact ⟨rfl, Below.refl _ _⟩
theorem cutB_any (l : List UInt8) (hn : l.length ≤ 1000000) (w : World) (hm : Cl.HasM w) :
    Calls Tryd.prog 85 #[sv l, .string ⟨#[93, 58]⟩] w fun e w' => e = .returned (.tuple #[sv (kC l).1, sv (kC l).2.1, .bool (kC l).2.2]) ∧ Below w.heap.size w w' := by
  obtain ⟨m, hm⟩ := hm
  exact (Tryd.strings_Cut ⟨⟨l⟩⟩ ⟨#[93, 58]⟩ m w (by show l.length < _; omega) hm).mono fun e w' ⟨h1, n, h2⟩ => ⟨h1, h2 ▸ below_draw (Below.refl _ _) n⟩
theorem kC_len (l : List UInt8) : (kC l).1.length ≤ l.length ∧ (kC l).2.1.length ≤ l.length := by
  unfold kC Lib.cut
  split
  · simp; omega
  · simp

/-- An endpoint's text, parted: the address's, the port's; is it parted so? -/
def spX (l : List UInt8) : List UInt8 × List UInt8 × Bool :=
  match l with
  | [] => ([], [], false)
  | c :: r => if c = 91 then ((kC r).1, (kC r).2.1, (kC r).2.2 && decide ((58 : UInt8) ∈ (kC r).1)) else ((parts 58 (c :: r)).headD [], (c :: r).drop ((parts 58 (c :: r)).headD []).length.succ, decide ((58 : UInt8) ∈ c :: r))
theorem spX_6 (r : List UInt8) : spX (91 :: r) = ((kC r).1, (kC r).2.1, (kC r).2.2 && decide ((58 : UInt8) ∈ (kC r).1)) := by
  unfold spX
  exact if_pos rfl
theorem spX_4 (a b : List UInt8) (h : (58 : UInt8) ∉ a) (h0 : (a ++ 58 :: b)[0]? ≠ some 91) : spX (a ++ 58 :: b) = (a, b, true) := by
  have e : ∃ c r, a ++ 58 :: b = c :: r := by cases a with | nil => exact ⟨_, _, rfl⟩ | cons x y => exact ⟨_, _, rfl⟩
  obtain ⟨c, r, e⟩ := e
  have hc : ¬ c = 91 := by rintro rfl; exact h0 (by rw [e]; rfl)
  have hp := parts_yes 58 a b h
  have hm : (58 : UInt8) ∈ a ++ 58 :: b := by simp
  have hd : (a ++ 58 :: b).drop (a.length + 1) = b := by rw [show a ++ 58 :: b = (a ++ [58]) ++ b by simp, show a.length + 1 = (a ++ [58]).length by simp, List.drop_left]
  rw [e] at hp hm hd ⊢
  unfold spX
  simp only
  rw [if_neg hc, hp, decide_eq_true hm]
  exact congrArg (fun z => (a, z, true)) hd
theorem spX_no (l : List UInt8) (h : (58 : UInt8) ∉ l) (h0 : l[0]? ≠ some 91) : (spX l).2.2 = false := by
  cases l with
  | nil => rfl
  | cons c r =>
    have hc : ¬ c = 91 := by rintro rfl; exact h0 rfl
    unfold spX
    simp only
    rw [if_neg hc, decide_eq_false h]
theorem lcut_any (h : List UInt8) (hn : h.length ≤ 1000000) : ∃ a b : List UInt8, ∀ w, Calls Tryd.prog 60 #[sv h, .int .u8 58] w fun e w' => e = .returned (.tuple #[sv a, sv b, .bool (decide ((58 : UInt8) ∈ h))]) ∧ Below w.heap.size w w' := by
  rcases cut_cases 58 h with h1 | ⟨a, b, rfl, h1⟩
  · rw [decide_eq_false h1]
    exact ⟨h, [], fun w => same_world (cut_no h 58 w h1)⟩
  · rw [decide_eq_true (show (58 : UInt8) ∈ a ++ 58 :: b by simp)]
    exact ⟨a, b, fun w => cut_yes a b 58 w h1 (by omega)⟩

set_option maxHeartbeats 1000000 in
theorem part_any (l : List UInt8) (hn : l.length ≤ 1000000) : ∃ h t : List UInt8, h.length ≤ 1000000 ∧ t.length ≤ 1000000 ∧ ((spX l).2.2 = true → h = (spX l).1 ∧ t = (spX l).2.1) ∧
    ∀ w, Cl.HasM w → Calls Tryd.prog 74 #[sv l] w fun e w' => e = .returned (.tuple #[sv h, sv t, .bool (spX l).2.2]) ∧ Below w.heap.size w w' := by
  by_cases h0 : l[0]? = some 91
  · obtain ⟨r, rfl⟩ : ∃ r, l = 91 :: r := by
      cases l with
      | nil => cases h0
      | cons c r => injection h0 with h0; subst h0; exact ⟨r, rfl⟩
    rw [spX_6]
    have hr : r.length ≤ 1000000 := by simp at hn; omega
    obtain ⟨a, b, hL⟩ := lcut_any (kC r).1 (Nat.le_trans (kC_len r).1 hr)
    refine ⟨(kC r).1, (kC r).2.1, Nat.le_trans (kC_len r).1 hr, Nat.le_trans (kC_len r).2 hr, fun _ => ⟨rfl, rfl⟩, ?_⟩
    intro w hm
    have HM := Lib.hid hm
    have hpos := hm.pos
    clear hm
    have H1 := Lib.hid (fun W => cpre_yes r W hr)
    have H2 := Lib.hid (fun W h => cutB_any r hr W h)
    have H3 := Lib.hid hL
    clear hL
    unfold sv at H1 H2 H3 ⊢
    generalize decide ((58 : UInt8) ∈ (kC r).1) = B at *
    generalize (kC r).2.2 = K at *
    generalize ByteArray.mk ⟨(kC r).1⟩ = s1 at *
    generalize ByteArray.mk ⟨(kC r).2.1⟩ = s2 at *
    generalize ByteArray.mk ⟨91 :: r⟩ = s at *
    generalize ByteArray.mk ⟨r⟩ = s3 at *
    go_enter Tryd.func74, Tryd.ntmps74
    go_wp2_with fail
    refine (H1.out _).mono ?_; rintro e w1 ⟨rfl, hb1⟩
    go_wp2_with fail
    refine (H2.out _ (HM.out.on hb1 hpos)).mono ?_; rintro e w2 ⟨rfl, hb2⟩
    have b2 := Below.on hb1 hb1.size hb2
    go_wp2_with fail
    refine (H3.out _).mono ?_; rintro e w3 ⟨rfl, hb3⟩
    have b3 := Below.on b2 b2.size hb3
    cases K
    all_goals
      go_wp2
      go_ret3
      exact ⟨rfl, b3⟩
  · rcases cut_cases 58 l with h58 | ⟨a, b, rfl, h58⟩
    · have hno := spX_no l h58 h0
      rw [hno]
      refine ⟨l, [], hn, by simp, (fun h => by cases h), ?_⟩
      intro w hm
      have HM := Lib.hid hm
      have hpos := hm.pos
      clear hm
      have H1 := Lib.hid (fun W => cpre_no l W hn h0)
      have H2 := Lib.hid (fun W => cut_no l 58 W h58)
      unfold sv at H1 H2 ⊢
      generalize ByteArray.mk ⟨l⟩ = s at *
      clear h0 h58 hno
      go_enter Tryd.func74, Tryd.ntmps74
      go_wp2_with fail
      refine (H1.out _).mono ?_; rintro e w1 ⟨rfl, hb1⟩
      go_wp2_with fail
      refine (H2.out _).mono ?_; rintro e w2 ⟨rfl, hw2⟩
      subst hw2
      go_wp2
      go_ret3
      exact ⟨rfl, hb1⟩
    · have hy := spX_4 a b h58 h0
      rw [hy]
      refine ⟨a, b, by simp at hn; omega, by simp at hn; omega, fun _ => ⟨rfl, rfl⟩, ?_⟩
      intro w hm
      have HM := Lib.hid hm
      have hpos := hm.pos
      clear hm
      have H1 := Lib.hid (fun W => cpre_no (a ++ 58 :: b) W hn h0)
      have H2 := Lib.hid (fun W => cut_yes a b 58 W h58 (by omega))
      unfold sv at H1 H2 ⊢
      generalize ByteArray.mk ⟨a ++ 58 :: b⟩ = s at *
      generalize ByteArray.mk ⟨a⟩ = s1 at *
      generalize ByteArray.mk ⟨b⟩ = s2 at *
      clear h0 h58 hy
      go_enter Tryd.func74, Tryd.ntmps74
      go_wp2_with fail
      refine (H1.out _).mono ?_; rintro e w1 ⟨rfl, hb1⟩
      go_wp2_with fail
      refine (H2.out _).mono ?_; rintro e w2 ⟨rfl, hb2⟩
      have b2 := Below.on hb1 hb1.size hb2
      go_wp2
      go_ret3
      exact ⟨rfl, b2⟩
end Go.Proofs.YtccidoigjdbepaaDoor
