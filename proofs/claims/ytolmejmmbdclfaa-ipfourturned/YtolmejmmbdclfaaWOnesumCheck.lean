
/- The walk of law18.OnesumCheck. -/
import Derived.Test.YtolmejmmbdclfaaSumB
namespace Go.Proofs.Ytolmejmmbdclfaa
open Go.RowKit

theorem set_get {α : Type} (l : List α) (k : Nat) (x : α) (h : k < l.length) : (l.set k x)[k]? = some x := by simp [h]

/-- The sum's words with a word put at an even place where there were two bytes 0. -/
theorem raw_word (l : List UInt8) (at_ n : Nat) (h0 : l[2 * at_]? = some 0) (h1 : l[2 * at_ + 1]? = some 0) (hn : n ≤ 65535) :
    raw true ((l.set (2 * at_) (UInt8.ofNat (n / 256))).set (2 * at_ + 1) (UInt8.ofNat (n % 256))) = raw true l + n := by
  have e1 := raw_set l true (2 * at_) 0 (UInt8.ofNat (n / 256)) h0
  have h1' : (l.set (2 * at_) (UInt8.ofNat (n / 256)))[2 * at_ + 1]? = some 0 := by rw [List.getElem?_set_ne (by omega)]; exact h1
  have e2 := raw_set (l.set (2 * at_) (UInt8.ofNat (n / 256))) true (2 * at_ + 1) 0 (UInt8.ofNat (n % 256)) h1'
  rw [if_pos (show 2 * at_ % 2 = 0 by omega)] at e1
  rw [if_neg (show ¬ (2 * at_ + 1) % 2 = 0 by omega)] at e2
  have a1 : (UInt8.ofNat (n / 256)).toNat = n / 256 := by simp; omega
  have a2 : (UInt8.ofNat (n % 256)).toNat = n % 256 := by simp
  rw [a1] at e1
  rw [a2] at e2
  simp at e1 e2
  omega

/-- What is checked is good. -/
theorem checked_good (l : List UInt8) (at_ : Nat) (h0 : l[2 * at_]? = some 0) (h1 : l[2 * at_ + 1]? = some 0) :
    osum ((l.set (2 * at_) (UInt8.ofNat ((65535 - osum l) / 256))).set (2 * at_ + 1) (UInt8.ofNat ((65535 - osum l) % 256))) = 65535 := by
  unfold osum
  rw [raw_word l at_ _ h0 h1 (by omega), foldN_full]
  generalize raw true l = R
  unfold foldN
  split <;> omega

theorem two_pow_cases (t : Nat) (h : t < 8) : 2 ^ (7 - t) = 1 ∨ 2 ^ (7 - t) = 2 ∨ 2 ^ (7 - t) = 4 ∨ 2 ^ (7 - t) = 8 ∨ 2 ^ (7 - t) = 16 ∨ 2 ^ (7 - t) = 32 ∨ 2 ^ (7 - t) = 64 ∨ 2 ^ (7 - t) = 128 := by
  have : t = 0 ∨ t = 1 ∨ t = 2 ∨ t = 3 ∨ t = 4 ∨ t = 5 ∨ t = 6 ∨ t = 7 := by omega
  rcases this with rfl | rfl | rfl | rfl | rfl | rfl | rfl | rfl <;> simp

/-- What is good is not good any more with one bit turned. -/
theorem turned_bad (l : List UInt8) (bit : Nat) (hb : bit < 8 * l.length) (hg : osum l = 65535) : osum (turned l bit) ≠ 65535 := by
  have hk : bit / 8 < l.length := by omega
  have hx : l[bit / 8]? = some l[bit / 8] := List.getElem?_eq_getElem hk
  have hxl := (l[bit / 8]).toNat_lt
  have hT : turned l bit = l.set (bit / 8) (UInt8.ofNat (turnN (l[bit / 8]).toNat (bit % 8))) := by unfold turned; rw [hx]; rfl
  have e := raw_set l true (bit / 8) l[bit / 8] (UInt8.ofNat (turnN (l[bit / 8]).toNat (bit % 8))) hx
  have hc := turnN_cases (l[bit / 8]).toNat (bit % 8) hxl (by omega)
  have hl := turnN_lt (l[bit / 8]).toNat (bit % 8) hxl (by omega)
  have hp := two_pow_cases (bit % 8) (by omega)
  rw [← hT, show (UInt8.ofNat (turnN (l[bit / 8]).toNat (bit % 8))).toNat = turnN (l[bit / 8]).toNat (bit % 8) by simp; omega] at e
  unfold osum at *
  rw [foldN_full] at hg
  rw [Ne, foldN_full]
  obtain ⟨F, hF, e⟩ : ∃ F : Nat, (F = 256 ∨ F = 1) ∧ raw true (turned l bit) + F * (l[bit / 8]).toNat = raw true l + F * turnN (l[bit / 8]).toNat (bit % 8) := ⟨_, by split <;> simp, e⟩
  generalize turnN (l[bit / 8]).toNat (bit % 8) = T at *
  generalize 2 ^ (7 - bit % 8) = M at *
  generalize (l[bit / 8]).toNat = x at *
  generalize raw true (turned l bit) = R' at *
  generalize raw true l = R at *
  rintro ⟨q1, q2⟩
  clear hT hx
  rcases hF with rfl | rfl <;> rcases hc with ⟨_, c1⟩ | ⟨_, c1, _⟩ <;> rcases hp with rfl | rfl | rfl | rfl | rfl | rfl | rfl | rfl <;> omega

theorem onesumCheck_early (A : Option Addr) (n c : Nat) (a b : Int) (w : World) (hm : n ≤ 9223372036854775807) (h : 300 < n ∨ a < 0 ∨ ((n / 2 : Nat) : Int) ≤ a ∨ b < 0 ∨ ((8 * n : Nat) : Int) ≤ b) :
    Calls Try.prog 5 #[.slice A n c, .int .i64 a, .int .i64 b] w fun e w' => e = .returned (.bool true) ∧ Below w.heap.size w w' := by
  by_cases h1 : 300 < n
  · clear h
    go_enter Try.func5, Try.ntmps5
    go_wp2_with (go_at_call 11; refine (alive18 _).mono ?_; rintro e w' ⟨rfl, hb2⟩)
    go_ret
    exact ⟨rfl, hb2⟩
  · by_cases h2 : a < 0
    · clear h
      go_enter Try.func5, Try.ntmps5
      go_wp2_with (go_at_call 11; refine (alive18 _).mono ?_; rintro e w' ⟨rfl, hb2⟩)
      go_ret
      exact ⟨rfl, hb2⟩
    · by_cases h3 : ((n / 2 : Nat) : Int) ≤ a
      · clear h
        have hd : decide ((n : Int) / 2 ≤ a) = true := decide_eq_true (by omega)
        go_enter Try.func5, Try.ntmps5
        go_wp2_with (go_at_call 11; refine (alive18 _).mono ?_; rintro e w' ⟨rfl, hb2⟩)
        go_ret
        exact ⟨rfl, hb2⟩
      · have hd : decide ((n : Int) / 2 ≤ a) = false := decide_eq_false (by omega)
        by_cases h4 : b < 0
        · clear h
          go_enter Try.func5, Try.ntmps5
          go_wp2_with (go_at_call 11; refine (alive18 _).mono ?_; rintro e w' ⟨rfl, hb2⟩)
          go_ret
          exact ⟨rfl, hb2⟩
        · have h5 : ((8 * n : Nat) : Int) ≤ b := by omega
          have hd2 : decide (8 * (n : Int) ≤ b) = true := decide_eq_true (by omega)
          clear h
          go_enter Try.func5, Try.ntmps5
          go_wp2_with (go_at_call 11; refine (alive18 _).mono ?_; rintro e w' ⟨rfl, hb2⟩)
          go_ret
          exact ⟨rfl, hb2⟩

theorem onesumCheck_main (A : Option Addr) (n c at_ bit : Nat) (l : List UInt8) (w : World) (hn : n ≤ 300) (ha : at_ < n / 2) (hb : bit < 8 * n) (h : Shows w w.heap.size A n l) :
    Calls Try.prog 5 #[.slice A n c, .int .i64 (at_ : Int), .int .i64 (bit : Int)] w fun e w' => e = .returned (.bool true) ∧ Below w.heap.size w w' := by
  have hl := h.len
  have hd1 : decide ((n : Int) / 2 ≤ (at_ : Int)) = false := decide_eq_false (by omega)
  have hd2 : decide (8 * (n : Int) ≤ (bit : Int)) = false := decide_eq_false (by omega)
  have ha1 : 2 * at_ < n := by omega
  have ha2 : 2 * at_ + 1 < n := by omega
  clear ha
  obtain ⟨b, off, x, rfl, hb', hc, hx, hlx⟩ := h.byte ha1
  clear hlx hx hc
  go_enter Try.func5, Try.ntmps5
  go_wp2_with (at_builtin; refine wpList_appAll _ rfl _ _ rfl w.heap.size _ 0 [] rfl (own_lit0 w w.heap.size (Nat.le_refl _)) ⟨b, off, none⟩ n c w.heap.size l rfl (h.alloc (Nat.le_refl _) _) (by omega) (by simp) ?_)
  intro v1 w1 ho1 hg1
  have hb1 : Below w.heap.size w w1 := Below.grown ((Below.refl _ _).alloc (Nat.le_refl _) _) hg1 (by simp) (fun k hk => by simp [Value.ownBlock] at hk; omega)
  clear h hg1 hd1 hd2
  obtain ⟨g, cap, rfl, hgw⟩ : ∃ g cap, v1 = .slice (some ⟨g, 0, none⟩) n cap ∧ w.heap.size ≤ g := by
    rcases ho1.2 with ⟨_, e⟩ | ⟨g', cap, cur, e, h4, _⟩
    · omega
    · exact ⟨g', cap, e, h4⟩
  obtain ⟨old1, hold1, _⟩ := ho1.at ha1
  have hfr1 := World.ownsRow.frozenAt ho1 (2 * at_)
  have ho2 : Own (w1.setCell ⟨g, 2 * at_, none⟩ (.int .u8 0)) w.heap.size (.slice (some ⟨g, 0, none⟩) n cap) n (l.set (2 * at_) 0) := (ho1.put (2 * at_) 0).1
  have hb2 : Below w.heap.size w (w1.setCell ⟨g, 2 * at_, none⟩ (.int .u8 0)) := Below.grown hb1 (ho1.put (2 * at_) 0).2 (by have := hb1.size; omega) (fun k hk => by injection hk with hk; omega)
  clear ho1 hb1
  obtain ⟨old2, hold2, _⟩ := ho2.at ha2
  have hfr2 := World.ownsRow.frozenAt ho2 (2 * at_ + 1)
  have ho3 : Own ((w1.setCell ⟨g, 2 * at_, none⟩ (.int .u8 0)).setCell ⟨g, 2 * at_ + 1, none⟩ (.int .u8 0)) w.heap.size (.slice (some ⟨g, 0, none⟩) n cap) n ((l.set (2 * at_) 0).set (2 * at_ + 1) 0) := (ho2.put (2 * at_ + 1) 0).1
  have hb3 : Below w.heap.size w ((w1.setCell ⟨g, 2 * at_, none⟩ (.int .u8 0)).setCell ⟨g, 2 * at_ + 1, none⟩ (.int .u8 0)) := Below.grown hb2 (ho2.put (2 * at_ + 1) 0).2 (by have := hb2.size; omega) (fun k hk => by injection hk with hk; omega)
  have H3 := Lib.hid (And.intro ho3 hb3)
  clear ho2 hb2 ho3 hb3
  go_wp2_with fail
  obtain ⟨ho3, hb3⟩ := H3.out
  clear H3 hold1 hold2 hfr1 hfr2
  have z3 : ((w1.setCell ⟨g, 2 * at_, none⟩ (.int .u8 0)).setCell ⟨g, 2 * at_ + 1, none⟩ (.int .u8 0)).heap.size = w1.heap.size := by simp [World.setCell]
  generalize (w1.setCell ⟨g, 2 * at_, none⟩ (.int .u8 0)).setCell ⟨g, 2 * at_ + 1, none⟩ (.int .u8 0) = w3 at *
  have q0 : ((l.set (2 * at_) 0).set (2 * at_ + 1) 0)[2 * at_]? = some 0 := by rw [List.getElem?_set_ne (by omega)]; exact set_get _ _ _ (by omega)
  have q1 : ((l.set (2 * at_) 0).set (2 * at_ + 1) 0)[2 * at_ + 1]? = some 0 := set_get _ _ _ (by simp; omega)
  have HG := Lib.hid (checked_good _ at_ q0 q1)
  have hml : ((l.set (2 * at_) 0).set (2 * at_ + 1) 0).length = n := by simp [hl]
  clear q0 q1
  generalize (l.set (2 * at_) 0).set (2 * at_ + 1) 0 = m at *
  refine (sum1_check w3 w1.heap.size z3 _ n cap m (by omega) ho3.shown).mono ?_
  rintro e w4 ⟨rfl, rfl⟩
  have hch : 65535 - osum m ≤ 65535 := by omega
  generalize 65535 - osum m = C at *
  have ho4 : Own (w3.alloc (.cells #[.slice (some ⟨g, 0, none⟩) n cap] 25)) w.heap.size (.slice (some ⟨g, 0, none⟩) n cap) n m := ho3.alloc _
  have hb4 := hb3.alloc hb3.size (.cells #[.slice (some ⟨g, 0, none⟩) n cap] 25)
  clear ho3 hb3
  generalize w3.alloc (.cells #[.slice (some ⟨g, 0, none⟩) n cap] 25) = w4 at *
  obtain ⟨old5, hold5, _⟩ := ho4.at ha1
  have hfr5 := World.ownsRow.frozenAt ho4 (2 * at_)
  have e1 : bv (UInt8.ofNat (C / 256)) = .int .u8 ((C : Int) / 256) := by simp [bv] <;> omega
  have e2 : bv (UInt8.ofNat (C % 256)) = .int .u8 ((C : Int) % 256) := by simp [bv] <;> omega
  have p5 := ho4.put (2 * at_) (UInt8.ofNat (C / 256))
  rw [e1] at p5
  obtain ⟨ho5, hg5⟩ := p5
  have hb5 := Below.grown hb4 hg5 (by have := hb4.size; omega) (fun k hk => by injection hk with hk; omega)
  obtain ⟨old6, hold6, _⟩ := ho5.at ha2
  have hfr6 := World.ownsRow.frozenAt ho5 (2 * at_ + 1)
  have p6 := ho5.put (2 * at_ + 1) (UInt8.ofNat (C % 256))
  rw [e2] at p6
  obtain ⟨ho6, hg6⟩ := p6
  have hb6 := Below.grown hb5 hg6 (by have := hb5.size; omega) (fun k hk => by injection hk with hk; omega)
  have H6 := Lib.hid (And.intro ho6 hb6)
  clear ho4 hb4 hg5 hg6 ho5 hb5 e1 e2 ho6 hb6
  go_wp2_with fail
  obtain ⟨ho6, hb6⟩ := H6.out
  clear H6 hold5 hold6 hfr5 hfr6
  have z6 : ((w4.setCell ⟨g, 2 * at_, none⟩ (.int .u8 ((C : Int) / 256))).setCell ⟨g, 2 * at_ + 1, none⟩ (.int .u8 ((C : Int) % 256))).heap.size = w4.heap.size := by simp [World.setCell]
  generalize (w4.setCell ⟨g, 2 * at_, none⟩ (.int .u8 ((C : Int) / 256))).setCell ⟨g, 2 * at_ + 1, none⟩ (.int .u8 ((C : Int) % 256)) = w6 at *
  have hol := ho6.len
  generalize (m.set (2 * at_) (UInt8.ofNat (C / 256))).set (2 * at_ + 1) (UInt8.ofNat (C % 256)) = d at *
  have HB := Lib.hid (turned_bad d bit (by omega) HG.out)
  refine (sum1_good w6 w4.heap.size z6 _ n cap d (by omega) ho6.shown).mono ?_
  rintro e w7 ⟨rfl, rfl⟩
  rw [decide_eq_true HG.out]
  have ho7 : Own (w6.alloc (.cells #[.slice (some ⟨g, 0, none⟩) n cap] 25)) w.heap.size (.slice (some ⟨g, 0, none⟩) n cap) n d := ho6.alloc _
  have hs7 := ho7.shown
  clear ho7
  have hb7 := hb6.alloc hb6.size (.cells #[.slice (some ⟨g, 0, none⟩) n cap] 25)
  clear ho6 hb6 HG
  generalize w6.alloc (.cells #[.slice (some ⟨g, 0, none⟩) n cap] 25) = w7 at *
  go_wp2_with fail
  refine (turned_any _ n cap bit d w7 hb (by omega) hs7).mono ?_
  rintro e w8 ⟨v, rfl, ho8, hb8⟩
  have hb9 := Below.on hb7 hb7.size hb8
  obtain ⟨A8, c8, rfl, _, _, hs8⟩ := ho8.shows
  clear hb7 hs7 ho8 hb8
  go_wp2_with fail
  refine (sum1_good w8 w8.heap.size rfl _ n c8 (turned d bit) (by omega) hs8).mono ?_
  rintro e w9 ⟨rfl, rfl⟩
  rw [decide_eq_false HB.out]
  have hb10 := hb9.alloc hb9.size (.cells #[.slice A8 n c8] 25)
  clear hb9 hs8
  generalize w8.alloc (.cells #[.slice A8 n c8] 25) = w10 at *
  go_wp2_with fail
  refine (alive18 _).mono ?_
  rintro e w11 ⟨rfl, hb11⟩
  go_wp2
  go_ret
  exact ⟨rfl, Below.on hb10 hb10.size hb11⟩

theorem walk_OnesumCheck (A : Option Addr) (n c : Nat) (l : List UInt8) (a b : Int) {w : World} (hc : n ≤ c ∧ c ≤ maxLen) (h : Shows w w.heap.size A n l) (_ : (Lit.int .i64 a).wf = true) (_ : (Lit.int .i64 b).wf = true) :
    Calls Try.prog 5 #[.slice A n c, .int .i64 a, .int .i64 b] w fun e w' => e = .returned (.bool true) ∧ Below w.heap.size w w' := by
  have hm : n ≤ 9223372036854775807 := by have := Nat.le_trans hc.1 hc.2; unfold maxLen at this; omega
  by_cases hs : 300 < n ∨ a < 0 ∨ ((n / 2 : Nat) : Int) ≤ a ∨ b < 0 ∨ ((8 * n : Nat) : Int) ≤ b
  · exact onesumCheck_early A n c a b w hm hs
  · obtain ⟨p, rfl⟩ := Int.eq_ofNat_of_zero_le (show 0 ≤ a by omega)
    obtain ⟨q, rfl⟩ := Int.eq_ofNat_of_zero_le (show 0 ≤ b by omega)
    exact onesumCheck_main A n c p q l w (by omega) (by omega) (by omega) h

end Go.Proofs.Ytolmejmmbdclfaa
