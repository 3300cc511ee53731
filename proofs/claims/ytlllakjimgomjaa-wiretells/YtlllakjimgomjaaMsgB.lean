
/- Contracts: (*taker.Taker).Zeros where a byte is not 0, heading.Take. -/
import Derived.Test.YtlllakjimgomjaaTakE
import Derived.Test.YtlllakjimgomjaaMsgA
namespace Go.Proofs.Ytlllakjimgomjaa
open Go.RowKit

theorem zeros_bad (g : Nat) (A : Option Addr) (n c m K : Nat) (x : UInt8) (l : List UInt8) (w : World) (h : Tk w g A n c 0 l) (hm : m ≤ n) (hn : n ≤ 1000000) (hK : K < m) (hz : ∀ j, j < K → l[j]? = some 0) (hx : l[K]? = some x) (hx0 : x ≠ 0) :
    Calls Try.prog 18 #[.pointer (some ⟨g, 0, none⟩), .int .i64 (m : Int)] w fun e w' => e = .returned (.bool false) ∧ Tk w' g A n c 10 l ∧ w.grownBy w' (some g) := by
  have HM := Lib.hid (may_ok g A n c m l w h hm)
  have hnc := h.2.1
  have h0 := h.c0
  have h1 := h.c1
  have h2 := h.f0 1
  have hs := h.2.2.2
  have HP := Lib.hid (tk_put1 h 10)
  have Hz := Lib.hid hz
  have Hx := Lib.hid hx
  have hxx : x.toNat ≠ 0 := fun e => hx0 (by apply UInt8.toNat_inj.1; simpa using e)
  clear h hz hx
  go_enter Try.func18, Try.ntmps18
  go_wp2_with fail
  refine HM.out.mono ?_; rintro e w1 ⟨rfl, rfl⟩
  go_wp2
  go_loop [20] (fun i => ∃ k : Nat, k ≤ K ∧ i = .int .i64 k) (fun i => m - (intOf i).toNat)
  case atStart => exact ⟨0, Nat.zero_le _, rfl⟩
  case round =>
    obtain ⟨k, hk, rfl⟩ := hrel
    by_cases hlt : k < K
    · obtain ⟨b, off, y, rfl, hb, hc, hy, hly⟩ := hs.byte (k := k) (by omega)
      have hy0 := Hz.out k hlt
      rw [hly] at hy0
      obtain rfl : y = 0 := by injection hy0
      clear hly hy0 hs h0
      go_wp2
      go_round
      case rel => exact ⟨k + 1, by omega, by go_num⟩
      case measure => simp [intOf] <;> omega
    · obtain rfl : k = K := by omega
      obtain ⟨b, off, y, rfl, hb, hc, hy, hly⟩ := hs.byte (k := k) (by omega)
      have hyx := Hx.out
      rw [hly] at hyx
      obtain rfl : y = x := by injection hyx
      have hd : decide ((y.toNat : Int) = 0) = false := decide_eq_false (by omega)
      clear hly hyx hs h0
      go_wp2
      go_ret
      exact ⟨rfl, HP.out.1, HP.out.2⟩

theorem take_short (A : Option Addr) (n c : Nat) (k least most : Int) (w : World) (h4 : 4 ≤ least) (h : (n : Int) < least) :
    Calls Try.prog 61 #[.slice A n c, .int .u8 k, .int .i64 least, .int .i64 most] w fun e w' => e = .returned (.tuple #[.pointer none, .int .i64 3]) ∧ w = w' := by
  go_enter Try.func61, Try.ntmps61
  go_wp2
  go_ret2
  exact ⟨rfl, rfl⟩

theorem take_long (A : Option Addr) (n c : Nat) (k least most : Int) (w : World) (h4 : 4 ≤ least) (h : least ≤ (n : Int)) (hm : most < (n : Int)) :
    Calls Try.prog 61 #[.slice A n c, .int .u8 k, .int .i64 least, .int .i64 most] w fun e w' => e = .returned (.tuple #[.pointer none, .int .i64 4]) ∧ w = w' := by
  go_enter Try.func61, Try.ntmps61
  go_wp2
  go_ret2
  exact ⟨rfl, rfl⟩

theorem take_kind (A : Option Addr) (n c : Nat) (k x : UInt8) (l : List UInt8) (least most : Int) (w : World) (h4 : 4 ≤ least) (h : least ≤ (n : Int)) (hm : (n : Int) ≤ most) (hn : n ≤ 1000000)
    (hs : Shows w w.heap.size A n l) (hx : l[0]? = some x) (hk : x ≠ k) :
    Calls Try.prog 61 #[.slice A n c, bv k, .int .i64 least, .int .i64 most] w fun e w' => e = .returned (.tuple #[.pointer none, .int .i64 9]) ∧ Below w.heap.size w w' := by
  have HN := Lib.hid (new_any A n c l w hn hs)
  have hle : leNat (l.take 1) = x.toNat := by
    cases l with
    | nil => simp at hx
    | cons y t => simp at hx; subst hx; simp [leNat]
  have hxk : x.toNat ≠ k.toNat := fun e => hk (UInt8.toNat_inj.1 e)
  have hx8 := x.toNat_lt
  have hk8 := k.toNat_lt
  have hd : decide ((x.toNat : Int) = (k.toNat : Int)) = false := decide_eq_false (by omega)
  clear hs hx
  go_enter Try.func61, Try.ntmps61
  go_wp2_with fail
  refine HN.out.mono ?_; rintro e w1 ⟨g, rfl, hg, ht1, hb1⟩
  have hsz := hb1.size
  go_wp2_with fail
  refine (little_tk g _ n n 1 l w1 ht1 (by omega) (by omega) (by omega)).mono ?_
  rintro e w2 ⟨rfl, ht2, hg2⟩
  rw [hle]
  have hb2 := below_grown hb1 hg2 hsz hg
  clear ht1 ht2 hg2 hb1 HN hle
  go_wp2
  go_ret2
  exact ⟨rfl, hb2⟩

theorem take_zero (A : Option Addr) (n c K : Nat) (k x : UInt8) (l : List UInt8) (least most : Int) (w : World) (h4 : 4 ≤ least) (h : least ≤ (n : Int)) (hm : (n : Int) ≤ most) (hn : n ≤ 1000000)
    (hs : Shows w w.heap.size A n (k :: l)) (hK : K < 3) (hz : ∀ j, j < K → l[j]? = some 0) (hx : l[K]? = some x) (hx0 : x ≠ 0) :
    Calls Try.prog 61 #[.slice A n c, bv k, .int .i64 least, .int .i64 most] w fun e w' => e = .returned (.tuple #[.pointer none, .int .i64 10]) ∧ Below w.heap.size w w' := by
  have HN := Lib.hid (new_any A n c (k :: l) w hn hs)
  have hle : leNat ((k :: l).take 1) = k.toNat := by simp [leNat]
  have hk8 := k.toNat_lt
  have Hz := Lib.hid hz
  have Hx := Lib.hid hx
  clear hs hz hx
  go_enter Try.func61, Try.ntmps61
  go_wp2_with fail
  refine HN.out.mono ?_; rintro e w1 ⟨g, rfl, hg, ht1, hb1⟩
  have hsz := hb1.size
  go_wp2_with fail
  refine (little_tk g _ n n 1 _ w1 ht1 (by omega) (by omega) (by omega)).mono ?_
  rintro e w2 ⟨rfl, ht2, hg2⟩
  rw [hle]
  have hb2 := below_grown hb1 hg2 hsz hg
  clear ht1 hg2 hb1 HN hle
  go_wp2_with fail
  refine (zeros_bad g _ (n - 1) (n - 1) 3 K x _ w2 ht2 (by omega) (by omega) hK (by simpa using Hz.out) (by simpa using Hx.out) hx0).mono ?_
  rintro e w3 ⟨rfl, ht3, hg3⟩
  have hb3 := below_grown hb2 hg3 hb2.size hg
  clear ht2 hg3 hb2
  go_wp2_with fail
  refine (fail_any g _ _ _ _ _ w3 ht3).mono ?_
  rintro e w4 ⟨rfl, rfl⟩
  clear ht3
  go_wp2
  go_ret2
  exact ⟨rfl, hb3⟩

theorem take_ok (A : Option Addr) (n c : Nat) (k : UInt8) (l : List UInt8) (least most : Int) (w : World) (h4 : 4 ≤ least) (h : least ≤ (n : Int)) (hm : (n : Int) ≤ most) (hn : n ≤ 1000000)
    (hs : Shows w w.heap.size A n (k :: 0 :: 0 :: 0 :: l)) :
    Calls Try.prog 61 #[.slice A n c, bv k, .int .i64 least, .int .i64 most] w fun e w' =>
      ∃ g A' c', e = .returned (.tuple #[.pointer (some ⟨g, 0, none⟩), .int .i64 0]) ∧ w.heap.size ≤ g ∧ Tk w' g A' (n - 4) c' 0 l ∧ Below w.heap.size w w' := by
  have HN := Lib.hid (new_any A n c _ w hn hs)
  have hle : leNat ((k :: 0 :: 0 :: 0 :: l).take 1) = k.toNat := by simp [leNat]
  have hk8 := k.toNat_lt
  clear hs
  go_enter Try.func61, Try.ntmps61
  go_wp2_with fail
  refine HN.out.mono ?_; rintro e w1 ⟨g, rfl, hg, ht1, hb1⟩
  have hsz := hb1.size
  go_wp2_with fail
  refine (little_tk g _ n n 1 _ w1 ht1 (by omega) (by omega) (by omega)).mono ?_
  rintro e w2 ⟨rfl, ht2, hg2⟩
  rw [hle]
  have hb2 := below_grown hb1 hg2 hsz hg
  clear ht1 hg2 hb1 HN hle
  go_wp2_with fail
  refine (zeros_ok g _ (n - 1) (n - 1) 3 _ w2 ht2 (by omega) (by omega) (fun j hj => match j, hj with | 0, _ => rfl | 1, _ => rfl | 2, _ => rfl)).mono ?_
  rintro e w3 ⟨rfl, ht3, hg3⟩
  have hb3 := below_grown hb2 hg3 hb2.size hg
  clear ht2 hg3 hb2
  obtain ⟨A', c', ht4⟩ : ∃ A' c', Tk w3 g A' (n - 4) c' 0 l := by
    rw [show n - 1 - 3 = n - 4 by omega] at ht3
    exact ⟨_, _, ht3⟩
  clear ht3
  go_wp2
  go_ret2
  exact ⟨g, _, _, rfl, hg, ht4, hb3⟩

/-- slices.Concat of a heading and of parts, all of which lie in a literal. -/
theorem concat_msg (k : UInt8) (n : Nat) (ps : List (Addr × Nat × Nat)) (ls : List (List UInt8)) (w : World) (cs : Array Value) (hcs : cs.toList = slv (⟨w.heap.size, 0, none⟩, 4, 4) :: ps.map slv)
    (hn : ps.length + 1 = n) (hl : ls.length = ps.length) (hn2 : n ≤ 20)
    (hp : ∀ (j : Nat) (p : Addr × Nat × Nat) (l : List UInt8), ps[j]? = some p → ls[j]? = some l → Shows w w.heap.size (some p.1) p.2.1 l) (h63 : ls.flatten.length ≤ 900000) :
    Calls Try.prog 58 #[.slice (some ⟨w.heap.size + 1, 0, none⟩) n n] ((w.alloc (.cells #[bv k, bv 0, bv 0, bv 0] 5)).alloc (.cells cs 22)).drew fun e w' =>
      ∃ v, e = .returned v ∧ Own w' w.heap.size v (4 + ls.flatten.length) ([k, 0, 0, 0] ++ ls.flatten) ∧ Below w.heap.size w w' := by
  have hb0 : Below w.heap.size w ((w.alloc (.cells #[bv k, bv 0, bv 0, bv 0] 5)).alloc (.cells cs 22)) := ((Below.refl _ _).alloc (Nat.le_refl _) _).alloc (by simp) _
  have hsz : ((w.alloc (.cells #[bv k, bv 0, bv 0, bv 0] 5)).alloc (.cells cs 22)).heap.size = w.heap.size + 2 := by simp
  have hS0 := sh_new slv 22 (w.alloc (.cells #[bv k, bv 0, bv 0, bv 0] 5)) cs ((⟨w.heap.size, 0, none⟩, 4, 4) :: ps) (by simpa using hcs)
  rw [show (w.alloc (.cells #[bv k, bv 0, bv 0, bv 0] 5)).heap.size = w.heap.size + 1 by simp, List.length_cons, hn] at hS0
  have hH0 := (shows_new w #[bv k, bv 0, bv 0, bv 0] [k, 0, 0, 0] rfl).alloc (Nat.le_refl _) (.cells cs 22)
  generalize (w.alloc (.cells #[bv k, bv 0, bv 0, bv 0] 5)).alloc (.cells cs 22) = W at *
  have hS : Sh slv W.drew W.drew.heap.size (some ⟨w.heap.size + 1, 0, none⟩) n ((⟨w.heap.size, 0, none⟩, 4, 4) :: ps) := hS0
  have hH : Shows W.drew W.drew.heap.size (some ⟨w.heap.size, 0, none⟩) 4 [k, 0, 0, 0] := hH0.up (by simp; omega)
  have hb : Below w.heap.size w W.drew := hb0.drew
  have hfl : ([k, 0, 0, 0] :: ls).flatten.length = 4 + ls.flatten.length := by simp; omega
  refine (concat_any _ n n _ ([k, 0, 0, 0] :: ls) W.drew hS (by simp; omega) (by omega) ?_ (by rw [hfl]; omega) (by rw [hfl]; omega)).mono ?_
  · intro j p l h1 h2
    cases j with
    | zero => simp at h1 h2; subst h1; subst h2; exact hH
    | succ j => simp at h1 h2; exact ((hp j p l h1 h2).below hb).up hb.size
  · rintro e w' ⟨v, rfl, ho, hbw⟩
    rw [hfl] at ho
    exact ⟨v, rfl, ho.base hb.size, Below.on hb hb.size hbw⟩

end Go.Proofs.Ytlllakjimgomjaa
