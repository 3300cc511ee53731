
/- The walk of law18.OnesumOf. -/
import Derived.Test.YtolmejmmbdclfaaSumC
namespace Go.Proofs.Ytolmejmmbdclfaa
open Go.RowKit

theorem Parts.below {w w' : World} {B n : Nat} {A : Option Addr} {L : List Part} (h : Parts w B A n L) (hb : Below B w w') : Parts w' B A n L := ⟨h.1.below hb, fun p hp => (h.2 p hp).below hb⟩
theorem Parts.up {w : World} {B B' n : Nat} {A : Option Addr} {L : List Part} (h : Parts w B A n L) (hB : B ≤ B') : Parts w B' A n L := ⟨h.1.up hB, fun p hp => (h.2 p hp).up hB⟩
theorem Parts.on {w w' : World} {B n : Nat} {A : Option Addr} {L : List Part} (h : Parts w B A n L) (hb : Below B w w') (hB : B ≤ w'.heap.size) : Parts w' w'.heap.size A n L := (h.below hb).up hB

theorem joinP_few (L : List Part) (hp : ∀ p ∈ L, p.n ≤ 200 ∧ p.l.length = p.n) : (joinP L).length ≤ 200 * L.length := by
  induction L with
  | nil => simp [joinP]
  | cons p t ih =>
    have h1 := hp p (by simp)
    have h2 := ih fun q hq => hp q (by simp [hq])
    simp only [joinP, List.map_cons, List.flatten_cons, List.length_append, List.length_cons] at *
    omega

theorem onesumOf_early (A : Option Addr) (n c : Nat) (w : World) (hF : Calls Try.prog 10 #[.slice A n c] w fun e w' => e = .returned (.bool false) ∧ w = w') :
    Calls Try.prog 3 #[.slice A n c] w fun e w' => e = .returned (.bool true) ∧ Below w.heap.size w w' := by
  have HF := Lib.hid hF
  clear hF
  go_enter Try.func3, Try.ntmps3
  go_wp2_with fail
  refine HF.out.mono ?_
  rintro e w1 ⟨rfl, rfl⟩
  go_wp2_with fail
  refine (alive18 _).mono ?_
  rintro e w1 ⟨rfl, hb⟩
  go_wp2
  go_ret
  exact ⟨rfl, hb⟩

theorem onesumOf_main (A : Option Addr) (n c : Nat) (L : List Part) (w : World) (hn : n ≤ 20) (hp : ∀ p ∈ L, p.n ≤ 200) (h : Parts w w.heap.size A n L) :
    Calls Try.prog 3 #[.slice A n c] w fun e w' => e = .returned (.bool true) ∧ Below w.heap.size w w' := by
  have hl := h.1.len
  have hN : (joinP L).length ≤ 4000 := by have := joinP_few L (fun p q => ⟨hp p q, (h.2 p q).len⟩); omega
  have HF := Lib.hid (few_yes A n c L w hn h.1 hp)
  have HJ := Lib.hid (join_any A n c L w (by omega) (by omega) h)
  have HO := Lib.hid (fun (W : World) (hW : Below w.heap.size w W) => sumOf_any A n c L W (by omega) (by omega) (h.on hW hW.size))
  have HC := Lib.hid (fun (W : World) (hW : Below w.heap.size w W) => sumCheck_any A n c L W (by omega) (by omega) (h.on hW hW.size))
  have HG := Lib.hid (fun (W : World) (hW : Below w.heap.size w W) => sumGood_any A n c L W (by omega) (by omega) (h.on hW hW.size))
  have hle := osum_le (joinP L)
  clear h hp hl
  generalize joinP L = J at *
  go_enter Try.func3, Try.ntmps3
  go_wp2_with fail
  refine HF.out.mono ?_
  rintro e w1 ⟨rfl, rfl⟩
  go_wp2_with fail
  refine HJ.out.mono ?_
  rintro e w1 ⟨v, m, rfl, hm, ho1, hb1⟩
  obtain ⟨A1, c1, rfl, _, _, hs1⟩ := ho1.shows
  have hm2 : m ≤ 4000 := by omega
  have Hm := Lib.hid hm
  have HP := Lib.hid (refSum_any A1 m c1 J w1 (by omega) hs1)
  have HK := Lib.hid (fun (W : World) (hW : Below w1.heap.size w1 W) => refCheck_any A1 m c1 J W (by omega) ((hs1.below hW).up hW.size))
  have HQ := Lib.hid (sum1_of w1 w1.heap.size rfl A1 m c1 J (by omega) hs1)
  clear ho1 hs1 HF HJ hm
  generalize osum J = s at *
  go_wp2_with fail
  refine HP.out.mono ?_
  rintro e w2 ⟨rfl, rfl⟩
  go_wp2_with fail
  refine (HO.out _ hb1).mono ?_
  rintro e w2 ⟨rfl, rfl⟩
  go_wp2_with fail
  refine HQ.out.mono ?_
  rintro e w2 ⟨rfl, rfl⟩
  have hk2 : Below w1.heap.size w1 (w1.alloc (.cells #[.slice A1 m c1] 25)) := (Below.refl _ _).alloc (Nat.le_refl _) _
  have hb2 := Below.on hb1 hb1.size hk2
  clear HP HQ
  generalize w1.alloc (.cells #[.slice A1 m c1] 25) = w2 at *
  go_wp2_with fail
  refine (HO.out _ hb2).mono ?_
  rintro e w3 ⟨rfl, rfl⟩
  go_wp2_with fail
  refine (HC.out _ hb2).mono ?_
  rintro e w3 ⟨rfl, rfl⟩
  have hC : 65535 - s ≤ 65535 := by omega
  have HCs := Lib.hid hle
  generalize 65535 - s = C at *
  go_wp2_with fail
  refine (HK.out _ hk2).mono ?_
  rintro e w3 ⟨rfl, rfl⟩
  go_wp2_with fail
  refine (HG.out _ hb2).mono ?_
  rintro e w3 ⟨rfl, rfl⟩
  by_cases q : s = 65535
  · subst q
    go_wp2_with fail
    refine (alive18 _).mono ?_
    rintro e w4 ⟨rfl, hb4⟩
    go_wp2
    go_ret
    exact ⟨rfl, Below.on hb2 hb2.size hb4⟩
  · have q2 : ((s : Int) == 65535) = false := by simp; omega
    rw [decide_eq_false q]
    go_wp2_with fail
    refine (alive18 _).mono ?_
    rintro e w4 ⟨rfl, hb4⟩
    go_wp2
    go_ret
    exact ⟨rfl, Below.on hb2 hb2.size hb4⟩

theorem walk_OnesumOf (A : Option Addr) (n c : Nat) (L : List Part) (w : World) (hc : n ≤ c ∧ c ≤ maxLen) (hq : ∀ p ∈ L, p.n ≤ 9223372036854775807) (h : Parts w w.heap.size A n L) :
    Calls Try.prog 3 #[.slice A n c] w fun e w' => e = .returned (.bool true) ∧ Below w.heap.size w w' := by
  have hm : n ≤ 9223372036854775807 := by have := Nat.le_trans hc.1 hc.2; unfold maxLen at this; omega
  by_cases hn : 20 < n
  · exact onesumOf_early A n c w (few_many A n c w hn hm)
  · rcases first_long L with hp | ⟨K, p, hK, hp, hlow⟩
    · exact onesumOf_main A n c L w (by omega) hp h
    · exact onesumOf_early A n c w (few_long A n c L w (by omega) h.1 K p hK hp hq hlow)

end Go.Proofs.Ytolmejmmbdclfaa
