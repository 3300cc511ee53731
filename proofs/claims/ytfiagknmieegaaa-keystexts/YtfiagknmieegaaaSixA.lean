
/- Contracts: sixtyfour.appendFour, Encode. -/
import Derived.Test.YtfiagknmieegaaaSixN
import Derived.Test.YtfiagknmieegaaaSame
import Derived.Laws.BitsAllLaws
import Derived.Lib.Bytealg
import Derived.Laws.StandIn
import Derived.Laws.BitsLemmas
namespace Go.Proofs.Ytfiagknmieegaaa.Six
open Go.RowKit

theorem byte_at4 (s : ByteArray) (i : Nat) (c : UInt8) (h : s.data.toList[i]? = some c) : ∀ h' : i < s.size, s[i]'h' = c := by
  intro h'
  obtain ⟨_, e⟩ := List.getElem?_eq_some_iff.1 h
  exact e
theorem byte_ne4 {x c : UInt8} (h : x ≠ c) : ((x.toNat : Int) == (c.toNat : Int)) = false := by
  rw [beq_eq_false_iff_ne]; exact fun e => h (UInt8.toNat_inj.1 (Int.ofNat.inj e))

theorem or_nat (j q y : Nat) (h1 : q % 2 ^ j = 0) (h2 : y < 2 ^ j) (hq : q < 16777216) (hy : y < 16777216) :
    bits .or .u32 (q : Int) (y : Int) = ((q + y : Nat) : Int) := by
  rw [u32_or_nat _ _ (by omega) (by omega), nat_join j _ _ h1 h2]
theorem and63 (q : Nat) (hq : q < 4294967296) : bits .and .u32 (q : Int) 63 = ((q % 64 : Nat) : Int) := by
  rw [show (63 : Int) = ((63 : Nat) : Int) from rfl, u32_and_nat _ _ hq (by omega)]
  congr 1
  exact Nat.and_two_pow_sub_one_eq_mod q 6

/-- The signs' bytes. -/
def sgt : ByteArray := ⟨⟨sgs⟩⟩
theorem sg_get (n : Nat) (h : n < 64) : ∀ h' : n < sgt.size, sgt[n]'h' = sg n := byte_at4 sgt n _ (sg_at n h)
theorem sgt_size : sgt.size = 64 := rfl

/-- The number of a group's bytes so far. -/
def un (g : List UInt8) (k : Nat) : Nat := ((g.take k).getD 0 0).toNat * 65536 + ((g.take k).getD 1 0).toNat * 256 + ((g.take k).getD 2 0).toNat
/-- The four signs of one to three bytes. -/
def four (g : List UInt8) (i : Nat) : UInt8 := if i ≤ g.length then sg (un g g.length / 2 ^ (18 - 6 * i) % 64) else 61
def fours (g : List UInt8) : List UInt8 := [four g 0, four g 1, four g 2, four g 3]

theorem un_zero (g : List UInt8) : un g 0 = 0 := by simp [un]
theorem un_one (g : List UInt8) (x : UInt8) (h : g[0]? = some x) : un g 1 = x.toNat * 65536 := by
  match g, h with
  | _ :: t, h => simp at h; subst h; simp [un]
theorem un_two (g : List UInt8) (x : UInt8) (h : g[1]? = some x) : un g 2 = un g 1 + x.toNat * 256 := by
  match g, h with
  | _ :: _ :: t, h => simp at h; subst h; simp [un]
theorem un_three (g : List UInt8) (x : UInt8) (h : g[2]? = some x) : un g 3 = un g 2 + x.toNat := by
  match g, h with
  | _ :: _ :: _ :: t, h => simp at h; subst h; simp [un]
theorem un_mod1 (g : List UInt8) : un g 1 % 65536 = 0 ∧ un g 1 < 16777216 := by
  have := ((g.take 1).getD 0 0).toNat_lt
  match g with
  | [] => simp [un]
  | _ :: t => simp [un] at *; omega
theorem un_mod2 (g : List UInt8) : un g 2 % 256 = 0 ∧ un g 2 < 16777216 := by
  match g with
  | [] => simp [un]
  | [x] => have := x.toNat_lt; simp [un]; omega
  | x :: y :: t => have := x.toNat_lt; have := y.toNat_lt; simp [un]; omega
theorem un_lt (g : List UInt8) (k : Nat) : un g k < 16777216 := by
  unfold un
  have h1 := ((g.take k).getD 0 0).toNat_lt
  have h2 := ((g.take k).getD 1 0).toNat_lt
  have h3 := ((g.take k).getD 2 0).toNat_lt
  omega

theorem appendFour_any (base : Nat) (v : Value) (n : Nat) (E : List UInt8) (A : Option Addr) (m c : Nat) (g : List UInt8) (w : World) (h1 : 1 ≤ m) (h3 : m ≤ 3) (hn : n ≤ 1000000)
    (hown : Own w base v n E) (hbase : base ≤ w.heap.size) (h : Shows w base A m g) :
    Calls Try.prog 78 #[v, .slice A m c] w fun e w' => (∃ v', e = .returned v' ∧ Own w' base v' (n + 4) (E ++ fours g)) ∧ Below base w w' := by
  have hlen := h.len
  go_enter Try.func78, Try.ntmps78
  go_wp2
  go_loop [5, 11] (fun x i => ∃ k : Nat, k ≤ m ∧ i = .int .i64 k ∧ x = .int .u32 (un g k : Int)) (fun _ i => m - (intOf i).toNat)
  case atStart => exact ⟨0, Nat.zero_le _, rfl, by rw [un_zero]; rfl⟩
  case round =>
    obtain ⟨k, hk, rfl, rfl⟩ := hrel
    by_cases hlt : k < m
    · obtain ⟨b, off, x, rfl, hb, hc, hx, hlx⟩ := h.byte hlt
      have hcase : k = 0 ∨ k = 1 ∨ k = 2 := by omega
      rcases hcase with rfl | rfl | rfl
      · rw [Nat.add_zero] at hc
        rw [un_zero]
        have Hs := Lib.hid (un_one g x hlx)
        clear hlx h
        go_wp2
        go_round
        case rel => exact ⟨1, by omega, by go_num, congrArg (Value.int .u32) (by rw [Hs.out]; exact (or_nat 24 0 (x.toNat * 65536) rfl (by omega) (by omega) (by omega)).trans (by rw [Nat.zero_add]))⟩
        case measure => simp [intOf] <;> omega
      · have Hs := Lib.hid (un_two g x hlx)
        have Hm := Lib.hid (un_mod1 g)
        clear hlx h
        generalize un g 1 = q at *
        go_wp2
        go_round
        case rel => exact ⟨2, by omega, by go_num, congrArg (Value.int .u32) (by rw [Hs.out]; exact or_nat 16 q (x.toNat * 256) Hm.out.1 (by omega) Hm.out.2 (by omega))⟩
        case measure => simp [intOf] <;> omega
      · have Hs := Lib.hid (un_three g x hlx)
        have Hm := Lib.hid (un_mod2 g)
        clear hlx h
        generalize un g 2 = q at *
        go_wp2
        go_round
        case rel => exact ⟨3, by omega, by go_num, congrArg (Value.int .u32) (by rw [Hs.out]; exact or_nat 8 _ _ Hm.out.1 (by omega) Hm.out.2 (by omega))⟩
        case measure => simp [intOf] <;> omega
    · obtain rfl : k = m := by omega
      have HF0 := Lib.hid (show four g 0 = sg (un g k / 262144 % 64) by unfold four; rw [if_pos (by omega), hlen])
      have HF1 := Lib.hid (show four g 1 = sg (un g k / 4096 % 64) by unfold four; rw [if_pos (by omega), hlen])
      have HF2 := Lib.hid (show 2 ≤ k → four g 2 = sg (un g k / 64 % 64) by intro hh; unfold four; rw [if_pos (by omega), hlen])
      have HF3 := Lib.hid (show 3 ≤ k → four g 3 = sg (un g k % 64) by intro hh; unfold four; rw [if_pos (by omega), hlen]; simp)
      have HG2 := Lib.hid (show ¬ 2 ≤ k → four g 2 = 61 by intro hh; unfold four; rw [if_neg (by omega)])
      have HG3 := Lib.hid (show ¬ 3 ≤ k → four g 3 = 61 by intro hh; unfold four; rw [if_neg (by omega)])
      have hul := un_lt g k
      clear h
      generalize un g k = q at *
      have hw0 : Below base w w := Below.refl _ _
      go_wp2
      go_loopw [0, 25] (fun v i wr => ∃ t : Nat, t ≤ 4 ∧ i = .int .i64 t ∧ Own wr base v (n + t) (E ++ (fours g).take t) ∧ Below base w wr) (fun _ i _ => 4 - (intOf i).toNat)
      case atStart => exact ⟨0, by omega, rfl, by simpa using hown, hw0⟩
      case round =>
        clear hown hw0
        obtain ⟨t, ht, rfl, hown, hbel⟩ := hrel
        have hsz := hbel.size
        by_cases hlt4 : t < 4
        · have hcase : t = 0 ∨ t = 1 ∨ t = 2 ∨ t = 3 := by omega
          rcases hcase with rfl | rfl | rfl | rfl
          · have d0 : decide ((k : Int) < 0) = false := decide_eq_false (by omega)
            obtain ⟨j, hj⟩ : ∃ j, j = q / 262144 % 64 := ⟨_, rfl⟩
            have hi : bits .and .u32 ((q : Int) / 262144) 63 = (j : Int) := by rw [hj]; exact and63 (q / 262144) (by omega)
            have hj4 : j < 64 := by omega
            rw [← hj] at HF0
            clear hj
            go_wp2_with (at_builtin; refine wpList_app1 _ rfl _ _ rfl base _ _ _ rfl (by exact hown.alloc _) ⟨wr.heap.size, 0, none⟩ 1 (sg j) rfl ?c1 ?c2 ?c3 ?_)
            case c1 => exact (one_new _ _ _ _ rfl).trans (congrArg (fun c : UInt8 => some (bv c)) (sg_get j hj4 _))
            case c2 => omega
            case c3 => simp; omega
            intro v' w2 hown' hgrow
            have hb1 : Below base w w2 := by
              refine Below.grown ?_ hgrow ?_ (fun g hg => (hown.lt g hg).1)
              · exact hbel.alloc (by omega) _
              · simp; omega
            clear hgrow
            go_wp2
            go_roundw
            case rel => exact ⟨0 + 1, by omega, by go_num, by rw [← HF0.out] at hown'; simpa [fours] using hown', hb1⟩
            case measure => simp [intOf] <;> omega
          · have d0 : decide ((k : Int) < 1) = false := decide_eq_false (by omega)
            obtain ⟨j, hj⟩ : ∃ j, j = q / 4096 % 64 := ⟨_, rfl⟩
            have hi : bits .and .u32 ((q : Int) / 4096) 63 = (j : Int) := by rw [hj]; exact and63 (q / 4096) (by omega)
            have hj4 : j < 64 := by omega
            rw [← hj] at HF1
            clear hj
            go_wp2_with (at_builtin; refine wpList_app1 _ rfl _ _ rfl base _ _ _ rfl (by exact hown.alloc _) ⟨wr.heap.size, 0, none⟩ 1 (sg j) rfl ?c1 ?c2 ?c3 ?_)
            case c1 => exact (one_new _ _ _ _ rfl).trans (congrArg (fun c : UInt8 => some (bv c)) (sg_get j hj4 _))
            case c2 => omega
            case c3 => simp; omega
            intro v' w2 hown' hgrow
            have hb1 : Below base w w2 := by
              refine Below.grown ?_ hgrow ?_ (fun g hg => (hown.lt g hg).1)
              · exact hbel.alloc (by omega) _
              · simp; omega
            clear hgrow
            go_wp2
            go_roundw
            case rel => exact ⟨1 + 1, by omega, by go_num, by rw [← HF1.out] at hown'; simpa [fours] using hown', hb1⟩
            case measure => simp [intOf] <;> omega
          · by_cases hge : 2 ≤ k
            rotate_left
            · have d0 : decide ((k : Int) < 2) = true := decide_eq_true (by omega)
              go_wp2_with (at_builtin; refine wpList_app1 _ rfl _ _ rfl base _ _ _ rfl (by exact hown.alloc _) ⟨wr.heap.size, 0, none⟩ 1 61 rfl ?c1 ?c2 ?c3 ?_)
              case c1 => exact one_new _ _ _ _ rfl
              case c2 => omega
              case c3 => simp; omega
              intro v' w2 hown' hgrow
              have hb1 : Below base w w2 := by
                refine Below.grown ?_ hgrow ?_ (fun g hg => (hown.lt g hg).1)
                · exact hbel.alloc (by omega) _
                · simp; omega
              clear hgrow
              go_wp2
              go_roundw
              case rel => exact ⟨2 + 1, by omega, by go_num, by rw [← HG2.out hge] at hown'; simpa [fours] using hown', hb1⟩
              case measure => simp [intOf] <;> omega
            · have d0 : decide ((k : Int) < 2) = false := decide_eq_false (by omega)
              obtain ⟨j, hj⟩ : ∃ j, j = q / 64 % 64 := ⟨_, rfl⟩
              have hi : bits .and .u32 ((q : Int) / 64) 63 = (j : Int) := by rw [hj]; exact and63 (q / 64) (by omega)
              have hj4 : j < 64 := by omega
              rw [← hj] at HF2
              clear hj
              go_wp2_with (at_builtin; refine wpList_app1 _ rfl _ _ rfl base _ _ _ rfl (by exact hown.alloc _) ⟨wr.heap.size, 0, none⟩ 1 (sg j) rfl ?c1 ?c2 ?c3 ?_)
              case c1 => exact (one_new _ _ _ _ rfl).trans (congrArg (fun c : UInt8 => some (bv c)) (sg_get j hj4 _))
              case c2 => omega
              case c3 => simp; omega
              intro v' w2 hown' hgrow
              have hb1 : Below base w w2 := by
                refine Below.grown ?_ hgrow ?_ (fun g hg => (hown.lt g hg).1)
                · exact hbel.alloc (by omega) _
                · simp; omega
              clear hgrow
              go_wp2
              go_roundw
              case rel => exact ⟨2 + 1, by omega, by go_num, by rw [← HF2.out hge] at hown'; simpa [fours] using hown', hb1⟩
              case measure => simp [intOf] <;> omega
          · by_cases hge : 3 ≤ k
            rotate_left
            · have d0 : decide ((k : Int) < 3) = true := decide_eq_true (by omega)
              go_wp2_with (at_builtin; refine wpList_app1 _ rfl _ _ rfl base _ _ _ rfl (by exact hown.alloc _) ⟨wr.heap.size, 0, none⟩ 1 61 rfl ?c1 ?c2 ?c3 ?_)
              case c1 => exact one_new _ _ _ _ rfl
              case c2 => omega
              case c3 => simp; omega
              intro v' w2 hown' hgrow
              have hb1 : Below base w w2 := by
                refine Below.grown ?_ hgrow ?_ (fun g hg => (hown.lt g hg).1)
                · exact hbel.alloc (by omega) _
                · simp; omega
              clear hgrow
              go_wp2
              go_roundw
              case rel => exact ⟨3 + 1, by omega, by go_num, by rw [← HG3.out hge] at hown'; simpa [fours] using hown', hb1⟩
              case measure => simp [intOf] <;> omega
            · have d0 : decide ((k : Int) < 3) = false := decide_eq_false (by omega)
              obtain ⟨j, hj⟩ : ∃ j, j = q % 64 := ⟨_, rfl⟩
              have hi : bits .and .u32 ((q : Int)) 63 = (j : Int) := by rw [hj]; exact and63 (q) (by omega)
              have hj4 : j < 64 := by omega
              rw [← hj] at HF3
              clear hj
              go_wp2_with (at_builtin; refine wpList_app1 _ rfl _ _ rfl base _ _ _ rfl (by exact hown.alloc _) ⟨wr.heap.size, 0, none⟩ 1 (sg j) rfl ?c1 ?c2 ?c3 ?_)
              case c1 => exact (one_new _ _ _ _ rfl).trans (congrArg (fun c : UInt8 => some (bv c)) (sg_get j hj4 _))
              case c2 => omega
              case c3 => simp; omega
              intro v' w2 hown' hgrow
              have hb1 : Below base w w2 := by
                refine Below.grown ?_ hgrow ?_ (fun g hg => (hown.lt g hg).1)
                · exact hbel.alloc (by omega) _
                · simp; omega
              clear hgrow
              go_wp2
              go_roundw
              case rel => exact ⟨3 + 1, by omega, by go_num, by rw [← HF3.out hge] at hown'; simpa [fours] using hown', hb1⟩
              case measure => simp [intOf] <;> omega
        · obtain rfl : t = 4 := by omega
          go_wp2
          go_ret
          exact ⟨⟨_, rfl, by simpa [fours] using hown⟩, hbel⟩

end Go.Proofs.Ytfiagknmieegaaa.Six
