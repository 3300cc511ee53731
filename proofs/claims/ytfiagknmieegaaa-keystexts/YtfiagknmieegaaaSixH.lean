
/- Contract: ref04.Encode. -/
import Derived.Test.YtfiagknmieegaaaSixG
import Derived.Deep.RegionWith
namespace Go.Proofs.Ytfiagknmieegaaa.Six
open Go.RowKit

theorem refEncode_any (A : Option Addr) (n c : Nat) (l : List UInt8) (w : World) (hn : n ≤ 100000) (h : Shows w w.heap.size A n l) :
    Calls Try.prog 26 #[.slice A n c] w fun e w' => e = .returned (sv (enc l)) ∧ Below w.heap.size w w' := by
  have hlen := h.len
  have hel : (enc l).length = (n + 2) / 3 * 4 := by rw [enc_len, hlen]
  have Hat := Lib.hid (enc_at l)
  have Hpad := Lib.hid (enc_pad l)
  have Hel := Lib.hid hel
  have Hlen := Lib.hid hlen
  clear hel hlen
  go_enter Try.func26, Try.ntmps26
  go_wp2
  go_loopw [3, 4] (fun v i wr => ∃ j : Nat, 6 * j ≤ 8 * n + 5 ∧ i = .int .i64 ((6 * j : Nat) : Int) ∧ v = sv ((enc l).take j) ∧ Below w.heap.size w wr) (fun _ i _ => 8 * n + 6 - (intOf i).toNat)
  case atStart => exact ⟨0, by omega, rfl, by simp, Below.refl _ _⟩
  case round =>
    obtain ⟨j, hj, rfl, rfl, hbel⟩ := hrel
    have hsw : Shows wr wr.heap.size A n l := (h.below hbel).up hbel.size
    by_cases hlt : 6 * j < 8 * n
    · have HN := Lib.hid (take_next (enc l) j _ (Hat.out j (by rw [Hlen.out]; exact hlt)))
      have hxl : xs l j 6 < 64 := xs_lt l j 6
      have htl : ((enc l).take j).length ≤ 1000000 := by rw [List.length_take, Hel.out]; omega
      generalize (enc l).take j = E at *
      obtain ⟨i, hi⟩ : ∃ i, i = 6 * j := ⟨_, rfl⟩
      rw [← hi]
      rw [← hi] at hlt
      have Hi := Lib.hid hi
      have hib : i ≤ 1000000 := by omega
      clear hi hj
      have d0 : decide ((i : Int) < 8 * (n : Int)) = true := decide_eq_true (by omega)
      clear h
      go_wp2
      go_loopw [5, 6] (fun x k wr' => ∃ t : Nat, t ≤ 6 ∧ k = .int .i64 ((i + t : Nat) : Int) ∧ x = .int .i64 (xs l j t : Int) ∧ Below wr.heap.size wr wr') (fun _ k _ => i + 6 - (intOf k).toNat)
      case atStart => exact ⟨0, by omega, rfl, rfl, Below.refl _ _⟩
      case round =>
        obtain ⟨t, ht, rfl, rfl, hbel2⟩ := hrel
        have hs3 : Shows _ _ A n l := (hsw.below hbel2).up hbel2.size
        by_cases ht6 : t < 6
        · have HX := Lib.hid (show xs l j (t + 1) = 2 * xs l j t + bitAt l (6 * j + t) from rfl)
          have hx1 : xs l j t < 64 := by
            have h1 := xs_lt l j t
            have h2 : 2 ^ t ≤ 2 ^ 6 := Nat.pow_le_pow_right (by omega) (by omega)
            omega
          have hb1 := bitAt_le l (6 * j + t)
          rw [← Hi.out] at HX hb1
          obtain ⟨k, hk⟩ : ∃ k, k = i + t := ⟨_, rfl⟩
          rw [← hk] at HX hb1 ⊢
          have Hk := Lib.hid hk
          have hkb : k ≤ 1000006 := by omega
          have d1 : decide ((k : Int) < (i : Int) + 6) = true := decide_eq_true (by omega)
          clear hk
          generalize xs l j t = x at *
          by_cases hin : k < 8 * n
          · have HB := Lib.hid (bit_any A n c k l _ hin (by omega) hs3)
            have d2 : decide ((k : Int) < 8 * (n : Int)) = true := decide_eq_true (by omega)
            generalize bitAt l k = b at *
            clear hs3 hsw
            go_wp2_with fail
            refine HB.out.mono ?_; rintro e w1 ⟨rfl, rfl⟩
            go_wp2
            go_roundw
            case rel => exact ⟨t + 1, by omega, congrArg (Value.int .i64) (by have := Hk.out; omega), by rw [HX.out]; go_num, hbel2⟩
            case measure => have := Hk.out; simp [intOf] <;> omega
          · have HB := Lib.hid (bitAt_past l k (by rw [Hlen.out]; omega))
            have d2 : decide ((k : Int) < 8 * (n : Int)) = false := decide_eq_false (by omega)
            clear hs3 hsw
            go_wp2
            go_roundw
            case rel => exact ⟨t + 1, by omega, congrArg (Value.int .i64) (by have := Hk.out; omega), by rw [HX.out, HB.out]; go_num, hbel2⟩
            case measure => have := Hk.out; simp [intOf] <;> omega
        · obtain rfl : t = 6 := by omega
          have d1 : decide ((i : Int) + 6 < (i : Int) + 6) = false := decide_eq_false (by omega)
          have HC := Lib.hid (sg_cut (xs l j 6) hxl)
          have hsz := sgt_size
          have HS := Lib.hid signs_any
          generalize xs l j 6 = x at *
          generalize sgt = s at *
          clear hs3 hsw
          have hb3 := Below.on hbel hbel.size hbel2
          have hx0 : (x : Int) ≤ (x : Int) + 1 := by omega
          have hx2 : (x : Int) + 1 ≤ 64 := by omega
          have hxw : IntKind.i64.wrap ((x : Int) + 1) = (x : Int) + 1 := IntWalk.i64_in _ (by omega)
          have hxt : ((x : Int) + 1).toNat = x + 1 := by omega
          have hx3 : (0 : Int) ≤ (x : Int) + 1 := by omega
          go_wp2_with fail
          refine (HS.out _).mono ?_; rintro e w1 ⟨rfl, rfl⟩
          go_wp2
          go_roundw
          case rel => exact ⟨j + 1, by have := Hi.out; omega, congrArg (Value.int .i64) (by have := Hi.out; omega), congrArg Value.string (by rw [HN.out, HC.out]; exact ByteArray.mk_append_mk _ _), hb3⟩
          case measure => have := Hi.out; simp [intOf] <;> omega
    · obtain ⟨i, hi⟩ : ∃ i, i = 6 * j := ⟨_, rfl⟩
      rw [← hi]
      rw [← hi] at hlt
      have d0 : decide ((i : Int) < 8 * (n : Int)) = false := decide_eq_false (by omega)
      have hjl : j ≤ (enc l).length := by rw [Hel.out]; omega
      have hib : i ≤ 1000000 := by omega
      have Hi := Lib.hid hi
      clear hi hsw h
      go_wp2
      go_loopw [3] (fun v wr' => ∃ q : Nat, v = sv ((enc l).take q) ∧ 8 * n ≤ 6 * q ∧ q ≤ (enc l).length ∧ Below w.heap.size w wr') (fun v _ => 1000000 - sizeOf4 v)
      case atStart => exact ⟨j, rfl, by have := Hi.out; omega, hjl, hbel⟩
      case round =>
        clear hbel
        obtain ⟨q, rfl, hq1, hq2, hbel⟩ := hrel
        have hql : (ByteArray.mk ⟨(enc l).take q⟩).size = q := by show ((enc l).take q).length = q; rw [List.length_take]; omega
        have hq3 : q ≤ 200000 := by rw [Hel.out] at hq2; omega
        by_cases hq4 : q % 4 = 0
        · have HF := Lib.hid (show (enc l).take q = enc l from List.take_of_length_le (by rw [Hel.out] at hq2 ⊢; omega))
          have d1 : ((q : Int) % 4 != 0) = false := by rw [bne_eq_false_iff_eq]; omega
          clear hq1 hq2
          go_wp2
          go_ret
          exact ⟨congrArg (fun x => Ending.returned (sv x)) HF.out, hbel⟩
        · have hlt2 : q < (enc l).length := by rw [Hel.out] at hq2 ⊢; omega
          have HN := Lib.hid (take_next (enc l) q 61 (Hpad.out q (by rw [Hlen.out]; exact hq1) hlt2))
          have d1 : ((q : Int) % 4 != 0) = true := by rw [bne_iff_ne]; omega
          have hql2 : (ByteArray.mk ⟨(enc l).take (q + 1)⟩).size = q + 1 := by show ((enc l).take (q + 1)).length = q + 1; rw [List.length_take]; omega
          have HA := Lib.hid (show ByteArray.mk ⟨(enc l).take q⟩ ++ ⟨#[61]⟩ = ByteArray.mk ⟨(enc l).take (q + 1)⟩ by rw [HN.out]; exact ByteArray.mk_append_mk _ _)
          have HM := Lib.hid (show 1000000 - sizeOf4 (sv ((enc l).take (q + 1))) < 1000000 - sizeOf4 (sv ((enc l).take q)) by show 1000000 - (ByteArray.mk ⟨(enc l).take (q + 1)⟩).size < 1000000 - (ByteArray.mk ⟨(enc l).take q⟩).size; rw [hql, hql2]; omega)
          clear hql2
          go_wp2
          go_roundw
          case rel => exact ⟨q + 1, congrArg Value.string HA.out, by omega, by omega, hbel⟩
          case measure => rw [HA.out]; exact HM.out

end Go.Proofs.Ytfiagknmieegaaa.Six
