
/- Contracts: ref06.blank, Trim, Fold; lines.Trim. -/
import Derived.Test.YtglghfbdchcihaaDoorTrmN
import Derived.Test.YtglghfbdchcihaaDoorTrimS
namespace Go.Proofs.YtglghfbdchcihaaDoor.Lin
open Go.RowKit
set_option maxRecDepth 100000

theorem blank_any (x : UInt8) (w : World) :
    Calls Tryd.prog 38 #[.int .u8 (x.toNat : Int)] w fun e w' => e = .returned (.bool (bls.contains x)) ∧ w = w' := by
  rcases bl_cases x with ⟨hb, h⟩ | ⟨hb, h1, h2, h3⟩
  · rw [hb]
    rcases h with rfl | rfl | rfl
    all_goals
      go_enter Tryd.func38, Tryd.ntmps38
      go_wp2
      go_ret
      exact ⟨rfl, rfl⟩
  · rw [hb]
    have e1 : ((x.toNat : Int) == 32) = false := byte_ne h1
    have e2 : ((x.toNat : Int) == 9) = false := byte_ne h2
    have e3 : ((x.toNat : Int) == 13) = false := byte_ne h3
    go_enter Tryd.func38, Tryd.ntmps38
    go_wp2
    go_ret
    exact ⟨rfl, rfl⟩

theorem trim_any (l : List UInt8) (w : World) (hn : l.length ≤ 1000000) :
    Calls Tryd.prog 25 #[sv l] w fun e w' => e = .returned (sv (trim l)) ∧ Below w.heap.size w w' := by
  have hcon := Tryd.strings_Trim_laid ⟨⟨l⟩⟩ ⟨#[32, 9, 13]⟩ w (by show l.length ≤ _; omega) (by decide) (ascii_of_all (by decide))
  change Calls Tryd.prog 35 _ _ (fun e w' => e = .returned (sv (trim l)) ∧ Below w.heap.size w w') at hcon
  generalize trim l = r at hcon ⊢
  go_enter Tryd.func25, Tryd.ntmps25
  go_wp2_with (go_at_call 35; refine hcon.mono ?_; rintro e w' ⟨rfl, hB⟩)
  go_ret
  exact ⟨rfl, hB⟩

def sizeOf' : Value → Nat
  | .string s => s.size
  | _ => 0

theorem refTrim_any (l : List UInt8) (w : World) (hn : l.length ≤ 1000000) :
    Calls Tryd.prog 29 #[sv l] w fun e w' => e = .returned (sv (trim l)) ∧ w = w' := by
  go_enter Tryd.func29, Tryd.ntmps29
  go_wp2
  go_loop [0] (fun v => ∃ t : List UInt8, v = sv t ∧ t.length ≤ 1000000 ∧ trL t = trL l) (fun v => sizeOf' v)
  case atStart => exact ⟨l, rfl, hn, rfl⟩
  case round =>
    obtain ⟨t, rfl, ht, hrelt⟩ := hrel
    have HT := Lib.hid hrelt
    clear hrelt
    rcases t with _ | ⟨x, t'⟩
    rotate_left
    rcases bl_cases x with ⟨hb, _⟩ | ⟨hb, _⟩
    · have hz : (ByteArray.mk ⟨x :: t'⟩).size = t'.length + 1 := rfl
      have ha : ∀ h' : 0 < (ByteArray.mk ⟨x :: t'⟩).size, (ByteArray.mk ⟨x :: t'⟩)[0]'h' = x := fun _ => rfl
      simp only [List.length_cons] at ht
      have d0 : decide ((0 : Int) < (t'.length : Int) + 1) = true := by simp
      have HC := Lib.hid (text_cut (x :: t') 1 (ByteArray.mk ⟨x :: t'⟩).size)
      have hcon := Lib.hid (fun W => blank_any x W)
      rw [hb] at hcon
      go_wp2_with fail
      refine (hcon.out _).mono ?_; rintro e w1 ⟨rfl, rfl⟩
      go_wp2
      go_round
      case rel => exact ⟨t', congrArg Value.string (by rw [← hz, HC.out]; simp [hz]), by omega, by rw [← HT.out]; exact (trL_cons x t' hb).symm⟩
      case measure => simp [sizeOf', ByteArray.size] <;> omega
    have hz : (ByteArray.mk ⟨x :: t'⟩).size = t'.length + 1 := rfl
    have ha : ∀ h' : 0 < (ByteArray.mk ⟨x :: t'⟩).size, (ByteArray.mk ⟨x :: t'⟩)[0]'h' = x := fun _ => rfl
    have HE := Lib.hid (show x :: t' = trL l by rw [← HT.out]; exact (trL_stop x t' hb).symm)
    simp only [List.length_cons] at ht
    have d0 : decide ((0 : Int) < (t'.length : Int) + 1) = true := by simp
    have hcon := Lib.hid (fun W => blank_any x W)
    rw [hb] at hcon
    go_wp2_with fail
    refine (hcon.out _).mono ?_; rintro e w1 ⟨rfl, rfl⟩
    go_wp2
    rotate_left
    have hz : (ByteArray.mk ⟨([] : List UInt8)⟩).size = 0 := rfl
    have HE := Lib.hid (show [] = trL l by rw [← HT.out]; rfl)
    go_wp2
    all_goals
      clear hz
      go_loop [0] (fun v => ∃ t : List UInt8, v = sv t ∧ t.length ≤ 1000000 ∧ trR t = trR (trL l)) (fun v => sizeOf' v)
      case atStart => exact ⟨_, rfl, by first | exact ht | (simp; omega), by rw [← HE.out]⟩
      case round =>
        obtain ⟨t, rfl, ht2, hrelt⟩ := hrel
        have HR := Lib.hid hrelt
        clear hrelt
        rcases List.eq_nil_or_concat t with rfl | ⟨t2, y, rfl⟩
        · have HF := Lib.hid (show trim l = [] by unfold trim; rw [trim_comm, ← HR.out]; rfl)
          have hz : (ByteArray.mk ⟨([] : List UInt8)⟩).size = 0 := rfl
          go_wp2
          go_ret
          exact ⟨congrArg (fun x => Ending.returned (sv x)) HF.out.symm, rfl⟩
        · rw [List.concat_eq_append] at *
          have hz : (ByteArray.mk ⟨t2 ++ [y]⟩).size = t2.length + 1 := by show (t2 ++ [y]).length = _; simp
          have ha := last_at t2 y
          simp only [List.length_append, List.length_cons, List.length_nil] at ht2
          have d0 : decide ((0 : Int) < (t2.length : Int) + 1) = true := by simp
          have hw : IntKind.i64.wrap ((t2.length : Int) + 1 - 1) = (t2.length : Int) := by rw [Int.add_sub_cancel]; exact IntWalk.i64_in _ (by omega)
          have hcon := Lib.hid (fun W => blank_any y W)
          rcases bl_cases y with ⟨hb2, _⟩ | ⟨hb2, _⟩
          · have HC := Lib.hid (text_cut (t2 ++ [y]) 0 t2.length)
            rw [hb2] at hcon
            go_wp2_with fail
            refine (hcon.out _).mono ?_; rintro e w1 ⟨rfl, rfl⟩
            go_wp2
            go_round
            case rel => exact ⟨t2, congrArg Value.string (by rw [HC.out]; simp), by omega, by rw [← HR.out]; exact (trR_end y t2 hb2).symm⟩
            case measure => simp [sizeOf', ByteArray.size] <;> omega
          · have HF := Lib.hid (show trim l = t2 ++ [y] by unfold trim; rw [trim_comm, ← HR.out]; exact trR_stop y t2 hb2)
            rw [hb2] at hcon
            go_wp2_with fail
            refine (hcon.out _).mono ?_; rintro e w1 ⟨rfl, rfl⟩
            go_wp2
            go_ret
            exact ⟨congrArg (fun x => Ending.returned (sv x)) HF.out.symm, rfl⟩

theorem refFold_any (l : List UInt8) (w : World) (hn : l.length ≤ 1000000) :
    Calls Tryd.prog 30 #[sv l] w fun e w' => e = .returned (sv (fold l)) ∧ Below w.heap.size w w' := by
  have hsz : (ByteArray.mk ⟨l⟩).size = l.length := rfl
  have Hat := Lib.hid (fun i c => byte_at (ByteArray.mk ⟨l⟩) i c)
  have HL := Lib.hid (show (ByteArray.mk ⟨l⟩).data.toList = l from rfl)
  unfold sv
  generalize ByteArray.mk ⟨l⟩ = s at *
  go_enter Tryd.func30, Tryd.ntmps30
  go_wp2
  go_loopw [3, 4] (fun v i wr => ∃ k : Nat, k ≤ l.length ∧ i = .int .i64 k ∧ v = sv (fold (l.take k)) ∧ Below w.heap.size w wr) (fun _ i _ => l.length - (intOf i).toNat)
  case atStart => exact ⟨0, Nat.zero_le _, rfl, rfl, Below.refl _ _⟩
  case round =>
    obtain ⟨k, hk, rfl, rfl, hbel⟩ := hrel
    by_cases hlt : k < l.length
    · have hc := Hat.out k l[k] (by rw [HL.out]; exact List.getElem?_eq_getElem hlt)
      have HS := Lib.hid (show fold (l.take (k + 1)) = fold (l.take k) ++ [fo l[k]] by unfold fold; rw [List.take_succ_eq_append_getElem hlt, List.map_append]; rfl)
      have hlen : (fold (l.take k)).length ≤ 1000000 := by unfold fold; simp; omega
      generalize fold (l.take k) = E at *
      generalize l[k] = c at *
      have hcl := c.toNat_lt
      have hszb := hbel.size
      by_cases hup : 65 ≤ c.toNat ∧ c.toNat ≤ 90
      · have HU := Lib.hid (fo_up c hup)
        have hwr : IntKind.u8.wrap ((c.toNat : Int) + 32) = (c.toNat : Int) + 32 := IntWalk.u8_in _ (by omega)
        have d1 : decide ((65 : Int) ≤ (c.toNat : Int)) = true := by simp; omega
        have d2 : decide ((c.toNat : Int) ≤ 90) = true := by simp; omega
        have ht := run_text (wr.alloc (.cells #[bv (fo c)] 5)) (some ⟨wr.heap.size, 0, none⟩) 1 1 [fo c] (shows_new wr #[bv (fo c)] [fo c] rfl)
        unfold bv at ht
        rw [← HU.out] at ht
        have hb1 := hbel.alloc hszb (.cells #[.int .u8 ((c.toNat : Int) + 32)] 5)
        go_wp2
        go_roundw
        case rel => exact ⟨k + 1, by omega, by go_num, congrArg Value.string (by rw [HS.out]; exact ByteArray.mk_append_mk _ _), hb1⟩
        case measure => simp [intOf] <;> omega
      · have HU := Lib.hid (fo_stay c hup)
        have ht := run_text (wr.alloc (.cells #[bv c] 5)) (some ⟨wr.heap.size, 0, none⟩) 1 1 [c] (shows_new wr #[bv c] [c] rfl)
        unfold bv at ht
        have hb1 := hbel.alloc hszb (.cells #[.int .u8 (c.toNat : Int)] 5)
        by_cases h65 : 65 ≤ c.toNat
        · have d1 : decide ((65 : Int) ≤ (c.toNat : Int)) = true := by simp; omega
          have d2 : decide ((c.toNat : Int) ≤ 90) = false := by simp; omega
          go_wp2
          go_roundw
          case rel => exact ⟨k + 1, by omega, by go_num, congrArg Value.string (by rw [HS.out, HU.out]; exact ByteArray.mk_append_mk _ _), hb1⟩
          case measure => simp [intOf] <;> omega
        · have d1 : decide ((65 : Int) ≤ (c.toNat : Int)) = false := by simp; omega
          go_wp2
          go_roundw
          case rel => exact ⟨k + 1, by omega, by go_num, congrArg Value.string (by rw [HS.out, HU.out]; exact ByteArray.mk_append_mk _ _), hb1⟩
          case measure => simp [intOf] <;> omega
    · obtain rfl : k = l.length := by omega
      rw [List.take_of_length_le (Nat.le_refl _)]
      go_wp2
      go_ret
      exact ⟨rfl, hbel⟩

end Go.Proofs.YtglghfbdchcihaaDoor.Lin
