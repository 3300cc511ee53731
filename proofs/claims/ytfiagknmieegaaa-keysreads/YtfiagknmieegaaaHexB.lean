
/- Contracts: hexes.Encode; ref05.Encode. -/
import Derived.Test.YtfiagknmieegaaaHexA
import Derived.Deep.RegionLaw
import Derived.Laws.BitsAllLaws
import Derived.Laws.Concat
namespace Go.Proofs.Ytfiagknmieegaaa.Hex
open Go.RowKit

/-- The text of bytes. -/
def hexEnc (l : List UInt8) : List UInt8 := l.flatMap fun c => [hexd (c.toNat / 16), hexd (c.toNat % 16)]

theorem hexEnc_len (l : List UInt8) : (hexEnc l).length = 2 * l.length := by
  induction l with
  | nil => rfl
  | cons c t ih => simp only [hexEnc, List.flatMap_cons, List.length_append, List.length_cons, List.length_nil] at *; omega

theorem hexEnc_succ (l : List UInt8) (k : Nat) (x : UInt8) (h : l[k]? = some x) : hexEnc (l.take (k + 1)) = hexEnc (l.take k) ++ [hexd (x.toNat / 16), hexd (x.toNat % 16)] := by
  obtain ⟨hk, rfl⟩ := List.getElem?_eq_some_iff.1 h
  rw [List.take_succ_eq_append_getElem hk, hexEnc, hexEnc, List.flatMap_append]
  rfl

theorem encode_any (A : Option Addr) (n c : Nat) (l : List UInt8) (w : World) (hn : n ≤ 1000000) (h : Shows w w.heap.size A n l) :
    Calls Try.prog 52 #[.slice A n c] w fun e w' => e = .returned (.string ⟨⟨hexEnc l⟩⟩) ∧ Below w.heap.size w w' := by
  go_enter Try.func52, Try.ntmps52
  go_wp2_with (at_make; refine wpList_mk0 _ rfl _ _ rfl w.heap.size (2 * n) _ rfl rfl (by omega) (by omega) (Nat.le_refl _) ?_; intro w1 hown hgrow)
  go_loopw [3, 12] (fun v i wr => ∃ k : Nat, k ≤ n ∧ i = .int .i64 k ∧ Own wr w.heap.size v (2 * k) (hexEnc (l.take k)) ∧ Below w.heap.size w wr) (fun _ i _ => n - (intOf i).toNat)
  case atStart => exact ⟨0, Nat.zero_le _, rfl, hown, (Below.refl _ _).grown hgrow (Nat.le_refl _) (fun k hk => by cases hk)⟩
  case round =>
    clear hown hgrow
    obtain ⟨k, hk, rfl, hown, hbel⟩ := hrel
    by_cases hlt : k < n
    · obtain ⟨b, off, x, rfl, hb, hc, hx, hlx⟩ := (h.below hbel).byte hlt
      obtain ⟨q, hq, hq16, Hq⟩ : ∃ q : Nat, (x.toNat : Int) / 16 = (q : Int) ∧ q < 16 ∧ Hid (x.toNat / 16 = q) := ⟨x.toNat / 16, by omega, by omega, rfl⟩
      obtain ⟨r, hr, hr16, Hr⟩ : ∃ r : Nat, bits BinOp.and IntKind.u8 (x.toNat : Int) 15 = (r : Int) ∧ r < 16 ∧ Hid (x.toNat % 16 = r) :=
        ⟨x.toNat % 16, by rw [show (15 : Int) = ((15 : Nat) : Int) from rfl, u8_and_nat _ _ hx (by omega), nat_mask4], by omega, rfl⟩
      have hq16' : (q : Int) < 16 := by omega
      have hr16' : (r : Int) < 16 := by omega
      have hsz := hbel.size
      have g16 := hexd_get
      have HS := Lib.hid (hexEnc_succ l k x hlx)
      clear hlx
      go_wp2
      go_region_law ((refine step_app2 _ rfl _ _ rfl w.heap.size _ _ _ rfl (by exact hown.alloc _) wr.heap.size 2 (hexd q) (hexd r) rfl (by simp) (by simp) (by omega) (by simp; omega) ?_); intro v' w1 hown' hgrow)
      all_goals
        have hb1 : Below w.heap.size w w1 := by
          refine Below.grown (w := (wr.alloc _).drew) ?_ hgrow ?_ (fun g hg => (hown.lt g hg).1)
          · exact (hbel.alloc hsz _).drew
          · simp; omega
        clear hgrow
        go_wp2
        go_roundw
        case rel => exact ⟨k + 1, by omega, by go_num, by rw [HS.out, Hq.out, Hr.out]; exact hown', hb1⟩
        case measure => simp [intOf] <;> omega
    · obtain rfl : k = n := by omega
      obtain ⟨A', c', rfl, _, _, hs⟩ := hown.shows
      have ht := run_text wr A' (2 * k) c' _ hs
      rw [List.take_of_length_le (Nat.le_of_eq h.len)] at ht
      go_wp2
      go_ret
      exact ⟨rfl, hbel⟩

theorem str_add (a b : List UInt8) : (ByteArray.mk ⟨a⟩ ++ ByteArray.mk ⟨b⟩) = ByteArray.mk ⟨a ++ b⟩ := ByteArray.mk_append_mk a b

theorem refEncode_any (A : Option Addr) (n c : Nat) (l : List UInt8) (w : World) (hn : n ≤ 1000000) (h : Shows w w.heap.size A n l) :
    Calls Try.prog 28 #[.slice A n c] w fun e w' => e = .returned (.string ⟨⟨hexEnc l⟩⟩) ∧ Below w.heap.size w w' := by
  go_enter Try.func28, Try.ntmps28
  go_wp2
  go_loopw [3, 4] (fun v i wr => ∃ k : Nat, k ≤ n ∧ i = .int .i64 k ∧ v = .string ⟨⟨hexEnc (l.take k)⟩⟩ ∧ Below w.heap.size w wr) (fun _ i _ => n - (intOf i).toNat)
  case atStart => exact ⟨0, Nat.zero_le _, rfl, rfl, Below.refl _ _⟩
  case round =>
    obtain ⟨k, hk, rfl, rfl, hbel⟩ := hrel
    by_cases hlt : k < n
    · obtain ⟨b, off, x, rfl, hb, hc, hx, hlx⟩ := (h.below hbel).byte hlt
      obtain ⟨q, hq, hq16, Hq⟩ : ∃ q : Nat, (x.toNat : Int) / 16 = (q : Int) ∧ q < 16 ∧ Hid (x.toNat / 16 = q) := ⟨x.toNat / 16, by omega, by omega, rfl⟩
      obtain ⟨r, hr, hr16, Hr⟩ : ∃ r : Nat, (x.toNat : Int) % 16 = (r : Int) ∧ r < 16 ∧ Hid (x.toNat % 16 = r) := ⟨x.toNat % 16, by omega, by omega, rfl⟩
      have HS := Lib.hid (hexEnc_succ l k x hlx)
      have hln : (hexEnc (l.take k)).length ≤ 2000000 := by rw [hexEnc_len, List.length_take]; omega
      generalize hexEnc (l.take k) = E at *
      clear hlx
      go_wp2
      go_quiet ((go_at_call 58; exact Calls.quiet_of_same ((digit_any _ _ (by omega) (by omega)).mono fun _ _ hh => ⟨hh.1, hh.2.symm⟩)))
      go_wp2
      go_roundw
      case rel => exact ⟨k + 1, by omega, by go_num, congrArg Value.string (by rw [HS.out, Hq.out, Hr.out, str_add, str_add, List.append_assoc]; rfl), below_draw hbel _⟩
      case measure => simp [intOf] <;> omega
    · obtain rfl : k = n := by omega
      rw [List.take_of_length_le (Nat.le_of_eq h.len)]
      go_wp2
      go_ret
      exact ⟨rfl, hbel⟩

end Go.Proofs.Ytfiagknmieegaaa.Hex
