
/- The walk of law18.OnesumAdd. -/
import Derived.Test.YtolmejmmbdclfaaSumB
namespace Go.Proofs.Ytolmejmmbdclfaa
open Go.RowKit

theorem osum_pair (a b : Nat) (ha : a ≤ 65535) (hb : b ≤ 65535) : osum [UInt8.ofNat (a / 256), UInt8.ofNat (a % 256), UInt8.ofNat (b / 256), UInt8.ofNat (b % 256)] = foldN (a + b) := by
  unfold osum
  congr 1
  simp [raw]
  omega

theorem walk_OnesumAdd (a b c : Int) (w0 : (Lit.int .u16 a).wf = true) (w1 : (Lit.int .u16 b).wf = true) (w2 : (Lit.int .u16 c).wf = true) (w : World) :
    Calls Try.prog 4 #[.int .u16 a, .int .u16 b, .int .u16 c] w fun e w' => e = .returned (.bool true) ∧ Below w.heap.size w w' := by
  obtain ⟨ha0, ha1⟩ := bounds_u16 w0
  obtain ⟨hb0, hb1⟩ := bounds_u16 w1
  obtain ⟨hc0, hc1⟩ := bounds_u16 w2
  obtain ⟨a, rfl⟩ := Int.eq_ofNat_of_zero_le ha0
  obtain ⟨b, rfl⟩ := Int.eq_ofNat_of_zero_le hb0
  obtain ⟨c, rfl⟩ := Int.eq_ofNat_of_zero_le hc0
  have ha : a ≤ 65535 := by omega
  have hb : b ≤ 65535 := by omega
  have hc : c ≤ 65535 := by omega
  clear ha0 ha1 hb0 hb1 hc0 hc1 w0 w1 w2
  have HX := Lib.hid (fun W : World => add_any a b W ha hb)
  have HX' := Lib.hid (fun W : World => add_any b a W hb ha)
  rw [Nat.add_comm b a] at HX'
  have HY := Lib.hid (fun W : World => add_any b c W hb hc)
  have HZ := Lib.hid (fun W : World => add_any (foldN (a + b)) c W (foldN_le _) hc)
  have HZ' := Lib.hid (fun W : World => add_any a (foldN (b + c)) W ha (foldN_le _))
  rw [foldN_add] at HZ
  rw [Nat.add_comm a (foldN (b + c)), foldN_add, show b + c + a = a + b + c by omega] at HZ'
  have HP := Lib.hid (osum_pair a b ha hb)
  have hX := foldN_le (a + b)
  have hY := foldN_le (b + c)
  generalize foldN (a + b) = X at *
  generalize foldN (b + c) = Y at *
  generalize foldN (a + b + c) = Z at *
  go_enter Try.func4, Try.ntmps4
  go_wp2_with (go_at_call 18; refine (HX.out _).mono ?_; rintro e w' ⟨rfl, rfl⟩)
  refine (refSum_any _ 4 4 _ _ (by omega) (shows_new w #[.int .u8 ((a : Int) / 256), .int .u8 ((a : Int) % 256), .int .u8 ((b : Int) / 256), .int .u8 ((b : Int) % 256)] [UInt8.ofNat (a / 256), UInt8.ofNat (a % 256), UInt8.ofNat (b / 256), UInt8.ofNat (b % 256)] (by simp [bv] <;> omega))).mono ?_
  rintro e w1 ⟨rfl, rfl⟩
  rw [HP.out]
  have b1 : Below w.heap.size w (w.alloc (.cells #[.int .u8 ((a : Int) / 256), .int .u8 ((a : Int) % 256), .int .u8 ((b : Int) / 256), .int .u8 ((b : Int) % 256)] 5)) := (Below.refl _ _).alloc (Nat.le_refl _) _
  generalize w.alloc (.cells #[.int .u8 ((a : Int) / 256), .int .u8 ((a : Int) % 256), .int .u8 ((b : Int) / 256), .int .u8 ((b : Int) % 256)] 5) = w1 at *
  clear HP HX
  go_wp2_with fail
  refine (HX'.out _).mono ?_
  rintro e w' ⟨rfl, rfl⟩
  go_wp2_with fail
  refine (HZ.out _).mono ?_
  rintro e w' ⟨rfl, rfl⟩
  go_wp2_with fail
  refine (HY.out _).mono ?_
  rintro e w' ⟨rfl, rfl⟩
  go_wp2_with fail
  refine (HZ'.out _).mono ?_
  rintro e w' ⟨rfl, rfl⟩
  go_wp2_with fail
  refine (alive18 _).mono ?_
  rintro e w' ⟨rfl, hb2⟩
  go_wp2
  go_ret
  exact ⟨rfl, Below.on b1 b1.size hb2⟩

end Go.Proofs.Ytolmejmmbdclfaa
