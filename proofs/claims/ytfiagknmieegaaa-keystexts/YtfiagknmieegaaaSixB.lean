
/- Contract: sixtyfour.Encode. -/
import Derived.Test.YtfiagknmieegaaaSixA
namespace Go.Proofs.Ytfiagknmieegaaa.Six
open Go.RowKit

theorem fours1 (x : UInt8) : fours [x] = enc [x] := by
  have hx := x.toNat_lt
  simp only [fours, four, enc, un, List.length_cons, List.length_nil, List.take_succ_cons, List.take_zero, List.getD_cons_zero, List.getD_cons_succ, List.getD_nil, UInt8.toNat_zero]
  simp
  refine ⟨congrArg sg ?_, congrArg sg ?_⟩ <;> omega
theorem fours2 (x y : UInt8) : fours [x, y] = enc [x, y] := by
  have hx := x.toNat_lt
  have hy := y.toNat_lt
  simp only [fours, four, enc, un, List.length_cons, List.length_nil, List.take_succ_cons, List.take_zero, List.getD_cons_zero, List.getD_cons_succ, List.getD_nil, UInt8.toNat_zero]
  simp
  refine ⟨congrArg sg ?_, congrArg sg ?_, congrArg sg ?_⟩ <;> omega
theorem fours3 (x y z : UInt8) (r : List UInt8) : enc (x :: y :: z :: r) = fours [x, y, z] ++ enc r := by
  have hx := x.toNat_lt
  have hy := y.toNat_lt
  have hz := z.toNat_lt
  simp only [fours, four, enc, un, List.length_cons, List.length_nil, List.take_succ_cons, List.getD_cons_zero, List.getD_cons_succ]
  simp
  refine ⟨congrArg sg ?_, congrArg sg ?_, congrArg sg ?_, congrArg sg ?_⟩ <;> omega
theorem fours_enc (r : List UInt8) (h : r ≠ []) : enc r = fours (r.take 3) ++ enc (r.drop 3) := by
  match r, h with
  | [x], _ => simp [enc, fours1]
  | [x, y], _ => simp [enc, fours2]
  | x :: y :: z :: t, _ => exact fours3 x y z t

theorem enc_len (l : List UInt8) : (enc l).length = (l.length + 2) / 3 * 4 := by
  match l with
  | [] => rfl
  | [_] => simp [enc]
  | [_, _] => simp [enc]
  | x :: y :: z :: r =>
    have := enc_len r
    simp only [enc, List.length_cons, this]
    omega

def lenOf : Value → Nat
  | .slice _ n _ => n
  | _ => 0

theorem encode_any (A : Option Addr) (n c : Nat) (l : List UInt8) (w : World) (hn : n ≤ 100000) (hnc : n ≤ c) (h : Shows w w.heap.size A n l) :
    Calls Try.prog 51 #[.slice A n c] w fun e w' => e = .returned (sv (enc l)) ∧ Below w.heap.size w w' := by
  have hlen := h.len
  go_enter Try.func51, Try.ntmps51
  go_wp2_with (at_make; refine wpList_mk0 _ rfl _ _ rfl w.heap.size ((n + 2) / 3 * 4) _ rfl rfl (by omega) (by omega) (Nat.le_refl _) ?_; intro w1 hown hgrow)
  have hb0 : Below w.heap.size w w1 := (Below.refl _ _).grown hgrow (Nat.le_refl _) (fun k hk => by cases hk)
  go_loopw [0, 3] (fun b v wr => ∃ (A' : Option Addr) (m c' k : Nat) (r E : List UInt8), b = .slice A' m c' ∧ m ≤ c' ∧ m ≤ n ∧ Shows wr w.heap.size A' m r ∧ Own wr w.heap.size v k E ∧ k ≤ 400000 ∧ k + (m + 2) / 3 * 4 ≤ (n + 2) / 3 * 4 ∧ E ++ enc r = enc l ∧ Below w.heap.size w wr) (fun b _ _ => lenOf b)
  case atStart => exact ⟨A, n, c, 0, l, [], rfl, hnc, Nat.le_refl _, h.below hb0, hown, by omega, by omega, rfl, hb0⟩
  case round =>
    clear hown hgrow hb0 h
    obtain ⟨A', m, c', k, r, E, rfl, hmc, hmn, hs, hown, hk, hkn, hE, hbel⟩ := hrel
    have hrl := hs.len
    have HE := Lib.hid hE
    clear hE
    by_cases hm0 : m = 0
    · subst hm0
      obtain rfl : r = [] := List.eq_nil_of_length_eq_zero hrl
      obtain ⟨A2, c2, rfl, h21, h22, s2⟩ := hown.shows
      have HF := Lib.hid (show enc l = E by rw [← HE.out]; simp [enc])
      have ht := run_text wr A2 k c2 E s2
      go_wp2
      go_ret
      exact ⟨congrArg (fun x => Ending.returned (sv x)) HF.out.symm, hbel⟩
    · have hr0 : r ≠ [] := fun e => hm0 (by rw [← hrl, e]; rfl)
      have HS := Lib.hid (fours_enc r hr0)
      have hsz := hbel.size
      by_cases hm3 : 3 ≤ m
      · have sf : Shows wr w.heap.size A' 3 (r.take 3) := Sh.front (f := bv) hs hm3
        have sb : Shows wr w.heap.size (if c' = 3 then A' else A'.map (·.add 3)) (m - 3) (r.drop 3) := Sh.back (f := bv) hs hm3 hmc
        go_wp2_with fail
        refine (appendFour_any w.heap.size _ k E A' 3 c' (r.take 3) _ (by omega) (by omega) (by omega) hown hsz sf).mono ?_
        rintro e w2 ⟨⟨v', rfl, hown'⟩, hb2⟩
        have hb3 := hbel.trans hb2
        have sb2 := sb.below hb2
        clear hb2 sf sb hs hown
        go_wp2
        go_roundw
        case rel => exact ⟨_, m - 3, c' - 3, k + 4, r.drop 3, E ++ fours (r.take 3), rfl, by omega, by omega, sb2, hown', by omega, by omega, by rw [List.append_assoc, ← HS.out]; exact HE.out, hb3⟩
        case measure => simp [lenOf] <;> omega
      · have sf : Shows wr w.heap.size A' m (r.take 3) := by rw [List.take_of_length_le (by omega)]; exact hs
        have sb : Shows wr w.heap.size (if c' = m then A' else A'.map (·.add m)) 0 (r.drop m) := by have := Sh.back (f := bv) hs (Nat.le_refl _) hmc; rwa [Nat.sub_self] at this
        have HD := Lib.hid (show r.drop 3 = r.drop m by rw [List.drop_of_length_le (by omega), List.drop_of_length_le (by omega)])
        go_wp2_with fail
        refine (appendFour_any w.heap.size _ k E A' m c' (r.take 3) _ (by omega) (by omega) (by omega) hown hsz sf).mono ?_
        rintro e w2 ⟨⟨v', rfl, hown'⟩, hb2⟩
        have hb3 := hbel.trans hb2
        have sb2 := sb.below hb2
        clear hb2 sf sb hs hown
        go_wp2
        go_roundw
        case rel => exact ⟨_, 0, c' - m, k + 4, r.drop m, E ++ fours (r.take 3), rfl, by omega, by omega, sb2, hown', by omega, by omega, by rw [List.append_assoc, ← HD.out, ← HS.out]; exact HE.out, hb3⟩
        case measure => simp [lenOf] <;> omega

end Go.Proofs.Ytfiagknmieegaaa.Six
