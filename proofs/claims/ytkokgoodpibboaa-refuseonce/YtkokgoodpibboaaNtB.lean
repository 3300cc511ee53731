
/- Contract: notice.Front. -/
import Derived.Test.YtkokgoodpibboaaNtA
namespace Go.Proofs.Ytkokgoodpibboaa
open Go.RowKit
set_option maxRecDepth 100000
set_option linter.unusedSimpArgs false
set_option linter.unusedVariables false

theorem u8_orN (a b : Nat) (ha : a < 256) (hb : b < 256) : bits .or .u8 (a : Int) (b : Int) = ((a ||| b : Nat) : Int) := by
  have hx : a ||| b < 2 ^ 8 := Nat.or_lt_two_pow (by omega) (by omega)
  show IntKind.u8.wrap ((BitVec.ofInt 8 (a : Int) ||| BitVec.ofInt 8 (b : Int)).toNat : Int) = _
  rw [BitVec.toNat_or, BitVec.toNat_ofInt, BitVec.toNat_ofInt]
  have e1 : ((a : Int) % ((2 ^ 8 : Nat) : Int)).toNat = a := by omega
  have e2 : ((b : Int) % ((2 ^ 8 : Nat) : Int)).toNat = b := by omega
  rw [e1, e2]
  simp [IntKind.wrap, IntKind.bits, IntKind.signed]
  omega
/-- Why bytes are no notice. -/
def fE (k cd : Nat) (J l : List UInt8) : Nat :=
  if l.length < 8 then 3 else if byt l 0 = k ∧ byt l 1 = cd then (if osum (J ++ l) = 65535 then (if byt l 4 = 0 ∧ byt l 5 = 0 ∧ byt l 6 = 0 ∧ byt l 7 = 0 then 0 else 10) else 11) else 9

set_option maxRecDepth 100000 in
set_option maxHeartbeats 4000000 in
theorem nfront_bad (k cd : Nat) (hk : k < 256) (hcd : cd < 256) (A : Option Addr) (n c : Nat) (l : List UInt8) (PA : Option Addr) (pn pc : Nat) (L : List Part) (w : World) (hn : n ≤ 100000) (hc : n ≤ c) (hcm : c ≤ maxLen) (hpn : pn ≤ 1000) (hJ : (joinP L).length ≤ 1000000) (hs : Shows w w.heap.size A n l) (hp : Parts w w.heap.size PA pn L) (hE : ¬ fE k cd (joinP L) l = 0) :
    Calls Try.prog 84 #[.slice A n c, .int .u8 (k : Int), .int .u8 (cd : Int), .slice PA pn pc] w fun e w' => e = .returned (.tuple #[.slice none 0 0, .int .i64 (fE k cd (joinP L) l : Int)]) ∧ Below w.heap.size w w' := by
  have hl := hs.len
  by_cases q0 : n < 8
  · have E : fE k cd (joinP L) l = 3 := by unfold fE; rw [hl, if_pos q0]
    have d0 : decide ((n : Int) < 8) = true := decide_eq_true (by omega)
    have HF := Lib.hid E
    clear E hE
    generalize fE k cd (joinP L) l = FE at *
    go_enter Try.func84, Try.ntmps84
    go_wp2
    go_ret2
    exact ⟨by rw [HF.out]; rfl, Below.refl _ _⟩
  have d0 : decide ((n : Int) < 8) = false := decide_eq_false (by omega)
  obtain ⟨b, off, rfl, hbb, _⟩ := hs.2 (by omega)
  have HE := Lib.hid (show fE k cd (joinP L) l = if byt l 0 = k ∧ byt l 1 = cd then (if osum (joinP L ++ l) = 65535 then (if byt l 4 = 0 ∧ byt l 5 = 0 ∧ byt l 6 = 0 ∧ byt l 7 = 0 then 0 else 10) else 11) else 9 by unfold fE; rw [hl, if_neg q0])
  have HY := Lib.hid (fun (i : Nat) (hi : i < n) (W : World) (hW : Below w.heap.size w W) => show W.cell? ⟨b, off + i, none⟩ = some (.int .u8 (byt l i : Int)) from (hs.below hW).byt i hi)
  have c0 : w.cell? ⟨b, off, none⟩ = some (.int .u8 (byt l 0 : Int)) := HY.out 0 (by omega) w (Below.refl _ _)
  have c1 : w.cell? ⟨b, off + 1, none⟩ = some (.int .u8 (byt l 1 : Int)) := HY.out 1 (by omega) w (Below.refl _ _)
  have H4 := Lib.hid (HY.out 4 (by omega))
  have H5 := Lib.hid (HY.out 5 (by omega))
  have H6 := Lib.hid (HY.out 6 (by omega))
  have H7 := Lib.hid (HY.out 7 (by omega))
  have HB := Lib.hid (behind_any PA pn pc L (some ⟨b, off, none⟩) n c l w hpn hp hs)
  have HG := Lib.hid (fun (A2 : Option Addr) (c2 : Nat) (W : World) (hP : Parts W W.heap.size A2 (pn + 1) (L ++ [⟨some ⟨b, off, none⟩, n, c, l⟩])) => sumGood_any A2 (pn + 1) c2 _ W (by omega) (by simp [joinP] at hJ ⊢; omega) hP)
  have hj2 : joinP (L ++ [⟨some ⟨b, off, none⟩, n, c, l⟩]) = joinP L ++ l := by simp [joinP]
  rw [hj2] at HG
  have HCl := Lib.hid (fun (W : World) (hW : Below w.heap.size w W) => bclone_any ⟨b, off + 8, none⟩ (n - 8) (c - 8) (l.drop 8) W (by omega) (by
    have := ((hs.below hW).up hW.size).piece 8 (n - 8) (by omega)
    rw [List.take_of_length_le (by simp; omega)] at this
    exact this))
  have HCl8 := Lib.hid (fun (W : World) (h8 : n = 8) => bclone_any ⟨b, off, none⟩ 0 0 (l.drop 8) W (by omega) ⟨by simp; omega, fun h => absurd h (by omega)⟩)
  have l4 := byt_lt l 4
  have l5 := byt_lt l 5
  have l6 := byt_lt l 6
  have l7 := byt_lt l 7
  have l0 := byt_lt l 0
  have l1 := byt_lt l 1
  have in0 : (0 : Int) < (n : Int) := by omega
  have in0' : 0 < n := by omega
  have in1 : (1 : Int) < (n : Int) := by omega
  have in4 : (4 : Int) < (n : Int) := by omega
  have in5 : (5 : Int) < (n : Int) := by omega
  have in6 : (6 : Int) < (n : Int) := by omega
  have in7 : (7 : Int) < (n : Int) := by omega
  have ic8 : (8 : Int) ≤ (n : Int) := by omega
  have ic8' : (n : Int) ≤ (c : Int) := by omega
  clear hs hp HY hj2
  generalize byt l 0 = Y0 at *
  generalize byt l 1 = Y1 at *
  generalize byt l 4 = Y4 at *
  generalize byt l 5 = Y5 at *
  generalize byt l 6 = Y6 at *
  generalize byt l 7 = Y7 at *
  generalize osum (joinP L ++ l) = OS at *
  generalize fE k cd (joinP L) l = FE at *
  clear HCl HCl8
  by_cases q1 : ¬ Y0 = k
  · have E : FE = 9 := by rw [HE.out, if_neg (by omega)]
    have d1 : decide ((Y0 : Int) = (k : Int)) = false := decide_eq_false (by omega)
    have d1' : (((Y0 : Int)) == (k : Int)) = false := by simp; omega
    have d1'' : (((Y0 : Int)) != (k : Int)) = true := by simp; omega
    have HF := Lib.hid E
    clear E hE HE
    go_enter Try.func84, Try.ntmps84
    go_wp2
    go_ret2
    exact ⟨by rw [HF.out]; rfl, Below.refl _ _⟩
  obtain rfl : Y0 = k := by omega
  by_cases q2 : ¬ Y1 = cd
  · have E : FE = 9 := by rw [HE.out, if_neg (by omega)]
    have d2 : decide ((Y1 : Int) = (cd : Int)) = false := decide_eq_false (by omega)
    have d2' : (((Y1 : Int)) == (cd : Int)) = false := by simp; omega
    have d2'' : (((Y1 : Int)) != (cd : Int)) = true := by simp; omega
    have HF := Lib.hid E
    clear E hE HE
    go_enter Try.func84, Try.ntmps84
    go_wp2
    go_ret2
    exact ⟨by rw [HF.out]; rfl, Below.refl _ _⟩
  obtain rfl : Y1 = cd := by omega
  by_cases q3 : ¬ OS = 65535
  · have E : FE = 11 := by rw [HE.out, if_pos ⟨rfl, rfl⟩, if_neg q3]
    rw [decide_eq_false q3] at HG
    have HF := Lib.hid E
    clear E hE HE
    go_enter Try.func84, Try.ntmps84
    go_wp2_with fail
    refine HB.out.mono ?_
    rintro e w2 ⟨A2, c2, rfl, p2, b2⟩
    go_wp2_with fail
    refine (HG.out A2 c2 _ p2).mono ?_
    rintro e w' ⟨rfl, rfl⟩
    clear p2
    go_wp2
    go_ret2
    exact ⟨by rw [HF.out]; rfl, b2⟩
  obtain rfl : OS = 65535 := by omega
  rw [decide_eq_true (show (65535 : Nat) = 65535 from rfl)] at HG
  have g1 := u8_orN Y4 Y5 (by omega) (by omega)
  have o1 : Y4 ||| Y5 < 256 := Nat.or_lt_two_pow (n := 8) (by omega) (by omega)
  have g2 := u8_orN (Y4 ||| Y5) Y6 o1 (by omega)
  have o2 : Y4 ||| Y5 ||| Y6 < 256 := Nat.or_lt_two_pow (n := 8) o1 (by omega)
  have g3 := u8_orN (Y4 ||| Y5 ||| Y6) Y7 o2 (by omega)
  have a1 : Y4 ≤ Y4 ||| Y5 := Nat.left_le_or
  have a2 : Y5 ≤ Y4 ||| Y5 := Nat.right_le_or
  have a3 : Y4 ||| Y5 ≤ Y4 ||| Y5 ||| Y6 := Nat.left_le_or
  have a4 : Y6 ≤ Y4 ||| Y5 ||| Y6 := Nat.right_le_or
  have a5 : Y4 ||| Y5 ||| Y6 ≤ Y4 ||| Y5 ||| Y6 ||| Y7 := Nat.left_le_or
  have a6 : Y7 ≤ Y4 ||| Y5 ||| Y6 ||| Y7 := Nat.right_le_or
  have az : (Y4 = 0 ∧ Y5 = 0 ∧ Y6 = 0 ∧ Y7 = 0) → Y4 ||| Y5 ||| Y6 ||| Y7 = 0 := by rintro ⟨rfl, rfl, rfl, rfl⟩; rfl
  generalize Y4 ||| Y5 ||| Y6 ||| Y7 = Z3 at *
  generalize Y4 ||| Y5 ||| Y6 = Z2 at *
  generalize Y4 ||| Y5 = Z1 at *
  by_cases q4 : (Y4 = 0 ∧ Y5 = 0 ∧ Y6 = 0 ∧ Y7 = 0)
  · exact absurd (by rw [HE.out, if_pos ⟨rfl, rfl⟩, if_pos rfl, if_pos q4]) hE
  have E : FE = 10 := by rw [HE.out, if_pos ⟨rfl, rfl⟩, if_pos rfl, if_neg q4]
  have qz : ¬ Z3 = 0 := by omega
  have dz : decide ((Z3 : Int) = 0) = false := decide_eq_false (by omega)
  have dz' : (((Z3 : Int)) == 0) = false := by simp; omega
  have dz'' : (((Z3 : Int)) != 0) = true := by simp; omega
  clear q4 az a1 a2 a3 a4 a5 a6
  have HF := Lib.hid E
  clear E hE HE
  go_enter Try.func84, Try.ntmps84
  go_wp2_with fail
  refine HB.out.mono ?_
  rintro e w2 ⟨A2, c2, rfl, p2, b2⟩
  go_wp2_with fail
  refine (HG.out A2 c2 _ p2).mono ?_
  rintro e w' ⟨rfl, rfl⟩
  clear p2
  go_wp2_with fail
  have qk : Below w.heap.size w w2.drew := b2.drew
  clear b2 HB HG
  refine wp_region_held_drew (S := fun W => Below w.heap.size w W) (by kernel_rfl) qk ?_
  intro hS
  refine wpAnyH_take (i := 0) (oi := ?o2501) (v := ?vo2501) ?hio2501 (by kernel_rfl) (by kernel_rfl) (by kernel_rfl) ?hQo2501 ?hyo2501 hS ?_
  case hio2501 => (simp only [List.getElem?_toArray, List.getElem?_cons_succ, List.getElem?_cons_zero]; rfl)
  case hQo2501 => exact fun _ _ _ h => h
  case hyo2501 =>
    refine Or.inl ⟨by rfl, ?_⟩
    intro W hW
    go_simp
    first | done | with_reducible rfl
  try simp only [Act.put, List.setIfInBounds_toArray, List.set_cons_zero, List.set_cons_succ]
  refine wpAnyH_take (i := 1) (oi := ?o2502) (v := ?vo2502) ?hio2502 (by kernel_rfl) (by kernel_rfl) (by kernel_rfl) ?hQo2502 ?hyo2502 hS ?_
  case hio2502 => (simp only [List.getElem?_toArray, List.getElem?_cons_succ, List.getElem?_cons_zero]; rfl)
  case hQo2502 => exact fun _ _ _ h => h
  case hyo2502 =>
    refine Or.inl ⟨by rfl, ?_⟩
    intro W hW
    go_simp
    first | done | with_reducible rfl
  try simp only [Act.put, List.setIfInBounds_toArray, List.set_cons_zero, List.set_cons_succ]
  refine wpAnyH_take (i := 2) (oi := ?o2503) (v := ?vo2503) ?hio2503 (by kernel_rfl) (by kernel_rfl) (by kernel_rfl) ?hQo2503 ?hyo2503 hS ?_
  case hio2503 => (simp only [List.getElem?_toArray, List.getElem?_cons_succ, List.getElem?_cons_zero]; rfl)
  case hQo2503 => exact fun _ _ _ h => h
  case hyo2503 =>
    refine Or.inl ⟨by rfl, ?_⟩
    intro W hW
    have hcell := H4.out W hW
    go_simp
    first | done | with_reducible rfl
  try simp only [Act.put, List.setIfInBounds_toArray, List.set_cons_zero, List.set_cons_succ]
  refine wpAnyH_take (i := 3) (oi := ?o2504) (v := ?vo2504) ?hio2504 (by kernel_rfl) (by kernel_rfl) (by kernel_rfl) ?hQo2504 ?hyo2504 hS ?_
  case hio2504 => (simp only [List.getElem?_toArray, List.getElem?_cons_succ, List.getElem?_cons_zero]; rfl)
  case hQo2504 => exact fun _ _ _ h => h
  case hyo2504 =>
    refine Or.inl ⟨by rfl, ?_⟩
    intro W hW
    go_simp
    first | done | with_reducible rfl
  try simp only [Act.put, List.setIfInBounds_toArray, List.set_cons_zero, List.set_cons_succ]
  refine wpAnyH_take (i := 4) (oi := ?o2505) (v := ?vo2505) ?hio2505 (by kernel_rfl) (by kernel_rfl) (by kernel_rfl) ?hQo2505 ?hyo2505 hS ?_
  case hio2505 => (simp only [List.getElem?_toArray, List.getElem?_cons_succ, List.getElem?_cons_zero]; rfl)
  case hQo2505 => exact fun _ _ _ h => h
  case hyo2505 =>
    refine Or.inl ⟨by rfl, ?_⟩
    intro W hW
    go_simp
    first | done | with_reducible rfl
  try simp only [Act.put, List.setIfInBounds_toArray, List.set_cons_zero, List.set_cons_succ]
  refine wpAnyH_take (i := 5) (oi := ?o2506) (v := ?vo2506) ?hio2506 (by kernel_rfl) (by kernel_rfl) (by kernel_rfl) ?hQo2506 ?hyo2506 hS ?_
  case hio2506 => (simp only [List.getElem?_toArray, List.getElem?_cons_succ, List.getElem?_cons_zero]; rfl)
  case hQo2506 => exact fun _ _ _ h => h
  case hyo2506 =>
    refine Or.inl ⟨by rfl, ?_⟩
    intro W hW
    have hcell := H5.out W hW
    go_simp
    first | done | with_reducible rfl
  try simp only [Act.put, List.setIfInBounds_toArray, List.set_cons_zero, List.set_cons_succ]
  refine wpAnyH_take (i := 6) (oi := ?o2507) (v := ?vo2507) ?hio2507 (by kernel_rfl) (by kernel_rfl) (by kernel_rfl) ?hQo2507 ?hyo2507 hS ?_
  case hio2507 => (simp only [List.getElem?_toArray, List.getElem?_cons_succ, List.getElem?_cons_zero]; rfl)
  case hQo2507 => exact fun _ _ _ h => h
  case hyo2507 =>
    refine Or.inl ⟨by rfl, ?_⟩
    intro W hW
    go_simp
    first | done | with_reducible rfl
  try simp only [Act.put, List.setIfInBounds_toArray, List.set_cons_zero, List.set_cons_succ]
  refine wpAnyH_take (i := 7) (oi := ?o2508) (v := ?vo2508) ?hio2508 (by kernel_rfl) (by kernel_rfl) (by kernel_rfl) ?hQo2508 ?hyo2508 hS ?_
  case hio2508 => (simp only [List.getElem?_toArray, List.getElem?_cons_succ, List.getElem?_cons_zero]; rfl)
  case hQo2508 => exact fun _ _ _ h => h
  case hyo2508 =>
    refine Or.inl ⟨by rfl, ?_⟩
    intro W hW
    go_simp
    first | done | with_reducible rfl
  try simp only [Act.put, List.setIfInBounds_toArray, List.set_cons_zero, List.set_cons_succ]
  refine wpAnyH_take (i := 8) (oi := ?o2509) (v := ?vo2509) ?hio2509 (by kernel_rfl) (by kernel_rfl) (by kernel_rfl) ?hQo2509 ?hyo2509 hS ?_
  case hio2509 => (simp only [List.getElem?_toArray, List.getElem?_cons_succ, List.getElem?_cons_zero]; rfl)
  case hQo2509 => exact fun _ _ _ h => h
  case hyo2509 =>
    refine Or.inl ⟨by rfl, ?_⟩
    intro W hW
    go_simp
    first | done | with_reducible rfl
  try simp only [Act.put, List.setIfInBounds_toArray, List.set_cons_zero, List.set_cons_succ]
  refine wpAnyH_take (i := 9) (oi := ?o2510) (v := ?vo2510) ?hio2510 (by kernel_rfl) (by kernel_rfl) (by kernel_rfl) ?hQo2510 ?hyo2510 hS ?_
  case hio2510 => (simp only [List.getElem?_toArray, List.getElem?_cons_succ, List.getElem?_cons_zero]; rfl)
  case hQo2510 => exact fun _ _ _ h => h
  case hyo2510 =>
    refine Or.inl ⟨by rfl, ?_⟩
    intro W hW
    have hcell := H6.out W hW
    go_simp
    first | done | with_reducible rfl
  try simp only [Act.put, List.setIfInBounds_toArray, List.set_cons_zero, List.set_cons_succ]
  refine wpAnyH_take (i := 10) (oi := ?o2511) (v := ?vo2511) ?hio2511 (by kernel_rfl) (by kernel_rfl) (by kernel_rfl) ?hQo2511 ?hyo2511 hS ?_
  case hio2511 => (simp only [List.getElem?_toArray, List.getElem?_cons_succ, List.getElem?_cons_zero]; rfl)
  case hQo2511 => exact fun _ _ _ h => h
  case hyo2511 =>
    refine Or.inl ⟨by rfl, ?_⟩
    intro W hW
    go_simp
    first | done | with_reducible rfl
  try simp only [Act.put, List.setIfInBounds_toArray, List.set_cons_zero, List.set_cons_succ]
  refine wpAnyH_take (i := 11) (oi := ?o2512) (v := ?vo2512) ?hio2512 (by kernel_rfl) (by kernel_rfl) (by kernel_rfl) ?hQo2512 ?hyo2512 hS ?_
  case hio2512 => (simp only [List.getElem?_toArray, List.getElem?_cons_succ, List.getElem?_cons_zero]; rfl)
  case hQo2512 => exact fun _ _ _ h => h
  case hyo2512 =>
    refine Or.inl ⟨by rfl, ?_⟩
    intro W hW
    go_simp
    first | done | with_reducible rfl
  try simp only [Act.put, List.setIfInBounds_toArray, List.set_cons_zero, List.set_cons_succ]
  refine wpAnyH_take (i := 12) (oi := ?o2513) (v := ?vo2513) ?hio2513 (by kernel_rfl) (by kernel_rfl) (by kernel_rfl) ?hQo2513 ?hyo2513 hS ?_
  case hio2513 => (simp only [List.getElem?_toArray, List.getElem?_cons_succ, List.getElem?_cons_zero]; rfl)
  case hQo2513 => exact fun _ _ _ h => h
  case hyo2513 =>
    refine Or.inl ⟨by rfl, ?_⟩
    intro W hW
    go_simp
    first | done | with_reducible rfl
  try simp only [Act.put, List.setIfInBounds_toArray, List.set_cons_zero, List.set_cons_succ]
  refine wpAnyH_take (i := 13) (oi := ?o2514) (v := ?vo2514) ?hio2514 (by kernel_rfl) (by kernel_rfl) (by kernel_rfl) ?hQo2514 ?hyo2514 hS ?_
  case hio2514 => (simp only [List.getElem?_toArray, List.getElem?_cons_succ, List.getElem?_cons_zero]; rfl)
  case hQo2514 => exact fun _ _ _ h => h
  case hyo2514 =>
    refine Or.inl ⟨by rfl, ?_⟩
    intro W hW
    have hcell := H7.out W hW
    go_simp
    first | done | with_reducible rfl
  try simp only [Act.put, List.setIfInBounds_toArray, List.set_cons_zero, List.set_cons_succ]
  refine wpAnyH_take (i := 14) (oi := ?o2515) (v := ?vo2515) ?hio2515 (by kernel_rfl) (by kernel_rfl) (by kernel_rfl) ?hQo2515 ?hyo2515 hS ?_
  case hio2515 => (simp only [List.getElem?_toArray, List.getElem?_cons_succ, List.getElem?_cons_zero]; rfl)
  case hQo2515 => exact fun _ _ _ h => h
  case hyo2515 =>
    refine Or.inl ⟨by rfl, ?_⟩
    intro W hW
    go_simp
    first | done | with_reducible rfl
  try simp only [Act.put, List.setIfInBounds_toArray, List.set_cons_zero, List.set_cons_succ]
  refine wpAnyH_take (i := 15) (oi := ?o2516) (v := ?vo2516) ?hio2516 (by kernel_rfl) (by kernel_rfl) (by kernel_rfl) ?hQo2516 ?hyo2516 hS ?_
  case hio2516 => (simp only [List.getElem?_toArray, List.getElem?_cons_succ, List.getElem?_cons_zero]; rfl)
  case hQo2516 => exact fun _ _ _ h => h
  case hyo2516 =>
    refine Or.inl ⟨by rfl, ?_⟩
    intro W hW
    go_simp
    first | done | with_reducible rfl
  try simp only [Act.put, List.setIfInBounds_toArray, List.set_cons_zero, List.set_cons_succ]
  refine wpAnyH_take (i := 16) (oi := ?o2517) (v := ?vo2517) ?hio2517 (by kernel_rfl) (by kernel_rfl) (by kernel_rfl) ?hQo2517 ?hyo2517 hS ?_
  case hio2517 => (simp only [List.getElem?_toArray, List.getElem?_cons_succ, List.getElem?_cons_zero]; rfl)
  case hQo2517 => exact fun _ _ _ h => h
  case hyo2517 =>
    refine Or.inl ⟨by rfl, ?_⟩
    intro W hW
    go_simp
    first | done | with_reducible rfl
  try simp only [Act.put, List.setIfInBounds_toArray, List.set_cons_zero, List.set_cons_succ]
  refine wpAnyH_done (by kernel_rfl) ?_ _
  clear hS
  go_wp2
  go_ret2
  exact ⟨by rw [HF.out]; rfl, qk⟩

set_option maxRecDepth 100000 in
set_option maxHeartbeats 4000000 in
theorem nfront_ok (k cd : Nat) (hk : k < 256) (hcd : cd < 256) (A : Option Addr) (n c : Nat) (l : List UInt8) (PA : Option Addr) (pn pc : Nat) (L : List Part) (w : World) (hn : n ≤ 100000) (hc : n ≤ c) (hcm : c ≤ maxLen) (hpn : pn ≤ 1000) (hJ : (joinP L).length ≤ 1000000) (hs : Shows w w.heap.size A n l) (hp : Parts w w.heap.size PA pn L) (hE : fE k cd (joinP L) l = 0) :
    Calls Try.prog 84 #[.slice A n c, .int .u8 (k : Int), .int .u8 (cd : Int), .slice PA pn pc] w fun e w' => ∃ v, e = .returned (.tuple #[v, .int .i64 0]) ∧ Own w' w.heap.size v (n - 8) (l.drop 8) ∧ Below w.heap.size w w' := by
  have hl := hs.len
  have q0 : ¬ n < 8 := by
    intro h
    unfold fE at hE
    rw [hl, if_pos h] at hE
    cases hE
  have d0 : decide ((n : Int) < 8) = false := decide_eq_false (by omega)
  obtain ⟨b, off, rfl, hbb, _⟩ := hs.2 (by omega)
  have HE := Lib.hid (show fE k cd (joinP L) l = if byt l 0 = k ∧ byt l 1 = cd then (if osum (joinP L ++ l) = 65535 then (if byt l 4 = 0 ∧ byt l 5 = 0 ∧ byt l 6 = 0 ∧ byt l 7 = 0 then 0 else 10) else 11) else 9 by unfold fE; rw [hl, if_neg q0])
  have HY := Lib.hid (fun (i : Nat) (hi : i < n) (W : World) (hW : Below w.heap.size w W) => show W.cell? ⟨b, off + i, none⟩ = some (.int .u8 (byt l i : Int)) from (hs.below hW).byt i hi)
  have c0 : w.cell? ⟨b, off, none⟩ = some (.int .u8 (byt l 0 : Int)) := HY.out 0 (by omega) w (Below.refl _ _)
  have c1 : w.cell? ⟨b, off + 1, none⟩ = some (.int .u8 (byt l 1 : Int)) := HY.out 1 (by omega) w (Below.refl _ _)
  have H4 := Lib.hid (HY.out 4 (by omega))
  have H5 := Lib.hid (HY.out 5 (by omega))
  have H6 := Lib.hid (HY.out 6 (by omega))
  have H7 := Lib.hid (HY.out 7 (by omega))
  have HB := Lib.hid (behind_any PA pn pc L (some ⟨b, off, none⟩) n c l w hpn hp hs)
  have HG := Lib.hid (fun (A2 : Option Addr) (c2 : Nat) (W : World) (hP : Parts W W.heap.size A2 (pn + 1) (L ++ [⟨some ⟨b, off, none⟩, n, c, l⟩])) => sumGood_any A2 (pn + 1) c2 _ W (by omega) (by simp [joinP] at hJ ⊢; omega) hP)
  have hj2 : joinP (L ++ [⟨some ⟨b, off, none⟩, n, c, l⟩]) = joinP L ++ l := by simp [joinP]
  rw [hj2] at HG
  have HCl := Lib.hid (fun (W : World) (hW : Below w.heap.size w W) => bclone_any ⟨b, off + 8, none⟩ (n - 8) (c - 8) (l.drop 8) W (by omega) (by
    have := ((hs.below hW).up hW.size).piece 8 (n - 8) (by omega)
    rw [List.take_of_length_le (by simp; omega)] at this
    exact this))
  have HCl8 := Lib.hid (fun (W : World) (h8 : n = 8) => bclone_any ⟨b, off, none⟩ 0 0 (l.drop 8) W (by omega) ⟨by simp; omega, fun h => absurd h (by omega)⟩)
  have l4 := byt_lt l 4
  have l5 := byt_lt l 5
  have l6 := byt_lt l 6
  have l7 := byt_lt l 7
  have l0 := byt_lt l 0
  have l1 := byt_lt l 1
  have in0 : (0 : Int) < (n : Int) := by omega
  have in0' : 0 < n := by omega
  have in1 : (1 : Int) < (n : Int) := by omega
  have in4 : (4 : Int) < (n : Int) := by omega
  have in5 : (5 : Int) < (n : Int) := by omega
  have in6 : (6 : Int) < (n : Int) := by omega
  have in7 : (7 : Int) < (n : Int) := by omega
  have ic8 : (8 : Int) ≤ (n : Int) := by omega
  have ic8' : (n : Int) ≤ (c : Int) := by omega
  clear hs hp HY hj2
  generalize byt l 0 = Y0 at *
  generalize byt l 1 = Y1 at *
  generalize byt l 4 = Y4 at *
  generalize byt l 5 = Y5 at *
  generalize byt l 6 = Y6 at *
  generalize byt l 7 = Y7 at *
  generalize osum (joinP L ++ l) = OS at *
  generalize fE k cd (joinP L) l = FE at *
  have hh := HE.out
  rw [hE] at hh
  clear hE HE
  by_cases q1 : Y0 = k ∧ Y1 = cd
  · rw [if_pos q1] at hh
    obtain ⟨rfl, rfl⟩ := q1
    by_cases q3 : OS = 65535
    · rw [if_pos q3] at hh
      subst q3
      by_cases q4 : (Y4 = 0 ∧ Y5 = 0 ∧ Y6 = 0 ∧ Y7 = 0)
      · clear hh
        rw [decide_eq_true (show (65535 : Nat) = 65535 from rfl)] at HG
        have g1 := u8_orN Y4 Y5 (by omega) (by omega)
        have o1 : Y4 ||| Y5 < 256 := Nat.or_lt_two_pow (n := 8) (by omega) (by omega)
        have g2 := u8_orN (Y4 ||| Y5) Y6 o1 (by omega)
        have o2 : Y4 ||| Y5 ||| Y6 < 256 := Nat.or_lt_two_pow (n := 8) o1 (by omega)
        have g3 := u8_orN (Y4 ||| Y5 ||| Y6) Y7 o2 (by omega)
        have a1 : Y4 ≤ Y4 ||| Y5 := Nat.left_le_or
        have a2 : Y5 ≤ Y4 ||| Y5 := Nat.right_le_or
        have a3 : Y4 ||| Y5 ≤ Y4 ||| Y5 ||| Y6 := Nat.left_le_or
        have a4 : Y6 ≤ Y4 ||| Y5 ||| Y6 := Nat.right_le_or
        have a5 : Y4 ||| Y5 ||| Y6 ≤ Y4 ||| Y5 ||| Y6 ||| Y7 := Nat.left_le_or
        have a6 : Y7 ≤ Y4 ||| Y5 ||| Y6 ||| Y7 := Nat.right_le_or
        have az : (Y4 = 0 ∧ Y5 = 0 ∧ Y6 = 0 ∧ Y7 = 0) → Y4 ||| Y5 ||| Y6 ||| Y7 = 0 := by rintro ⟨rfl, rfl, rfl, rfl⟩; rfl
        generalize Y4 ||| Y5 ||| Y6 ||| Y7 = Z3 at *
        generalize Y4 ||| Y5 ||| Y6 = Z2 at *
        generalize Y4 ||| Y5 = Z1 at *
        obtain rfl : Z3 = 0 := az q4
        clear az a1 a2 a3 a4 a5 a6 q4
        generalize hD : l.drop 8 = D at *
        clear hD
        by_cases q5 : c = 8
        · have N8 := Lib.hid (show n = 8 by omega)
          subst q5
          go_enter Try.func84, Try.ntmps84
          go_wp2_with fail
          refine HB.out.mono ?_
          rintro e w2 ⟨A2, c2, rfl, p2, b2⟩
          go_wp2_with fail
          refine (HG.out A2 c2 _ p2).mono ?_
          rintro e w' ⟨rfl, rfl⟩
          clear p2
          go_wp2_with fail
          have qk : Below w.heap.size w w2.drew := b2.drew
          clear b2 HB HG
          refine wp_region_held_drew (S := fun W => Below w.heap.size w W) (by kernel_rfl) qk ?_
          intro hS
          refine wpAnyH_take (i := 0) (oi := ?o2518) (v := ?vo2518) ?hio2518 (by kernel_rfl) (by kernel_rfl) (by kernel_rfl) ?hQo2518 ?hyo2518 hS ?_
          case hio2518 => (simp only [List.getElem?_toArray, List.getElem?_cons_succ, List.getElem?_cons_zero]; rfl)
          case hQo2518 => exact fun _ _ _ h => h
          case hyo2518 =>
            refine Or.inl ⟨by rfl, ?_⟩
            intro W hW
            go_simp
            first | done | with_reducible rfl
          try simp only [Act.put, List.setIfInBounds_toArray, List.set_cons_zero, List.set_cons_succ]
          refine wpAnyH_take (i := 1) (oi := ?o2519) (v := ?vo2519) ?hio2519 (by kernel_rfl) (by kernel_rfl) (by kernel_rfl) ?hQo2519 ?hyo2519 hS ?_
          case hio2519 => (simp only [List.getElem?_toArray, List.getElem?_cons_succ, List.getElem?_cons_zero]; rfl)
          case hQo2519 => exact fun _ _ _ h => h
          case hyo2519 =>
            refine Or.inl ⟨by rfl, ?_⟩
            intro W hW
            go_simp
            first | done | with_reducible rfl
          try simp only [Act.put, List.setIfInBounds_toArray, List.set_cons_zero, List.set_cons_succ]
          refine wpAnyH_take (i := 2) (oi := ?o2520) (v := ?vo2520) ?hio2520 (by kernel_rfl) (by kernel_rfl) (by kernel_rfl) ?hQo2520 ?hyo2520 hS ?_
          case hio2520 => (simp only [List.getElem?_toArray, List.getElem?_cons_succ, List.getElem?_cons_zero]; rfl)
          case hQo2520 => exact fun _ _ _ h => h
          case hyo2520 =>
            refine Or.inl ⟨by rfl, ?_⟩
            intro W hW
            have hcell := H4.out W hW
            go_simp
            first | done | with_reducible rfl
          try simp only [Act.put, List.setIfInBounds_toArray, List.set_cons_zero, List.set_cons_succ]
          refine wpAnyH_take (i := 3) (oi := ?o2521) (v := ?vo2521) ?hio2521 (by kernel_rfl) (by kernel_rfl) (by kernel_rfl) ?hQo2521 ?hyo2521 hS ?_
          case hio2521 => (simp only [List.getElem?_toArray, List.getElem?_cons_succ, List.getElem?_cons_zero]; rfl)
          case hQo2521 => exact fun _ _ _ h => h
          case hyo2521 =>
            refine Or.inl ⟨by rfl, ?_⟩
            intro W hW
            go_simp
            first | done | with_reducible rfl
          try simp only [Act.put, List.setIfInBounds_toArray, List.set_cons_zero, List.set_cons_succ]
          refine wpAnyH_take (i := 4) (oi := ?o2522) (v := ?vo2522) ?hio2522 (by kernel_rfl) (by kernel_rfl) (by kernel_rfl) ?hQo2522 ?hyo2522 hS ?_
          case hio2522 => (simp only [List.getElem?_toArray, List.getElem?_cons_succ, List.getElem?_cons_zero]; rfl)
          case hQo2522 => exact fun _ _ _ h => h
          case hyo2522 =>
            refine Or.inl ⟨by rfl, ?_⟩
            intro W hW
            go_simp
            first | done | with_reducible rfl
          try simp only [Act.put, List.setIfInBounds_toArray, List.set_cons_zero, List.set_cons_succ]
          refine wpAnyH_take (i := 5) (oi := ?o2523) (v := ?vo2523) ?hio2523 (by kernel_rfl) (by kernel_rfl) (by kernel_rfl) ?hQo2523 ?hyo2523 hS ?_
          case hio2523 => (simp only [List.getElem?_toArray, List.getElem?_cons_succ, List.getElem?_cons_zero]; rfl)
          case hQo2523 => exact fun _ _ _ h => h
          case hyo2523 =>
            refine Or.inl ⟨by rfl, ?_⟩
            intro W hW
            have hcell := H5.out W hW
            go_simp
            first | done | with_reducible rfl
          try simp only [Act.put, List.setIfInBounds_toArray, List.set_cons_zero, List.set_cons_succ]
          refine wpAnyH_take (i := 6) (oi := ?o2524) (v := ?vo2524) ?hio2524 (by kernel_rfl) (by kernel_rfl) (by kernel_rfl) ?hQo2524 ?hyo2524 hS ?_
          case hio2524 => (simp only [List.getElem?_toArray, List.getElem?_cons_succ, List.getElem?_cons_zero]; rfl)
          case hQo2524 => exact fun _ _ _ h => h
          case hyo2524 =>
            refine Or.inl ⟨by rfl, ?_⟩
            intro W hW
            go_simp
            first | done | with_reducible rfl
          try simp only [Act.put, List.setIfInBounds_toArray, List.set_cons_zero, List.set_cons_succ]
          refine wpAnyH_take (i := 7) (oi := ?o2525) (v := ?vo2525) ?hio2525 (by kernel_rfl) (by kernel_rfl) (by kernel_rfl) ?hQo2525 ?hyo2525 hS ?_
          case hio2525 => (simp only [List.getElem?_toArray, List.getElem?_cons_succ, List.getElem?_cons_zero]; rfl)
          case hQo2525 => exact fun _ _ _ h => h
          case hyo2525 =>
            refine Or.inl ⟨by rfl, ?_⟩
            intro W hW
            go_simp
            first | done | with_reducible rfl
          try simp only [Act.put, List.setIfInBounds_toArray, List.set_cons_zero, List.set_cons_succ]
          refine wpAnyH_take (i := 8) (oi := ?o2526) (v := ?vo2526) ?hio2526 (by kernel_rfl) (by kernel_rfl) (by kernel_rfl) ?hQo2526 ?hyo2526 hS ?_
          case hio2526 => (simp only [List.getElem?_toArray, List.getElem?_cons_succ, List.getElem?_cons_zero]; rfl)
          case hQo2526 => exact fun _ _ _ h => h
          case hyo2526 =>
            refine Or.inl ⟨by rfl, ?_⟩
            intro W hW
            go_simp
            first | done | with_reducible rfl
          try simp only [Act.put, List.setIfInBounds_toArray, List.set_cons_zero, List.set_cons_succ]
          refine wpAnyH_take (i := 9) (oi := ?o2527) (v := ?vo2527) ?hio2527 (by kernel_rfl) (by kernel_rfl) (by kernel_rfl) ?hQo2527 ?hyo2527 hS ?_
          case hio2527 => (simp only [List.getElem?_toArray, List.getElem?_cons_succ, List.getElem?_cons_zero]; rfl)
          case hQo2527 => exact fun _ _ _ h => h
          case hyo2527 =>
            refine Or.inl ⟨by rfl, ?_⟩
            intro W hW
            have hcell := H6.out W hW
            go_simp
            first | done | with_reducible rfl
          try simp only [Act.put, List.setIfInBounds_toArray, List.set_cons_zero, List.set_cons_succ]
          refine wpAnyH_take (i := 10) (oi := ?o2528) (v := ?vo2528) ?hio2528 (by kernel_rfl) (by kernel_rfl) (by kernel_rfl) ?hQo2528 ?hyo2528 hS ?_
          case hio2528 => (simp only [List.getElem?_toArray, List.getElem?_cons_succ, List.getElem?_cons_zero]; rfl)
          case hQo2528 => exact fun _ _ _ h => h
          case hyo2528 =>
            refine Or.inl ⟨by rfl, ?_⟩
            intro W hW
            go_simp
            first | done | with_reducible rfl
          try simp only [Act.put, List.setIfInBounds_toArray, List.set_cons_zero, List.set_cons_succ]
          refine wpAnyH_take (i := 11) (oi := ?o2529) (v := ?vo2529) ?hio2529 (by kernel_rfl) (by kernel_rfl) (by kernel_rfl) ?hQo2529 ?hyo2529 hS ?_
          case hio2529 => (simp only [List.getElem?_toArray, List.getElem?_cons_succ, List.getElem?_cons_zero]; rfl)
          case hQo2529 => exact fun _ _ _ h => h
          case hyo2529 =>
            refine Or.inl ⟨by rfl, ?_⟩
            intro W hW
            go_simp
            first | done | with_reducible rfl
          try simp only [Act.put, List.setIfInBounds_toArray, List.set_cons_zero, List.set_cons_succ]
          refine wpAnyH_take (i := 12) (oi := ?o2530) (v := ?vo2530) ?hio2530 (by kernel_rfl) (by kernel_rfl) (by kernel_rfl) ?hQo2530 ?hyo2530 hS ?_
          case hio2530 => (simp only [List.getElem?_toArray, List.getElem?_cons_succ, List.getElem?_cons_zero]; rfl)
          case hQo2530 => exact fun _ _ _ h => h
          case hyo2530 =>
            refine Or.inl ⟨by rfl, ?_⟩
            intro W hW
            go_simp
            first | done | with_reducible rfl
          try simp only [Act.put, List.setIfInBounds_toArray, List.set_cons_zero, List.set_cons_succ]
          refine wpAnyH_take (i := 13) (oi := ?o2531) (v := ?vo2531) ?hio2531 (by kernel_rfl) (by kernel_rfl) (by kernel_rfl) ?hQo2531 ?hyo2531 hS ?_
          case hio2531 => (simp only [List.getElem?_toArray, List.getElem?_cons_succ, List.getElem?_cons_zero]; rfl)
          case hQo2531 => exact fun _ _ _ h => h
          case hyo2531 =>
            refine Or.inl ⟨by rfl, ?_⟩
            intro W hW
            have hcell := H7.out W hW
            go_simp
            first | done | with_reducible rfl
          try simp only [Act.put, List.setIfInBounds_toArray, List.set_cons_zero, List.set_cons_succ]
          refine wpAnyH_take (i := 14) (oi := ?o2532) (v := ?vo2532) ?hio2532 (by kernel_rfl) (by kernel_rfl) (by kernel_rfl) ?hQo2532 ?hyo2532 hS ?_
          case hio2532 => (simp only [List.getElem?_toArray, List.getElem?_cons_succ, List.getElem?_cons_zero]; rfl)
          case hQo2532 => exact fun _ _ _ h => h
          case hyo2532 =>
            refine Or.inl ⟨by rfl, ?_⟩
            intro W hW
            go_simp
            first | done | with_reducible rfl
          try simp only [Act.put, List.setIfInBounds_toArray, List.set_cons_zero, List.set_cons_succ]
          refine wpAnyH_take (i := 15) (oi := ?o2533) (v := ?vo2533) ?hio2533 (by kernel_rfl) (by kernel_rfl) (by kernel_rfl) ?hQo2533 ?hyo2533 hS ?_
          case hio2533 => (simp only [List.getElem?_toArray, List.getElem?_cons_succ, List.getElem?_cons_zero]; rfl)
          case hQo2533 => exact fun _ _ _ h => h
          case hyo2533 =>
            refine Or.inl ⟨by rfl, ?_⟩
            intro W hW
            go_simp
            first | done | with_reducible rfl
          try simp only [Act.put, List.setIfInBounds_toArray, List.set_cons_zero, List.set_cons_succ]
          refine wpAnyH_take (i := 16) (oi := ?o2534) (v := ?vo2534) ?hio2534 (by kernel_rfl) (by kernel_rfl) (by kernel_rfl) ?hQo2534 ?hyo2534 hS ?_
          case hio2534 => (simp only [List.getElem?_toArray, List.getElem?_cons_succ, List.getElem?_cons_zero]; rfl)
          case hQo2534 => exact fun _ _ _ h => h
          case hyo2534 =>
            refine Or.inl ⟨by rfl, ?_⟩
            intro W hW
            go_simp
            first | done | with_reducible rfl
          try simp only [Act.put, List.setIfInBounds_toArray, List.set_cons_zero, List.set_cons_succ]
          refine wpAnyH_done (by kernel_rfl) ?_ _
          clear hS
          go_wp2_with fail
          refine (HCl8.out _ N8.out).mono ?_
          rintro e w5 ⟨v, rfl, ho5, hb5⟩
          have b5 := Below.on qk qk.size hb5
          have o5 := ho5.base (b' := w.heap.size) qk.size
          clear ho5 hb5
          go_wp2
          go_ret2
          exact ⟨v, rfl, by rw [show n - 8 = 0 by have := N8.out; omega]; exact o5, b5⟩
        · go_enter Try.func84, Try.ntmps84
          go_wp2_with fail
          refine HB.out.mono ?_
          rintro e w2 ⟨A2, c2, rfl, p2, b2⟩
          go_wp2_with fail
          refine (HG.out A2 c2 _ p2).mono ?_
          rintro e w' ⟨rfl, rfl⟩
          clear p2
          go_wp2_with fail
          have qk : Below w.heap.size w w2.drew := b2.drew
          clear b2 HB HG
          refine wp_region_held_drew (S := fun W => Below w.heap.size w W) (by kernel_rfl) qk ?_
          intro hS
          refine wpAnyH_take (i := 0) (oi := ?o2535) (v := ?vo2535) ?hio2535 (by kernel_rfl) (by kernel_rfl) (by kernel_rfl) ?hQo2535 ?hyo2535 hS ?_
          case hio2535 => (simp only [List.getElem?_toArray, List.getElem?_cons_succ, List.getElem?_cons_zero]; rfl)
          case hQo2535 => exact fun _ _ _ h => h
          case hyo2535 =>
            refine Or.inl ⟨by rfl, ?_⟩
            intro W hW
            go_simp
            first | done | with_reducible rfl
          try simp only [Act.put, List.setIfInBounds_toArray, List.set_cons_zero, List.set_cons_succ]
          refine wpAnyH_take (i := 1) (oi := ?o2536) (v := ?vo2536) ?hio2536 (by kernel_rfl) (by kernel_rfl) (by kernel_rfl) ?hQo2536 ?hyo2536 hS ?_
          case hio2536 => (simp only [List.getElem?_toArray, List.getElem?_cons_succ, List.getElem?_cons_zero]; rfl)
          case hQo2536 => exact fun _ _ _ h => h
          case hyo2536 =>
            refine Or.inl ⟨by rfl, ?_⟩
            intro W hW
            go_simp
            first | done | with_reducible rfl
          try simp only [Act.put, List.setIfInBounds_toArray, List.set_cons_zero, List.set_cons_succ]
          refine wpAnyH_take (i := 2) (oi := ?o2537) (v := ?vo2537) ?hio2537 (by kernel_rfl) (by kernel_rfl) (by kernel_rfl) ?hQo2537 ?hyo2537 hS ?_
          case hio2537 => (simp only [List.getElem?_toArray, List.getElem?_cons_succ, List.getElem?_cons_zero]; rfl)
          case hQo2537 => exact fun _ _ _ h => h
          case hyo2537 =>
            refine Or.inl ⟨by rfl, ?_⟩
            intro W hW
            have hcell := H4.out W hW
            go_simp
            first | done | with_reducible rfl
          try simp only [Act.put, List.setIfInBounds_toArray, List.set_cons_zero, List.set_cons_succ]
          refine wpAnyH_take (i := 3) (oi := ?o2538) (v := ?vo2538) ?hio2538 (by kernel_rfl) (by kernel_rfl) (by kernel_rfl) ?hQo2538 ?hyo2538 hS ?_
          case hio2538 => (simp only [List.getElem?_toArray, List.getElem?_cons_succ, List.getElem?_cons_zero]; rfl)
          case hQo2538 => exact fun _ _ _ h => h
          case hyo2538 =>
            refine Or.inl ⟨by rfl, ?_⟩
            intro W hW
            go_simp
            first | done | with_reducible rfl
          try simp only [Act.put, List.setIfInBounds_toArray, List.set_cons_zero, List.set_cons_succ]
          refine wpAnyH_take (i := 4) (oi := ?o2539) (v := ?vo2539) ?hio2539 (by kernel_rfl) (by kernel_rfl) (by kernel_rfl) ?hQo2539 ?hyo2539 hS ?_
          case hio2539 => (simp only [List.getElem?_toArray, List.getElem?_cons_succ, List.getElem?_cons_zero]; rfl)
          case hQo2539 => exact fun _ _ _ h => h
          case hyo2539 =>
            refine Or.inl ⟨by rfl, ?_⟩
            intro W hW
            go_simp
            first | done | with_reducible rfl
          try simp only [Act.put, List.setIfInBounds_toArray, List.set_cons_zero, List.set_cons_succ]
          refine wpAnyH_take (i := 5) (oi := ?o2540) (v := ?vo2540) ?hio2540 (by kernel_rfl) (by kernel_rfl) (by kernel_rfl) ?hQo2540 ?hyo2540 hS ?_
          case hio2540 => (simp only [List.getElem?_toArray, List.getElem?_cons_succ, List.getElem?_cons_zero]; rfl)
          case hQo2540 => exact fun _ _ _ h => h
          case hyo2540 =>
            refine Or.inl ⟨by rfl, ?_⟩
            intro W hW
            have hcell := H5.out W hW
            go_simp
            first | done | with_reducible rfl
          try simp only [Act.put, List.setIfInBounds_toArray, List.set_cons_zero, List.set_cons_succ]
          refine wpAnyH_take (i := 6) (oi := ?o2541) (v := ?vo2541) ?hio2541 (by kernel_rfl) (by kernel_rfl) (by kernel_rfl) ?hQo2541 ?hyo2541 hS ?_
          case hio2541 => (simp only [List.getElem?_toArray, List.getElem?_cons_succ, List.getElem?_cons_zero]; rfl)
          case hQo2541 => exact fun _ _ _ h => h
          case hyo2541 =>
            refine Or.inl ⟨by rfl, ?_⟩
            intro W hW
            go_simp
            first | done | with_reducible rfl
          try simp only [Act.put, List.setIfInBounds_toArray, List.set_cons_zero, List.set_cons_succ]
          refine wpAnyH_take (i := 7) (oi := ?o2542) (v := ?vo2542) ?hio2542 (by kernel_rfl) (by kernel_rfl) (by kernel_rfl) ?hQo2542 ?hyo2542 hS ?_
          case hio2542 => (simp only [List.getElem?_toArray, List.getElem?_cons_succ, List.getElem?_cons_zero]; rfl)
          case hQo2542 => exact fun _ _ _ h => h
          case hyo2542 =>
            refine Or.inl ⟨by rfl, ?_⟩
            intro W hW
            go_simp
            first | done | with_reducible rfl
          try simp only [Act.put, List.setIfInBounds_toArray, List.set_cons_zero, List.set_cons_succ]
          refine wpAnyH_take (i := 8) (oi := ?o2543) (v := ?vo2543) ?hio2543 (by kernel_rfl) (by kernel_rfl) (by kernel_rfl) ?hQo2543 ?hyo2543 hS ?_
          case hio2543 => (simp only [List.getElem?_toArray, List.getElem?_cons_succ, List.getElem?_cons_zero]; rfl)
          case hQo2543 => exact fun _ _ _ h => h
          case hyo2543 =>
            refine Or.inl ⟨by rfl, ?_⟩
            intro W hW
            go_simp
            first | done | with_reducible rfl
          try simp only [Act.put, List.setIfInBounds_toArray, List.set_cons_zero, List.set_cons_succ]
          refine wpAnyH_take (i := 9) (oi := ?o2544) (v := ?vo2544) ?hio2544 (by kernel_rfl) (by kernel_rfl) (by kernel_rfl) ?hQo2544 ?hyo2544 hS ?_
          case hio2544 => (simp only [List.getElem?_toArray, List.getElem?_cons_succ, List.getElem?_cons_zero]; rfl)
          case hQo2544 => exact fun _ _ _ h => h
          case hyo2544 =>
            refine Or.inl ⟨by rfl, ?_⟩
            intro W hW
            have hcell := H6.out W hW
            go_simp
            first | done | with_reducible rfl
          try simp only [Act.put, List.setIfInBounds_toArray, List.set_cons_zero, List.set_cons_succ]
          refine wpAnyH_take (i := 10) (oi := ?o2545) (v := ?vo2545) ?hio2545 (by kernel_rfl) (by kernel_rfl) (by kernel_rfl) ?hQo2545 ?hyo2545 hS ?_
          case hio2545 => (simp only [List.getElem?_toArray, List.getElem?_cons_succ, List.getElem?_cons_zero]; rfl)
          case hQo2545 => exact fun _ _ _ h => h
          case hyo2545 =>
            refine Or.inl ⟨by rfl, ?_⟩
            intro W hW
            go_simp
            first | done | with_reducible rfl
          try simp only [Act.put, List.setIfInBounds_toArray, List.set_cons_zero, List.set_cons_succ]
          refine wpAnyH_take (i := 11) (oi := ?o2546) (v := ?vo2546) ?hio2546 (by kernel_rfl) (by kernel_rfl) (by kernel_rfl) ?hQo2546 ?hyo2546 hS ?_
          case hio2546 => (simp only [List.getElem?_toArray, List.getElem?_cons_succ, List.getElem?_cons_zero]; rfl)
          case hQo2546 => exact fun _ _ _ h => h
          case hyo2546 =>
            refine Or.inl ⟨by rfl, ?_⟩
            intro W hW
            go_simp
            first | done | with_reducible rfl
          try simp only [Act.put, List.setIfInBounds_toArray, List.set_cons_zero, List.set_cons_succ]
          refine wpAnyH_take (i := 12) (oi := ?o2547) (v := ?vo2547) ?hio2547 (by kernel_rfl) (by kernel_rfl) (by kernel_rfl) ?hQo2547 ?hyo2547 hS ?_
          case hio2547 => (simp only [List.getElem?_toArray, List.getElem?_cons_succ, List.getElem?_cons_zero]; rfl)
          case hQo2547 => exact fun _ _ _ h => h
          case hyo2547 =>
            refine Or.inl ⟨by rfl, ?_⟩
            intro W hW
            go_simp
            first | done | with_reducible rfl
          try simp only [Act.put, List.setIfInBounds_toArray, List.set_cons_zero, List.set_cons_succ]
          refine wpAnyH_take (i := 13) (oi := ?o2548) (v := ?vo2548) ?hio2548 (by kernel_rfl) (by kernel_rfl) (by kernel_rfl) ?hQo2548 ?hyo2548 hS ?_
          case hio2548 => (simp only [List.getElem?_toArray, List.getElem?_cons_succ, List.getElem?_cons_zero]; rfl)
          case hQo2548 => exact fun _ _ _ h => h
          case hyo2548 =>
            refine Or.inl ⟨by rfl, ?_⟩
            intro W hW
            have hcell := H7.out W hW
            go_simp
            first | done | with_reducible rfl
          try simp only [Act.put, List.setIfInBounds_toArray, List.set_cons_zero, List.set_cons_succ]
          refine wpAnyH_take (i := 14) (oi := ?o2549) (v := ?vo2549) ?hio2549 (by kernel_rfl) (by kernel_rfl) (by kernel_rfl) ?hQo2549 ?hyo2549 hS ?_
          case hio2549 => (simp only [List.getElem?_toArray, List.getElem?_cons_succ, List.getElem?_cons_zero]; rfl)
          case hQo2549 => exact fun _ _ _ h => h
          case hyo2549 =>
            refine Or.inl ⟨by rfl, ?_⟩
            intro W hW
            go_simp
            first | done | with_reducible rfl
          try simp only [Act.put, List.setIfInBounds_toArray, List.set_cons_zero, List.set_cons_succ]
          refine wpAnyH_take (i := 15) (oi := ?o2550) (v := ?vo2550) ?hio2550 (by kernel_rfl) (by kernel_rfl) (by kernel_rfl) ?hQo2550 ?hyo2550 hS ?_
          case hio2550 => (simp only [List.getElem?_toArray, List.getElem?_cons_succ, List.getElem?_cons_zero]; rfl)
          case hQo2550 => exact fun _ _ _ h => h
          case hyo2550 =>
            refine Or.inl ⟨by rfl, ?_⟩
            intro W hW
            go_simp
            first | done | with_reducible rfl
          try simp only [Act.put, List.setIfInBounds_toArray, List.set_cons_zero, List.set_cons_succ]
          refine wpAnyH_take (i := 16) (oi := ?o2551) (v := ?vo2551) ?hio2551 (by kernel_rfl) (by kernel_rfl) (by kernel_rfl) ?hQo2551 ?hyo2551 hS ?_
          case hio2551 => (simp only [List.getElem?_toArray, List.getElem?_cons_succ, List.getElem?_cons_zero]; rfl)
          case hQo2551 => exact fun _ _ _ h => h
          case hyo2551 =>
            refine Or.inl ⟨by rfl, ?_⟩
            intro W hW
            go_simp
            first | done | with_reducible rfl
          try simp only [Act.put, List.setIfInBounds_toArray, List.set_cons_zero, List.set_cons_succ]
          refine wpAnyH_done (by kernel_rfl) ?_ _
          clear hS
          go_wp2_with fail
          refine (HCl.out _ qk).mono ?_
          rintro e w5 ⟨v, rfl, ho5, hb5⟩
          have b5 := Below.on qk qk.size hb5
          have o5 := ho5.base (b' := w.heap.size) qk.size
          clear ho5 hb5
          go_wp2
          go_ret2
          exact ⟨v, rfl, by exact o5, b5⟩
      · rw [if_neg q4] at hh; cases hh
    · rw [if_neg q3] at hh; cases hh
  · rw [if_neg q1] at hh; cases hh

end Go.Proofs.Ytkokgoodpibboaa
