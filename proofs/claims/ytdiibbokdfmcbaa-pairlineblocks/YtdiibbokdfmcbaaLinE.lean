
/- Contracts: lines.Join, ref06.Join. -/
import Derived.Test.YtdiibbokdfmcbaaLinD
import Derived.Test.YtdiibbokdfmcbaaBld
import Derived.Laws.Concat
namespace Go.Proofs.Ytdiibbokdfmcbaa.Lin
open Go.RowKit
set_option maxRecDepth 100000

/-- The text of lines. -/
def joinL (ls : List (List UInt8)) : List UInt8 := ls.flatMap fun l => l ++ [10]

theorem joinL_succ (ls : List (List UInt8)) (k : Nat) (x : List UInt8) (h : ls[k]? = some x) : joinL (ls.take (k + 1)) = joinL (ls.take k) ++ x ++ [10] := by
  obtain ⟨hk, rfl⟩ := List.getElem?_eq_some_iff.1 h
  rw [List.take_succ_eq_append_getElem hk, joinL, joinL, List.flatMap_append]
  simp

theorem joinL_le (ls : List (List UInt8)) (k : Nat) : (joinL (ls.take k)).length ≤ (joinL ls).length := by
  conv => rhs; rw [← List.take_append_drop k ls]
  simp only [joinL, List.flatMap_append, List.length_append]
  omega

theorem join_any (A : Option Addr) (n c : Nat) (ls : List (List UInt8)) (w : World) (hn : n ≤ 1000000000) (htot : (joinL ls).length ≤ 100000000) (h : Sh sv w w.heap.size A n ls) :
    Calls Try.prog 22 #[.slice A n c] w fun e w' => e = .returned (sv (joinL ls)) ∧ Below w.heap.size w w' := by
  go_enter Try.func22, Try.ntmps22
  go_wp2
  go_loopw [8] (fun i wr => ∃ k : Nat, k ≤ n ∧ i = .int .i64 k ∧ HoldsB w.heap.size w.heap.size (joinL (ls.take k)) wr ∧ Below w.heap.size w wr ∧ w.heap.size < wr.heap.size) (fun i _ => n - (intOf i).toNat)
  case atStart => exact ⟨0, Nat.zero_le _, rfl, Lib.fresh_isBuilder _ _ _, (Below.refl _ _).alloc (Nat.le_refl _) _, by simp⟩
  case round =>
    obtain ⟨k, hk, rfl, hbld, hbel, hgt⟩ := hrel
    by_cases hlt : k < n
    · obtain ⟨b, off, x, rfl, hb, hc, hlx⟩ := (h.below hbel).elem hlt
      have HS := Lib.hid (joinL_succ ls k x hlx)
      have hle := joinL_le ls (k + 1)
      rw [HS.out] at hle
      simp only [List.length_append, List.length_cons, List.length_nil] at hle
      have Hbld := Lib.hid hbld
      clear hlx hbld
      go_wp2_with fail
      refine (writeString_any w.heap.size w.heap.size _ x _ Hbld.out (by omega) hbel.size).mono ?_
      rintro e w1 ⟨rfl, h1, hb1⟩
      have b1 := hbel.trans hb1
      go_wp2_with fail
      refine (writeByte_any w.heap.size w.heap.size _ 10 _ h1 (by simp; omega) b1.size).mono ?_
      rintro e w2 ⟨rfl, h2, hb2⟩
      have b2 := b1.trans hb2
      have g2 := Nat.lt_of_lt_of_le hgt (Nat.le_trans hb1.size hb2.size)
      have H2 := Lib.hid h2
      clear h1 h2 hb1 hb2 b1
      go_wp2
      go_roundw
      case rel => exact ⟨k + 1, by omega, by go_num, by rw [HS.out]; exact H2.out, b2, g2⟩
      case measure => simp [intOf] <;> omega
    · obtain rfl : k = n := by omega
      rw [List.take_of_length_le (Nat.le_of_eq h.len)] at hbld
      have Hbld := Lib.hid hbld
      clear hbld
      go_wp2_with fail
      refine (bldString_any w.heap.size w.heap.size _ _ Hbld.out hbel.size).mono ?_
      rintro e w1 ⟨rfl, hb1⟩
      have b1 := hbel.trans hb1
      go_wp2
      go_ret
      exact ⟨rfl, b1⟩

theorem str_add (a b : List UInt8) : (ByteArray.mk ⟨a⟩ ++ ByteArray.mk ⟨b⟩) = ByteArray.mk ⟨a ++ b⟩ := ByteArray.mk_append_mk a b

theorem joinL_parts (m : List UInt8) : joinL (parts 10 m) = m ++ [10] := by
  induction m with
  | nil => rfl
  | cons c t ih =>
    rw [parts]
    split
    · next h => subst h; simp only [joinL, List.flatMap_cons] at *; rw [ih]; rfl
    · obtain ⟨h, r, e⟩ := parts_ne 10 t
      rw [e] at ih ⊢
      simp only [joinL, List.flatMap_cons] at *
      rw [List.cons_append, List.cons_append, ih, List.cons_append]

theorem joinL_loose (l : List UInt8) (h : l = [] ∨ ∃ m, l = m ++ [10]) : joinL (loose l) = l := by
  rcases h with rfl | ⟨m, rfl⟩
  · rfl
  · rw [loose_end, joinL_parts]

theorem parts_join (sep : UInt8) (x : List UInt8) (h : sep ∉ x) (m : List UInt8) : parts sep (x ++ sep :: m) = x :: parts sep m := parts_yes sep x m h

/-- Lines without ends, joined, are split as they were. -/
theorem loose_join (ls : List (List UInt8)) (h : ∀ x ∈ ls, (10 : UInt8) ∉ x) : loose (joinL ls) = ls := by
  have key : ∀ ls : List (List UInt8), (∀ x ∈ ls, (10 : UInt8) ∉ x) → parts 10 (joinL ls) = ls ++ [[]] := by
    intro ls
    induction ls with
    | nil => intro _; rfl
    | cons x t ih =>
      intro h
      have e : joinL (x :: t) = x ++ 10 :: joinL t := by simp [joinL]
      rw [e, parts_yes 10 x _ (h x (by simp)), ih (fun y hy => h y (by simp [hy]))]
      rfl
  rcases text_cases (joinL ls) with e | ⟨m, e⟩ | ⟨m, c, e, hc⟩
  · cases ls with
    | nil => rfl
    | cons x t => simp [joinL] at e
  · have h1 := key ls h
    rw [e, parts_end] at h1
    have h2 : parts 10 m = ls := List.append_cancel_right h1
    rw [e, loose_end, h2]
  · exfalso
    obtain ⟨d, x, e2, hx⟩ := parts_open 10 m c hc
    have h1 := key ls h
    rw [e, e2] at h1
    have h3 := congrArg List.getLast? h1
    simp at h3
    exact hx h3

end Go.Proofs.Ytdiibbokdfmcbaa.Lin
