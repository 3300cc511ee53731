
/- Layer 10, mathematics: masks, byte by byte and bit by bit. -/
import Derived.Test.YtccidoigjdbepaaDoorAdrC
namespace Go.Proofs.YtccidoigjdbepaaDoor
open Go.RowKit
set_option maxRecDepth 100000

/-- A byte's first k bits. -/
def mB (k : Nat) (b : UInt8) : UInt8 := UInt8.ofNat (b.toNat / 2 ^ (8 - k) * 2 ^ (8 - k))
/-- How many bits of byte i are kept. -/
def kpt (n i : Nat) : Nat := min (n - 8 * i) 8
/-- The first n bits of bytes, from byte i on. -/
def mFrom (n : Nat) : Nat → List UInt8 → List UInt8
  | _, [] => []
  | i, b :: t => mB (kpt n i) b :: mFrom n (i + 1) t
def mL (n : Nat) (l : List UInt8) : List UInt8 := mFrom n 0 l

theorem mFrom_len (n i : Nat) (l : List UInt8) : (mFrom n i l).length = l.length := by
  induction l generalizing i with
  | nil => rfl
  | cons b t ih => simp [mFrom, ih]
theorem mL_len (n : Nat) (l : List UInt8) : (mL n l).length = l.length := mFrom_len n 0 l
theorem mFrom_at (n i j : Nat) (l : List UInt8) (b : UInt8) (h : l[j]? = some b) : (mFrom n i l)[j]? = some (mB (kpt n (i + j)) b) := by
  induction l generalizing i j with
  | nil => simp at h
  | cons x t ih =>
    cases j with
    | zero => simp at h; subst h; rfl
    | succ j =>
      have := ih (i + 1) j (by simpa using h)
      simp only [mFrom, List.getElem?_cons_succ, this]
      congr 3; omega
theorem mL_at (n j : Nat) (l : List UInt8) (b : UInt8) (h : l[j]? = some b) : (mL n l)[j]? = some (mB (kpt n j) b) := by
  have := mFrom_at n 0 j l b h
  rwa [Nat.zero_add] at this
theorem kpt_le (n i : Nat) : kpt n i ≤ 8 := by unfold kpt; omega

theorem mB_and : ∀ k : Fin 9, ∀ b : Fin 256, (b.val &&& (255 * 2 ^ (8 - k.val) % 256)) = b.val / 2 ^ (8 - k.val) * 2 ^ (8 - k.val) := by decide +kernel
theorem mB_lt : ∀ k : Fin 9, ∀ b : Fin 256, b.val / 2 ^ (8 - k.val) * 2 ^ (8 - k.val) < 256 := by decide +kernel
theorem mB_nat (k : Nat) (hk : k ≤ 8) (b : UInt8) : (mB k b).toNat = b.toNat / 2 ^ (8 - k) * 2 ^ (8 - k) := by
  have := mB_lt ⟨k, by omega⟩ ⟨b.toNat, b.toNat_lt⟩
  simp only at this
  unfold mB
  simp
  omega
theorem mB_all : ∀ k : Fin 9, ∀ b : Fin 256, (b.val / 2 ^ (8 - k.val) * 2 ^ (8 - k.val)) / 2 ^ (8 - k.val) * 2 ^ (8 - k.val) = b.val / 2 ^ (8 - k.val) * 2 ^ (8 - k.val) := by decide +kernel
theorem mB_twice (k : Nat) (hk : k ≤ 8) (b : UInt8) : mB k (mB k b) = mB k b := by
  apply UInt8.toNat_inj.1
  rw [mB_nat k hk, mB_nat k hk]
  exact mB_all ⟨k, by omega⟩ ⟨b.toNat, b.toNat_lt⟩
theorem mL_twice (n : Nat) (l : List UInt8) : mL n (mL n l) = mL n l := by
  apply List.ext_getElem?
  intro j
  cases h : l[j]? with
  | none =>
    rw [List.getElem?_eq_none_iff] at h
    rw [List.getElem?_eq_none (by rw [mL_len, mL_len]; exact h), List.getElem?_eq_none (by rw [mL_len]; exact h)]
  | some b =>
    have h1 := mL_at n j l b h
    rw [mL_at n j (mL n l) _ h1, h1, mB_twice _ (kpt_le n j)]
theorem mB_8 (b : UInt8) : mB 8 b = b := by
  apply UInt8.toNat_inj.1
  rw [mB_nat 8 (by omega)]; simp
theorem mB_0 (b : UInt8) : mB 0 b = 0 := by
  apply UInt8.toNat_inj.1
  rw [mB_nat 0 (by omega)]
  have := b.toNat_lt
  simp; omega
theorem mB_z (k : Nat) (hk : k ≤ 8) : mB k 0 = 0 := by
  apply UInt8.toNat_inj.1
  rw [mB_nat k hk]; simp

/-- What is put in a byte's place. -/
theorem mix_set (L M : List UInt8) (k : Nat) (x : UInt8) (hL : M.length = L.length) (hx : M[k]? = some x) : (M.take k ++ L.drop k).set k x = M.take (k + 1) ++ L.drop (k + 1) := by
  obtain ⟨hk, rfl⟩ := List.getElem?_eq_some_iff.1 hx
  rw [List.set_append_right _ _ (by rw [List.length_take]; omega), List.length_take, Nat.min_eq_left (by omega), Nat.sub_self]
  have e : L.drop k = L[k]'(by omega) :: L.drop (k + 1) := (List.drop_eq_getElem_cons (by omega))
  rw [e, List.set_cons_zero, List.take_succ_eq_append_getElem hk, List.append_assoc]
  rfl
theorem mix_at (L M : List UInt8) (k : Nat) (c : UInt8) (hL : M.length = L.length) (hc : L[k]? = some c) : (M.take k ++ L.drop k)[k]? = some c := by
  obtain ⟨hk, rfl⟩ := List.getElem?_eq_some_iff.1 hc
  rw [List.getElem?_append_right (by rw [List.length_take]; omega), List.length_take, Nat.min_eq_left (by omega), Nat.sub_self, List.getElem?_drop]
  exact List.getElem?_eq_getElem hk
theorem mix_len (L M : List UInt8) (k : Nat) (hL : M.length = L.length) : (M.take k ++ L.drop k).length = L.length := by
  rw [List.length_append, List.length_take, List.length_drop]; omega

end Go.Proofs.YtccidoigjdbepaaDoor
