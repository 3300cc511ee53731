
/- Contract: ref07.Clamp. -/
import Derived.Test.YtfiagknmieegaaaKeyA
namespace Go.Proofs.Ytfiagknmieegaaa
open Go.RowKit

theorem rem8 (x : UInt8) : ((x.toNat : Int) - (x.toNat : Int) % 8) % 256 = ((cl0 x).toNat : Int) := by
  have := x.toNat_lt
  simp [cl0]
  omega
theorem rem64 (x : UInt8) : (x.toNat : Int) % 64 + 64 = ((cl31 x).toNat : Int) := by
  have := x.toNat_lt
  simp [cl31]
  omega

theorem u8mod (x : UInt8) : (x.toNat : Int) % 256 = (x.toNat : Int) := by
  have := x.toNat_lt
  omega

theorem refClamp_any (a : List UInt8) (ha : a.length = 32) (w : World) :
    Calls Try.prog 37 #[av a] w fun e w' => e = .returned (av (clampL a)) ∧ Below w.heap.size w w' := by
  have eq : (((a.map bv).set 0 (bv (cl0 (a[0]'(by omega))))).set 31 (bv (cl31 (a[31]'(by omega))))) = (clampL a).map bv := by
    unfold clampL
    rw [List.map_set, List.map_set]
    simp [ha, List.getD]
  have e0 := rem8
  have e1 := rem64
  have e2 := u8mod
  have hl := clampL_len a
  rw [ha] at hl
  generalize clampL a = b at *
  go_enter Try.func37, Try.ntmps37
  go_wp2_with (
    refine wpList_loadArr (g := w.heap.size) (t := 44) rfl 44 5 (.tmp 1) ?ho ?hx ?hA hl Try.underlying44 Try.infoKey ?_
    case ho => with_reducible rfl
    case hx => rfl
    case hA => exact (arr_new _ _ _).alloc _
    refine wpList_storeBlk (g := w.heap.size + 1) (t := 44) (cs := (b.map bv).toArray) ?hgd 44 (.tmp 2) (.tmp 15) ?ho2 ?hx2 ?hy2 (List.replicate 32 (.int .u8 0)).toArray ?hA2 ?hi ?hs ?h1 ?_
    case hgd => rfl
    case ho2 => rfl
    case hx2 => rfl
    case hy2 => rfl
    case hA2 => exact blk_new' _ _ _ _ (by simp)
    case hi => (rw [Try.infoKey]; simp [hl])
    case hs => simp [hl]
    case h1 => exact one_bytes b
    intro w2 hB hg)
  refine bodyPost_blk rfl _ rfl hB Try.underlying44 rfl (by rw [Try.infoKey]; simp [hl]) rfl ⟨rfl, ?_⟩
  exact (((Below.refl w.heap.size w).alloc (Nat.le_refl _) _).alloc (by simp) _).grown hg (by simp; omega) (fun k hk => by injection hk with hk; omega)

theorem clampL_again (a : List UInt8) (ha : a.length = 32) : clampL (clampL a) = clampL a := by
  have h0 : ∀ x, cl0 (cl0 x) = cl0 x := by
    intro x
    have : ∀ c : Fin 256, cl0 (cl0 (UInt8.ofNat c.val)) = cl0 (UInt8.ofNat c.val) := by decide +kernel
    have h := this ⟨x.toNat, x.toNat_lt⟩
    simpa using h
  have h1 : ∀ x, cl31 (cl31 x) = cl31 x := by
    intro x
    have : ∀ c : Fin 256, cl31 (cl31 (UInt8.ofNat c.val)) = cl31 (UInt8.ofNat c.val) := by decide +kernel
    have h := this ⟨x.toNat, x.toNat_lt⟩
    simpa using h
  unfold clampL
  apply List.ext_getElem?
  intro i
  simp only [List.getElem?_set, List.getD_eq_getElem?_getD, List.length_set, ha]
  by_cases h31 : 31 = i
  · subst h31; simp [ha, h1]
  · by_cases h00 : 0 = i
    · subst h00; simp [ha, h0]
    · simp [h31, h00]

/-- Both orders, side by side. -/
theorem less_both (a b : List UInt8) (ha : a.length = 32) (hb : b.length = 32) : ∃ r : Bool, decide (Extern.BytealgCompare.cmp ⟨⟨a⟩⟩ ⟨⟨b⟩⟩ < 0) = r ∧
    (∀ w, Calls Try.prog 34 #[av a, av b] w fun e w' => e = .returned (.bool r) ∧ Below w.heap.size w w') ∧ (r = true → a ≠ b) ∧ (a ≠ b → r = false → decide (Extern.BytealgCompare.cmp ⟨⟨b⟩⟩ ⟨⟨a⟩⟩ < 0) = true) := by
  rcases first_apart a b (ha.trans hb.symm) with rfl | ⟨k, x, y, h1, h2, h3, h4⟩
  · refine ⟨false, by simp [cmp_same], fun w => refLess_any a a ha 32 (Nat.le_refl _) (fun j _ => rfl) false (.inl ⟨rfl, rfl⟩) w, (fun h => by cases h), fun h => absurd rfl h⟩
  · have hk : k < 32 := by
      obtain ⟨h, _⟩ := List.getElem?_eq_some_iff.1 h1
      omega
    have e := cmp_at a b k x y (ha.trans hb.symm) h1 h2 h3 h4
    have e' := cmp_at b a k y x (hb.trans ha.symm) h2 h1 (Ne.symm h3) (fun j hj => (h4 j hj).symm)
    refine ⟨decide (x.toNat < y.toNat), ?_, fun w => refLess_any a b ha k (by omega) h4 _ (.inr ⟨hk, x, y, h1, h2, h3, rfl⟩) w, ?_, ?_⟩
    · rw [e]
      by_cases hlt : x < y
      · simp [hlt, UInt8.lt_iff_toNat_lt.1 hlt]
      · have : ¬ x.toNat < y.toNat := fun h => hlt (UInt8.lt_iff_toNat_lt.2 h)
        simp [hlt, this]
    · rintro - rfl
      rw [h1] at h2
      injection h2 with h2
      exact h3 h2
    · intro _ hr
      have hge : ¬ x.toNat < y.toNat := by simpa using hr
      have hne : x.toNat ≠ y.toNat := fun h => h3 (UInt8.toNat_inj.1 h)
      have : y < x := UInt8.lt_iff_toNat_lt.2 (by omega)
      rw [e', if_pos this]
      rfl

theorem zeros_at (n j : Nat) (h : j < n) : (List.replicate n (0 : UInt8))[j]? = some 0 := by simp [h]

theorem zero_both (a : List UInt8) (ha : a.length = 32) : ∃ r : Bool, (a == List.replicate 32 0) = r ∧
    (∀ w, Calls Try.prog 36 #[av a] w fun e w' => e = .returned (.bool r) ∧ Below w.heap.size w w') := by
  rcases first_apart a (List.replicate 32 0) (by simp [ha]) with h | ⟨k, x, y, h1, h2, h3, h4⟩
  · refine ⟨true, by simp [h], fun w => refZero_any a 32 (Nat.le_refl _) (fun j hj => ?_) true (.inl ⟨rfl, rfl⟩) w⟩
    rw [h]
    exact zeros_at 32 j hj
  · have hk : k < 32 := by
      obtain ⟨h, _⟩ := List.getElem?_eq_some_iff.1 h1
      omega
    have hy : y = 0 := by rw [zeros_at 32 k hk] at h2; injection h2 with h2; exact h2.symm
    subst hy
    refine ⟨false, ?_, fun w => refZero_any a k (by omega) (fun j hj => ?_) false (.inr ⟨hk, ⟨x, h1, h3⟩, rfl⟩) w⟩
    · rw [beq_eq_false_iff_ne]
      rintro rfl
      rw [h1] at h2
      injection h2 with h2
      exact h3 h2
    · rw [h4 j hj]
      exact zeros_at 32 j (by omega)

end Go.Proofs.Ytfiagknmieegaaa
