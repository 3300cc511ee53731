
/- Layer 10. Contracts: addr.Less and its reference; masks of addresses that agree. -/
import Derived.Test.YtccidoigjdbepaaDoorMkZ
namespace Go.Proofs.YtccidoigjdbepaaDoor
open Go.RowKit
set_option maxRecDepth 100000
set_option linter.unusedSimpArgs false
set_option linter.unusedVariables false

theorem mB_eq (a b : UInt8) (K : Nat) (hK : K ≤ 8) (h : ∀ s < K, bitB s a = bitB s b) : mB K a = mB K b := by
  induction K with
  | zero => rw [mB_0, mB_0]
  | succ K ih =>
    apply UInt8.toNat_inj.1
    rw [mB_step K (by omega), mB_step K (by omega), ih (by omega) (fun s hs => h s (by omega)), h K (by omega)]
theorem bitL_at (l : List UInt8) (i s : Nat) (a : UInt8) (hs : s < 8) (h : l[i]? = some a) : bitL l (8 * i + s) = bitB s a := by
  unfold bitL
  rw [show (8 * i + s) % 8 = s by omega, show (8 * i + s) / 8 = i by omega, List.getD_eq_getElem?_getD, h]
  rfl
theorem mL_eq (l l' : List UInt8) (hl : l.length = l'.length) (r : Nat) (h : ∀ j < r, bitL l j = bitL l' j) : mL r l = mL r l' := by
  apply List.ext_getElem?
  intro i
  by_cases hi : i < l.length
  · have ha : l[i]? = some l[i] := List.getElem?_eq_getElem hi
    have hb : l'[i]? = some (l'[i]'(by omega)) := List.getElem?_eq_getElem (by omega)
    rw [mL_at r i l _ ha, mL_at r i l' _ hb, mB_eq _ _ _ (kpt_le r i)]
    intro s hs
    have hs8 : s < 8 := by have := kpt_le r i; omega
    rw [← bitL_at l i s _ hs8 ha, ← bitL_at l' i s _ hs8 hb]
    exact h _ (by unfold kpt at hs; omega)
  · rw [List.getElem?_eq_none (by rw [mL_len]; omega), List.getElem?_eq_none (by rw [mL_len]; omega)]

/-- Which of two rows is ahead. -/
def lexB (l l' : List UInt8) : Bool := decide (Extern.BytealgCompare.cmp ⟨⟨l⟩⟩ ⟨⟨l'⟩⟩ < 0)
theorem cmp_le (l l' : List UInt8) (h : l.length = l'.length) : Extern.BytealgCompare.cmp ⟨⟨l⟩⟩ ⟨⟨l'⟩⟩ = 0 ∨ Extern.BytealgCompare.cmp ⟨⟨l⟩⟩ ⟨⟨l'⟩⟩ = -1 ∨ Extern.BytealgCompare.cmp ⟨⟨l⟩⟩ ⟨⟨l'⟩⟩ = 1 := by
  rcases first_apart l l' h with rfl | ⟨k, x, y, hx, hy, hne, hlow⟩
  · left; exact cmp_same l
  · rw [cmp_at l l' k x y h hx hy hne hlow]
    split <;> simp

set_option maxHeartbeats 1000000 in
theorem less_apart (v v' : Int) (l l' : List UInt8) (h : v ≠ v') (w : World) :
    Calls Tryd.prog 68 #[.agg (adv v l), .agg (adv v' l')] w fun e w' => e = .returned (.bool (decide (v < v'))) ∧ Below w.heap.size w w' := by
  have k0 : Blk ((w.alloc (.cells (adv v l) 24)).alloc (.cells (adv v' l') 24)) w.heap.size 24 (adv v l) := (blk_new _ _ _).alloc _
  have j0 : Blk ((w.alloc (.cells (adv v l) 24)).alloc (.cells (adv v' l') 24)) (w.heap.size + 1) 24 (adv v' l') := blk_new' _ _ _ _ (by simp)
  have b0 : Below w.heap.size w ((w.alloc (.cells (adv v l) 24)).alloc (.cells (adv v' l') 24)) := ((Below.refl _ _).alloc (Nat.le_refl _) _).alloc (by simp) _
  have c0 := k0.adv0
  have d0 := j0.adv0
  have hne : (v != v') = true := by rw [bne_iff_ne]; exact h
  go_enter Tryd.func68, Tryd.ntmps68
  go_wp2
  go_ret
  exact ⟨rfl, b0⟩
set_option maxHeartbeats 1000000 in
theorem refLess_apart (v v' : Int) (l l' : List UInt8) (h : v ≠ v') (w : World) :
    Calls Tryd.prog 69 #[.agg (adv v l), .agg (adv v' l')] w fun e w' => e = .returned (.bool (decide (v < v'))) ∧ Below w.heap.size w w' := by
  have k0 : Blk ((w.alloc (.cells (adv v l) 24)).alloc (.cells (adv v' l') 24)) w.heap.size 24 (adv v l) := (blk_new _ _ _).alloc _
  have j0 : Blk ((w.alloc (.cells (adv v l) 24)).alloc (.cells (adv v' l') 24)) (w.heap.size + 1) 24 (adv v' l') := blk_new' _ _ _ _ (by simp)
  have b0 : Below w.heap.size w ((w.alloc (.cells (adv v l) 24)).alloc (.cells (adv v' l') 24)) := ((Below.refl _ _).alloc (Nat.le_refl _) _).alloc (by simp) _
  have c0 := k0.adv0
  have d0 := j0.adv0
  have hne : (v != v') = true := by rw [bne_iff_ne]; exact h
  go_enter Tryd.func69, Tryd.ntmps69
  go_wp2
  go_ret
  exact ⟨rfl, b0⟩

set_option maxHeartbeats 1000000 in
theorem less_same (v : Int) (l l' : List UInt8) (hl : l.length = 16) (hl' : l'.length = 16) (w : World) :
    Calls Tryd.prog 68 #[.agg (adv v l), .agg (adv v l')] w fun e w' => e = .returned (.bool (lexB l l')) ∧ Below w.heap.size w w' := by
  have k0 : Blk ((w.alloc (.cells (adv v l) 24)).alloc (.cells (adv v l') 24)) w.heap.size 24 (adv v l) := (blk_new _ _ _).alloc _
  have j0 : Blk ((w.alloc (.cells (adv v l) 24)).alloc (.cells (adv v l') 24)) (w.heap.size + 1) 24 (adv v l') := blk_new' _ _ _ _ (by simp)
  have b0 : Below w.heap.size w ((w.alloc (.cells (adv v l) 24)).alloc (.cells (adv v l') 24)) := ((Below.refl _ _).alloc (Nat.le_refl _) _).alloc (by simp) _
  have c0 := k0.adv0
  have d0 := j0.adv0
  have hS : ∀ W : World, Below ((w.alloc (.cells (adv v l) 24)).alloc (.cells (adv v l') 24)).heap.size ((w.alloc (.cells (adv v l) 24)).alloc (.cells (adv v l') 24)) W →
      Calls Tryd.prog 92 #[.slice (some ⟨w.heap.size, 1, none⟩) 16 16, .slice (some ⟨w.heap.size + 1, 1, none⟩) 16 16] W fun e w' => e = .returned (.int .i64 (Extern.BytealgCompare.cmp ⟨⟨l⟩⟩ ⟨⟨l'⟩⟩)) ∧ W = w' := by
    intro W hW
    have s1 := (k0.on hW).advShows 16 (by omega)
    have s2 := (j0.on hW).advShows 16 (by omega)
    rw [List.take_of_length_le (by omega)] at s1
    rw [List.take_of_length_le (by omega)] at s2
    exact compare_any _ _ 16 16 16 16 l l' W s1 s2
  have HB := Lib.hid (show lexB l l' = decide (Extern.BytealgCompare.cmp ⟨⟨l⟩⟩ ⟨⟨l'⟩⟩ < 0) from rfl)
  have hcl := cmp_le l l' (by omega)
  generalize lexB l l' = B at *
  generalize Extern.BytealgCompare.cmp ⟨⟨l⟩⟩ ⟨⟨l'⟩⟩ = C at *
  have hC1 : -1 ≤ C ∧ C ≤ 1 := by omega
  clear hcl
  go_enter Tryd.func68, Tryd.ntmps68
  go_wp2_with fail
  have hup : ∀ W : World, Below ((w.alloc (.cells (adv v l) 24)).alloc (.cells (adv v l') 24)).heap.size ((w.alloc (.cells (adv v l) 24)).alloc (.cells (adv v l') 24)) W → Below w.heap.size w W := fun W hW => Below.on b0 b0.size hW
  generalize ((w.alloc (.cells (adv v l) 24)).alloc (.cells (adv v l') 24)) = w2 at *
  generalize hg1 : w.heap.size = g1 at *
  refine wp_region_below w2.heap.size (by kernel_rfl) (by kernel_rfl) ?_
  repeat (first
    | go_big_quiet_skip
    | (go_big_quiet_want
       first
         | (go_big_quiet_op
            first
              | go_big_quiet_on
              | (with_reducible refine ⟨_, fun _ _ => rfl, ?_⟩; go_big_quiet_on)
              | (apply Exists.intro
                 refine ⟨fun w' hw' => ?_, ?_⟩
                 · (go_at_call 92; with_reducible refine (hS w' hw').mono ?_; exact fun _ _ h => ⟨h.1, h.2 ▸ hw'⟩)
                 go_big_quiet_on))))
  refine wpQuiet_nil ?_
  intro w3 hw3
  go_wp2
  go_ret
  exact ⟨by rw [HB.out]; rfl, by rw [hg1]; exact hup _ hw3⟩

set_option maxHeartbeats 1000000 in
theorem refLess_same (v : Int) (l l' : List UInt8) (hl : l.length = 16) (hl' : l'.length = 16) (w : World) :
    Calls Tryd.prog 69 #[.agg (adv v l), .agg (adv v l')] w fun e w' => e = .returned (.bool (lexB l l')) ∧ Below w.heap.size w w' := by
  have k0 : Blk ((w.alloc (.cells (adv v l) 24)).alloc (.cells (adv v l') 24)) w.heap.size 24 (adv v l) := (blk_new _ _ _).alloc _
  have j0 : Blk ((w.alloc (.cells (adv v l) 24)).alloc (.cells (adv v l') 24)) (w.heap.size + 1) 24 (adv v l') := blk_new' _ _ _ _ (by simp)
  have b0 : Below w.heap.size w ((w.alloc (.cells (adv v l) 24)).alloc (.cells (adv v l') 24)) := ((Below.refl _ _).alloc (Nat.le_refl _) _).alloc (by simp) _
  have c0 := k0.adv0
  have d0 := j0.adv0
  have hcase : (∃ K : Nat, K ≤ 16 ∧ (∀ j < K, l[j]? = l'[j]?) ∧ ((K = 16 ∧ lexB l l' = false) ∨ ∃ x y, K < 16 ∧ l[K]? = some x ∧ l'[K]? = some y ∧ x ≠ y ∧ lexB l l' = decide (x < y))) := by
    rcases first_apart l l' (by omega) with rfl | ⟨k, x, y, hx, hy, hne, hlow⟩
    · refine ⟨16, Nat.le_refl _, fun j hj => rfl, .inl ⟨rfl, ?_⟩⟩
      unfold lexB; rw [cmp_same]; rfl
    · have hk := (List.getElem?_eq_some_iff.1 hx).1
      refine ⟨k, by omega, hlow, .inr ⟨x, y, by omega, hx, hy, hne, ?_⟩⟩
      unfold lexB
      rw [cmp_at l l' k x y (by omega) hx hy hne hlow]
      by_cases hxy : x < y <;> simp [hxy]
  obtain ⟨K, hK, hlow, hend⟩ := hcase
  have HLow := Lib.hid hlow
  have HEnd := Lib.hid hend
  clear hlow hend
  have hb0 : Below w.heap.size w ((w.alloc (.cells (adv v l) 24)).alloc (.cells (adv v l') 24)) := b0
  generalize lexB l l' = B at *
  go_enter Tryd.func69, Tryd.ntmps69
  go_wp2
  go_loopw [5] (fun i wr => ∃ k : Nat, k ≤ K ∧ i = .int .i64 (k : Int) ∧ Blk wr w.heap.size 24 (adv v l) ∧ Blk wr (w.heap.size + 1) 24 (adv v l') ∧ Below w.heap.size w wr) (fun i _ => K - (intOf i).toNat)
  case atStart => exact ⟨0, Nat.zero_le _, rfl, k0, j0, hb0⟩
  case round =>
    clear k0 j0 b0 hb0 c0 d0
    obtain ⟨k, hk, rfl, hkb, hjb, hbel⟩ := hrel
    by_cases h16 : k = 16
    · obtain rfl : k = K := by omega
      have hB : B = false := by
        rcases HEnd.out with ⟨_, h⟩ | ⟨x, y, h, _⟩
        · exact h
        · omega
      subst hB
      subst h16
      go_wp2
      go_ret
      exact ⟨rfl, hbel⟩
    · obtain ⟨a, ha⟩ : ∃ a, l[k]? = some a := ⟨l[k]'(by omega), List.getElem?_eq_getElem _⟩
      obtain ⟨b, hb⟩ : ∃ b, l'[k]? = some b := ⟨l'[k]'(by omega), List.getElem?_eq_getElem _⟩
      have ca := load1 hkb k a ha
      have cb := load1 hjb k b hb
      have hal := a.toNat_lt
      have hbl := b.toNat_lt
      have hk16 : (k : Int) < 16 := by omega
      by_cases hlt : k < K
      · have hab : a = b := by
          have := HLow.out k hlt
          rw [ha, hb] at this
          injection this
        subst hab
        clear ha hb
        go_wp2
        go_quiet (fail)
        go_wp2
        go_roundw
        case rel => exact ⟨k + 1, by omega, by go_num, hkb, hjb, below_draw hbel _⟩
        case measure => simp [intOf] <;> omega
      · obtain rfl : k = K := by omega
        have hxy : a ≠ b ∧ B = decide (a < b) := by
          rcases HEnd.out with ⟨h, _⟩ | ⟨x, y, _, hx, hy, hne, hB⟩
          · omega
          · rw [ha] at hx
            rw [hb] at hy
            injection hx with hx
            injection hy with hy
            subst hx hy
            exact ⟨hne, hB⟩
        have hne : ((a.toNat : Int) != (b.toNat : Int)) = true := by
          rw [bne_iff_ne]; exact fun e => hxy.1 (UInt8.toNat_inj.1 (Int.ofNat.inj e))
        have hB : B = decide (a.toNat < b.toNat) := by
          rw [hxy.2]
          exact decide_eq_decide.2 (by rw [UInt8.lt_iff_toNat_lt])
        have HBh := Lib.hid hB
        clear ha hb hxy hB HEnd HLow
        go_wp2
        go_quiet (fail)
        go_wp2
        go_quiet (fail)
        go_wp2
        go_ret
        exact ⟨by rw [HBh.out]; rfl, below_draw (below_draw hbel _) _⟩

end Go.Proofs.YtccidoigjdbepaaDoor
