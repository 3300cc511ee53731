
/- Layer 9. Contract: colon.longestZeros. -/
import Derived.Test.YtccidoigjdbepaaDoorClB
namespace Go.Proofs.YtccidoigjdbepaaDoor.Cl
open Go.RowKit
set_option maxRecDepth 100000
set_option linter.unusedVariables false

theorem lz_bounds (zs : List Bool) (k : Nat) : (lz zs k).1 ≤ (lz zs k).2.1 ∧ (lz zs k).2.1 ≤ k ∧ (lz zs k).2.2 ≤ k := by
  induction k with
  | zero => exact ⟨Nat.le_refl _, Nat.le_refl _, Nat.le_refl _⟩
  | succ k ih =>
    obtain ⟨h1, h2, h3⟩ := ih
    unfold lz
    generalize lz zs k = L at *
    obtain ⟨f, t, s⟩ := L
    simp only at *
    split
    · split
      · exact ⟨by simp; omega, by simp, by simp; omega⟩
      · exact ⟨h1, by simp; omega, by simp; omega⟩
    · exact ⟨h1, by simp; omega, by simp⟩
theorem idx8 (a b c d e f g h k x : Nat) (hk : k < 8) (hx : [a, b, c, d, e, f, g, h][k]? = some x) (W : World) :
    (Instr.index 95 (.agg #[u16v a, u16v b, u16v c, u16v d, u16v e, u16v f, u16v g, u16v h]) (.int .i64 (k : Int))).run Tryd.prog W = .ok (u16v x) W := by
  have i0 : ∀ W, (Instr.index 95 (.agg #[u16v a, u16v b, u16v c, u16v d, u16v e, u16v f, u16v g, u16v h]) (.int .i64 0)).run Tryd.prog W = .ok (u16v a) W := fun _ => by kernel_rfl
  have i1 : ∀ W, (Instr.index 95 (.agg #[u16v a, u16v b, u16v c, u16v d, u16v e, u16v f, u16v g, u16v h]) (.int .i64 1)).run Tryd.prog W = .ok (u16v b) W := fun _ => by kernel_rfl
  have i2 : ∀ W, (Instr.index 95 (.agg #[u16v a, u16v b, u16v c, u16v d, u16v e, u16v f, u16v g, u16v h]) (.int .i64 2)).run Tryd.prog W = .ok (u16v c) W := fun _ => by kernel_rfl
  have i3 : ∀ W, (Instr.index 95 (.agg #[u16v a, u16v b, u16v c, u16v d, u16v e, u16v f, u16v g, u16v h]) (.int .i64 3)).run Tryd.prog W = .ok (u16v d) W := fun _ => by kernel_rfl
  have i4 : ∀ W, (Instr.index 95 (.agg #[u16v a, u16v b, u16v c, u16v d, u16v e, u16v f, u16v g, u16v h]) (.int .i64 4)).run Tryd.prog W = .ok (u16v e) W := fun _ => by kernel_rfl
  have i5 : ∀ W, (Instr.index 95 (.agg #[u16v a, u16v b, u16v c, u16v d, u16v e, u16v f, u16v g, u16v h]) (.int .i64 5)).run Tryd.prog W = .ok (u16v f) W := fun _ => by kernel_rfl
  have i6 : ∀ W, (Instr.index 95 (.agg #[u16v a, u16v b, u16v c, u16v d, u16v e, u16v f, u16v g, u16v h]) (.int .i64 6)).run Tryd.prog W = .ok (u16v g) W := fun _ => by kernel_rfl
  have i7 : ∀ W, (Instr.index 95 (.agg #[u16v a, u16v b, u16v c, u16v d, u16v e, u16v f, u16v g, u16v h]) (.int .i64 7)).run Tryd.prog W = .ok (u16v h) W := fun _ => by kernel_rfl
  match k, hk, hx with
  | 0, _, hx => injection hx with hx; subst hx; exact i0 W
  | 1, _, hx => injection hx with hx; subst hx; exact i1 W
  | 2, _, hx => injection hx with hx; subst hx; exact i2 W
  | 3, _, hx => injection hx with hx; subst hx; exact i3 W
  | 4, _, hx => injection hx with hx; subst hx; exact i4 W
  | 5, _, hx => injection hx with hx; subst hx; exact i5 W
  | 6, _, hx => injection hx with hx; subst hx; exact i6 W
  | 7, _, hx => injection hx with hx; subst hx; exact i7 W

set_option maxHeartbeats 1000000 in
theorem longest_any (a b c d e f g h : Nat) (w : World) (hlt : ∀ x ∈ [a, b, c, d, e, f, g, h], x < 65536) :
    Calls Tryd.prog 78 #[.agg #[u16v a, u16v b, u16v c, u16v d, u16v e, u16v f, u16v g, u16v h]] w fun e' w' =>
      e' = .returned (.tuple #[.int .i64 ((lz (zsOf [a, b, c, d, e, f, g, h]) 8).1 : Int), .int .i64 ((lz (zsOf [a, b, c, d, e, f, g, h]) 8).2.1 : Int)]) ∧ Below w.heap.size w w' := by
  have HI := Lib.hid (fun k x hk hx => idx8 a b c d e f g h k x hk hx)
  have HB := Lib.hid (fun k => lz_bounds (zsOf [a, b, c, d, e, f, g, h]) k)
  have HS := Lib.hid (fun (k x : Nat) (hx : [a, b, c, d, e, f, g, h][k]? = some x) => show (zsOf [a, b, c, d, e, f, g, h]).getD k false = decide (x = 0) by
    unfold zsOf
    rw [List.getD_eq_getElem?_getD, List.getElem?_map, hx]; rfl)
  have HStep := Lib.hid (fun (zs : List Bool) (k : Nat) => show lz zs (k + 1) = if zs.getD k false then (if (lz zs k).2.1 - (lz zs k).1 < k + 1 - (lz zs k).2.2 then ((lz zs k).2.2, k + 1, (lz zs k).2.2) else lz zs k) else ((lz zs k).1, (lz zs k).2.1, k + 1) from rfl)
  have hel : ∀ k, k < 8 → ∃ x, [a, b, c, d, e, f, g, h][k]? = some x ∧ x < 65536 := fun k hk => by
    refine ⟨[a, b, c, d, e, f, g, h][k]'(by simpa using hk), List.getElem?_eq_getElem _, hlt _ (List.getElem_mem _)⟩
  have HEl := Lib.hid hel
  have k0 : Blk (w.alloc (.cells #[u16v a, u16v b, u16v c, u16v d, u16v e, u16v f, u16v g, u16v h] 95)) w.heap.size 95 #[u16v a, u16v b, u16v c, u16v d, u16v e, u16v f, u16v g, u16v h] := blk_new _ _ _
  have b0 : Below w.heap.size w (w.alloc (.cells #[u16v a, u16v b, u16v c, u16v d, u16v e, u16v f, u16v g, u16v h] 95)) := (Below.refl _ _).alloc (Nat.le_refl _) _
  have hi : (Tryd.prog.info? 95).map (·.size) = some (#[u16v a, u16v b, u16v c, u16v d, u16v e, u16v f, u16v g, u16v h] : Array Value).size := Tryd.infoGroups
  clear hel hlt
  generalize zsOf [a, b, c, d, e, f, g, h] = zs at *
  generalize [a, b, c, d, e, f, g, h] = gs at *
  generalize (#[u16v a, u16v b, u16v c, u16v d, u16v e, u16v f, u16v g, u16v h] : Array Value) = X at *
  go_enter Tryd.func78, Tryd.ntmps78
  go_wp2_with (first
    | (refine wpList_loadBlk (g := w.heap.size) (t := 95) (cs := X) rfl 95 (.tmp 1) ?ho ?hx ?hA _ Tryd.underlying95 rfl ?hi ?_
       case ho => with_reducible rfl
       case hx => rfl
       case hA => exact k0
       case hi => exact hi)
    | fail)
  go_loopw [4, 5, 6, 10] (fun u v x i wr => ∃ k : Nat, k ≤ 8 ∧ i = .int .i64 (k : Int) ∧ u = .int .i64 ((lz zs k).1 : Int) ∧ v = .int .i64 ((lz zs k).2.1 : Int) ∧ x = .int .i64 ((lz zs k).2.2 : Int) ∧ Below w.heap.size w wr) (fun _ _ _ i _ => 8 - (intOf i).toNat)
  case atStart => exact ⟨0, Nat.zero_le _, rfl, rfl, rfl, rfl, b0⟩
  case round =>
    obtain ⟨k, hk, rfl, rfl, rfl, rfl, hbel⟩ := hrel
    obtain ⟨q1, q2, q3⟩ := HB.out k
    by_cases hlt : k < 8
    · obtain ⟨x, hx, hx16⟩ := HEl.out k hlt
      have hix := HI.out k x hlt hx
      have hst := HStep.out zs k
      rw [HS.out k x hx] at hst
      have HSt := Lib.hid hst
      clear hst hx
      obtain ⟨F, hF⟩ : ∃ F, (lz zs k).1 = F := ⟨_, rfl⟩
      obtain ⟨T, hT⟩ : ∃ T, (lz zs k).2.1 = T := ⟨_, rfl⟩
      obtain ⟨S, hS⟩ : ∃ S, (lz zs k).2.2 = S := ⟨_, rfl⟩
      have hL : lz zs k = (F, T, S) := by rw [← hF, ← hT, ← hS]
      rw [hF] at q1
      rw [hT] at q1 q2
      rw [hS] at q3
      rw [hF, hT, hS]
      rw [hL] at HSt
      have HSt2 := Lib.hid HSt.out
      clear HSt hL hF hT hS
      by_cases hx0 : x = 0
      · subst hx0
        by_cases hc : T - F < k + 1 - S
        · have hcI : (T : Int) - (F : Int) < (k : Int) + 1 - (S : Int) := by omega
          have HR := Lib.hid (show lz zs (k + 1) = (S, k + 1, S) by rw [HSt2.out]; simp [hc])
          clear HSt2 hc
          go_wp2
          go_roundw
          case rel => exact ⟨k + 1, by omega, by go_num, by rw [HR.out], by rw [HR.out]; go_num, by rw [HR.out], hbel⟩
          case measure => simp [intOf] <;> omega
        · have hcI : ¬ ((T : Int) - (F : Int) < (k : Int) + 1 - (S : Int)) := by omega
          have HR := Lib.hid (show lz zs (k + 1) = (F, T, S) by rw [HSt2.out]; simp [hc])
          clear HSt2 hc
          go_wp2
          go_roundw
          case rel => exact ⟨k + 1, by omega, by go_num, by rw [HR.out], by rw [HR.out], by rw [HR.out], hbel⟩
          case measure => simp [intOf] <;> omega
      · have hxn : ((x : Int) != 0) = true := by rw [bne_iff_ne]; omega
        have HR := Lib.hid (show lz zs (k + 1) = (F, T, k + 1) by rw [HSt2.out]; simp [hx0])
        clear HSt2
        go_wp2
        go_roundw
        case rel => exact ⟨k + 1, by omega, by go_num, by rw [HR.out], by rw [HR.out], by rw [HR.out]; go_num, hbel⟩
        case measure => simp [intOf] <;> omega
    · obtain rfl : k = 8 := by omega
      go_wp2
      go_ret2
      exact ⟨rfl, hbel⟩

end Go.Proofs.YtccidoigjdbepaaDoor.Cl
