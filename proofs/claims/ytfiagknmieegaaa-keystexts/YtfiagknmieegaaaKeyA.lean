
/- Contracts of layer 7's order. -/
import Derived.Test.YtfiagknmieegaaaArrA
namespace Go.Proofs.Ytfiagknmieegaaa
open Go.RowKit

theorem Try.infoKey : (Try.prog.info? 44).map (·.size) = some 32 := by kernel_rfl
theorem Try.plainKey : Try.prog.eqGuardType Try.prog.depth 44 = false := by kernel_rfl

/-- Two arrays of bytes, boxed one behind the other. -/
theorem box2 (w : World) (t t' : TypeId) (a b : List UInt8) : ∃ W, W = (w.alloc (.cells (a.map bv).toArray t)).alloc (.cells (b.map bv).toArray t') ∧ Arr W w.heap.size t a ∧ Arr W (w.heap.size + 1) t' b ∧ Below w.heap.size w W ∧ W.heap.size = w.heap.size + 2 := by
  refine ⟨_, rfl, (arr_new w t a).alloc _, ?_, ?_, by simp⟩
  · have := arr_new (w.alloc (.cells (a.map bv).toArray t)) t' b
    simpa using this
  · exact ((Below.refl w.heap.size w).alloc (Nat.le_refl _) _).alloc (by simp) _

theorem keyLess_any (a b : List UInt8) (ha : a.length = 32) (hb : b.length = 32) (w : World) :
    Calls Try.prog 33 #[av a, av b] w fun e w' => e = .returned (.bool (decide (Extern.BytealgCompare.cmp ⟨⟨a⟩⟩ ⟨⟨b⟩⟩ < 0))) ∧ Below w.heap.size w w' := by
  obtain ⟨W, hW, h1, h2, hbw, hsz⟩ := box2 w 44 44 a b
  have s1 := h1.shows
  have s2 := h2.shows
  rw [ha] at s1
  rw [hb] at s2
  have HW := Lib.hid hW
  clear hW h1 h2
  go_enter Try.func33, Try.ntmps33
  go_wp2_with fail
  rw [← HW.out]
  clear HW
  go_quiet ((go_at_call 62; go_must (exact Calls.quiet_of_same ((compare_any _ _ _ _ _ _ a b _ (s1.draw _) (s2.draw _)).mono fun _ _ h => ⟨h.1, h.2.symm⟩))))
  go_wp2
  go_ret
  exact ⟨rfl, below_draw hbw nq⟩

theorem refLess_any (a b : List UInt8) (ha : a.length = 32) (K : Nat) (hK : K ≤ 32) (hlow : ∀ j, j < K → a[j]? = b[j]?) (r : Bool)
    (hend : (K = 32 ∧ r = false) ∨ (K < 32 ∧ ∃ x y : UInt8, a[K]? = some x ∧ b[K]? = some y ∧ x ≠ y ∧ r = decide (x.toNat < y.toNat))) (w : World) :
    Calls Try.prog 34 #[av a, av b] w fun e w' => e = .returned (.bool r) ∧ Below w.heap.size w w' := by
  obtain ⟨W, hW, h1, h2, hbw, hsz⟩ := box2 w 44 44 a b
  have HW := Lib.hid hW
  have Hlow := Lib.hid hlow
  have Hend := Lib.hid hend
  clear hW hlow hend
  go_enter Try.func34, Try.ntmps34
  go_wp2
  rw [← HW.out]
  clear HW
  go_loopw [5] (fun i wr => ∃ k : Nat, k ≤ K ∧ i = .int .i64 k ∧ Below W.heap.size W wr) (fun i _ => 32 - (intOf i).toNat)
  case atStart => exact ⟨0, Nat.zero_le _, rfl, Below.refl _ _⟩
  case round =>
    obtain ⟨k, hk, rfl, hbr⟩ := hrel
    have e1 := h1.on hbr
    have e2 := h2.on hbr
    have hfin := Below.trans hbw (hbr.mono (show w.heap.size ≤ W.heap.size by omega))
    by_cases hlt : k < K
    · have hk32 : k < 32 := by omega
      have c1 := e1.byte (List.getElem?_eq_getElem (show k < a.length by omega))
      have c2 := e2.byte ((Hlow.out k hlt).symm.trans (List.getElem?_eq_getElem (show k < a.length by omega)))
      generalize a[k]'(by omega) = x at c1 c2
      clear e1 e2
      go_wp2
      go_quiet (fail)
      go_wp2
      go_roundw
      case rel => exact ⟨k + 1, by omega, by go_num, below_draw hbr _⟩
      case measure => simp [intOf] <;> omega
    · obtain rfl : k = K := by omega
      rcases Hend.out with ⟨rfl, rfl⟩ | ⟨hk32, x, y, hx, hy, hne, rfl⟩
      · go_wp2
        go_ret
        exact ⟨rfl, hfin⟩
      · have c1 := e1.byte hx
        have c2 := e2.byte hy
        have hd : ((x.toNat : Int) != (y.toNat : Int)) = true := by
          rw [bne_iff_ne]; intro e; exact hne (UInt8.toNat_inj.1 (Int.ofNat.inj e))
        clear e1 e2 hx hy
        go_wp2
        go_quiet (fail)
        go_wp2
        go_quiet (fail)
        go_wp2
        go_ret
        exact ⟨by simp, below_draw (below_draw hfin _) _⟩

theorem keyZero_any (a : List UInt8) (ha : a.length = 32) (w : World) :
    Calls Try.prog 35 #[av a] w fun e w' => e = .returned (.bool (a == List.replicate 32 0)) ∧ Below w.heap.size w w' := by
  go_enter Try.func35, Try.ntmps35
  go_wp2_with (first
    | refine wpList_loadArr rfl 44 5 _ rfl rfl (arr_new _ _ _) ha Try.underlying44 Try.infoKey ?_
    | refine wpList_eqlArr rfl 44 5 _ _ _ rfl _ rfl rfl (l' := List.replicate 32 0) rfl ha rfl Try.underlying44 Try.underlying5 Try.sizeU8 Try.plainKey ?_)
  go_ret
  exact ⟨rfl, (Below.refl w.heap.size w).alloc (Nat.le_refl _) _⟩

theorem refZero_any (a : List UInt8) (K : Nat) (hK : K ≤ 32) (hlow : ∀ j, j < K → a[j]? = some 0) (r : Bool)
    (hend : (K = 32 ∧ r = true) ∨ (K < 32 ∧ (∃ x : UInt8, a[K]? = some x ∧ x ≠ 0) ∧ r = false)) (w : World) :
    Calls Try.prog 36 #[av a] w fun e w' => e = .returned (.bool r) ∧ Below w.heap.size w w' := by
  have h1 := arr_new w 44 a
  have hbw := (Below.refl w.heap.size w).alloc (Nat.le_refl _) (.cells (a.map bv).toArray 44)
  have Hlow := Lib.hid hlow
  have Hend := Lib.hid hend
  clear hlow hend
  go_enter Try.func36, Try.ntmps36
  go_wp2
  go_loop [3] (fun i => ∃ k : Nat, k ≤ K ∧ i = .int .i64 k) (fun i => 32 - (intOf i).toNat)
  case atStart => exact ⟨0, Nat.zero_le _, rfl⟩
  case round =>
    obtain ⟨k, hk, rfl⟩ := hrel
    by_cases hlt : k < K
    · have hk32 : k < 32 := by omega
      have c1 := h1.byte (Hlow.out k hlt)
      clear h1
      go_wp2
      go_round
      case rel => exact ⟨k + 1, by omega, by go_num⟩
      case measure => simp [intOf] <;> omega
    · obtain rfl : k = K := by omega
      rcases Hend.out with ⟨rfl, rfl⟩ | ⟨hk32, ⟨x, hx, hne⟩, rfl⟩
      · go_wp2
        go_ret
        exact ⟨rfl, hbw⟩
      · have c1 := h1.byte hx
        have hd : ((x.toNat : Int) != 0) = true := by
          rw [bne_iff_ne]; intro e; exact hne (UInt8.toNat_inj.1 (by simpa using e))
        clear h1 hx
        go_wp2
        go_ret
        exact ⟨rfl, hbw⟩

/-- What clamping leaves of a key. -/
def cl0 (x : UInt8) : UInt8 := UInt8.ofNat (x.toNat / 8 * 8)
def cl31 (x : UInt8) : UInt8 := UInt8.ofNat (x.toNat % 64 + 64)
def clampL (a : List UInt8) : List UInt8 := (a.set 0 (cl0 (a.getD 0 0))).set 31 (cl31 (a.getD 31 0))
theorem clampL_len (a : List UInt8) : (clampL a).length = a.length := by simp [clampL]

theorem and248 (x : UInt8) : bits .and .u8 (x.toNat : Int) 248 = ((cl0 x).toNat : Int) := by
  have : ∀ c : Fin 256, bits .and .u8 ((UInt8.ofNat c.val).toNat : Int) 248 = ((cl0 (UInt8.ofNat c.val)).toNat : Int) := by decide +kernel
  have h := this ⟨x.toNat, x.toNat_lt⟩
  simpa using h
theorem and63or (x : UInt8) : bits .or .u8 (bits .and .u8 (x.toNat : Int) 63) 64 = ((cl31 x).toNat : Int) := by
  have : ∀ c : Fin 256, bits .or .u8 (bits .and .u8 ((UInt8.ofNat c.val).toNat : Int) 63) 64 = ((cl31 (UInt8.ofNat c.val)).toNat : Int) := by decide +kernel
  have h := this ⟨x.toNat, x.toNat_lt⟩
  simpa using h

theorem keyClamp_any (a : List UInt8) (ha : a.length = 32) (w : World) :
    Calls Try.prog 32 #[av a] w fun e w' => e = .returned (av (clampL a)) ∧ Below w.heap.size w w' := by
  have e0 := and248
  have e1 := and63or
  have eq : (((a.map bv).set 0 (bv (cl0 (a[0]'(by omega))))).set 31 (bv (cl31 (a[31]'(by omega))))) = (clampL a).map bv := by
    unfold clampL
    rw [List.map_set, List.map_set]
    simp [ha, List.getD]
  have hl := clampL_len a
  rw [ha] at hl
  generalize clampL a = b at *
  go_enter Try.func32, Try.ntmps32
  go_wp2_with (
    refine wpList_loadArr (g := w.heap.size) (t := 44) rfl 44 5 (.tmp 1) ?ho ?hx ?hA hl Try.underlying44 Try.infoKey ?_
    case ho => with_reducible rfl
    case hx => rfl
    case hA => exact (arr_new _ _ _).alloc _
    refine wpList_storeBlk (g := w.heap.size + 1) (t := 44) (cs := (b.map bv).toArray) ?hgd 44 (.tmp 2) (.tmp 12) ?ho2 ?hx2 ?hy2 (List.replicate 32 (.int .u8 0)).toArray ?hA2 ?hi ?hs ?h1 ?_
    case hgd => rfl
    case ho2 => rfl
    case hx2 => rfl
    case hy2 => rfl
    case hA2 => exact blk_new' _ _ _ _ (by simp)
    case hi => (rw [Try.infoKey]; simp [hl])
    case hs => simp [hl]
    case h1 => exact one_bytes b
    intro w2 hB hg)
  refine bodyPost_blk rfl _ rfl hB Try.underlying44 rfl (by rw [Try.infoKey]; simp [hl]) rfl ⟨rfl, ?_⟩
  exact (((Below.refl w.heap.size w).alloc (Nat.le_refl _) _).alloc (by simp) _).grown hg (by simp; omega) (fun k hk => by injection hk with hk; omega)

end Go.Proofs.Ytfiagknmieegaaa
