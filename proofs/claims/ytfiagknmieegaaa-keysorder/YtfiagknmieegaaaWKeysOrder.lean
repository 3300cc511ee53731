
/- The walk of law07.KeysOrder. -/
import Derived.Test.YtfiagknmieegaaaKeyC
namespace Go.Proofs.Ytfiagknmieegaaa
open Go.RowKit

theorem walk_KeysOrder (a : List UInt8) (ha : a.length = 32) (b : List UInt8) (hb : b.length = 32) (w : World) :
    Calls Try.prog 8 #[av a, av b] w fun e w' => e = .returned (.bool true) ∧ Below w.heap.size w w' := by
  obtain ⟨W, hW, h1, h2, hbw, hsz⟩ := box2 w 44 44 a b
  have hB : w.heap.size ≤ W.heap.size := by omega
  have HW := Lib.hid hW
  clear hW hsz
  have hcl := (clampL_len a).trans ha
  generalize hcc : clampL a = c at *
  have Hcc := Lib.hid hcc
  clear hcc
  go_enter Try.func8, Try.ntmps8
  go_wp2_with (
    refine wpList_loadArr (g := w.heap.size) (t := 44) rfl 44 5 (.tmp 2) ?ho ?hx ?hA ha Try.underlying44 Try.infoKey ?_
    case ho => with_reducible rfl
    case hx => rfl
    case hA => exact (arr_new _ _ _).alloc _)
  rw [← HW.out]
  refine (keyClamp_any a ha _).mono ?_; rintro e w1 ⟨rfl, hb1⟩
  rw [Hcc.out]
  have k1 := h1.on hb1
  have k2 := h2.on hb1
  have hbw1 := Below.on hbw hB hb1
  clear h1 h2 hb1 HW
  go_wp2_with (
    refine wpList_allocStore (cs := (c.map bv).toArray) rfl rfl 44 ?ho (.tmp 5) (.tmp 7) ?ho2 Try.zeroKey rfl ?hx ?hy ?hn ?h1 ?_
    case ho => with_reducible rfl
    case ho2 => rfl
    case hx => rfl
    case hy => rfl
    case hn => simp [hcl]
    case h1 => exact one_bytes c)
  obtain ⟨r1, e1, cl1, hr1, hr2⟩ := less_both a b ha hb
  obtain ⟨rz, ez, cz⟩ := zero_both a ha
  have L1 := fun w => keyLess_any a b ha hb w
  have L2 := fun w => keyLess_any b a hb ha w
  have Lz := fun w => keyZero_any a ha w
  have Lc := fun w => refClamp_any a ha w
  have Lk := fun w => keyClamp_any c hcl w
  have hr3 : a = b → decide (Extern.BytealgCompare.cmp ⟨⟨b⟩⟩ ⟨⟨a⟩⟩ < 0) = false := by rintro rfl; simp [cmp_same]
  generalize hr2' : decide (Extern.BytealgCompare.cmp ⟨⟨b⟩⟩ ⟨⟨a⟩⟩ < 0) = r2 at *
  clear hr2'
  simp only [e1] at L1
  simp only [ez] at Lz
  rw [Hcc.out] at Lc
  rw [← Hcc.out, clampL_again a ha, Hcc.out] at Lk
  have HL1 := Lib.hid L1
  have HL2 := Lib.hid L2
  have HLz := Lib.hid Lz
  have HLc := Lib.hid Lc
  have HLk := Lib.hid Lk
  have Hcl1 := Lib.hid cl1
  have Hcz := Lib.hid cz
  clear L1 L2 Lz Lc Lk cl1 cz e1 ez Hcc
  have k3 := arr_new w1 44 c
  have k1 := k1.alloc (.cells (c.map bv).toArray 44)
  have k2 := k2.alloc (.cells (c.map bv).toArray 44)
  have hbw2 := hbw1.alloc hbw1.size (.cells (c.map bv).toArray 44)
  have hs2 := hbw2.size
  generalize hw2 : w1.alloc (.cells (c.map bv).toArray 44) = w2 at *
  generalize hg3 : w1.heap.size = g3 at *
  generalize w.heap.size + 1 = g2 at *
  generalize hg1 : w.heap.size = g1 at *
  clear hw2 hg3 hbw1
  simp only [Act.put, List.setIfInBounds_toArray, List.set_cons_succ, List.set_cons_zero]
  refine wp_region_below w2.heap.size (by kernel_rfl) (by kernel_rfl) ?_
  have hcase : ((a == b) = true ∧ r1 = false ∧ r2 = false) ∨ ((a == b) = false ∧ r1 = true) ∨ ((a == b) = false ∧ r1 = false ∧ r2 = true) := by
    by_cases hab : a = b
    · cases r1
      · exact .inl ⟨by simp [hab], rfl, (hr3 hab).symm ▸ rfl⟩
      · exact absurd hab (hr1 rfl)
    · cases r1
      · exact .inr (.inr ⟨by simp [hab], rfl, hr2 hab rfl⟩)
      · exact .inr (.inl ⟨by simp [hab], rfl⟩)
  clear hr1 hr2 hr3
  rcases hcase with ⟨hab, rfl, rfl⟩ | ⟨hab, rfl⟩ | ⟨hab, rfl, rfl⟩
  all_goals
    repeat (first
      | go_big_quiet_skip
      | (go_big_quiet_want
         first
           | (refine quiet_loadArr (g := g1) (t := 44) (l := a) 44 5 (.tmp 2) ?ho ?hx ?hA ha Try.underlying44 Try.infoKey ?_
              case ho => with_reducible rfl
              case hx => rfl
              case hA => exact fun w' hw' => k1.on hw'
              go_big_quiet_on
              simp only [Act.put, List.setIfInBounds_toArray, List.set_cons_succ, List.set_cons_zero])
           | (refine quiet_loadArr (g := g2) (t := 44) (l := b) 44 5 (.tmp 3) ?ho ?hx ?hA hb Try.underlying44 Try.infoKey ?_
              case ho => with_reducible rfl
              case hx => rfl
              case hA => exact fun w' hw' => k2.on hw'
              go_big_quiet_on
              simp only [Act.put, List.setIfInBounds_toArray, List.set_cons_succ, List.set_cons_zero])
           | (refine quiet_loadArr (g := g3) (t := 44) (l := c) 44 5 (.tmp 5) ?ho ?hx ?hA hcl Try.underlying44 Try.infoKey ?_
              case ho => with_reducible rfl
              case hx => rfl
              case hA => exact fun w' hw' => k3.on hw'
              go_big_quiet_on
              simp only [Act.put, List.setIfInBounds_toArray, List.set_cons_succ, List.set_cons_zero])
           | (refine quiet_eqlArr (l := c) (l' := c) 44 5 44 _ _ rfl _ rfl rfl rfl hcl hcl Try.underlying44 Try.underlying5 Try.sizeU8 Try.plainKey ?_
              go_big_quiet_on
              simp only [Act.put, List.setIfInBounds_toArray, List.set_cons_succ, List.set_cons_zero, beq_self_eq_true])
           | (refine quiet_eqlArr (l := a) (l' := b) 44 5 44 _ _ rfl _ rfl rfl rfl ha hb Try.underlying44 Try.underlying5 Try.sizeU8 Try.plainKey ?_
              go_big_quiet_on
              simp only [Act.put, List.setIfInBounds_toArray, List.set_cons_succ, List.set_cons_zero, hab])
           | (go_big_quiet_op
              first
                | go_big_quiet_on
                | (with_reducible refine ⟨_, fun _ _ => rfl, ?_⟩; go_big_quiet_on)
                | (apply Exists.intro
                   refine ⟨fun w' hw' => ?_, ?_⟩
                   · first
                       | (go_at_call 33; with_reducible refine (HL1.out _).mono ?_; exact fun _ _ h => ⟨h.1, Below.on hw' hw'.size h.2⟩)
                       | (go_at_call 33; with_reducible refine (HL2.out _).mono ?_; exact fun _ _ h => ⟨h.1, Below.on hw' hw'.size h.2⟩)
                       | (go_at_call 34; refine (Hcl1.out _).mono ?_; exact fun _ _ h => ⟨h.1, Below.on hw' hw'.size h.2⟩)
                       | (go_at_call 35; refine (HLz.out _).mono ?_; exact fun _ _ h => ⟨h.1, Below.on hw' hw'.size h.2⟩)
                       | (go_at_call 36; refine (Hcz.out _).mono ?_; exact fun _ _ h => ⟨h.1, Below.on hw' hw'.size h.2⟩)
                       | (go_at_call 37; refine (HLc.out _).mono ?_; exact fun _ _ h => ⟨h.1, Below.on hw' hw'.size h.2⟩)
                       | (go_at_call 32; refine (HLk.out _).mono ?_; exact fun _ _ h => ⟨h.1, Below.on hw' hw'.size h.2⟩)
                       | (go_at_call 29; refine (alive7 _).mono ?_; exact fun _ _ h => ⟨h.1, Below.on hw' hw'.size h.2⟩)
                   go_big_quiet_on))))
  all_goals
    refine wpQuiet_nil ?_
    intro w3 hw3
    go_wp2
    go_ret
    exact ⟨rfl, hg1 ▸ hbw2.trans (hw3.mono hs2)⟩

end Go.Proofs.Ytfiagknmieegaaa
