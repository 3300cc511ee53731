
/- Layer 9. Contracts: the reference's Text; both texts, whatever the bytes. -/
import Derived.Test.YtccidoigjdbepaaDoorClF
import Derived.Test.YtccidoigjdbepaaDoorAdrB
namespace Go.Proofs.YtccidoigjdbepaaDoor.Cl
open Go.RowKit
set_option maxRecDepth 100000
set_option linter.unusedVariables false

theorem qb_loadA {P : Program} {g : Nat} {t : TypeId} {cs : Array Value} {o : Oper} {a : Act} {C : World → Prop} {K : Act → Prop} (ty : TypeId) (x : Operand) (ho : o.op = .load ty x) (hx : a.eval x = .pointer (some ⟨g, 0, none⟩)) (hA : ∀ w, C w → Blk w g t cs)
    (d : TypeDesc) (hu : P.underlying ty = some d) (hd : (match d with | .struct _ | .array _ _ => true | _ => false) = true) (hi : (P.info? ty).map (·.size) = some cs.size) (hk : K (a.put o.dst (.agg cs))) : o.quiet P a C K :=
  qb_load ty x ho hx hA d hu hd hi hk
theorem rz_step (zs : List Bool) (k : Nat) : rz zs (k + 1) = if (rz zs k).2 < runOf zs k then (k, runOf zs k) else rz zs k := rfl
theorem runOf_le (zs : List Bool) (i : Nat) : runOf zs i ≤ 8 - i := (runZ_facts zs (8 - i) i).1
theorem rz_bounds (zs : List Bool) (k : Nat) (hk : k ≤ 8) : (rz zs k).1 + (rz zs k).2 ≤ 8 := by
  induction k with
  | zero => show 0 + 0 ≤ 8; omega
  | succ k ih =>
    rw [rz_step]
    have := runOf_le zs k
    split
    · show k + runOf zs k ≤ 8; omega
    · exact ih (by omega)

set_option maxRecDepth 100000 in
set_option maxHeartbeats 2000000 in
theorem refctext (l : List UInt8) (hl : l.length = 16) (w : World) :
    Calls Tryd.prog 56 #[av l] w fun e w' => e = .returned (sv (if (rz (zsOf (gOf l)) 8).2 < 2 then row (gOf l) else row ((gOf l).take (rz (zsOf (gOf l)) 8).1) ++ [58, 58] ++ row ((gOf l).drop ((rz (zsOf (gOf l)) 8).1 + (rz (zsOf (gOf l)) 8).2)))) ∧ Below w.heap.size w w' := by
  have hgl := gOf_len l 8 hl
  have hlt := gOf_lt l
  have H1 := Lib.hid (fun W => refGroups_any l hl W)
  have HRn := Lib.hid (fun i hi W => run_any (gOf l) hgl i hi W hlt)
  have HRw := Lib.hid (fun f t hft ht W => refRow_any (gOf l) hgl f t hft ht W hlt)
  have HSt := Lib.hid (fun k => rz_step (zsOf (gOf l)) k)
  have HBd := Lib.hid (fun k hk => rz_bounds (zsOf (gOf l)) k hk)
  have HRl := Lib.hid (fun i => runOf_le (zsOf (gOf l)) i)
  have hr1 := row_len ((gOf l).take (rz (zsOf (gOf l)) 8).1)
  have hr2 := row_len ((gOf l).drop ((rz (zsOf (gOf l)) 8).1 + (rz (zsOf (gOf l)) 8).2))
  rw [List.length_take] at hr1
  rw [List.length_drop] at hr2
  rw [hgl] at hr1 hr2
  have k0 : Arr (w.alloc (.cells (l.map bv).toArray 22)) w.heap.size 22 l := arr_new w 22 l
  have b0 : Below w.heap.size w (w.alloc (.cells (l.map bv).toArray 22)) := (Below.refl _ _).alloc (Nat.le_refl _) _
  have sz : ((gOf l).map i64v).toArray.size = 8 := by simp [hgl]
  have hi8 : (Tryd.prog.info? 101).map (·.size) = some ((gOf l).map i64v).toArray.size := by rw [sz]; exact Tryd.infoGroupsI
  have one8 : (((gOf l).map i64v).toArray.all fun x => x.oneCell') = true := by
    have := gAtI_one (gOf l) 8
    rwa [gAtI_full _ hgl] at this
  have hfull : ((gOf l).drop 0).take (8 - 0) = gOf l := by rw [List.drop_zero, List.take_of_length_le (by omega)]
  have hfront : ∀ f, ((gOf l).drop 0).take (f - 0) = (gOf l).take f := fun f => by rw [List.drop_zero, Nat.sub_zero]
  have hback : ∀ t, t ≤ 8 → ((gOf l).drop t).take (8 - t) = (gOf l).drop t := fun t ht => by rw [List.take_of_length_le]; rw [List.length_drop, hgl]; omega
  have HFull := Lib.hid hfull
  have HFront := Lib.hid hfront
  have HBack := Lib.hid hback
  clear hlt hfull hfront hback
  generalize gOf l = gs at *
  generalize zsOf gs = zs at *
  generalize (gs.map i64v).toArray = X at *
  generalize hRES : (if (rz zs 8).2 < 2 then row gs else row (gs.take (rz zs 8).1) ++ [58, 58] ++ row (gs.drop ((rz zs 8).1 + (rz zs 8).2))) = RES
  have HRes := Lib.hid hRES
  clear hRES
  go_enter Tryd.func56, Tryd.ntmps56
  go_wp2_with (first
    | (refine wpList_loadArr (g := w.heap.size) (t := 22) (l := l) rfl 22 5 (.tmp 1) ?ho ?hx k0 hl Tryd.underlying22 Tryd.infoB16 ?_
       case ho => with_reducible rfl
       case hx => rfl)
    | fail)
  refine (H1.out _).mono ?_; rintro e w1 ⟨rfl, hb1⟩
  have b1 := Below.on b0 b0.size (by exact hb1)
  have b2 := b1.alloc b1.size (.cells X 101)
  have k2 : Blk (w1.alloc (.cells X 101)) w1.heap.size 101 X := blk_new _ _ _
  clear k0 b0 hb1
  go_wp2_with (first
    | (refine wpList_allocStore (cs := X) rfl rfl 101 ?ho (.tmp 3) (.tmp 8) ?ho2 Tryd.zeroGroupsI ?hz ?hx ?hy ?hn ?h1 ?_
       case ho => with_reducible rfl
       case ho2 => rfl
       case hz => rfl
       case hx => rfl
       case hy => rfl
       case hn => exact sz
       case h1 => exact one8)
    | fail)
  generalize w1.heap.size = g3 at *
  generalize hW2 : w1.alloc (.cells X 101) = w2 at *
  go_loopw [4, 5, 6] (fun u v i wr => ∃ k : Nat, k ≤ 8 ∧ i = .int .i64 (k : Int) ∧ u = .int .i64 ((rz zs k).1 : Int) ∧ v = .int .i64 ((rz zs k).2 : Int) ∧ Blk wr g3 101 X ∧ Below w.heap.size w wr) (fun _ _ i _ => 8 - (intOf i).toNat)
  case atStart => exact ⟨0, Nat.zero_le _, rfl, rfl, rfl, k2, b2⟩
  case round =>
    clear k2 b2 hW2
    obtain ⟨k, hk, rfl, rfl, rfl, hkb, hbel⟩ := hrel
    have hbs := hbel.size
    have hbd := HBd.out k hk
    by_cases hlt : k < 8
    · have hst := HSt.out k
      have hrl := HRl.out k
      have HC := Lib.hid (fun W => HRn.out k hlt W)
      obtain ⟨A, hA⟩ : ∃ A, (rz zs k).1 = A := ⟨_, rfl⟩
      obtain ⟨M, hM⟩ : ∃ M, (rz zs k).2 = M := ⟨_, rfl⟩
      have hL : rz zs k = (A, M) := by rw [← hA, ← hM]
      rw [hA, hM] at hbd ⊢
      rw [hL] at hst
      have HSt2 := Lib.hid hst
      clear hst hL hA hM
      generalize runOf zs k = R at *
      go_wp2_with (first
        | (refine wpList_loadBlk (g := g3) (t := 101) (cs := X) rfl 101 (.tmp 3) ?ho ?hx ?hA _ Tryd.underlying101 rfl ?hi ?_
           case ho => with_reducible rfl
           case hx => rfl
           case hA => exact hkb
           case hi => exact hi8)
        | fail)
      refine (HC.out _).mono ?_; rintro e w3 ⟨rfl, hb3⟩
      have b3 := Below.on hbel hbs hb3
      have k3 := hkb.on hb3
      clear hkb hbel hb3
      by_cases hc : M < R
      · have hcI : (M : Int) < (R : Int) := by omega
        have HR := Lib.hid (show rz zs (k + 1) = (k, R) by rw [HSt2.out]; simp [hc])
        clear HSt2 hc
        go_wp2_with (first
          | (refine wpList_loadBlk (g := g3) (t := 101) (cs := X) rfl 101 (.tmp 3) ?ho ?hx ?hA _ Tryd.underlying101 rfl ?hi ?_
             case ho => with_reducible rfl
             case hx => rfl
             case hA => exact k3
             case hi => exact hi8)
          | fail)
        refine (HC.out _).mono ?_; rintro e w4 ⟨rfl, hb4⟩
        have b4 := Below.on b3 b3.size hb4
        have k4 := k3.on hb4
        go_wp2
        go_roundw
        case rel => exact ⟨k + 1, by omega, by go_num, by rw [HR.out], by rw [HR.out], k4, b4⟩
        case measure => simp [intOf] <;> omega
      · have hcI : ¬ ((M : Int) < (R : Int)) := by omega
        have HR := Lib.hid (show rz zs (k + 1) = (A, M) by rw [HSt2.out]; simp [hc])
        clear HSt2 hc
        go_wp2
        go_roundw
        case rel => exact ⟨k + 1, by omega, by go_num, by rw [HR.out], by rw [HR.out], k3, b3⟩
        case measure => simp [intOf] <;> omega
    · obtain rfl : k = 8 := by omega
      obtain ⟨A, hA⟩ : ∃ A, (rz zs 8).1 = A := ⟨_, rfl⟩
      obtain ⟨M, hM⟩ : ∃ M, (rz zs 8).2 = M := ⟨_, rfl⟩
      have hres := HRes.out
      rw [hA, hM] at hbd hr2 hres ⊢
      rw [hA] at hr1
      clear HRes hA hM
      by_cases hM2 : M < 2
      · rw [if_pos hM2] at hres
        have HR := Lib.hid hres
        have HC := Lib.hid (fun W => HRw.out 0 8 (by omega) (by omega) W)
        rw [HFull.out] at HC
        have hMI : (M : Int) < 2 := by omega
        clear hres hM2
        generalize row gs = RG at *
        go_wp2_with (first
          | (refine wpList_loadBlk (g := g3) (t := 101) (cs := X) rfl 101 (.tmp 3) ?ho ?hx ?hA _ Tryd.underlying101 rfl ?hi ?_
             case ho => with_reducible rfl
             case hx => rfl
             case hA => exact hkb
             case hi => exact hi8)
          | fail)
        refine (HC.out _).mono ?_; rintro e w4 ⟨rfl, hb4⟩
        have b4 := Below.on hbel hbs hb4
        go_wp2
        go_ret
        exact ⟨ret_sv HR.out, b4⟩
      · rw [if_neg hM2] at hres
        have HR := Lib.hid hres
        have HC1 := Lib.hid (fun W => HRw.out 0 A (by omega) (by omega) W)
        have HC2 := Lib.hid (fun W => HRw.out (A + M) 8 (by omega) (by omega) W)
        rw [HFront.out A, show ((0 : Nat) : Int) = 0 from rfl] at HC1
        rw [HBack.out (A + M) (by omega)] at HC2
        have hMI : ¬ ((M : Int) < 2) := by omega
        have hAM : (A : Int) + (M : Int) = ((A + M : Nat) : Int) := by omega
        have hAM2 : IntKind.i64.wrap ((A : Int) + (M : Int)) = (A : Int) + (M : Int) := IntWalk.i64_in _ (by omega)
        rw [← hAM, show ((8 : Nat) : Int) = 8 from rfl] at HC2
        clear hAM
        clear hres hM2
        generalize row (gs.take A) = R1 at *
        generalize row (gs.drop (A + M)) = R2 at *
        have z1 : (ByteArray.mk ⟨R1⟩).size = R1.length := rfl
        have z2 : (ByteArray.mk ⟨R2⟩).size = R2.length := rfl
        have z3 : (ByteArray.mk ⟨R1 ++ [58, 58]⟩).size = R1.length + 2 := by show (R1 ++ [58, 58]).length = _; simp
        have hA1 := str_add R1 [58, 58]
        have hA2 := str_add (R1 ++ [58, 58]) R2
        go_wp2_with fail
        have hup : ∀ W : World, Below wr.heap.size wr W → Below w.heap.size w W := fun W hW => Below.on hbel hbs hW
        refine wp_region_below wr.heap.size (by kernel_rfl) (by kernel_rfl) ?_
        repeat (first
          | go_big_quiet_skip
          | (go_big_quiet_want
             first
               | (refine qb_loadA (g := g3) (t := 101) (cs := X) 101 (.tmp 3) ?ho ?hx ?hA _ Tryd.underlying101 rfl hi8 ?_
                  case ho => with_reducible rfl
                  case hx => rfl
                  case hA => exact fun w' hw' => hkb.on hw'
                  go_big_quiet_on
                  simp only [Act.put, List.setIfInBounds_toArray, List.set_cons_succ, List.set_cons_zero])
               | (go_big_quiet_op
                  first
                    | go_big_quiet_on
                    | (with_reducible refine ⟨_, fun _ _ => rfl, ?_⟩; go_big_quiet_on)
                    | (apply Exists.intro
                       refine ⟨fun w' hw' => ?_, ?_⟩
                       · (go_at_call 82; with_reducible refine (HC1.out w').mono ?_; exact fun _ _ h => ⟨h.1, Below.on hw' hw'.size h.2⟩)
                       go_big_quiet_on)
                    | (apply Exists.intro
                       refine ⟨fun w' hw' => ?_, ?_⟩
                       · (go_at_call 82; with_reducible refine (HC2.out w').mono ?_; exact fun _ _ h => ⟨h.1, Below.on hw' hw'.size h.2⟩)
                       go_big_quiet_on))))
        refine wpQuiet_nil ?_
        intro w4 hw4
        go_wp2
        go_ret
        exact ⟨ret_sv (by rw [← HR.out]; simp), hup _ hw4⟩

/-- The text of sixteen bytes, by both. -/
theorem ctext_both (l : List UInt8) (hl : l.length = 16) : ∃ T : List UInt8, T.length ≤ 100 ∧
    (∀ w : World, Calls Tryd.prog 55 #[av l] w fun e w' => e = .returned (sv T) ∧ Below w.heap.size w w') ∧
    (∀ w : World, Calls Tryd.prog 56 #[av l] w fun e w' => e = .returned (sv T) ∧ Below w.heap.size w w') := by
  have hgl := gOf_len l 8 hl
  obtain ⟨a, b, c, d, e, f, g, i, hgs⟩ := list_eight _ hgl
  have hlr := lz_rz (decide (a = 0)) (decide (b = 0)) (decide (c = 0)) (decide (d = 0)) (decide (e = 0)) (decide (f = 0)) (decide (g = 0)) (decide (i = 0))
  have hzs : zsOf (gOf l) = [decide (a = 0), decide (b = 0), decide (c = 0), decide (d = 0), decide (e = 0), decide (f = 0), decide (g = 0), decide (i = 0)] := by rw [hgs]; rfl
  simp only at hlr
  rw [← hzs] at hlr
  obtain ⟨q1, q2, q3, q4, q5⟩ := hlr
  have r0 := row_len (gOf l)
  have r1 := row_len ((gOf l).take (lz (zsOf (gOf l)) 8).1)
  have r2 := row_len ((gOf l).drop (lz (zsOf (gOf l)) 8).2.1)
  rw [List.length_take] at r1
  rw [List.length_drop] at r2
  rw [hgl] at r0 r1 r2
  by_cases h : (rz (zsOf (gOf l)) 8).2 < 2
  · refine ⟨row (gOf l), by omega, fun w => ctext_few l hl w (q1.2 h), fun w => ?_⟩
    have := refctext l hl w
    rwa [if_pos h] at this
  · have h2 := q2 (by omega)
    refine ⟨row ((gOf l).take (lz (zsOf (gOf l)) 8).1) ++ [58, 58] ++ row ((gOf l).drop (lz (zsOf (gOf l)) 8).2.1), by simp; omega, fun w => ctext_many l hl w (by
      have := fun h' => h (q1.1 h')
      omega), fun w => ?_⟩
    have := refctext l hl w
    rw [if_neg h, ← h2.1] at this
    rw [h2.2, h2.1]
    rw [h2.1] at this
    exact this

end Go.Proofs.YtccidoigjdbepaaDoor.Cl
