
/- The walk of law21.PacketReads. -/
import Derived.Test.YtblfllidejdehaaPkH
namespace Go.Proofs.Ytblfllidejdehaa
open Go.RowKit
set_option linter.unusedSimpArgs false
set_option linter.unusedVariables false

/-- A struct, held against itself: it is no other. -/
theorem wpList_neqS {P : Program} {w : World} {o : Oper} {a : Act} {ops : Array Oper} {rest : List Oper} {cs : Array Value} {Q : Exit → Act → World → Prop} (hw : Region.wanted o (yielded ops a.tmps) = true) (ty rt : TypeId) (x y : Operand) (ho : o.op = .binOp .neq ty x y rt)
    (hx : a.eval x = .agg cs) (hy : a.eval y = .agg cs) (hm : P.eqGuardType P.depth ty = false) (he : ∀ w, (Op.equalIn 10000 ty (.agg cs) (.agg cs)).run P w = .ok true w)
    (h : wpList P ops Q rest (a.put o.dst (.bool false)) w) : wpList P ops Q (o :: rest) a w := by
  refine wpList_on hw ?_
  unfold Oper.wp execOp
  simp only [ho, hx, hy, Sem.run_bind, run_eqGuard_agg w .neq ty x y _ _ hm, Result.andThen_ok, run_neq_struct, he w, Sem.run_pure, Bool.not_true]
  exact h

set_option maxRecDepth 100000 in
set_option maxHeartbeats 4000000 in
theorem walk_PacketReads (A : Option Addr) (n c : Nat) (l : List UInt8) {w : World} (hc : n ≤ c ∧ c ≤ maxLen) (hs : Shows w w.heap.size A n l) :
    Calls Try.prog 5 #[.slice A n c] w fun e w' => e = .returned (.bool true) ∧ Below w.heap.size w w' := by
  obtain ⟨hc1, hc2⟩ := hc
  by_cases hn : 300 < n
  · have hni : (300 : Int) < (n : Int) := by omega
    have d : decide ((300 : Int) < (n : Int)) = true := decide_eq_true hni
    go_enter Try.func5, Try.ntmps5
    go_wp2_with fail
    refine (alive21 w).mono ?_
    rintro e w1 ⟨rfl, hb1⟩
    go_wp2
    go_ret
    exact ⟨rfl, hb1⟩
  · have d : decide ((300 : Int) < (n : Int)) = false := decide_eq_false (by omega)
    have hl := hs.len
    have HP := Lib.hid (kparse_any A n c l w (by omega) hc1 hc2 hs)
    have HR := Lib.hid (fun (W : World) (hW : Below w.heap.size w W) => krefParse_any A n c l W (by omega) hc1 hc2 ((hs.below hW).up hW.size))
    have HW := Lib.hid (fun (W : World) (hW : Below w.heap.size w W) => whole_any A n c l W (by omega) hc1 hc2 ((hs.below hW).up hW.size))
    have HV := Lib.hid (fun (W : World) (hW : Below w.heap.size w W) => refWhole_any A n c l W (by omega) hc1 hc2 ((hs.below hW).up hW.size))
    have hz := (zero_of_info Try.zeroHead).1
    have hne : ¬ zH = #[] := by intro h; have := zH_size; rw [h] at this; cases this
    have hsz := kH_size l
    have h1c := kH_one l
    have hsf := Lib.hid (kH_self l)
    have ms : (Try.prog.info? 28).map (·.size) = some (kH l).size := by rw [hsz]; exact Try.infoHead
    have m2 := kX_cell l 2 (by omega)
    by_cases q : kE l = 0
    · have HS := Lib.hid (fun (W : World) (hW : Below w.heap.size w W) => strip_ok A n c l W (by omega) hc1 hc2 ((hs.below hW).up hW.size) q)
      obtain ⟨f1, f2, f3, f4, f5⟩ := kfacts q
      have kwt := kW_take q (by omega)
      obtain ⟨b, off, rfl, hbb, _⟩ := hs.2 (by omega)
      have HB := Lib.hid (fun (W : World) (hW : Below w.heap.size w W) => show Shows W W.heap.size (some ⟨b, off, none⟩) (kX l 2) (l.take (kX l 2)) by simpa using ((hs.below hW).up hW.size).piece 0 (kX l 2) (by omega))
      rw [q] at HP HR
      clear hs q f5
      generalize kX l 2 = T at *
      generalize kH l = M at *
      generalize kW l = BW at *
      have iT : (T : Int) ≤ (c : Int) := by omega
      have mT : T ≤ 1000000 := by omega
      cases BW
      all_goals
        go_enter Try.func5, Try.ntmps5
        go_wp2_with fail
        refine HP.out.mono ?_
        rintro e w1 ⟨rfl, hb1⟩
        have b2 : Below w.heap.size w (w1.alloc (.cells M 28)) := hb1.alloc hb1.size _
        have k2 : Blk (w1.alloc (.cells M 28)) w1.heap.size 28 M := blk_new _ _ _
        generalize hg1 : w1.heap.size = g1 at *
        go_wp2_with (first
          | (refine wpList_allocStore (cs := M) rfl rfl 28 ?ho (.tmp 3) (.tmp 16) ?ho2 Try.zeroHead ?hz ?hx ?hy ?hn ?h1 ?_
             case ho => with_reducible rfl
             case ho2 => rfl
             case hz => exact zH_size
             case hx => rfl
             case hy => rfl
             case hn => exact hsz
             case h1 => exact h1c
             rw [hg1])
          | fail)
        refine (HR.out _ b2).mono ?_
        rintro e w3 ⟨rfl, hb3⟩
        have k3 := k2.on hb3
        have b3 := Below.on b2 b2.size hb3
        clear k2 b2 hb3 HP HR
        have b4 : Below w.heap.size w (w3.alloc (.cells M 28)) := b3.alloc b3.size _
        have k4 : Blk (w3.alloc (.cells M 28)) g1 28 M := k3.alloc _
        have k5 : Blk (w3.alloc (.cells M 28)) w3.heap.size 28 M := blk_new _ _ _
        generalize hg3 : w3.heap.size = g3 at *
        go_wp2_with (first
          | (refine wpList_allocStore (cs := M) rfl rfl 28 ?ho (.tmp 5) (.tmp 21) ?ho2 Try.zeroHead ?hz ?hx ?hy ?hn ?h1 ?_
             case ho => with_reducible rfl
             case ho2 => rfl
             case hz => exact zH_size
             case hx => rfl
             case hy => rfl
             case hn => exact hsz
             case h1 => exact h1c
             rw [hg3])
          | (refine wpList_loadBlk (g := g1) (t := 28) (cs := M) rfl 28 (.tmp 3) ?ho ?hx ?hA _ Try.underlying28 rfl ?hi ?_
             case ho => with_reducible rfl
             case hx => rfl
             case hA => exact k4
             case hi => exact ms)
          | (refine wpList_loadBlk (g := g3) (t := 28) (cs := M) rfl 28 (.tmp 5) ?ho ?hx ?hA _ Try.underlying28 rfl ?hi ?_
             case ho => with_reducible rfl
             case hx => rfl
             case hA => exact k5
             case hi => exact ms)
          | (refine wpList_neqS (cs := M) rfl 28 28 (.tmp 23) (.tmp 24) ?ho ?hx ?hy Try.plainHead ?he ?_
             case ho => with_reducible rfl
             case hx => rfl
             case hy => rfl
             case he => exact hsf.out)
          | fail)
        refine (HW.out _ b4).mono ?_
        rintro e w6 ⟨rfl, hb6⟩
        have b6 := Below.on b4 b4.size hb6
        have k6 := k5.on hb6
        clear k4 k5 k3 b3 b4 hb6
        go_wp2_with fail
        refine (HV.out _ b6).mono ?_
        rintro e w7 ⟨rfl, hb7⟩
        have b7 := Below.on b6 b6.size hb7
        have k7 := k6.on hb7
        clear b6 k6 hb7
        go_wp2_with fail
        refine (HS.out _ b7).mono ?_
        rintro e w8 ⟨v, rfl, ho8, hb8⟩
        have b8 := Below.on b7 b7.size hb8
        have k8 := k7.on hb8
        have c8 := (k8.cellA 2).trans m2
        obtain ⟨A', c', rfl, h1, h2, s8⟩ := ho8.shows
        have sB := HB.out _ b8
        have HSm := Lib.hid (same_below A' (some ⟨b, off, none⟩) T c' c (l.take T) w8 (by simp only [maxLen]; omega) s8 sB)
        have HW2 := Lib.hid (fun (W : World) (hW : Below w8.heap.size w8 W) => whole_any A' T c' (l.take T) W (by omega) h1 h2 ((s8.below hW).up hW.size))
        rw [kwt] at HW2
        clear b7 k7 hb8 ho8 s8 sB HB HS
        go_wp2_with fail
        refine HSm.out.mono ?_
        rintro e w9 ⟨rfl, hb9⟩
        have b9 := Below.on b8 b8.size hb9
        go_wp2_with fail
        refine (HW2.out _ hb9).mono ?_
        rintro e w10 ⟨rfl, hb10⟩
        have b10 := Below.on b9 b9.size hb10
        clear b8 b9 hb9 hb10 k8 c8 HW2 HSm
        go_wp2_with fail
        refine (alive21 _).mono ?_
        rintro e w11 ⟨rfl, hb11⟩
        have b11 := Below.on b10 b10.size hb11
        clear b10 hb11
        go_wp2
        go_ret
        exact ⟨rfl, b11⟩
    · have HS := Lib.hid (fun (W : World) (hW : Below w.heap.size w W) => strip_bad A n c l W (by omega) hc1 hc2 ((hs.below hW).up hW.size) q)
      clear hs
      generalize kX l 2 = T at *
      generalize kH l = M at *
      generalize kE l = E0 at *
      generalize kW l = BW at *
      have d0 : decide ((E0 : Int) = 0) = false := decide_eq_false (by omega)
      have d0' : ((E0 : Int) != 0) = true := by simp; omega
      cases BW
      all_goals
        go_enter Try.func5, Try.ntmps5
        go_wp2_with fail
        refine HP.out.mono ?_
        rintro e w1 ⟨rfl, hb1⟩
        have b2 : Below w.heap.size w (w1.alloc (.cells M 28)) := hb1.alloc hb1.size _
        have k2 : Blk (w1.alloc (.cells M 28)) w1.heap.size 28 M := blk_new _ _ _
        generalize hg1 : w1.heap.size = g1 at *
        go_wp2_with (first
          | (refine wpList_allocStore (cs := M) rfl rfl 28 ?ho (.tmp 3) (.tmp 16) ?ho2 Try.zeroHead ?hz ?hx ?hy ?hn ?h1 ?_
             case ho => with_reducible rfl
             case ho2 => rfl
             case hz => exact zH_size
             case hx => rfl
             case hy => rfl
             case hn => exact hsz
             case h1 => exact h1c
             rw [hg1])
          | fail)
        refine (HR.out _ b2).mono ?_
        rintro e w3 ⟨rfl, hb3⟩
        have k3 := k2.on hb3
        have b3 := Below.on b2 b2.size hb3
        clear k2 b2 hb3 HP HR
        have b4 : Below w.heap.size w (w3.alloc (.cells M 28)) := b3.alloc b3.size _
        have k4 : Blk (w3.alloc (.cells M 28)) g1 28 M := k3.alloc _
        have k5 : Blk (w3.alloc (.cells M 28)) w3.heap.size 28 M := blk_new _ _ _
        generalize hg3 : w3.heap.size = g3 at *
        go_wp2_with (first
          | (refine wpList_allocStore (cs := M) rfl rfl 28 ?ho (.tmp 5) (.tmp 21) ?ho2 Try.zeroHead ?hz ?hx ?hy ?hn ?h1 ?_
             case ho => with_reducible rfl
             case ho2 => rfl
             case hz => exact zH_size
             case hx => rfl
             case hy => rfl
             case hn => exact hsz
             case h1 => exact h1c
             rw [hg3])
          | (refine wpList_loadBlk (g := g1) (t := 28) (cs := M) rfl 28 (.tmp 3) ?ho ?hx ?hA _ Try.underlying28 rfl ?hi ?_
             case ho => with_reducible rfl
             case hx => rfl
             case hA => exact k4
             case hi => exact ms)
          | (refine wpList_loadBlk (g := g3) (t := 28) (cs := M) rfl 28 (.tmp 5) ?ho ?hx ?hA _ Try.underlying28 rfl ?hi ?_
             case ho => with_reducible rfl
             case hx => rfl
             case hA => exact k5
             case hi => exact ms)
          | (refine wpList_neqS (cs := M) rfl 28 28 (.tmp 23) (.tmp 24) ?ho ?hx ?hy Try.plainHead ?he ?_
             case ho => with_reducible rfl
             case hx => rfl
             case hy => rfl
             case he => exact hsf.out)
          | fail)
        refine (HW.out _ b4).mono ?_
        rintro e w6 ⟨rfl, hb6⟩
        have b6 := Below.on b4 b4.size hb6
        have k6 := k5.on hb6
        clear k4 k5 k3 b3 b4 hb6
        go_wp2_with fail
        refine (HV.out _ b6).mono ?_
        rintro e w7 ⟨rfl, hb7⟩
        have b7 := Below.on b6 b6.size hb7
        have k7 := k6.on hb7
        clear b6 k6 hb7
        go_wp2_with fail
        refine (HS.out _ b7).mono ?_
        rintro e w8 ⟨rfl, hb8⟩
        have b8 := Below.on b7 b7.size hb8
        clear b7 k7 hb8
        go_wp2_with fail
        refine (alive21 _).mono ?_
        rintro e w9 ⟨rfl, hb9⟩
        have b9 := Below.on b8 b8.size hb9
        clear b8 hb9
        go_wp2
        go_ret
        exact ⟨rfl, b9⟩

end Go.Proofs.Ytblfllidejdehaa
