
/- Layer 9. Contract: colon.Text. -/
import Derived.Test.YtccidoigjdbepaaDoorClC
import Derived.WideShapes
namespace Go.Proofs.YtccidoigjdbepaaDoor.Cl
open Go.RowKit
set_option maxRecDepth 100000
set_option linter.unusedVariables false

theorem list_eight {α : Type} (L : List α) (h : L.length = 8) : ∃ a b c d e f g i, L = [a, b, c, d, e, f, g, i] := by
  match L, h with
  | [a, b, c, d, e, f, g, i], _ => exact ⟨a, b, c, d, e, f, g, i, rfl⟩
theorem blk_sh {w : World} {g : Nat} {t : TypeId} {gs : List Nat} (h : Blk w g t (gs.map u16v).toArray) : Sh u16v w w.heap.size (some ⟨g, 0, none⟩) gs.length gs := by
  refine ⟨rfl, fun hn => ⟨g, 0, rfl, h.lt, fun j hj => ?_⟩⟩
  rw [Nat.zero_add, Lib.cell_of_heap h]
  simp [hj]
theorem row_len (g : List Nat) : (row g).length ≤ 5 * g.length := by
  have := join_len (g.map hx) (fun x hx' => by
    obtain ⟨y, _, rfl⟩ := List.mem_map.1 hx'
    exact hx_len y)
  rw [List.length_map] at this
  exact this
theorem Tryd.infoB16 : (Tryd.prog.info? 22).map (·.size) = some 16 := by kernel_rfl
theorem ret_sv {a b : List UInt8} (h : a = b) : Ending.returned (sv a) = .returned (sv b) := by rw [h]
theorem str_add (a b : List UInt8) : (ByteArray.mk ⟨a⟩ ++ ByteArray.mk ⟨b⟩) = ByteArray.mk ⟨a ++ b⟩ := ByteArray.mk_append_mk a b

set_option maxHeartbeats 1000000 in
theorem ctext_few (l : List UInt8) (hl : l.length = 16) (w : World) (hfew : (lz (zsOf (gOf l)) 8).2.1 - (lz (zsOf (gOf l)) 8).1 < 2) :
    Calls Tryd.prog 55 #[av l] w fun e w' => e = .returned (sv (row (gOf l))) ∧ Below w.heap.size w w' := by
  have hgl := gOf_len l 8 hl
  have hlt := gOf_lt l
  have H1 := Lib.hid (fun W => groupsOf_any l hl W)
  obtain ⟨a, b, c, d, e, f, g, i, hgs⟩ := list_eight _ hgl
  have H2 := Lib.hid (fun W => longest_any a b c d e f g i W (by rw [← hgs]; exact hlt))
  rw [← hgs] at H2
  have H3 := Lib.hid (fun (g0 : Nat) (W : World) (hW : Blk W g0 95 ((gOf l).map u16v).toArray) => join_any (some ⟨g0, 0, none⟩) 8 8 (gOf l) W (by omega) hlt (by have := blk_sh hW; rw [hgl] at this; exact this))
  obtain ⟨q1, q2, q3⟩ := lz_bounds (zsOf (gOf l)) 8
  have hX : (#[u16v a, u16v b, u16v c, u16v d, u16v e, u16v f, u16v g, u16v i] : Array Value) = ((gOf l).map u16v).toArray := by rw [hgs]; rfl
  rw [hX] at H2
  have k0 : Arr (w.alloc (.cells (l.map bv).toArray 22)) w.heap.size 22 l := arr_new w 22 l
  have b0 : Below w.heap.size w (w.alloc (.cells (l.map bv).toArray 22)) := (Below.refl _ _).alloc (Nat.le_refl _) _
  have sz : ((gOf l).map u16v).toArray.size = 8 := by simp [hgl]
  have hi8 : (Tryd.prog.info? 95).map (·.size) = some ((gOf l).map u16v).toArray.size := by rw [sz]; exact Tryd.infoGroups
  have one8 : (((gOf l).map u16v).toArray.all fun x => x.oneCell') = true := by
    have := gAt_one (gOf l) 8
    rwa [gAt_full _ hgl] at this
  clear hX hgs hlt hgl
  generalize row (gOf l) = R at *
  generalize ((gOf l).map u16v).toArray = X at *
  obtain ⟨F, hF⟩ : ∃ F, (lz (zsOf (gOf l)) 8).1 = F := ⟨_, rfl⟩
  obtain ⟨T, hT⟩ : ∃ T, (lz (zsOf (gOf l)) 8).2.1 = T := ⟨_, rfl⟩
  rw [hF, hT] at H2
  rw [hF, hT] at hfew q1
  rw [hT] at q2
  clear hF hT q3
  have hI : (T : Int) - (F : Int) < 2 := by omega
  go_enter Tryd.func55, Tryd.ntmps55
  go_wp2_with (first
    | (refine wpList_loadArr (g := w.heap.size) (t := 22) (l := l) rfl 22 5 (.tmp 1) ?ho ?hx k0 hl Tryd.underlying22 Tryd.infoB16 ?_
       case ho => with_reducible rfl
       case hx => rfl)
    | fail)
  refine (H1.out _).mono ?_; rintro e w1 ⟨rfl, hb1⟩
  have b1 := Below.on b0 b0.size (by exact hb1)
  have b2 := b1.alloc b1.size (.cells X 95)
  have k2 : Blk (w1.alloc (.cells X 95)) w1.heap.size 95 X := blk_new _ _ _
  clear k0 b0 hb1
  go_wp2_with (first
    | (refine wpList_allocStore (cs := X) rfl rfl 95 ?ho (.tmp 3) (.tmp 7) ?ho2 Tryd.zeroGroups ?hz ?hx ?hy ?hn ?h1 ?_
       case ho => with_reducible rfl
       case ho2 => rfl
       case hz => rfl
       case hx => rfl
       case hy => rfl
       case hn => exact sz
       case h1 => exact one8)
    | (refine wpList_loadBlk (g := w1.heap.size) (t := 95) (cs := X) rfl 95 (.tmp 3) ?ho ?hx ?hA _ Tryd.underlying95 rfl ?hi ?_
       case ho => with_reducible rfl
       case hx => rfl
       case hA => exact k2
       case hi => exact hi8)
    | fail)
  refine (H2.out _).mono ?_; rintro e w3 ⟨rfl, hb3⟩
  have b3 := Below.on b2 b2.size (by exact hb3)
  have k3 := k2.on (by exact hb3)
  clear k2 b2 hb3
  go_wp2_with fail
  refine (H3.out _ _ k3).mono ?_; rintro e w4 ⟨rfl, hb4⟩
  have b4 := Below.on b3 b3.size hb4
  go_wp2
  go_ret
  exact ⟨rfl, b4⟩

set_option maxHeartbeats 1000000 in
theorem ctext_many (l : List UInt8) (hl : l.length = 16) (w : World) (hmany : 2 ≤ (lz (zsOf (gOf l)) 8).2.1 - (lz (zsOf (gOf l)) 8).1) :
    Calls Tryd.prog 55 #[av l] w fun e w' => e = .returned (sv (row ((gOf l).take (lz (zsOf (gOf l)) 8).1) ++ [58, 58] ++ row ((gOf l).drop (lz (zsOf (gOf l)) 8).2.1))) ∧ Below w.heap.size w w' := by
  have hgl := gOf_len l 8 hl
  have hlt := gOf_lt l
  have H1 := Lib.hid (fun W => groupsOf_any l hl W)
  obtain ⟨a, b, c, d, e, f, g, i, hgs⟩ := list_eight _ hgl
  have H2 := Lib.hid (fun W => longest_any a b c d e f g i W (by rw [← hgs]; exact hlt))
  rw [← hgs] at H2
  have H3 := Lib.hid (fun (F : Nat) (hF : F ≤ 8) (g0 : Nat) (W : World) (hW : Blk W g0 95 ((gOf l).map u16v).toArray) => join_any (some ⟨g0, 0, none⟩) F 8 ((gOf l).take F) W (by omega) (fun x hx => hlt x (List.mem_of_mem_take hx)) (by have := blk_sh hW; rw [hgl] at this; exact this.front hF))
  have H4 := Lib.hid (fun (T : Nat) (hT : T ≤ 8) (g0 : Nat) (W : World) (hW : Blk W g0 95 ((gOf l).map u16v).toArray) => join_any (if 8 = T then some ⟨g0, 0, none⟩ else (some (⟨g0, 0, none⟩ : Addr)).map (·.add T)) (8 - T) (8 - T) ((gOf l).drop T) W (by omega) (fun x hx => hlt x (List.mem_of_mem_drop hx)) (by have := blk_sh hW; rw [hgl] at this; exact this.back hT (Nat.le_refl _)))
  have r1 := row_len ((gOf l).take (lz (zsOf (gOf l)) 8).1)
  have r2 := row_len ((gOf l).drop (lz (zsOf (gOf l)) 8).2.1)
  rw [List.length_take] at r1
  rw [List.length_drop] at r2
  rw [hgl] at r1 r2
  obtain ⟨q1, q2, q3⟩ := lz_bounds (zsOf (gOf l)) 8
  have hX : (#[u16v a, u16v b, u16v c, u16v d, u16v e, u16v f, u16v g, u16v i] : Array Value) = ((gOf l).map u16v).toArray := by rw [hgs]; rfl
  rw [hX] at H2
  have k0 : Arr (w.alloc (.cells (l.map bv).toArray 22)) w.heap.size 22 l := arr_new w 22 l
  have b0 : Below w.heap.size w (w.alloc (.cells (l.map bv).toArray 22)) := (Below.refl _ _).alloc (Nat.le_refl _) _
  have sz : ((gOf l).map u16v).toArray.size = 8 := by simp [hgl]
  have hi8 : (Tryd.prog.info? 95).map (·.size) = some ((gOf l).map u16v).toArray.size := by rw [sz]; exact Tryd.infoGroups
  have one8 : (((gOf l).map u16v).toArray.all fun x => x.oneCell') = true := by
    have := gAt_one (gOf l) 8
    rwa [gAt_full _ hgl] at this
  clear hX hgs hlt hgl
  have k3sz : ∀ x : List UInt8, (ByteArray.mk ⟨x⟩).size = x.length := fun _ => rfl
  generalize ((gOf l).map u16v).toArray = X at *
  obtain ⟨F, hF⟩ : ∃ F, (lz (zsOf (gOf l)) 8).1 = F := ⟨_, rfl⟩
  obtain ⟨T, hT⟩ : ∃ T, (lz (zsOf (gOf l)) 8).2.1 = T := ⟨_, rfl⟩
  rw [hF, hT] at H2
  rw [hF, hT] at hmany q1
  rw [hT] at q2 r2
  rw [hF] at r1
  rw [hF, hT]
  clear hF hT q3
  have hI : ¬ ((T : Int) - (F : Int) < 2) := by omega
  have J1 := Lib.hid (H3.out F (by omega))
  have J2 := Lib.hid (H4.out T (by omega))
  have hFI : (F : Int) ≤ 8 := by omega
  have hTI : (T : Int) ≤ 8 := by omega
  have hcat := Lib.hid (fun (x y : List UInt8) => str_add x y)
  clear H3 H4
  generalize row ((gOf l).take F) = R1 at *
  generalize row ((gOf l).drop T) = R2 at *
  have hA1 := str_add R1 [58, 58]
  have hA2 := str_add (R1 ++ [58, 58]) R2
  have z1 : (ByteArray.mk ⟨R1⟩).size = R1.length := rfl
  have z2 : (ByteArray.mk ⟨R2⟩).size = R2.length := rfl
  have z3 : (ByteArray.mk ⟨R1 ++ [58, 58]⟩).size = R1.length + 2 := by show (R1 ++ [58, 58]).length = _; simp
  go_enter Tryd.func55, Tryd.ntmps55
  go_wp2_with (first
    | (refine wpList_loadArr (g := w.heap.size) (t := 22) (l := l) rfl 22 5 (.tmp 1) ?ho ?hx k0 hl Tryd.underlying22 Tryd.infoB16 ?_
       case ho => with_reducible rfl
       case hx => rfl)
    | fail)
  refine (H1.out _).mono ?_; rintro e w1 ⟨rfl, hb1⟩
  have b1 := Below.on b0 b0.size (by exact hb1)
  have b2 := b1.alloc b1.size (.cells X 95)
  have k2 : Blk (w1.alloc (.cells X 95)) w1.heap.size 95 X := blk_new _ _ _
  clear k0 b0 hb1
  go_wp2_with (first
    | (refine wpList_allocStore (cs := X) rfl rfl 95 ?ho (.tmp 3) (.tmp 7) ?ho2 Tryd.zeroGroups ?hz ?hx ?hy ?hn ?h1 ?_
       case ho => with_reducible rfl
       case ho2 => rfl
       case hz => rfl
       case hx => rfl
       case hy => rfl
       case hn => exact sz
       case h1 => exact one8)
    | (refine wpList_loadBlk (g := w1.heap.size) (t := 95) (cs := X) rfl 95 (.tmp 3) ?ho ?hx ?hA _ Tryd.underlying95 rfl ?hi ?_
       case ho => with_reducible rfl
       case hx => rfl
       case hA => exact k2
       case hi => exact hi8)
    | fail)
  refine (H2.out _).mono ?_; rintro e w3 ⟨rfl, hb3⟩
  have b3 := Below.on b2 b2.size (by exact hb3)
  have k3 := k2.on (by exact hb3)
  clear k2 b2 hb3
  by_cases hT8 : T = 8
  · subst hT8
    go_wp2_with fail
    have hup : ∀ W : World, Below w3.heap.size w3 W → Below w.heap.size w W := fun W hW => Below.on b3 b3.size hW
    have hJ1 := fun (W : World) (hW : Below w3.heap.size w3 W) => J1.out _ W (k3.on hW)
    have hJ2 := fun (W : World) (hW : Below w3.heap.size w3 W) => J2.out _ W (k3.on hW)
    simp only [if_true, Nat.sub_self] at hJ2
    refine wp_region_below w3.heap.size (by kernel_rfl) (by kernel_rfl) ?_
    repeat (first
      | go_big_quiet_skip
      | (go_big_quiet_want
         first
           | (go_big_quiet_op
              first
                | go_big_quiet_on
                | (with_reducible refine ⟨_, fun _ _ => rfl, ?_⟩; go_big_quiet_on)
                | (apply Exists.intro
                   refine ⟨fun w' hw' => ?_, ?_⟩
                   · (go_at_call 79; with_reducible refine (hJ1 w' hw').mono ?_; exact fun _ _ h => ⟨h.1, Below.on hw' hw'.size h.2⟩)
                   go_big_quiet_on)
                | (apply Exists.intro
                   refine ⟨fun w' hw' => ?_, ?_⟩
                   · (go_at_call 79; with_reducible refine (hJ2 w' hw').mono ?_; exact fun _ _ h => ⟨h.1, Below.on hw' hw'.size h.2⟩)
                   go_big_quiet_on))))
    refine wpQuiet_nil ?_
    intro w4 hw4
    go_wp2
    go_ret
    exact ⟨ret_sv (by simp), hup _ hw4⟩
  · have hT8' : ¬ (8 = T) := fun h => hT8 h.symm
    have hTlt : (T : Int) < 8 := by omega
    go_wp2_with fail
    have hup : ∀ W : World, Below w3.heap.size w3 W → Below w.heap.size w W := fun W hW => Below.on b3 b3.size hW
    have hJ1 := fun (W : World) (hW : Below w3.heap.size w3 W) => J1.out _ W (k3.on hW)
    have hJ2 := fun (W : World) (hW : Below w3.heap.size w3 W) => J2.out _ W (k3.on hW)
    have hJ3 : ∀ W : World, Below w3.heap.size w3 W → Calls Tryd.prog 79 #[.slice (some ⟨w1.heap.size, T, none⟩) (8 - T) (8 - T)] W fun e w' => e = .returned (sv R2) ∧ Below W.heap.size W w' := by
      intro W hW
      have h := hJ2 W hW
      rw [if_neg hT8'] at h
      have e : (some (⟨w1.heap.size, 0, none⟩ : Addr)).map (·.add T) = some ⟨w1.heap.size, T, none⟩ := by
        show some (Addr.add ⟨w1.heap.size, 0, none⟩ T) = _
        rw [Go.WideShapes.add_plain, Nat.zero_add]
      rw [e] at h
      exact h
    refine wp_region_below w3.heap.size (by kernel_rfl) (by kernel_rfl) ?_
    repeat (first
      | go_big_quiet_skip
      | (go_big_quiet_want
         first
           | (go_big_quiet_op
              first
                | go_big_quiet_on
                | (with_reducible refine ⟨_, fun _ _ => rfl, ?_⟩; go_big_quiet_on)
                | (apply Exists.intro
                   refine ⟨fun w' hw' => ?_, ?_⟩
                   · (go_at_call 79; with_reducible refine (hJ1 w' hw').mono ?_; exact fun _ _ h => ⟨h.1, Below.on hw' hw'.size h.2⟩)
                   go_big_quiet_on)
                | (apply Exists.intro
                   refine ⟨fun w' hw' => ?_, ?_⟩
                   · (go_at_call 79; with_reducible refine (hJ3 w' hw').mono ?_; exact fun _ _ h => ⟨h.1, Below.on hw' hw'.size h.2⟩)
                   go_big_quiet_on))))
    refine wpQuiet_nil ?_
    intro w4 hw4
    go_wp2
    go_ret
    exact ⟨ret_sv (by simp), hup _ hw4⟩

end Go.Proofs.YtccidoigjdbepaaDoor.Cl
