
/- Contracts: crawlwayref19.Put and crawlwayref20.Put where nothing is put. -/
import Derived.Test.YtkokgoodpibboaaRpA
namespace Go.Proofs.Ytkokgoodpibboaa
open Go.RowKit
set_option maxRecDepth 100000
set_option linter.unusedSimpArgs false
set_option linter.unusedVariables false

theorem lst16 (l : List UInt8) (h : l.length = 16) : ∃ b0 b1 b2 b3 b4 b5 b6 b7 b8 b9 b10 b11 b12 b13 b14 b15, l = [b0, b1, b2, b3, b4, b5, b6, b7, b8, b9, b10, b11, b12, b13, b14, b15] := by
  match l, h with
  | [b0, b1, b2, b3, b4, b5, b6, b7, b8, b9, b10, b11, b12, b13, b14, b15], _ => exact ⟨b0, b1, b2, b3, b4, b5, b6, b7, b8, b9, b10, b11, b12, b13, b14, b15, rfl⟩
/-- What may be put: every number in its bounds, both addresses of the family. -/
structure Ok4 (C I F G L P v v' : Int) (l l' : List UInt8) : Prop where
  c : 0 ≤ C ∧ C ≤ 255
  t : 0 ≤ L ∧ L ≤ 255
  p : 0 ≤ P ∧ P ≤ 255
  i : 0 ≤ I ∧ I ≤ 65535
  f : 0 ≤ F ∧ F ≤ 7
  g : 0 ≤ G ∧ G ≤ 8191
  s : v = 4
  d : v' = 4
  os : okA v l = true
  od : okA v' l' = true
structure Ok6 (C I L P v v' : Int) : Prop where
  c : 0 ≤ C ∧ C ≤ 255
  t : 0 ≤ L ∧ L ≤ 255
  p : 0 ≤ P ∧ P ≤ 255
  i : 0 ≤ I ∧ I ≤ 1048575
  s : v = 6
  d : v' = 6

set_option maxHeartbeats 4000000 in
theorem refPut4_bad (V S T C I F G L P v v' : Int) (l l' : List UInt8) (hl : l.length = 16) (hl' : l'.length = 16) (A : Option Addr) (n cb : Nat) (w : World) (hbad : ¬ Ok4 C I F G L P v v' l l') :
    Calls Try.prog 25 #[.agg (hdv [V, S, T, C, I, F, G, L, P] (adv v l) (adv v' l')), .slice A n cb] w fun e w' => e = .returned (.tuple #[.slice none 0 0, .int .i64 1]) ∧ Below w.heap.size w w' := by
  have k0 : Blk (w.alloc (.cells (hdv [V, S, T, C, I, F, G, L, P] (adv v l) (adv v' l')) 42)) w.heap.size 42 (hdv [V, S, T, C, I, F, G, L, P] (adv v l) (adv v' l')) := blk_new _ _ _
  have hb0 : Below w.heap.size w (w.alloc (.cells (hdv [V, S, T, C, I, F, G, L, P] (adv v l) (adv v' l')) 42)) := (Below.refl _ _).alloc (Nat.le_refl _) _
  have c3 := (k0.cellA 3).trans (hdv_num [V, S, T, C, I, F, G, L, P] (adv v l) (adv v' l') 3 C rfl)
  have c7 := (k0.cellA 7).trans (hdv_num [V, S, T, C, I, F, G, L, P] (adv v l) (adv v' l') 7 L rfl)
  have c8 := (k0.cellA 8).trans (hdv_num [V, S, T, C, I, F, G, L, P] (adv v l) (adv v' l') 8 P rfl)
  have c4 := (k0.cellA 4).trans (hdv_num [V, S, T, C, I, F, G, L, P] (adv v l) (adv v' l') 4 I rfl)
  have c5 := (k0.cellA 5).trans (hdv_num [V, S, T, C, I, F, G, L, P] (adv v l) (adv v' l') 5 F rfl)
  have c6 := (k0.cellA 6).trans (hdv_num [V, S, T, C, I, F, G, L, P] (adv v l) (adv v' l') 6 G rfl)
  have R1 := fun (W : World) (h : Blk W w.heap.size 42 (hdv [V, S, T, C, I, F, G, L, P] (adv v l) (adv v' l'))) => hdv_src (by rfl) h
  have R2 := fun (W : World) (h : Blk W w.heap.size 42 (hdv [V, S, T, C, I, F, G, L, P] (adv v l) (adv v' l'))) => hdv_dst (by rfl) (adv_size v l hl) h
  have c9 : (w.alloc (.cells (hdv [V, S, T, C, I, F, G, L, P] (adv v l) (adv v' l')) 42)).cell? ⟨w.heap.size, 9, none⟩ = some (.int .i64 v) := (k0.cellA 9).trans rfl
  have c26 : (w.alloc (.cells (hdv [V, S, T, C, I, F, G, L, P] (adv v l) (adv v' l')) 42)).cell? ⟨w.heap.size, 26, none⟩ = some (.int .i64 v') := (k0.cellA 26).trans (by obtain ⟨b0, b1, b2, b3, b4, b5, b6, b7, b8, b9, b10, b11, b12, b13, b14, b15, rfl⟩ := lst16 l hl; rfl)
  have z1 := Adr_size v l hl
  have z2 := Adr_size v' l' hl'
  have HS := Lib.hid (fun W => refRight_any v l hl W)
  have HD := Lib.hid (fun W => refRight_any v' l' hl' W)
  generalize hOs : okA v l = Os at *
  generalize hOd : okA v' l' = Od at *
  generalize hdv [V, S, T, C, I, F, G, L, P] (adv v l) (adv v' l') = M at *
  generalize adv v l = XS at *
  generalize adv v' l' = XD at *
  have F3 := Lib.hid (fun W => from4_any C 255 W)
  have F7 := Lib.hid (fun W => from4_any L 255 W)
  have F8 := Lib.hid (fun W => from4_any P 255 W)
  have F4 := Lib.hid (fun W => from4_any I 65535 W)
  have F5 := Lib.hid (fun W => from4_any F 7 W)
  have F6 := Lib.hid (fun W => from4_any G 8191 W)
  by_cases q0 : ¬ (0 ≤ C ∧ C ≤ 255)
  · rw [decide_eq_false q0] at F3
    clear hbad
    go_enter Try.func25, Try.ntmps25
    go_wp2_with fail
    refine (F3.out _).mono ?_
    rintro e wq ⟨rfl, rfl⟩
    go_wp2
    go_ret2
    exact ⟨rfl, hb0⟩
  have p0 : 0 ≤ C ∧ C ≤ 255 := Decidable.not_not.1 q0
  rw [decide_eq_true p0] at F3
  clear q0
  have P0 := Lib.hid p0
  clear p0
  by_cases q1 : ¬ (0 ≤ L ∧ L ≤ 255)
  · rw [decide_eq_false q1] at F7
    clear hbad
    go_enter Try.func25, Try.ntmps25
    go_wp2_with fail
    refine (F3.out _).mono ?_
    rintro e wq ⟨rfl, rfl⟩
    go_wp2_with fail
    refine (F7.out _).mono ?_
    rintro e wq ⟨rfl, rfl⟩
    go_wp2
    go_ret2
    exact ⟨rfl, hb0⟩
  have p1 : 0 ≤ L ∧ L ≤ 255 := Decidable.not_not.1 q1
  rw [decide_eq_true p1] at F7
  clear q1
  have P1 := Lib.hid p1
  clear p1
  by_cases q2 : ¬ (0 ≤ P ∧ P ≤ 255)
  · rw [decide_eq_false q2] at F8
    clear hbad
    go_enter Try.func25, Try.ntmps25
    go_wp2_with fail
    refine (F3.out _).mono ?_
    rintro e wq ⟨rfl, rfl⟩
    go_wp2_with fail
    refine (F7.out _).mono ?_
    rintro e wq ⟨rfl, rfl⟩
    go_wp2_with fail
    refine (F8.out _).mono ?_
    rintro e wq ⟨rfl, rfl⟩
    go_wp2
    go_ret2
    exact ⟨rfl, hb0⟩
  have p2 : 0 ≤ P ∧ P ≤ 255 := Decidable.not_not.1 q2
  rw [decide_eq_true p2] at F8
  clear q2
  have P2 := Lib.hid p2
  clear p2
  by_cases q3 : ¬ (0 ≤ I ∧ I ≤ 65535)
  · rw [decide_eq_false q3] at F4
    clear hbad
    go_enter Try.func25, Try.ntmps25
    go_wp2_with fail
    refine (F3.out _).mono ?_
    rintro e wq ⟨rfl, rfl⟩
    go_wp2_with fail
    refine (F7.out _).mono ?_
    rintro e wq ⟨rfl, rfl⟩
    go_wp2_with fail
    refine (F8.out _).mono ?_
    rintro e wq ⟨rfl, rfl⟩
    go_wp2_with fail
    refine (F4.out _).mono ?_
    rintro e wq ⟨rfl, rfl⟩
    go_wp2
    go_ret2
    exact ⟨rfl, hb0⟩
  have p3 : 0 ≤ I ∧ I ≤ 65535 := Decidable.not_not.1 q3
  rw [decide_eq_true p3] at F4
  clear q3
  have P3 := Lib.hid p3
  clear p3
  by_cases q4 : ¬ (0 ≤ F ∧ F ≤ 7)
  · rw [decide_eq_false q4] at F5
    clear hbad
    go_enter Try.func25, Try.ntmps25
    go_wp2_with fail
    refine (F3.out _).mono ?_
    rintro e wq ⟨rfl, rfl⟩
    go_wp2_with fail
    refine (F7.out _).mono ?_
    rintro e wq ⟨rfl, rfl⟩
    go_wp2_with fail
    refine (F8.out _).mono ?_
    rintro e wq ⟨rfl, rfl⟩
    go_wp2_with fail
    refine (F4.out _).mono ?_
    rintro e wq ⟨rfl, rfl⟩
    go_wp2_with fail
    refine (F5.out _).mono ?_
    rintro e wq ⟨rfl, rfl⟩
    go_wp2
    go_ret2
    exact ⟨rfl, hb0⟩
  have p4 : 0 ≤ F ∧ F ≤ 7 := Decidable.not_not.1 q4
  rw [decide_eq_true p4] at F5
  clear q4
  have P4 := Lib.hid p4
  clear p4
  by_cases q5 : ¬ (0 ≤ G ∧ G ≤ 8191)
  · rw [decide_eq_false q5] at F6
    clear hbad
    go_enter Try.func25, Try.ntmps25
    go_wp2_with fail
    refine (F3.out _).mono ?_
    rintro e wq ⟨rfl, rfl⟩
    go_wp2_with fail
    refine (F7.out _).mono ?_
    rintro e wq ⟨rfl, rfl⟩
    go_wp2_with fail
    refine (F8.out _).mono ?_
    rintro e wq ⟨rfl, rfl⟩
    go_wp2_with fail
    refine (F4.out _).mono ?_
    rintro e wq ⟨rfl, rfl⟩
    go_wp2_with fail
    refine (F5.out _).mono ?_
    rintro e wq ⟨rfl, rfl⟩
    go_wp2_with fail
    refine (F6.out _).mono ?_
    rintro e wq ⟨rfl, rfl⟩
    go_wp2
    go_ret2
    exact ⟨rfl, hb0⟩
  have p5 : 0 ≤ G ∧ G ≤ 8191 := Decidable.not_not.1 q5
  rw [decide_eq_true p5] at F6
  clear q5
  have P5 := Lib.hid p5
  clear p5
  by_cases q6 : ¬ v = 4
  · have dn1 : decide (v = 4) = false := decide_eq_false q6
    have dn2 : (v != 4) = true := by simpa using q6
    have dn3 : (v == 4) = false := by simpa using q6
    clear hbad
    go_enter Try.func25, Try.ntmps25
    go_wp2_with fail
    refine (F3.out _).mono ?_
    rintro e wq ⟨rfl, rfl⟩
    go_wp2_with fail
    refine (F7.out _).mono ?_
    rintro e wq ⟨rfl, rfl⟩
    go_wp2_with fail
    refine (F8.out _).mono ?_
    rintro e wq ⟨rfl, rfl⟩
    go_wp2_with fail
    refine (F4.out _).mono ?_
    rintro e wq ⟨rfl, rfl⟩
    go_wp2_with fail
    refine (F5.out _).mono ?_
    rintro e wq ⟨rfl, rfl⟩
    go_wp2_with fail
    refine (F6.out _).mono ?_
    rintro e wq ⟨rfl, rfl⟩
    go_wp2
    go_ret2
    exact ⟨rfl, hb0⟩
  obtain rfl : v = 4 := Decidable.not_not.1 q6
  clear q6
  by_cases q7 : ¬ v' = 4
  · have dn1 : decide (v' = 4) = false := decide_eq_false q7
    have dn2 : (v' != 4) = true := by simpa using q7
    have dn3 : (v' == 4) = false := by simpa using q7
    clear hbad
    go_enter Try.func25, Try.ntmps25
    go_wp2_with fail
    refine (F3.out _).mono ?_
    rintro e wq ⟨rfl, rfl⟩
    go_wp2_with fail
    refine (F7.out _).mono ?_
    rintro e wq ⟨rfl, rfl⟩
    go_wp2_with fail
    refine (F8.out _).mono ?_
    rintro e wq ⟨rfl, rfl⟩
    go_wp2_with fail
    refine (F4.out _).mono ?_
    rintro e wq ⟨rfl, rfl⟩
    go_wp2_with fail
    refine (F5.out _).mono ?_
    rintro e wq ⟨rfl, rfl⟩
    go_wp2_with fail
    refine (F6.out _).mono ?_
    rintro e wq ⟨rfl, rfl⟩
    go_wp2
    go_ret2
    exact ⟨rfl, hb0⟩
  obtain rfl : v' = 4 := Decidable.not_not.1 q7
  clear q7
  cases Os
  · clear hbad
    go_enter Try.func25, Try.ntmps25
    go_wp2_with fail
    refine (F3.out _).mono ?_
    rintro e wq ⟨rfl, rfl⟩
    go_wp2_with fail
    refine (F7.out _).mono ?_
    rintro e wq ⟨rfl, rfl⟩
    go_wp2_with fail
    refine (F8.out _).mono ?_
    rintro e wq ⟨rfl, rfl⟩
    go_wp2_with fail
    refine (F4.out _).mono ?_
    rintro e wq ⟨rfl, rfl⟩
    go_wp2_with fail
    refine (F5.out _).mono ?_
    rintro e wq ⟨rfl, rfl⟩
    go_wp2_with fail
    refine (F6.out _).mono ?_
    rintro e wq ⟨rfl, rfl⟩
    go_wp2_with (first
      | (refine wpList_loadPart (g := w.heap.size) rfl 32 (.tmp 57) ?ho 9 ?hx XS _ (R1 _ k0) Try.underlying32 rfl ?hi ?_
         case ho => with_reducible rfl
         case hx => rfl
         case hi => exact z1)
      | fail)
    refine (HS.out _).mono ?_
    rintro e w1 ⟨rfl, hb1'⟩
    have b1 := Below.on hb0 hb0.size hb1'
    have k1 := k0.on hb1'
    go_wp2
    go_ret2
    exact ⟨rfl, b1⟩
  cases Od
  · clear hbad
    go_enter Try.func25, Try.ntmps25
    go_wp2_with fail
    refine (F3.out _).mono ?_
    rintro e wq ⟨rfl, rfl⟩
    go_wp2_with fail
    refine (F7.out _).mono ?_
    rintro e wq ⟨rfl, rfl⟩
    go_wp2_with fail
    refine (F8.out _).mono ?_
    rintro e wq ⟨rfl, rfl⟩
    go_wp2_with fail
    refine (F4.out _).mono ?_
    rintro e wq ⟨rfl, rfl⟩
    go_wp2_with fail
    refine (F5.out _).mono ?_
    rintro e wq ⟨rfl, rfl⟩
    go_wp2_with fail
    refine (F6.out _).mono ?_
    rintro e wq ⟨rfl, rfl⟩
    go_wp2_with (first
      | (refine wpList_loadPart (g := w.heap.size) rfl 32 (.tmp 57) ?ho 9 ?hx XS _ (R1 _ k0) Try.underlying32 rfl ?hi ?_
         case ho => with_reducible rfl
         case hx => rfl
         case hi => exact z1)
      | fail)
    refine (HS.out _).mono ?_
    rintro e w1 ⟨rfl, hb1'⟩
    have b1 := Below.on hb0 hb0.size hb1'
    have k1 := k0.on hb1'
    go_wp2_with (first
      | (refine wpList_loadPart (g := w.heap.size) rfl 32 (.tmp 63) ?ho 26 ?hx XD _ (R2 _ k1) Try.underlying32 rfl ?hi ?_
         case ho => with_reducible rfl
         case hx => rfl
         case hi => exact z2)
      | fail)
    refine (HD.out _).mono ?_
    rintro e w2 ⟨rfl, hb2'⟩
    have b2 := Below.on b1 b1.size hb2'
    go_wp2
    go_ret2
    exact ⟨rfl, b2⟩
  exact absurd ⟨P0.out, P1.out, P2.out, P3.out, P4.out, P5.out, rfl, rfl, hOs, hOd⟩ hbad

set_option maxHeartbeats 4000000 in
theorem refPut6_bad (V S T C I F G L P v v' : Int) (l l' : List UInt8) (hl : l.length = 16) (hl' : l'.length = 16) (A : Option Addr) (n cb : Nat) (w : World) (hbad : ¬ Ok6 C I L P v v') :
    Calls Try.prog 30 #[.agg (hdv [V, S, T, C, I, F, G, L, P] (adv v l) (adv v' l')), .slice A n cb] w fun e w' => e = .returned (.tuple #[.slice none 0 0, .int .i64 1]) ∧ Below w.heap.size w w' := by
  have k0 : Blk (w.alloc (.cells (hdv [V, S, T, C, I, F, G, L, P] (adv v l) (adv v' l')) 42)) w.heap.size 42 (hdv [V, S, T, C, I, F, G, L, P] (adv v l) (adv v' l')) := blk_new _ _ _
  have hb0 : Below w.heap.size w (w.alloc (.cells (hdv [V, S, T, C, I, F, G, L, P] (adv v l) (adv v' l')) 42)) := (Below.refl _ _).alloc (Nat.le_refl _) _
  have c3 := (k0.cellA 3).trans (hdv_num [V, S, T, C, I, F, G, L, P] (adv v l) (adv v' l') 3 C rfl)
  have c7 := (k0.cellA 7).trans (hdv_num [V, S, T, C, I, F, G, L, P] (adv v l) (adv v' l') 7 L rfl)
  have c8 := (k0.cellA 8).trans (hdv_num [V, S, T, C, I, F, G, L, P] (adv v l) (adv v' l') 8 P rfl)
  have c4 := (k0.cellA 4).trans (hdv_num [V, S, T, C, I, F, G, L, P] (adv v l) (adv v' l') 4 I rfl)
  have R1 := fun (W : World) (h : Blk W w.heap.size 42 (hdv [V, S, T, C, I, F, G, L, P] (adv v l) (adv v' l'))) => hdv_src (by rfl) h
  have R2 := fun (W : World) (h : Blk W w.heap.size 42 (hdv [V, S, T, C, I, F, G, L, P] (adv v l) (adv v' l'))) => hdv_dst (by rfl) (adv_size v l hl) h
  have c9 : (w.alloc (.cells (hdv [V, S, T, C, I, F, G, L, P] (adv v l) (adv v' l')) 42)).cell? ⟨w.heap.size, 9, none⟩ = some (.int .i64 v) := (k0.cellA 9).trans rfl
  have c26 : (w.alloc (.cells (hdv [V, S, T, C, I, F, G, L, P] (adv v l) (adv v' l')) 42)).cell? ⟨w.heap.size, 26, none⟩ = some (.int .i64 v') := (k0.cellA 26).trans (by obtain ⟨b0, b1, b2, b3, b4, b5, b6, b7, b8, b9, b10, b11, b12, b13, b14, b15, rfl⟩ := lst16 l hl; rfl)
  have z1 := Adr_size v l hl
  have z2 := Adr_size v' l' hl'
  have HS := Lib.hid (fun W => refRight_any v l hl W)
  have HD := Lib.hid (fun W => refRight_any v' l' hl' W)
  generalize hOs : okA v l = Os at *
  generalize hOd : okA v' l' = Od at *
  generalize hdv [V, S, T, C, I, F, G, L, P] (adv v l) (adv v' l') = M at *
  generalize adv v l = XS at *
  generalize adv v' l' = XD at *
  have F3 := Lib.hid (fun W => from6_any C 255 W)
  have F7 := Lib.hid (fun W => from6_any L 255 W)
  have F8 := Lib.hid (fun W => from6_any P 255 W)
  have F4 := Lib.hid (fun W => from6_any I 1048575 W)
  by_cases q0 : ¬ (0 ≤ C ∧ C ≤ 255)
  · rw [decide_eq_false q0] at F3
    clear hbad
    go_enter Try.func30, Try.ntmps30
    go_wp2_with fail
    refine (F3.out _).mono ?_
    rintro e wq ⟨rfl, rfl⟩
    go_wp2
    go_ret2
    exact ⟨rfl, hb0⟩
  have p0 : 0 ≤ C ∧ C ≤ 255 := Decidable.not_not.1 q0
  rw [decide_eq_true p0] at F3
  clear q0
  have P0 := Lib.hid p0
  clear p0
  by_cases q1 : ¬ (0 ≤ L ∧ L ≤ 255)
  · rw [decide_eq_false q1] at F7
    clear hbad
    go_enter Try.func30, Try.ntmps30
    go_wp2_with fail
    refine (F3.out _).mono ?_
    rintro e wq ⟨rfl, rfl⟩
    go_wp2_with fail
    refine (F7.out _).mono ?_
    rintro e wq ⟨rfl, rfl⟩
    go_wp2
    go_ret2
    exact ⟨rfl, hb0⟩
  have p1 : 0 ≤ L ∧ L ≤ 255 := Decidable.not_not.1 q1
  rw [decide_eq_true p1] at F7
  clear q1
  have P1 := Lib.hid p1
  clear p1
  by_cases q2 : ¬ (0 ≤ P ∧ P ≤ 255)
  · rw [decide_eq_false q2] at F8
    clear hbad
    go_enter Try.func30, Try.ntmps30
    go_wp2_with fail
    refine (F3.out _).mono ?_
    rintro e wq ⟨rfl, rfl⟩
    go_wp2_with fail
    refine (F7.out _).mono ?_
    rintro e wq ⟨rfl, rfl⟩
    go_wp2_with fail
    refine (F8.out _).mono ?_
    rintro e wq ⟨rfl, rfl⟩
    go_wp2
    go_ret2
    exact ⟨rfl, hb0⟩
  have p2 : 0 ≤ P ∧ P ≤ 255 := Decidable.not_not.1 q2
  rw [decide_eq_true p2] at F8
  clear q2
  have P2 := Lib.hid p2
  clear p2
  by_cases q3 : ¬ (0 ≤ I ∧ I ≤ 1048575)
  · rw [decide_eq_false q3] at F4
    clear hbad
    go_enter Try.func30, Try.ntmps30
    go_wp2_with fail
    refine (F3.out _).mono ?_
    rintro e wq ⟨rfl, rfl⟩
    go_wp2_with fail
    refine (F7.out _).mono ?_
    rintro e wq ⟨rfl, rfl⟩
    go_wp2_with fail
    refine (F8.out _).mono ?_
    rintro e wq ⟨rfl, rfl⟩
    go_wp2_with fail
    refine (F4.out _).mono ?_
    rintro e wq ⟨rfl, rfl⟩
    go_wp2
    go_ret2
    exact ⟨rfl, hb0⟩
  have p3 : 0 ≤ I ∧ I ≤ 1048575 := Decidable.not_not.1 q3
  rw [decide_eq_true p3] at F4
  clear q3
  have P3 := Lib.hid p3
  clear p3
  by_cases q4 : ¬ v = 6
  · have dn1 : decide (v = 6) = false := decide_eq_false q4
    have dn2 : (v != 6) = true := by simpa using q4
    have dn3 : (v == 6) = false := by simpa using q4
    clear hbad
    go_enter Try.func30, Try.ntmps30
    go_wp2_with fail
    refine (F3.out _).mono ?_
    rintro e wq ⟨rfl, rfl⟩
    go_wp2_with fail
    refine (F7.out _).mono ?_
    rintro e wq ⟨rfl, rfl⟩
    go_wp2_with fail
    refine (F8.out _).mono ?_
    rintro e wq ⟨rfl, rfl⟩
    go_wp2_with fail
    refine (F4.out _).mono ?_
    rintro e wq ⟨rfl, rfl⟩
    go_wp2
    go_ret2
    exact ⟨rfl, hb0⟩
  obtain rfl : v = 6 := Decidable.not_not.1 q4
  clear q4
  by_cases q5 : ¬ v' = 6
  · have dn1 : decide (v' = 6) = false := decide_eq_false q5
    have dn2 : (v' != 6) = true := by simpa using q5
    have dn3 : (v' == 6) = false := by simpa using q5
    clear hbad
    go_enter Try.func30, Try.ntmps30
    go_wp2_with fail
    refine (F3.out _).mono ?_
    rintro e wq ⟨rfl, rfl⟩
    go_wp2_with fail
    refine (F7.out _).mono ?_
    rintro e wq ⟨rfl, rfl⟩
    go_wp2_with fail
    refine (F8.out _).mono ?_
    rintro e wq ⟨rfl, rfl⟩
    go_wp2_with fail
    refine (F4.out _).mono ?_
    rintro e wq ⟨rfl, rfl⟩
    go_wp2
    go_ret2
    exact ⟨rfl, hb0⟩
  obtain rfl : v' = 6 := Decidable.not_not.1 q5
  clear q5
  exact absurd ⟨P0.out, P1.out, P2.out, P3.out, rfl, rfl⟩ hbad

end Go.Proofs.Ytkokgoodpibboaa
