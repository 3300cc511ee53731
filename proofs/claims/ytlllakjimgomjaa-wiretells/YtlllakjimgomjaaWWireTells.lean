
/- Out of the texts WirN, WirO (tools/merge.py). -/
import Derived.Test.YtlllakjimgomjaaWirT
/- WirN -/
namespace Go.Proofs.Ytlllakjimgomjaa
open Go.RowKit
set_option linter.unusedVariables false
set_option linter.unusedSimpArgs false

theorem run_loadVar_cell {P : Program} (w : World) (ad : Addr) (ty : TypeId) (kk : IntKind) (v : Value) (hc : w.cell? ad = some v) (hu : P.underlying ty = some (.int kk)) : (loadVar ty ad).run P w = .ok v w := by
  simp [loadVar, run_underlying hu, isAgg, hc]

theorem quiet_loadCell {P : Program} {ad : Addr} {v : Value} {o : Oper} {a : Act} {C : World → Prop} {K : Act → Prop} (ty : TypeId) (kk : IntKind) (x : Operand) (ho : o.op = .load ty x) (hx : a.eval x = .pointer (some ad)) (hA : ∀ w, C w → w.cell? ad = some v)
    (hu : P.underlying ty = some (.int kk)) (hk : K (a.put o.dst v)) : o.quiet P a C K :=
  ⟨_, fun w hw => by
    unfold Oper.quietAt execOp
    simp only [ho, hx, Instr.loadAt, Instr.sureAddr, Sem.run_bind, Sem.run_pure, Result.andThen_ok, run_loadVar_cell w ad ty kk v (hA w hw) hu]
    exact ⟨rfl, rfl⟩, hk⟩

theorem wq_loadBlk {P : Program} {g : Nat} {t : TypeId} {cs : Array Value} {o : Oper} {a : Act} {C : World → Prop} {K : Act → Prop} (ty : TypeId) (x : Operand) (ho : o.op = .load ty x) (hx : a.eval x = .pointer (some ⟨g, 0, none⟩)) (hA : ∀ w, C w → Blk w g t cs)
    (d : TypeDesc) (hu : P.underlying ty = some d) (hd : (match d with | .struct _ | .array _ _ => true | _ => false) = true)
    (hi : (P.info? ty).map (·.size) = some cs.size) (hk : K (a.put o.dst (.agg cs))) : o.quiet P a C K :=
  ⟨_, fun w hw => by
    unfold Oper.quietAt execOp
    simp only [ho, hx, Instr.loadAt, Instr.sureAddr, Sem.run_bind, Sem.run_pure, Result.andThen_ok, run_loadVar_row w g t ty cs (0, 0) d (hA w hw) hu hd hi]
    exact ⟨rfl, rfl⟩, hk⟩

theorem Blk.cell {w : World} {g : Nat} {t : TypeId} {cs : Array Value} (h : Blk w g t cs) (j : Nat) : w.cell? ⟨g, j, none⟩ = cs[j]? := by
  unfold World.cell?; rw [h]; rfl

set_option maxRecDepth 100000 in
set_option maxHeartbeats 4000000 in
theorem wireTells_main (M0 M1 : Array Value) (k : Int) (u : Nat) (is : Bool) (S : ByteArray) (a1 c0 q : Nat) (A A' : Option Addr) (n ca n' ca' : Nat) (R : Bool) (w : World)
    (z0 : (Try.prog.info? 58).map (·.size) = some M0.size) (z1 : (Try.prog.info? 58).map (·.size) = some M1.size)
    (hk : M0[0]? = some (.int .i64 k)) (h143 : M0[143]? = some (.int .u32 (a1 : Int))) (h224 : M0[224]? = some (.int .u32 (c0 : Int))) (h281 : M0[281]? = some (.int .u32 (q : Int)))
    (hb : M0[283]? = some (.slice A n ca)) (hb' : M1[283]? = some (.slice A' n' ca')) (hn : n ≤ 1000) (hn' : n' ≤ 1000)
    (HR0 : ∀ W : World, Calls Try.prog 25 #[.agg M0] W fun e w' => e = .returned (.tuple #[.int .u32 (u : Int), .bool is]) ∧ Below W.heap.size W w')
    (HN0 : ∀ W : World, Calls Try.prog 26 #[.int .i64 k] W fun e w' => e = .returned (.string S) ∧ W = w')
    (HS10 : ∀ W : World, Below w.heap.size w W → Calls Try.prog 27 #[.agg M0, .agg M1] W fun e w' => e = .returned (.bool R) ∧ Below W.heap.size W w')
    (HS20 : ∀ W : World, Below w.heap.size w W → Calls Try.prog 24 #[.agg M0, .agg M1] W fun e w' => e = .returned (.bool R) ∧ Below W.heap.size W w')
    (HS30 : ∀ W : World, Below w.heap.size w W → Calls Try.prog 27 #[.agg M0, .agg M0] W fun e w' => e = .returned (.bool true) ∧ Below W.heap.size W w')
    (hcase : (k = 1 ∧ u = 0 ∧ is = false ∧ S = ⟨#[105, 110, 105, 116, 105, 97, 116, 105, 111, 110]⟩) ∨ (k = 2 ∧ u = a1 ∧ is = true ∧ S = ⟨#[114, 101, 115, 112, 111, 110, 115, 101]⟩) ∨ (k = 3 ∧ u = c0 ∧ is = true ∧ S = ⟨#[99, 111, 111, 107, 105, 101]⟩) ∨ (k = 4 ∧ u = q ∧ is = true ∧ S = ⟨#[100, 97, 116, 97]⟩) ∨ (k < 1 ∧ u = 0 ∧ is = false ∧ S = ⟨#[]⟩) ∨ (4 < k ∧ u = 0 ∧ is = false ∧ S = ⟨#[]⟩)) :
    Calls Try.prog 8 #[.agg M0, .agg M1] w fun e w' => e = .returned (.bool true) ∧ Below w.heap.size w w' := by
  have hb0 : Below w.heap.size w ((w.alloc (.cells M0 58)).alloc (.cells M1 58)) := ((Below.refl _ _).alloc (Nat.le_refl _) _).alloc (by simp) _
  have k1 : Blk ((w.alloc (.cells M0 58)).alloc (.cells M1 58)) w.heap.size 58 M0 := (blk_new w 58 M0).alloc _
  have k2 : Blk ((w.alloc (.cells M0 58)).alloc (.cells M1 58)) (w.heap.size + 1) 58 M1 := blk_new' _ _ _ _ (by simp)
  have hi1 : (n : Int) ≤ 1000 := by omega
  have hi2 : (n' : Int) ≤ 1000 := by omega
  have HR := Lib.hid HR0
  have HN := Lib.hid HN0
  have HS1 := Lib.hid HS10
  have HS2 := Lib.hid HS20
  have HS3 := Lib.hid HS30
  have HC := Lib.hid hcase
  clear HR0 HN0 HS10 HS20 HS30 hcase
  go_enter Try.func8, Try.ntmps8
  go_wp2_with (first
    | (refine wpList_loadBlk (g := w.heap.size) (t := 58) (cs := M0) rfl 58 (.tmp 2) ?ho ?hx ?hA _ Try.underlying58 rfl ?hi ?_
       case ho => with_reducible rfl
       case hx => rfl
       case hA => exact k1
       case hi => exact z0)
    | fail)
  refine (HR.out _).mono ?_
  rintro e w3 ⟨rfl, hb3⟩
  have j1 := k1.on hb3
  have j2 := k2.on hb3
  have b3 := Below.on hb0 hb0.size hb3
  have e0 := (j1.cell 0).trans hk
  have e1 := (j1.cell 143).trans h143
  have e2 := (j1.cell 224).trans h224
  have e3 := (j1.cell 281).trans h281
  have hk0 := hk
  clear k1 k2 hb0 hb3 hk h143 h224 h281 hb hb' hi1 hi2 HR
  generalize hg2 : w.heap.size + 1 = g2 at *
  generalize hg1 : w.heap.size = g1 at *
  rcases HC.out with ⟨rfl, rfl, rfl, rfl⟩ | ⟨rfl, rfl, rfl, rfl⟩ | ⟨rfl, rfl, rfl, rfl⟩ | ⟨rfl, rfl, rfl, rfl⟩ | ⟨hk1, rfl, rfl, rfl⟩ | ⟨hk1, rfl, rfl, rfl⟩
  all_goals clear HC
  · have e4 : (w3.alloc (.cells #[.string ⟨#[105, 110, 105, 116, 105, 97, 116, 105, 111, 110]⟩, .string ⟨#[114, 101, 115, 112, 111, 110, 115, 101]⟩, .string ⟨#[99, 111, 111, 107, 105, 101]⟩, .string ⟨#[100, 97, 116, 97]⟩] 9)).cell? ⟨g1, 0, none⟩ = some (.int .i64 1) := (World.cell?_alloc_lt w3 _ _ j1.lt).trans e0
    have i1 := j1.alloc (.cells #[.string ⟨#[105, 110, 105, 116, 105, 97, 116, 105, 111, 110]⟩, .string ⟨#[114, 101, 115, 112, 111, 110, 115, 101]⟩, .string ⟨#[99, 111, 111, 107, 105, 101]⟩, .string ⟨#[100, 97, 116, 97]⟩] 9)
    have i2 := j2.alloc (.cells #[.string ⟨#[105, 110, 105, 116, 105, 97, 116, 105, 111, 110]⟩, .string ⟨#[114, 101, 115, 112, 111, 110, 115, 101]⟩, .string ⟨#[99, 111, 111, 107, 105, 101]⟩, .string ⟨#[100, 97, 116, 97]⟩] 9)
    have b4 := b3.alloc (hg1 ▸ b3.size) (.cells #[.string ⟨#[105, 110, 105, 116, 105, 97, 116, 105, 111, 110]⟩, .string ⟨#[114, 101, 115, 112, 111, 110, 115, 101]⟩, .string ⟨#[99, 111, 111, 107, 105, 101]⟩, .string ⟨#[100, 97, 116, 97]⟩] 9)
    go_wp2_with fail
    generalize w3.alloc (.cells #[.string ⟨#[105, 110, 105, 116, 105, 97, 116, 105, 111, 110]⟩, .string ⟨#[114, 101, 115, 112, 111, 110, 115, 101]⟩, .string ⟨#[99, 111, 111, 107, 105, 101]⟩, .string ⟨#[100, 97, 116, 97]⟩] 9) = w4 at *
    have hup : ∀ W : World, Below w4.heap.size w4 W → Below g1 w W := fun W hW => Below.on b4 (by have := b4.size; omega) hW
    clear e0 e1 e2 e3 e4 j1 j2 b3
    refine wp_region_below w4.heap.size (by kernel_rfl) (by kernel_rfl) ?_
    cases R
    all_goals
      repeat (first
        | go_big_quiet_skip
        | (go_big_quiet_want
           first
             | (refine quiet_loadCell (ad := ⟨g1, 0, none⟩) (v := .int .i64 1) 3 .i64 (.tmp 64) ?ho ?hx ?hA Try.underlying3 ?_
                case ho => with_reducible rfl
                case hx => rfl
                case hA => exact fun w' hw' => ((i1.on hw').cell 0).trans hk0
                go_big_quiet_on
                simp only [Act.put, List.setIfInBounds_toArray, List.set_cons_succ, List.set_cons_zero])
             | (refine quiet_loadCell (ad := ⟨g1, 0, none⟩) (v := .int .i64 1) 3 .i64 (.tmp 68) ?ho ?hx ?hA Try.underlying3 ?_
                case ho => with_reducible rfl
                case hx => rfl
                case hA => exact fun w' hw' => ((i1.on hw').cell 0).trans hk0
                go_big_quiet_on
                simp only [Act.put, List.setIfInBounds_toArray, List.set_cons_succ, List.set_cons_zero])
             | (refine quiet_loadCell (ad := ⟨g1, 0, none⟩) (v := .int .i64 1) 3 .i64 (.tmp 75) ?ho ?hx ?hA Try.underlying3 ?_
                case ho => with_reducible rfl
                case hx => rfl
                case hA => exact fun w' hw' => ((i1.on hw').cell 0).trans hk0
                go_big_quiet_on
                simp only [Act.put, List.setIfInBounds_toArray, List.set_cons_succ, List.set_cons_zero])
             | (refine wq_loadBlk (g := g1) (t := 58) (cs := M0) 58 (.tmp 2) ?ho ?hx ?hA _ Try.underlying58 rfl z0 ?_
                case ho => with_reducible rfl
                case hx => rfl
                case hA => exact fun w' hw' => i1.on hw'
                go_big_quiet_on
                simp only [Act.put, List.setIfInBounds_toArray, List.set_cons_succ, List.set_cons_zero])
             | (refine wq_loadBlk (g := g2) (t := 58) (cs := M1) 58 (.tmp 3) ?ho ?hx ?hA _ Try.underlying58 rfl z1 ?_
                case ho => with_reducible rfl
                case hx => rfl
                case hA => exact fun w' hw' => i2.on hw'
                go_big_quiet_on
                simp only [Act.put, List.setIfInBounds_toArray, List.set_cons_succ, List.set_cons_zero])
             | (go_big_quiet_op
                first
                  | go_big_quiet_on
                  | (with_reducible refine ⟨_, fun _ _ => rfl, ?_⟩; go_big_quiet_on)
                  | (apply Exists.intro
                     refine ⟨fun w' hw' => ?_, ?_⟩
                     · first
                         | (go_at_call 26; refine (HN.out _).mono ?_; exact fun _ _ h => ⟨h.1, h.2 ▸ hw'⟩)
                         | (go_at_call 27; with_reducible refine (HS1.out _ ?hu).mono ?_; (case hu => exact hup _ hw'); exact fun _ _ h => ⟨h.1, Below.on hw' hw'.size h.2⟩)
                         | (go_at_call 27; with_reducible refine (HS3.out _ ?hu).mono ?_; (case hu => exact hup _ hw'); exact fun _ _ h => ⟨h.1, Below.on hw' hw'.size h.2⟩)
                         | (go_at_call 24; refine (HS2.out _ ?hu).mono ?_; (case hu => exact hup _ hw'); exact fun _ _ h => ⟨h.1, Below.on hw' hw'.size h.2⟩)
                         | (go_at_call 19; refine (alive17 _).mono ?_; exact fun _ _ h => ⟨h.1, Below.on hw' hw'.size h.2⟩)
                     go_big_quiet_on))))
    all_goals
      refine wpQuiet_nil ?_
      intro w5 hw5
      go_wp2
      go_ret
      first
        | exact ⟨rfl, hup _ hw5⟩
        | exact ⟨rfl, by rw [hg1]; exact hup _ hw5⟩
  · have e4 : (w3.alloc (.cells #[.string ⟨#[105, 110, 105, 116, 105, 97, 116, 105, 111, 110]⟩, .string ⟨#[114, 101, 115, 112, 111, 110, 115, 101]⟩, .string ⟨#[99, 111, 111, 107, 105, 101]⟩, .string ⟨#[100, 97, 116, 97]⟩] 9)).cell? ⟨g1, 0, none⟩ = some (.int .i64 2) := (World.cell?_alloc_lt w3 _ _ j1.lt).trans e0
    have i1 := j1.alloc (.cells #[.string ⟨#[105, 110, 105, 116, 105, 97, 116, 105, 111, 110]⟩, .string ⟨#[114, 101, 115, 112, 111, 110, 115, 101]⟩, .string ⟨#[99, 111, 111, 107, 105, 101]⟩, .string ⟨#[100, 97, 116, 97]⟩] 9)
    have i2 := j2.alloc (.cells #[.string ⟨#[105, 110, 105, 116, 105, 97, 116, 105, 111, 110]⟩, .string ⟨#[114, 101, 115, 112, 111, 110, 115, 101]⟩, .string ⟨#[99, 111, 111, 107, 105, 101]⟩, .string ⟨#[100, 97, 116, 97]⟩] 9)
    have b4 := b3.alloc (hg1 ▸ b3.size) (.cells #[.string ⟨#[105, 110, 105, 116, 105, 97, 116, 105, 111, 110]⟩, .string ⟨#[114, 101, 115, 112, 111, 110, 115, 101]⟩, .string ⟨#[99, 111, 111, 107, 105, 101]⟩, .string ⟨#[100, 97, 116, 97]⟩] 9)
    go_wp2_with fail
    generalize w3.alloc (.cells #[.string ⟨#[105, 110, 105, 116, 105, 97, 116, 105, 111, 110]⟩, .string ⟨#[114, 101, 115, 112, 111, 110, 115, 101]⟩, .string ⟨#[99, 111, 111, 107, 105, 101]⟩, .string ⟨#[100, 97, 116, 97]⟩] 9) = w4 at *
    have hup : ∀ W : World, Below w4.heap.size w4 W → Below g1 w W := fun W hW => Below.on b4 (by have := b4.size; omega) hW
    clear e0 e1 e2 e3 e4 j1 j2 b3
    refine wp_region_below w4.heap.size (by kernel_rfl) (by kernel_rfl) ?_
    cases R
    all_goals
      repeat (first
        | go_big_quiet_skip
        | (go_big_quiet_want
           first
             | (refine quiet_loadCell (ad := ⟨g1, 0, none⟩) (v := .int .i64 2) 3 .i64 (.tmp 64) ?ho ?hx ?hA Try.underlying3 ?_
                case ho => with_reducible rfl
                case hx => rfl
                case hA => exact fun w' hw' => ((i1.on hw').cell 0).trans hk0
                go_big_quiet_on
                simp only [Act.put, List.setIfInBounds_toArray, List.set_cons_succ, List.set_cons_zero])
             | (refine quiet_loadCell (ad := ⟨g1, 0, none⟩) (v := .int .i64 2) 3 .i64 (.tmp 68) ?ho ?hx ?hA Try.underlying3 ?_
                case ho => with_reducible rfl
                case hx => rfl
                case hA => exact fun w' hw' => ((i1.on hw').cell 0).trans hk0
                go_big_quiet_on
                simp only [Act.put, List.setIfInBounds_toArray, List.set_cons_succ, List.set_cons_zero])
             | (refine quiet_loadCell (ad := ⟨g1, 0, none⟩) (v := .int .i64 2) 3 .i64 (.tmp 75) ?ho ?hx ?hA Try.underlying3 ?_
                case ho => with_reducible rfl
                case hx => rfl
                case hA => exact fun w' hw' => ((i1.on hw').cell 0).trans hk0
                go_big_quiet_on
                simp only [Act.put, List.setIfInBounds_toArray, List.set_cons_succ, List.set_cons_zero])
             | (refine wq_loadBlk (g := g1) (t := 58) (cs := M0) 58 (.tmp 2) ?ho ?hx ?hA _ Try.underlying58 rfl z0 ?_
                case ho => with_reducible rfl
                case hx => rfl
                case hA => exact fun w' hw' => i1.on hw'
                go_big_quiet_on
                simp only [Act.put, List.setIfInBounds_toArray, List.set_cons_succ, List.set_cons_zero])
             | (refine wq_loadBlk (g := g2) (t := 58) (cs := M1) 58 (.tmp 3) ?ho ?hx ?hA _ Try.underlying58 rfl z1 ?_
                case ho => with_reducible rfl
                case hx => rfl
                case hA => exact fun w' hw' => i2.on hw'
                go_big_quiet_on
                simp only [Act.put, List.setIfInBounds_toArray, List.set_cons_succ, List.set_cons_zero])
             | (go_big_quiet_op
                first
                  | go_big_quiet_on
                  | (with_reducible refine ⟨_, fun _ _ => rfl, ?_⟩; go_big_quiet_on)
                  | (apply Exists.intro
                     refine ⟨fun w' hw' => ?_, ?_⟩
                     · first
                         | (go_at_call 26; refine (HN.out _).mono ?_; exact fun _ _ h => ⟨h.1, h.2 ▸ hw'⟩)
                         | (go_at_call 27; with_reducible refine (HS1.out _ ?hu).mono ?_; (case hu => exact hup _ hw'); exact fun _ _ h => ⟨h.1, Below.on hw' hw'.size h.2⟩)
                         | (go_at_call 27; with_reducible refine (HS3.out _ ?hu).mono ?_; (case hu => exact hup _ hw'); exact fun _ _ h => ⟨h.1, Below.on hw' hw'.size h.2⟩)
                         | (go_at_call 24; refine (HS2.out _ ?hu).mono ?_; (case hu => exact hup _ hw'); exact fun _ _ h => ⟨h.1, Below.on hw' hw'.size h.2⟩)
                         | (go_at_call 19; refine (alive17 _).mono ?_; exact fun _ _ h => ⟨h.1, Below.on hw' hw'.size h.2⟩)
                     go_big_quiet_on))))
    all_goals
      refine wpQuiet_nil ?_
      intro w5 hw5
      go_wp2
      go_ret
      first
        | exact ⟨rfl, hup _ hw5⟩
        | exact ⟨rfl, by rw [hg1]; exact hup _ hw5⟩
  · have e4 : (w3.alloc (.cells #[.string ⟨#[105, 110, 105, 116, 105, 97, 116, 105, 111, 110]⟩, .string ⟨#[114, 101, 115, 112, 111, 110, 115, 101]⟩, .string ⟨#[99, 111, 111, 107, 105, 101]⟩, .string ⟨#[100, 97, 116, 97]⟩] 9)).cell? ⟨g1, 0, none⟩ = some (.int .i64 3) := (World.cell?_alloc_lt w3 _ _ j1.lt).trans e0
    have i1 := j1.alloc (.cells #[.string ⟨#[105, 110, 105, 116, 105, 97, 116, 105, 111, 110]⟩, .string ⟨#[114, 101, 115, 112, 111, 110, 115, 101]⟩, .string ⟨#[99, 111, 111, 107, 105, 101]⟩, .string ⟨#[100, 97, 116, 97]⟩] 9)
    have i2 := j2.alloc (.cells #[.string ⟨#[105, 110, 105, 116, 105, 97, 116, 105, 111, 110]⟩, .string ⟨#[114, 101, 115, 112, 111, 110, 115, 101]⟩, .string ⟨#[99, 111, 111, 107, 105, 101]⟩, .string ⟨#[100, 97, 116, 97]⟩] 9)
    have b4 := b3.alloc (hg1 ▸ b3.size) (.cells #[.string ⟨#[105, 110, 105, 116, 105, 97, 116, 105, 111, 110]⟩, .string ⟨#[114, 101, 115, 112, 111, 110, 115, 101]⟩, .string ⟨#[99, 111, 111, 107, 105, 101]⟩, .string ⟨#[100, 97, 116, 97]⟩] 9)
    go_wp2_with fail
    generalize w3.alloc (.cells #[.string ⟨#[105, 110, 105, 116, 105, 97, 116, 105, 111, 110]⟩, .string ⟨#[114, 101, 115, 112, 111, 110, 115, 101]⟩, .string ⟨#[99, 111, 111, 107, 105, 101]⟩, .string ⟨#[100, 97, 116, 97]⟩] 9) = w4 at *
    have hup : ∀ W : World, Below w4.heap.size w4 W → Below g1 w W := fun W hW => Below.on b4 (by have := b4.size; omega) hW
    clear e0 e1 e2 e3 e4 j1 j2 b3
    refine wp_region_below w4.heap.size (by kernel_rfl) (by kernel_rfl) ?_
    cases R
    all_goals
      repeat (first
        | go_big_quiet_skip
        | (go_big_quiet_want
           first
             | (refine quiet_loadCell (ad := ⟨g1, 0, none⟩) (v := .int .i64 3) 3 .i64 (.tmp 64) ?ho ?hx ?hA Try.underlying3 ?_
                case ho => with_reducible rfl
                case hx => rfl
                case hA => exact fun w' hw' => ((i1.on hw').cell 0).trans hk0
                go_big_quiet_on
                simp only [Act.put, List.setIfInBounds_toArray, List.set_cons_succ, List.set_cons_zero])
             | (refine quiet_loadCell (ad := ⟨g1, 0, none⟩) (v := .int .i64 3) 3 .i64 (.tmp 68) ?ho ?hx ?hA Try.underlying3 ?_
                case ho => with_reducible rfl
                case hx => rfl
                case hA => exact fun w' hw' => ((i1.on hw').cell 0).trans hk0
                go_big_quiet_on
                simp only [Act.put, List.setIfInBounds_toArray, List.set_cons_succ, List.set_cons_zero])
             | (refine quiet_loadCell (ad := ⟨g1, 0, none⟩) (v := .int .i64 3) 3 .i64 (.tmp 75) ?ho ?hx ?hA Try.underlying3 ?_
                case ho => with_reducible rfl
                case hx => rfl
                case hA => exact fun w' hw' => ((i1.on hw').cell 0).trans hk0
                go_big_quiet_on
                simp only [Act.put, List.setIfInBounds_toArray, List.set_cons_succ, List.set_cons_zero])
             | (refine wq_loadBlk (g := g1) (t := 58) (cs := M0) 58 (.tmp 2) ?ho ?hx ?hA _ Try.underlying58 rfl z0 ?_
                case ho => with_reducible rfl
                case hx => rfl
                case hA => exact fun w' hw' => i1.on hw'
                go_big_quiet_on
                simp only [Act.put, List.setIfInBounds_toArray, List.set_cons_succ, List.set_cons_zero])
             | (refine wq_loadBlk (g := g2) (t := 58) (cs := M1) 58 (.tmp 3) ?ho ?hx ?hA _ Try.underlying58 rfl z1 ?_
                case ho => with_reducible rfl
                case hx => rfl
                case hA => exact fun w' hw' => i2.on hw'
                go_big_quiet_on
                simp only [Act.put, List.setIfInBounds_toArray, List.set_cons_succ, List.set_cons_zero])
             | (go_big_quiet_op
                first
                  | go_big_quiet_on
                  | (with_reducible refine ⟨_, fun _ _ => rfl, ?_⟩; go_big_quiet_on)
                  | (apply Exists.intro
                     refine ⟨fun w' hw' => ?_, ?_⟩
                     · first
                         | (go_at_call 26; refine (HN.out _).mono ?_; exact fun _ _ h => ⟨h.1, h.2 ▸ hw'⟩)
                         | (go_at_call 27; with_reducible refine (HS1.out _ ?hu).mono ?_; (case hu => exact hup _ hw'); exact fun _ _ h => ⟨h.1, Below.on hw' hw'.size h.2⟩)
                         | (go_at_call 27; with_reducible refine (HS3.out _ ?hu).mono ?_; (case hu => exact hup _ hw'); exact fun _ _ h => ⟨h.1, Below.on hw' hw'.size h.2⟩)
                         | (go_at_call 24; refine (HS2.out _ ?hu).mono ?_; (case hu => exact hup _ hw'); exact fun _ _ h => ⟨h.1, Below.on hw' hw'.size h.2⟩)
                         | (go_at_call 19; refine (alive17 _).mono ?_; exact fun _ _ h => ⟨h.1, Below.on hw' hw'.size h.2⟩)
                     go_big_quiet_on))))
    all_goals
      refine wpQuiet_nil ?_
      intro w5 hw5
      go_wp2
      go_ret
      first
        | exact ⟨rfl, hup _ hw5⟩
        | exact ⟨rfl, by rw [hg1]; exact hup _ hw5⟩
  · have e4 : (w3.alloc (.cells #[.string ⟨#[105, 110, 105, 116, 105, 97, 116, 105, 111, 110]⟩, .string ⟨#[114, 101, 115, 112, 111, 110, 115, 101]⟩, .string ⟨#[99, 111, 111, 107, 105, 101]⟩, .string ⟨#[100, 97, 116, 97]⟩] 9)).cell? ⟨g1, 0, none⟩ = some (.int .i64 4) := (World.cell?_alloc_lt w3 _ _ j1.lt).trans e0
    have i1 := j1.alloc (.cells #[.string ⟨#[105, 110, 105, 116, 105, 97, 116, 105, 111, 110]⟩, .string ⟨#[114, 101, 115, 112, 111, 110, 115, 101]⟩, .string ⟨#[99, 111, 111, 107, 105, 101]⟩, .string ⟨#[100, 97, 116, 97]⟩] 9)
    have i2 := j2.alloc (.cells #[.string ⟨#[105, 110, 105, 116, 105, 97, 116, 105, 111, 110]⟩, .string ⟨#[114, 101, 115, 112, 111, 110, 115, 101]⟩, .string ⟨#[99, 111, 111, 107, 105, 101]⟩, .string ⟨#[100, 97, 116, 97]⟩] 9)
    have b4 := b3.alloc (hg1 ▸ b3.size) (.cells #[.string ⟨#[105, 110, 105, 116, 105, 97, 116, 105, 111, 110]⟩, .string ⟨#[114, 101, 115, 112, 111, 110, 115, 101]⟩, .string ⟨#[99, 111, 111, 107, 105, 101]⟩, .string ⟨#[100, 97, 116, 97]⟩] 9)
    go_wp2_with fail
    generalize w3.alloc (.cells #[.string ⟨#[105, 110, 105, 116, 105, 97, 116, 105, 111, 110]⟩, .string ⟨#[114, 101, 115, 112, 111, 110, 115, 101]⟩, .string ⟨#[99, 111, 111, 107, 105, 101]⟩, .string ⟨#[100, 97, 116, 97]⟩] 9) = w4 at *
    have hup : ∀ W : World, Below w4.heap.size w4 W → Below g1 w W := fun W hW => Below.on b4 (by have := b4.size; omega) hW
    clear e0 e1 e2 e3 e4 j1 j2 b3
    refine wp_region_below w4.heap.size (by kernel_rfl) (by kernel_rfl) ?_
    cases R
    all_goals
      repeat (first
        | go_big_quiet_skip
        | (go_big_quiet_want
           first
             | (refine quiet_loadCell (ad := ⟨g1, 0, none⟩) (v := .int .i64 4) 3 .i64 (.tmp 64) ?ho ?hx ?hA Try.underlying3 ?_
                case ho => with_reducible rfl
                case hx => rfl
                case hA => exact fun w' hw' => ((i1.on hw').cell 0).trans hk0
                go_big_quiet_on
                simp only [Act.put, List.setIfInBounds_toArray, List.set_cons_succ, List.set_cons_zero])
             | (refine quiet_loadCell (ad := ⟨g1, 0, none⟩) (v := .int .i64 4) 3 .i64 (.tmp 68) ?ho ?hx ?hA Try.underlying3 ?_
                case ho => with_reducible rfl
                case hx => rfl
                case hA => exact fun w' hw' => ((i1.on hw').cell 0).trans hk0
                go_big_quiet_on
                simp only [Act.put, List.setIfInBounds_toArray, List.set_cons_succ, List.set_cons_zero])
             | (refine quiet_loadCell (ad := ⟨g1, 0, none⟩) (v := .int .i64 4) 3 .i64 (.tmp 75) ?ho ?hx ?hA Try.underlying3 ?_
                case ho => with_reducible rfl
                case hx => rfl
                case hA => exact fun w' hw' => ((i1.on hw').cell 0).trans hk0
                go_big_quiet_on
                simp only [Act.put, List.setIfInBounds_toArray, List.set_cons_succ, List.set_cons_zero])
             | (refine wq_loadBlk (g := g1) (t := 58) (cs := M0) 58 (.tmp 2) ?ho ?hx ?hA _ Try.underlying58 rfl z0 ?_
                case ho => with_reducible rfl
                case hx => rfl
                case hA => exact fun w' hw' => i1.on hw'
                go_big_quiet_on
                simp only [Act.put, List.setIfInBounds_toArray, List.set_cons_succ, List.set_cons_zero])
             | (refine wq_loadBlk (g := g2) (t := 58) (cs := M1) 58 (.tmp 3) ?ho ?hx ?hA _ Try.underlying58 rfl z1 ?_
                case ho => with_reducible rfl
                case hx => rfl
                case hA => exact fun w' hw' => i2.on hw'
                go_big_quiet_on
                simp only [Act.put, List.setIfInBounds_toArray, List.set_cons_succ, List.set_cons_zero])
             | (go_big_quiet_op
                first
                  | go_big_quiet_on
                  | (with_reducible refine ⟨_, fun _ _ => rfl, ?_⟩; go_big_quiet_on)
                  | (apply Exists.intro
                     refine ⟨fun w' hw' => ?_, ?_⟩
                     · first
                         | (go_at_call 26; refine (HN.out _).mono ?_; exact fun _ _ h => ⟨h.1, h.2 ▸ hw'⟩)
                         | (go_at_call 27; with_reducible refine (HS1.out _ ?hu).mono ?_; (case hu => exact hup _ hw'); exact fun _ _ h => ⟨h.1, Below.on hw' hw'.size h.2⟩)
                         | (go_at_call 27; with_reducible refine (HS3.out _ ?hu).mono ?_; (case hu => exact hup _ hw'); exact fun _ _ h => ⟨h.1, Below.on hw' hw'.size h.2⟩)
                         | (go_at_call 24; refine (HS2.out _ ?hu).mono ?_; (case hu => exact hup _ hw'); exact fun _ _ h => ⟨h.1, Below.on hw' hw'.size h.2⟩)
                         | (go_at_call 19; refine (alive17 _).mono ?_; exact fun _ _ h => ⟨h.1, Below.on hw' hw'.size h.2⟩)
                     go_big_quiet_on))))
    all_goals
      refine wpQuiet_nil ?_
      intro w5 hw5
      go_wp2
      go_ret
      first
        | exact ⟨rfl, hup _ hw5⟩
        | exact ⟨rfl, by rw [hg1]; exact hup _ hw5⟩
  · have i1 := j1
    have i2 := j2
    have b4 := b3
    have d1 : decide (k = 2) = false := decide_eq_false (by omega)
    have d2 : decide (k = 3) = false := decide_eq_false (by omega)
    have d3 : decide (k = 4) = false := decide_eq_false (by omega)
    have d4 : decide (2 ≤ k) = false := decide_eq_false (by omega)
    have d5 : ¬ 2 ≤ k := by omega
    go_wp2_with fail
    have hup : ∀ W : World, Below w3.heap.size w3 W → Below g1 w W := fun W hW => Below.on b4 (by have := b4.size; omega) hW
    clear e0 e1 e2 e3 j1 j2 b3
    generalize w3 = w4 at *
    refine wp_region_below w4.heap.size (by kernel_rfl) (by kernel_rfl) ?_
    cases R
    all_goals
      repeat (first
        | go_big_quiet_skip
        | (go_big_quiet_want
           first
             | (refine quiet_loadCell (ad := ⟨g1, 0, none⟩) (v := .int .i64 k) 3 .i64 (.tmp 64) ?ho ?hx ?hA Try.underlying3 ?_
                case ho => with_reducible rfl
                case hx => rfl
                case hA => exact fun w' hw' => ((i1.on hw').cell 0).trans hk0
                go_big_quiet_on
                simp only [Act.put, List.setIfInBounds_toArray, List.set_cons_succ, List.set_cons_zero])
             | (refine quiet_loadCell (ad := ⟨g1, 0, none⟩) (v := .int .i64 k) 3 .i64 (.tmp 68) ?ho ?hx ?hA Try.underlying3 ?_
                case ho => with_reducible rfl
                case hx => rfl
                case hA => exact fun w' hw' => ((i1.on hw').cell 0).trans hk0
                go_big_quiet_on
                simp only [Act.put, List.setIfInBounds_toArray, List.set_cons_succ, List.set_cons_zero])
             | (refine quiet_loadCell (ad := ⟨g1, 0, none⟩) (v := .int .i64 k) 3 .i64 (.tmp 75) ?ho ?hx ?hA Try.underlying3 ?_
                case ho => with_reducible rfl
                case hx => rfl
                case hA => exact fun w' hw' => ((i1.on hw').cell 0).trans hk0
                go_big_quiet_on
                simp only [Act.put, List.setIfInBounds_toArray, List.set_cons_succ, List.set_cons_zero])
             | (refine wq_loadBlk (g := g1) (t := 58) (cs := M0) 58 (.tmp 2) ?ho ?hx ?hA _ Try.underlying58 rfl z0 ?_
                case ho => with_reducible rfl
                case hx => rfl
                case hA => exact fun w' hw' => i1.on hw'
                go_big_quiet_on
                simp only [Act.put, List.setIfInBounds_toArray, List.set_cons_succ, List.set_cons_zero])
             | (refine wq_loadBlk (g := g2) (t := 58) (cs := M1) 58 (.tmp 3) ?ho ?hx ?hA _ Try.underlying58 rfl z1 ?_
                case ho => with_reducible rfl
                case hx => rfl
                case hA => exact fun w' hw' => i2.on hw'
                go_big_quiet_on
                simp only [Act.put, List.setIfInBounds_toArray, List.set_cons_succ, List.set_cons_zero])
             | (go_big_quiet_op
                first
                  | go_big_quiet_on
                  | (with_reducible refine ⟨_, fun _ _ => rfl, ?_⟩; go_big_quiet_on)
                  | (apply Exists.intro
                     refine ⟨fun w' hw' => ?_, ?_⟩
                     · first
                         | (go_at_call 26; refine (HN.out _).mono ?_; exact fun _ _ h => ⟨h.1, h.2 ▸ hw'⟩)
                         | (go_at_call 27; with_reducible refine (HS1.out _ ?hu).mono ?_; (case hu => exact hup _ hw'); exact fun _ _ h => ⟨h.1, Below.on hw' hw'.size h.2⟩)
                         | (go_at_call 27; with_reducible refine (HS3.out _ ?hu).mono ?_; (case hu => exact hup _ hw'); exact fun _ _ h => ⟨h.1, Below.on hw' hw'.size h.2⟩)
                         | (go_at_call 24; refine (HS2.out _ ?hu).mono ?_; (case hu => exact hup _ hw'); exact fun _ _ h => ⟨h.1, Below.on hw' hw'.size h.2⟩)
                         | (go_at_call 19; refine (alive17 _).mono ?_; exact fun _ _ h => ⟨h.1, Below.on hw' hw'.size h.2⟩)
                     go_big_quiet_on))))
    all_goals
      refine wpQuiet_nil ?_
      intro w5 hw5
      go_wp2
      go_ret
      first
        | exact ⟨rfl, hup _ hw5⟩
        | exact ⟨rfl, by rw [hg1]; exact hup _ hw5⟩
  · have i1 := j1
    have i2 := j2
    have b4 := b3
    have d1 : decide (k = 2) = false := decide_eq_false (by omega)
    have d2 : decide (k = 3) = false := decide_eq_false (by omega)
    have d3 : decide (k = 4) = false := decide_eq_false (by omega)
    have d4 : decide (2 ≤ k) = true := decide_eq_true (by omega)
    have d5 : decide (k ≤ 4) = false := decide_eq_false (by omega)
    have d6 : 2 ≤ k := by omega
    have d7 : ¬ k ≤ 4 := by omega
    go_wp2_with fail
    have hup : ∀ W : World, Below w3.heap.size w3 W → Below g1 w W := fun W hW => Below.on b4 (by have := b4.size; omega) hW
    clear e0 e1 e2 e3 j1 j2 b3
    generalize w3 = w4 at *
    refine wp_region_below w4.heap.size (by kernel_rfl) (by kernel_rfl) ?_
    cases R
    all_goals
      repeat (first
        | go_big_quiet_skip
        | (go_big_quiet_want
           first
             | (refine quiet_loadCell (ad := ⟨g1, 0, none⟩) (v := .int .i64 k) 3 .i64 (.tmp 64) ?ho ?hx ?hA Try.underlying3 ?_
                case ho => with_reducible rfl
                case hx => rfl
                case hA => exact fun w' hw' => ((i1.on hw').cell 0).trans hk0
                go_big_quiet_on
                simp only [Act.put, List.setIfInBounds_toArray, List.set_cons_succ, List.set_cons_zero])
             | (refine quiet_loadCell (ad := ⟨g1, 0, none⟩) (v := .int .i64 k) 3 .i64 (.tmp 68) ?ho ?hx ?hA Try.underlying3 ?_
                case ho => with_reducible rfl
                case hx => rfl
                case hA => exact fun w' hw' => ((i1.on hw').cell 0).trans hk0
                go_big_quiet_on
                simp only [Act.put, List.setIfInBounds_toArray, List.set_cons_succ, List.set_cons_zero])
             | (refine quiet_loadCell (ad := ⟨g1, 0, none⟩) (v := .int .i64 k) 3 .i64 (.tmp 75) ?ho ?hx ?hA Try.underlying3 ?_
                case ho => with_reducible rfl
                case hx => rfl
                case hA => exact fun w' hw' => ((i1.on hw').cell 0).trans hk0
                go_big_quiet_on
                simp only [Act.put, List.setIfInBounds_toArray, List.set_cons_succ, List.set_cons_zero])
             | (refine wq_loadBlk (g := g1) (t := 58) (cs := M0) 58 (.tmp 2) ?ho ?hx ?hA _ Try.underlying58 rfl z0 ?_
                case ho => with_reducible rfl
                case hx => rfl
                case hA => exact fun w' hw' => i1.on hw'
                go_big_quiet_on
                simp only [Act.put, List.setIfInBounds_toArray, List.set_cons_succ, List.set_cons_zero])
             | (refine wq_loadBlk (g := g2) (t := 58) (cs := M1) 58 (.tmp 3) ?ho ?hx ?hA _ Try.underlying58 rfl z1 ?_
                case ho => with_reducible rfl
                case hx => rfl
                case hA => exact fun w' hw' => i2.on hw'
                go_big_quiet_on
                simp only [Act.put, List.setIfInBounds_toArray, List.set_cons_succ, List.set_cons_zero])
             | (go_big_quiet_op
                first
                  | go_big_quiet_on
                  | (with_reducible refine ⟨_, fun _ _ => rfl, ?_⟩; go_big_quiet_on)
                  | (apply Exists.intro
                     refine ⟨fun w' hw' => ?_, ?_⟩
                     · first
                         | (go_at_call 26; refine (HN.out _).mono ?_; exact fun _ _ h => ⟨h.1, h.2 ▸ hw'⟩)
                         | (go_at_call 27; with_reducible refine (HS1.out _ ?hu).mono ?_; (case hu => exact hup _ hw'); exact fun _ _ h => ⟨h.1, Below.on hw' hw'.size h.2⟩)
                         | (go_at_call 27; with_reducible refine (HS3.out _ ?hu).mono ?_; (case hu => exact hup _ hw'); exact fun _ _ h => ⟨h.1, Below.on hw' hw'.size h.2⟩)
                         | (go_at_call 24; refine (HS2.out _ ?hu).mono ?_; (case hu => exact hup _ hw'); exact fun _ _ h => ⟨h.1, Below.on hw' hw'.size h.2⟩)
                         | (go_at_call 19; refine (alive17 _).mono ?_; exact fun _ _ h => ⟨h.1, Below.on hw' hw'.size h.2⟩)
                     go_big_quiet_on))))
    all_goals
      refine wpQuiet_nil ?_
      intro w5 hw5
      go_wp2
      go_ret
      first
        | exact ⟨rfl, hup _ hw5⟩
        | exact ⟨rfl, by rw [hg1]; exact hup _ hw5⟩

end Go.Proofs.Ytlllakjimgomjaa

/- WirO -/
namespace Go.Proofs.Ytlllakjimgomjaa
open Go.RowKit
set_option linter.unusedVariables false

theorem at_len (xs : List Value) (v : Value) (ys : List Value) (j : Nat) (hj : xs.length = j) : (xs ++ v :: ys).toArray[j]? = some v := by
  subst hj; simp

theorem tells_143 (k : Int) (i0 a0 a1 : Nat) (li la : List UInt8) (c t : Array Value) (hi : li.length = 140) : (wcs k (mcs [i0] li) (mcs [a0, a1] la) c t)[143]? = some (.int .u32 (a1 : Int)) := by
  have e : wcs k (mcs [i0] li) (mcs [a0, a1] la) c t = (([Value.int .i64 k] ++ (mcs [i0] li).toList ++ [Value.int .u32 (a0 : Int)]) ++ Value.int .u32 (a1 : Int) :: (la.map bv ++ (c.toList ++ t.toList))).toArray := by simp [wcs, mcs]
  rw [e]
  exact at_len _ _ _ 143 (by simp [mcs, hi])

theorem tells_224 (k : Int) (i r t : Array Value) (c0 : Nat) (lc : List UInt8) (hi : i.size = 141) (hr : r.size = 82) : (wcs k i r (mcs [c0] lc) t)[224]? = some (.int .u32 (c0 : Int)) := by
  have e : wcs k i r (mcs [c0] lc) t = (([Value.int .i64 k] ++ i.toList ++ r.toList) ++ Value.int .u32 (c0 : Int) :: (lc.map bv ++ t.toList)).toArray := by simp [wcs, mcs]
  rw [e]
  exact at_len _ _ _ 224 (by simp [hi, hr])

theorem tells_281 (k : Int) (i r c : Array Value) (q p : Nat) (A : Option Addr) (n ca : Nat) (hi : i.size = 141) (hr : r.size = 82) (hc : c.size = 57) : (wcs k i r c (trv q p A n ca))[281]? = some (.int .u32 (q : Int)) := by
  have e : wcs k i r c (trv q p A n ca) = (([Value.int .i64 k] ++ i.toList ++ r.toList ++ c.toList) ++ Value.int .u32 (q : Int) :: [Value.int .u64 (p : Int), Value.slice A n ca]).toArray := by simp [wcs]
  rw [e]
  exact at_len _ _ _ 281 (by simp [hi, hr, hc])

theorem tells_283 (k : Int) (i r c : Array Value) (q p : Nat) (A : Option Addr) (n ca : Nat) (hi : i.size = 141) (hr : r.size = 82) (hc : c.size = 57) : (wcs k i r c (trv q p A n ca))[283]? = some (.slice A n ca) := by
  have e : wcs k i r c (trv q p A n ca) = (([Value.int .i64 k] ++ i.toList ++ r.toList ++ c.toList ++ [Value.int .u32 (q : Int), Value.int .u64 (p : Int)]) ++ Value.slice A n ca :: []).toArray := by simp [wcs]
  rw [e]
  exact at_len _ _ _ 283 (by simp [hi, hr, hc])

set_option maxRecDepth 100000 in
theorem wireTells_long (M0 M1 : Array Value) (A A' : Option Addr) (n ca n' ca' : Nat) (w : World)
    (hb : M0[283]? = some (.slice A n ca)) (hb' : M1[283]? = some (.slice A' n' ca')) (hm : n ≤ 9223372036854775807) (hm' : n' ≤ 9223372036854775807) (h : 1000 < n ∨ (n ≤ 1000 ∧ 1000 < n')) :
    Calls Try.prog 8 #[.agg M0, .agg M1] w fun e w' => e = .returned (.bool true) ∧ Below w.heap.size w w' := by
  have hb0 : Below w.heap.size w ((w.alloc (.cells M0 58)).alloc (.cells M1 58)) := ((Below.refl _ _).alloc (Nat.le_refl _) _).alloc (by simp) _
  rcases h with h | ⟨h1, h⟩
  · have hi1 : (1000 : Int) < n := by omega
    go_enter Try.func8, Try.ntmps8
    go_wp2_with fail
    refine (alive17 _).mono ?_
    rintro e w1 ⟨rfl, hb1⟩
    have hb2 := Below.on hb0 hb0.size hb1
    clear hb0 hb1
    go_wp2
    go_ret
    exact ⟨rfl, hb2⟩
  · have hi1 : (n : Int) ≤ 1000 := by omega
    have hi2 : (1000 : Int) < n' := by omega
    go_enter Try.func8, Try.ntmps8
    go_wp2_with fail
    refine (alive17 _).mono ?_
    rintro e w1 ⟨rfl, hb1⟩
    have hb2 := Below.on hb0 hb0.size hb1
    clear hb0 hb1
    go_wp2
    go_ret
    exact ⟨rfl, hb2⟩

set_option maxRecDepth 100000 in
theorem walk_WireTells (k : Int) (i0 : Nat) (li : List UInt8) (a0 a1 : Nat) (la : List UInt8) (c0 : Nat) (lc : List UInt8) (q p : Nat) (A : Option Addr) (n ca : Nat) (l : List UInt8)
    (k' : Int) (i0' : Nat) (li' : List UInt8) (a0' a1' : Nat) (la' : List UInt8) (c0' : Nat) (lc' : List UInt8) (q' p' : Nat) (A' : Option Addr) (n' ca' : Nat) (l' : List UInt8) (w : World)
    (hi : i0 < 4294967296 ∧ li.length = 140) (ha : a0 < 4294967296 ∧ a1 < 4294967296 ∧ la.length = 80) (hc : c0 < 4294967296 ∧ lc.length = 56) (ht : q < 4294967296 ∧ p < 18446744073709551616 ∧ (n ≤ ca ∧ ca ≤ maxLen)) (hs : Shows w w.heap.size A n l)
    (hi' : i0' < 4294967296 ∧ li'.length = 140) (ha' : a0' < 4294967296 ∧ a1' < 4294967296 ∧ la'.length = 80) (hc' : c0' < 4294967296 ∧ lc'.length = 56) (ht' : q' < 4294967296 ∧ p' < 18446744073709551616 ∧ (n' ≤ ca' ∧ ca' ≤ maxLen)) (hs' : Shows w w.heap.size A' n' l') :
    Calls Try.prog 8 #[.agg (wcs k (mcs [i0] li) (mcs [a0, a1] la) (mcs [c0] lc) (trv q p A n ca)), .agg (wcs k' (mcs [i0'] li') (mcs [a0', a1'] la') (mcs [c0'] lc') (trv q' p' A' n' ca'))] w fun e w' => e = .returned (.bool true) ∧ Below w.heap.size w w' := by
  have si : (mcs [i0] li).size = 141 := by rw [mcs_size, hi.2]; rfl
  have sr : (mcs [a0, a1] la).size = 82 := by rw [mcs_size, ha.2.2]; rfl
  have sc : (mcs [c0] lc).size = 57 := by rw [mcs_size, hc.2]; rfl
  have si' : (mcs [i0'] li').size = 141 := by rw [mcs_size, hi'.2]; rfl
  have sr' : (mcs [a0', a1'] la').size = 82 := by rw [mcs_size, ha'.2.2]; rfl
  have sc' : (mcs [c0'] lc').size = 57 := by rw [mcs_size, hc'.2]; rfl
  have hM := Nat.le_trans ht.2.2.1 ht.2.2.2
  have hM' := Nat.le_trans ht'.2.2.1 ht'.2.2.2
  have hm : n ≤ 9223372036854775807 := by have := hM; unfold maxLen at this; omega
  have hm' : n' ≤ 9223372036854775807 := by have := hM'; unfold maxLen at this; omega
  have hbody := tells_283 k _ _ _ q p A n ca si sr sc
  have hbody' := tells_283 k' _ _ _ q' p' A' n' ca' si' sr' sc'
  by_cases hbig : 1000 < n ∨ (n ≤ 1000 ∧ 1000 < n')
  · exact wireTells_long _ _ A A' n ca n' ca' w hbody hbody' hm hm' hbig
  have z : Wsz (mcs [i0] li) (mcs [a0, a1] la) (mcs [c0] lc) (trv q p A n ca) := ⟨si, sr, sc, rfl⟩
  have z' : Wsz (mcs [i0'] li') (mcs [a0', a1'] la') (mcs [c0'] lc') (trv q' p' A' n' ca') := ⟨si', sr', sc', rfl⟩
  have hsz := wcs_size k z
  have e0 := wcs_0 k (mcs [i0] li) (mcs [a0, a1] la) (mcs [c0] lc) (trv q p A n ca)
  have e1 := tells_143 k i0 a0 a1 li la (mcs [c0] lc) (trv q p A n ca) hi.2
  have e2 := tells_224 k (mcs [i0] li) (mcs [a0, a1] la) (trv q p A n ca) c0 lc si sr
  have e3 := tells_281 k (mcs [i0] li) (mcs [a0, a1] la) (mcs [c0] lc) q p A n ca si sr sc
  obtain ⟨bI, HI⟩ := Ini_eqAny i0 i0' li li' hi.2 hi'.2
  obtain ⟨bR, HR⟩ := Ans_eqAny a0 a1 a0' a1' la la' ha.2.2 ha'.2.2
  obtain ⟨bC, HC⟩ := Cok_eqAny c0 c0' lc lc' hc.2 hc'.2
  have S1 := fun (W : World) (hW : Below w.heap.size w W) => wireSame_any k k' _ _ _ _ _ _ bI bR bC q p A n ca q' p' A' n' ca' l l' W si sr sc si' sr' sc' HI HR HC hM hM' ((hs.below hW).up hW.size) ((hs'.below hW).up hW.size)
  have S2 := fun (W : World) (hW : Below w.heap.size w W) => ref17Same_any k k' _ _ _ _ _ _ bI bR bC q p A n ca q' p' A' n' ca' l l' W si sr sc si' sr' sc' HI HR HC hM hM' ((hs.below hW).up hW.size) ((hs'.below hW).up hW.size)
  have S3 := fun (W : World) (hW : Below w.heap.size w W) => wireSame_any k k _ _ _ _ _ _ true true true q p A n ca q p A n ca l l W si sr sc si sr sc (Ini_eq i0 li hi.2) (Ans_eq a0 a1 la ha.2.2) (Cok_eq c0 lc hc.2) hM hM ((hs.below hW).up hW.size) ((hs.below hW).up hW.size)
  have hself : (decide (k = k) && (true && (true && (true && decide (q = q ∧ p = p ∧ l = l))))) = true := by simp
  rw [hself] at S3
  have z0 := msg_size k z
  have z1 := msg_size k' z'
  generalize wcs k (mcs [i0] li) (mcs [a0, a1] la) (mcs [c0] lc) (trv q p A n ca) = M0 at *
  generalize wcs k' (mcs [i0'] li') (mcs [a0', a1'] la') (mcs [c0'] lc') (trv q' p' A' n' ca') = M1 at *
  generalize (decide (k = k') && (bI && (bR && (bC && decide (q = q' ∧ p = p' ∧ l = l'))))) = R at *
  have go := fun u is S HRc HN hcase => wireTells_main M0 M1 k u is S a1 c0 q A A' n ca n' ca' R w z0 z1 e0 e1 e2 e3 hbody hbody' (by omega) (by omega) HRc HN S1 S2 S3 hcase
  clear S1 S2 S3
  by_cases h1 : k = 1
  · subst h1
    exact go 0 false _ (fun W => wireReceiver_none M0 1 W e0 (by decide) (by decide) (by decide)) (fun W => wireName_any 1 W) (Or.inl ⟨rfl, rfl, rfl, rfl⟩)
  by_cases h2 : k = 2
  · subst h2
    exact go a1 true _ (fun W => wireReceiver_2 M0 a1 c0 q W e0 e1 e2 e3 (by omega) (by omega)) (fun W => wireName_any 2 W) (Or.inr (Or.inl ⟨rfl, rfl, rfl, rfl⟩))
  by_cases h3 : k = 3
  · subst h3
    exact go c0 true _ (fun W => wireReceiver_3 M0 c0 q W e0 e2 e3 (by omega)) (fun W => wireName_any 3 W) (Or.inr (Or.inr (Or.inl ⟨rfl, rfl, rfl, rfl⟩)))
  by_cases h4 : k = 4
  · subst h4
    exact go q true _ (fun W => wireReceiver_4 M0 q W e0 e3) (fun W => wireName_any 4 W) (Or.inr (Or.inr (Or.inr (Or.inl ⟨rfl, rfl, rfl, rfl⟩))))
  have hN : nameOf k = [] := by simp [nameOf, h1, h2, h3, h4]
  have hN' := fun W => wireName_any k W
  rw [hN] at hN'
  by_cases hk : k < 1
  · exact go 0 false _ (fun W => wireReceiver_none M0 k W e0 h2 h3 h4) hN' (Or.inr (Or.inr (Or.inr (Or.inr (Or.inl ⟨hk, rfl, rfl, rfl⟩)))))
  · exact go 0 false _ (fun W => wireReceiver_none M0 k W e0 h2 h3 h4) hN' (Or.inr (Or.inr (Or.inr (Or.inr (Or.inr ⟨by omega, rfl, rfl, rfl⟩)))))

end Go.Proofs.Ytlllakjimgomjaa
