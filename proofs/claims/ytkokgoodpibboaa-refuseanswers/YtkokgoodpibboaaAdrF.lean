
/- ipfour.Put where there is too much; law19's alive; the walk of law19.IpfourLong. -/
import Derived.Test.YtkokgoodpibboaaAdrE
namespace Go.Proofs.Ytkokgoodpibboaa
open Go.RowKit
set_option maxRecDepth 100000
set_option linter.unusedSimpArgs false
set_option linter.unusedVariables false

theorem Own.blk {w : World} {base n : Nat} {v : Value} {l : List UInt8} (h : Own w base v n l) (hn : 0 < n) : ∃ g cap, v = .slice (some ⟨g, 0, none⟩) n cap ∧ base ≤ g := by
  rcases h.2 with ⟨_, e⟩ | ⟨g', cap, cur, e, h4, _⟩
  · omega
  · exact ⟨g', cap, e, h4⟩
theorem Blk.range0 {w : World} {g : Nat} {t : TypeId} {cs : Array Value} (h : Blk w g t cs) : w.rangeAt g 0 cs.toList := by
  intro j v hv
  rw [h.cellA, Nat.zero_add]
  simpa using hv
theorem grown_below {w w' : World} (h : w.grownBy w' none) : Below w.heap.size w w' := (Below.refl _ _).grown h (Nat.le_refl _) (fun k hk => by cases hk)

/-- So many bytes 0, made: one step of a region that draws its order. -/
theorem step_mk {ops : Array Oper} {o : Oper} {a : Act} {w : World} {K : Act → World → Prop} {Q : Exit → Act → World → Prop} {E : Prop} (hgd : o.guard = none) (s x : Operand)
    (ho : o.op = Op.makeSlice 43 s x) (n : Nat) (L C : Int) (hs : a.eval s = .int .i64 L) (hx : a.eval x = .int .i64 C) (hL : L = (n : Int)) (hC : C = (n : Int)) (h63 : n ≤ 140737488355328)
    (h : ∀ w', Own w' w.heap.size (.slice (some ⟨w.heap.size, 0, none⟩) n n) n (List.replicate n 0) → Below w.heap.size w w' → K (a.put o.dst (.slice (some ⟨w.heap.size, 0, none⟩) n n)) w') :
    if Region.wanted o (yielded ops a.tmps) = true then Oper.wp Try.prog o a w K Q else E := by
  have hw : Region.wanted o (yielded ops a.tmps) = true := by simp [Region.wanted, hgd]
  rw [if_pos hw]
  obtain ⟨i, hi, hz, hsz, hby⟩ := info_parts Try.infoU8
  obtain ⟨w', hr, ho', hg'⟩ := run_make_full (P := Try.prog) w w.heap.size 43 5 i (.int .u8 0) 1 Try.underlying43 hi hz hsz .i64 .i64 n (by rw [hby]; omega) (by simp only [maxLen]; omega) (Nat.le_refl _)
  subst hL
  subst hC
  unfold Oper.wp execOp
  simp only [ho, hs, hx, hr, Sem.run_bind, Sem.run_pure, Result.andThen_ok]
  refine h w' ?_ (grown_below hg')
  simp only [Value.cells, Nat.mul_one, toList_madeCells_one] at ho'
  unfold Own
  rw [List.map_replicate]
  exact ho'

set_option maxHeartbeats 1000000 in
theorem put_long (V S T : Int) (C I F G L P : Nat) (l l' : List UInt8) (hl : l.length = 16) (hl' : l'.length = 16) (A : Option Addr) (n cb : Nat) (w : World) (hn : 65515 < n)
    (bC : C < 256) (bI : I < 65536) (bF : F < 8) (bG : G < 8192) (bL : L < 256) (bP : P < 256) (hok : okA 4 l = true) (hok' : okA 4 l' = true) :
    Calls Try.prog 24 #[.agg (hdv [V, S, T, C, I, F, G, L, P] (adv 4 l) (adv 4 l')), .slice A n cb] w fun e w' => e = .returned (.tuple #[.slice none 0 0, .int .i64 4]) ∧ Below w.heap.size w w' := by
  have k0 : Blk (w.alloc (.cells (hdv [V, S, T, C, I, F, G, L, P] (adv 4 l) (adv 4 l')) 42)) w.heap.size 42 (hdv [V, S, T, C, I, F, G, L, P] (adv 4 l) (adv 4 l')) := blk_new _ _ _
  have hb0 : Below w.heap.size w (w.alloc (.cells (hdv [V, S, T, C, I, F, G, L, P] (adv 4 l) (adv 4 l')) 42)) := (Below.refl _ _).alloc (Nat.le_refl _) _
  have z0 : (Try.prog.info? 42).map (·.size) = some (hdv [V, S, T, C, I, F, G, L, P] (adv 4 l) (adv 4 l')).size := by rw [hdv_size _ _ _ rfl (adv_size 4 l hl) (adv_size 4 l' hl')]; exact Try.infoHead
  have HF := Lib.hid (fun W => fits_in V S T C I F G L P 4 4 l l' hl hl' W bC bI bF bG bL bP)
  rw [hok, hok'] at HF
  have hni : 65515 < (n : Int) := by omega
  generalize hdv [V, S, T, C, I, F, G, L, P] (adv 4 l) (adv 4 l') = M at *
  clear hok hok' hl hl' bC bI bF bG bL bP
  go_enter Try.func24, Try.ntmps24
  go_wp2_with (first
    | (refine wpList_loadBlk (g := w.heap.size) (t := 42) (cs := M) rfl 42 (.tmp 2) ?ho ?hx ?hA _ Try.underlying42 rfl ?hi ?_
       case ho => with_reducible rfl
       case hx => rfl
       case hA => exact k0
       case hi => exact z0)
    | fail)
  refine (HF.out _).mono ?_
  rintro e w1 ⟨rfl, hb1⟩
  have b1 := Below.on hb0 hb0.size hb1
  clear k0 hb0 hb1
  go_wp2
  go_ret2
  exact ⟨rfl, b1⟩

def exPkt : List UInt8 := pkt 0 0 0 0 0 0 [10, 0, 0, 1] [10, 0, 0, 2] [7]
theorem exPkt0 : exPkt[0]? = some 69 := by decide +kernel
theorem exPkt20 : exPkt[20]? = some 7 := by decide +kernel

set_option maxRecDepth 100000 in
theorem put_ex (w : World) (g : Nat) (hg : w.heap.size = g) :
    Calls Try.prog 24 #[.agg #[.int .i64 0, .int .i64 0, .int .i64 0, .int .i64 0, .int .i64 0, .int .i64 0, .int .i64 0, .int .i64 0, .int .i64 0, .int .i64 4, .int .u8 10, .int .u8 0, .int .u8 0, .int .u8 1, .int .u8 0, .int .u8 0, .int .u8 0, .int .u8 0, .int .u8 0, .int .u8 0, .int .u8 0, .int .u8 0, .int .u8 0, .int .u8 0, .int .u8 0, .int .u8 0, .int .i64 4, .int .u8 10, .int .u8 0, .int .u8 0, .int .u8 2, .int .u8 0, .int .u8 0, .int .u8 0, .int .u8 0, .int .u8 0, .int .u8 0, .int .u8 0, .int .u8 0, .int .u8 0, .int .u8 0, .int .u8 0, .int .u8 0], .slice (some ⟨g, 0, none⟩) 1 1] (w.alloc (.cells #[.int .u8 7] 5)) fun e w' =>
      ∃ x, e = .returned (.tuple #[x, .int .i64 0]) ∧ Own w' w.heap.size x 21 exPkt ∧ Below w.heap.size w w' := by
  subst hg
  have e : (#[.int .i64 0, .int .i64 0, .int .i64 0, .int .i64 0, .int .i64 0, .int .i64 0, .int .i64 0, .int .i64 0, .int .i64 0, .int .i64 4, .int .u8 10, .int .u8 0, .int .u8 0, .int .u8 1, .int .u8 0, .int .u8 0, .int .u8 0, .int .u8 0, .int .u8 0, .int .u8 0, .int .u8 0, .int .u8 0, .int .u8 0, .int .u8 0, .int .u8 0, .int .u8 0, .int .i64 4, .int .u8 10, .int .u8 0, .int .u8 0, .int .u8 2, .int .u8 0, .int .u8 0, .int .u8 0, .int .u8 0, .int .u8 0, .int .u8 0, .int .u8 0, .int .u8 0, .int .u8 0, .int .u8 0, .int .u8 0, .int .u8 0] : Array Value) = hdv [0, 0, 0, ((0 : Nat) : Int), ((0 : Nat) : Int), ((0 : Nat) : Int), ((0 : Nat) : Int), ((0 : Nat) : Int), ((0 : Nat) : Int)] (adv 4 [10, 0, 0, 1, 0, 0, 0, 0, 0, 0, 0, 0, 0, 0, 0, 0]) (adv 4 [10, 0, 0, 2, 0, 0, 0, 0, 0, 0, 0, 0, 0, 0, 0, 0]) := by kernel_rfl
  rw [e]
  have hs : Shows (w.alloc (.cells #[.int .u8 7] 5)) (w.alloc (.cells #[.int .u8 7] 5)).heap.size (some ⟨w.heap.size, 0, none⟩) 1 [7] := shows_new w #[.int .u8 7] [7] rfl
  refine (put_in 0 0 0 0 0 0 0 0 0 _ _ rfl rfl _ 1 1 [7] _ (by omega) hs (by omega) (by omega) (by omega) (by omega) (by omega) (by omega) (by decide +kernel) (by decide +kernel)).mono ?_
  rintro e w1 ⟨x, rfl, ho, hb⟩
  exact ⟨x, rfl, ho.base (by simp), ((Below.refl _ _).alloc (Nat.le_refl _) _).trans (hb.mono (by simp))⟩

set_option maxHeartbeats 4000000 in
set_option maxRecDepth 100000 in
theorem alive19 (w : World) : Calls Try.prog 23 #[] w fun e w' => e = .returned (.bool true) ∧ Below w.heap.size w w' := by
  have HP := Lib.hid (put_ex w w.heap.size rfl)
  go_enter Try.func23, Try.ntmps23
  go_wp2_with fail
  refine HP.out.mono ?_
  rintro e w1 ⟨x, rfl, ho, hb⟩
  obtain ⟨g, cap, rfl, hg⟩ := ho.blk (by omega)
  obtain ⟨x0, c0, l0⟩ := ho.at (j := 0) (by omega)
  obtain ⟨x1, c1, l1⟩ := ho.at (j := 20) (by omega)
  rw [exPkt0] at l0
  rw [exPkt20] at l1
  injection l0 with l0
  injection l1 with l1
  subst l0
  subst l1
  have c0' : w1.cell? ⟨g, 0, none⟩ = some (.int .u8 69) := c0
  have c1' : w1.cell? ⟨g, 20, none⟩ = some (.int .u8 7) := c1
  clear c0 c1 HP ho
  go_wp2
  go_ret
  exact ⟨rfl, hb⟩

end Go.Proofs.Ytkokgoodpibboaa
