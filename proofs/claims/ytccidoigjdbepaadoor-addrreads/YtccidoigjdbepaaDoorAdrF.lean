
/- ipfour.Put where there is too much; law19's alive; the walk of law19.IpfourLong. -/
import Derived.Test.YtccidoigjdbepaaDoorAdrE
namespace Go.Proofs.YtccidoigjdbepaaDoor
open Go.RowKit
set_option maxRecDepth 100000
set_option linter.unusedSimpArgs false
set_option linter.unusedVariables false

theorem Own.blk {w : World} {base n : Nat} {v : Value} {l : List UInt8} (h : Own w base v n l) (hn : 0 < n) : ∃ g cap, v = .slice (some ⟨g, 0, none⟩) n cap ∧ base ≤ g := by
  rcases h.2 with ⟨_, e⟩ | ⟨g', cap, cur, e, h4, _⟩
  · omega
  · exact ⟨g', cap, e, h4⟩
theorem Blk.range0 {w : World} {g : Nat} {t : TypeId} {cs : Array Value} (h : Blk w g t cs) : w.rangeAt g 0 cs.toList := by
  intro j v hv
  rw [h.cellA, Nat.zero_add]
  simpa using hv
theorem grown_below {w w' : World} (h : w.grownBy w' none) : Below w.heap.size w w' := (Below.refl _ _).grown h (Nat.le_refl _) (fun k hk => by cases hk)

/-- So many bytes 0, made: one step of a region that draws its order. -/
theorem step_mk {ops : Array Oper} {o : Oper} {a : Act} {w : World} {K : Act → World → Prop} {Q : Exit → Act → World → Prop} {E : Prop} (hgd : o.guard = none) (s x : Operand)
    (ho : o.op = Op.makeSlice 26 s x) (n : Nat) (L C : Int) (hs : a.eval s = .int .i64 L) (hx : a.eval x = .int .i64 C) (hL : L = (n : Int)) (hC : C = (n : Int)) (h63 : n ≤ 140737488355328)
    (h : ∀ w', Own w' w.heap.size (.slice (some ⟨w.heap.size, 0, none⟩) n n) n (List.replicate n 0) → Below w.heap.size w w' → K (a.put o.dst (.slice (some ⟨w.heap.size, 0, none⟩) n n)) w') :
    if Region.wanted o (yielded ops a.tmps) = true then Oper.wp Tryd.prog o a w K Q else E := by
  have hw : Region.wanted o (yielded ops a.tmps) = true := by simp [Region.wanted, hgd]
  rw [if_pos hw]
  obtain ⟨i, hi, hz, hsz, hby⟩ := info_parts Tryd.infoU8
  obtain ⟨w', hr, ho', hg'⟩ := run_make_full (P := Tryd.prog) w w.heap.size 26 5 i (.int .u8 0) 1 Tryd.underlying26 hi hz hsz .i64 .i64 n (by rw [hby]; omega) (by simp only [maxLen]; omega) (Nat.le_refl _)
  subst hL
  subst hC
  unfold Oper.wp execOp
  simp only [ho, hs, hx, hr, Sem.run_bind, Sem.run_pure, Result.andThen_ok]
  refine h w' ?_ (grown_below hg')
  simp only [Value.cells, Nat.mul_one, toList_madeCells_one] at ho'
  unfold Own
  rw [List.map_replicate]
  exact ho'

def exPkt : List UInt8 := pkt 0 0 0 0 0 0 [10, 0, 0, 1] [10, 0, 0, 2] [7]
theorem exPkt0 : exPkt[0]? = some 69 := by decide +kernel
theorem exPkt20 : exPkt[20]? = some 7 := by decide +kernel

end Go.Proofs.YtccidoigjdbepaaDoor
