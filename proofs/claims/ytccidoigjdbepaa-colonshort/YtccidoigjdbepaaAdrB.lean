
/- Contracts: addr.Right, size, Bytes; bytes.Clone. -/
import Derived.Test.YtccidoigjdbepaaAdrA
import Derived.Lib.BufferMore
import Derived.Deep.MidRow
namespace Go.Proofs.Ytccidoigjdbepaa
set_option linter.unusedSimpArgs false
open Go.RowKit
set_option maxRecDepth 100000

/-- Whether an address may be. -/
def okA (v : Int) (l : List UInt8) : Bool := v == 6 || (v == 4 && l.drop 4 == zb 12)
/-- How many bytes it has. -/
def sizeA (v : Int) (l : List UInt8) : Nat := if okA v l then (if v = 4 then 4 else 16) else 0

theorem adv_extract (v : Int) (l : List UInt8) (hl : l.length = 16) : (adv v l).extract 1 17 = (l.map bv).toArray := by
  unfold adv
  rw [List.extract_toArray]
  simp only [List.extract, List.drop_succ_cons, List.drop_zero]
  rw [List.take_of_length_le (by simp [hl])]

theorem eqFields_two {P : Program} (d : Nat) (xs ys : Array Value) (f g : Field) (u v u' v' : Value) (b c : Bool) (hf : ¬ f.name = "_") (hg : ¬ g.name = "_") (w : World)
    (h1 : (part f.type xs f.offset).run P w = .ok u w) (h2 : (part f.type ys f.offset).run P w = .ok v w) (h3 : (Op.equalIn d f.type u v).run P w = .ok b w)
    (k1 : (part g.type xs g.offset).run P w = .ok u' w) (k2 : (part g.type ys g.offset).run P w = .ok v' w) (k3 : (Op.equalIn d g.type u' v').run P w = .ok c w) :
    (Op.eqFields d xs ys [f, g]).run P w = .ok (b && c) w := by
  have e2 : (Op.eqFields d xs ys [g]).run P w = .ok c w := by
    cases c
    · simp only [Op.eqFields, Sem.run_ite, hg, ne_eq, not_false_eq_true, if_true, Sem.run_bind, k1, k2, k3, Result.andThen_ok, Bool.not_false, Sem.run_pure]
    · simp only [Op.eqFields, Sem.run_ite, hg, ne_eq, not_false_eq_true, if_true, Sem.run_bind, k1, k2, k3, Result.andThen_ok, Bool.not_true, Bool.false_eq_true, if_false, Sem.run_pure]
  cases b
  · simp only [Op.eqFields, Sem.run_ite, hf, ne_eq, not_false_eq_true, if_true, Sem.run_bind, h1, h2, h3, Result.andThen_ok, Bool.not_false, Sem.run_pure, Bool.false_and]
  · rw [Op.eqFields]
    simp only [Sem.run_ite, hf, ne_eq, not_false_eq_true, if_true, Sem.run_bind, h1, h2, h3, Result.andThen_ok, Bool.not_true, Bool.false_eq_true, if_false, Bool.true_and]
    exact e2

theorem adr_v (v : Int) (l : List UInt8) (w : World) : (part 3 (adv v l) 0).run Try.prog w = .ok (.int .i64 v) w := by simp [part, isAgg, run_underlying Try.underlying3, adv_v]
theorem adr_b (v : Int) (l : List UInt8) (hl : l.length = 16) (w : World) : (part 22 (adv v l) 1).run Try.prog w = .ok (.agg (l.map bv).toArray) w := by
  have hi : (Try.prog.info? 22).map (·.size) = some 16 := by kernel_rfl
  cases hq : Try.prog.info? 22 with
  | none => simp [hq] at hi
  | some i =>
    have hsz : i.size = 16 := by simpa [hq] using hi
    simp [part, isAgg, run_underlying Try.underlying22, sizeOf, typeInfo, hq, hsz, adv_extract v l hl]
theorem adr_e (l l' : List UInt8) (hl : l.length = 16) (hl' : l'.length = 16) (w : World) : (Op.equalIn 9999 22 (.agg (l.map bv).toArray) (.agg (l'.map bv).toArray)).run Try.prog w = .ok (l == l') w :=
  run_equalIn_bytes (P := Try.prog) w 9997 22 5 16 Try.underlying22 Try.underlying5 (fun w => by
    have hs := Try.sizeU8
    cases hq : Try.prog.info? 5 with
    | none => simp [hq] at hs
    | some i => simp [sizeOf, typeInfo, hq] at *; exact hs) l l' hl hl'

theorem qc_loadVar {P : Program} (w : World) (ad : Addr) (ty : TypeId) (kk : IntKind) (v : Value) (hc : w.cell? ad = some v) (hu : P.underlying ty = some (.int kk)) : (loadVar ty ad).run P w = .ok v w := by
  simp [loadVar, run_underlying hu, isAgg, hc]
theorem qc_load {P : Program} {ad : Addr} {v : Value} {o : Oper} {a : Act} {C : World → Prop} {K : Act → Prop} (ty : TypeId) (kk : IntKind) (x : Operand) (ho : o.op = .load ty x) (hx : a.eval x = .pointer (some ad)) (hA : ∀ w, C w → w.cell? ad = some v)
    (hu : P.underlying ty = some (.int kk)) (hk : K (a.put o.dst v)) : o.quiet P a C K :=
  ⟨_, fun w hw => by
    unfold Oper.quietAt execOp
    simp only [ho, hx, Instr.loadAt, Instr.sureAddr, Sem.run_bind, Sem.run_pure, Result.andThen_ok, qc_loadVar w ad ty kk v (hA w hw) hu]
    exact ⟨rfl, rfl⟩, hk⟩
theorem qb_load {P : Program} {g : Nat} {t : TypeId} {cs : Array Value} {o : Oper} {a : Act} {C : World → Prop} {K : Act → Prop} (ty : TypeId) (x : Operand) (ho : o.op = .load ty x) (hx : a.eval x = .pointer (some ⟨g, 0, none⟩)) (hA : ∀ w, C w → Blk w g t cs)
    (d : TypeDesc) (hu : P.underlying ty = some d) (hd : (match d with | .struct _ | .array _ _ => true | _ => false) = true)
    (hi : (P.info? ty).map (·.size) = some cs.size) (hk : K (a.put o.dst (.agg cs))) : o.quiet P a C K :=
  ⟨_, fun w hw => by
    unfold Oper.quietAt execOp
    simp only [ho, hx, Instr.loadAt, Instr.sureAddr, Sem.run_bind, Sem.run_pure, Result.andThen_ok, run_loadVar_row w g t ty cs (0, 0) d (hA w hw) hu hd hi]
    exact ⟨rfl, rfl⟩, hk⟩
theorem qs_arr {P : Program} {o : Oper} {a : Act} {C : World → Prop} {K : Act → Prop} (arr e : TypeId) (x : Operand) (n len c : Nat) (ad : Addr) (ho : o.op = .sliceToArrayPointer arr x) (hx : a.eval x = .slice (some ad) len c)
    (hu : P.underlying arr = some (.array n e)) (hn : n ≤ len) (hk : K (a.put o.dst (.pointer (some ad)))) : o.quiet P a C K :=
  ⟨_, fun w hw => by
    have hn' : ¬ len < n := by omega
    have hr : (Instr.arrayAt arr (.slice (some ad) len c)).run P w = .ok (.pointer (some ad)) w := by
      first
        | simp [Instr.arrayAt, run_underlying hu, hn']
        | simp [Instr.arrayAt, run_underlying hu, hn]
        | (unfold Instr.arrayAt; simp [run_underlying hu, hn', hn])
    unfold Oper.quietAt execOp
    simp only [ho, hx, hr, Sem.run_bind, Sem.run_pure, Result.andThen_ok]
    exact ⟨rfl, rfl⟩, hk⟩
theorem qm_load {P : Program} {g off : Nat} {cs : List Value} {o : Oper} {a : Act} {C : World → Prop} {K : Act → Prop} (ty : TypeId) (x : Operand) (ho : o.op = .load ty x) (hx : a.eval x = .pointer (some ⟨g, off, none⟩)) (hA : ∀ w, C w → w.rangeAt g off cs)
    (d : TypeDesc) (hu : P.underlying ty = some d) (hd : d.isRow = true)
    (hi : (P.info? ty).map (·.size) = some cs.length) (hk : K (a.put o.dst (.agg cs.toArray))) : o.quiet P a C K :=
  ⟨_, fun w hw => by
    unfold Oper.quietAt execOp
    simp only [ho, hx, Instr.loadAt, Instr.sureAddr, Sem.run_bind, Sem.run_pure, Result.andThen_ok, run_loadVar_mid w g off ty cs d (hA w hw) hu hd hi]
    exact ⟨rfl, rfl⟩, hk⟩
theorem qe_eql {P : Program} {o : Oper} {a : Act} {cs ds : Array Value} {b : Bool} {C : World → Prop} {K : Act → Prop} (ty rt : TypeId) (x y : Operand) (ho : o.op = .binOp .eql ty x y rt)
    (hx : a.eval x = .agg cs) (hy : a.eval y = .agg ds) (hm : P.eqGuardType P.depth ty = false) (he : ∀ w, (Op.equalIn 10000 ty (.agg cs) (.agg ds)).run P w = .ok b w)
    (hk : K (a.put o.dst (.bool b))) : o.quiet P a C K :=
  ⟨_, fun w hw => by
    unfold Oper.quietAt execOp
    simp only [ho, hx, hy, Sem.run_bind, run_eqGuard_agg w .eql ty x y _ _ hm, Result.andThen_ok, run_eql_struct, he w, Sem.run_pure]
    exact ⟨rfl, rfl⟩, hk⟩
theorem Blk.advRange {w : World} {g : Nat} {t : TypeId} {v : Int} {l : List UInt8} (h : Blk w g t (adv v l)) (m : Nat) (hm : m ≤ l.length) : w.rangeAt g 1 ((l.take m).map bv) := by
  intro j x hj
  have hs := (h.advShows m hm)
  rw [List.getElem?_map] at hj
  cases hq : (l.take m)[j]? with
  | none => rw [hq] at hj; simp at hj
  | some c =>
    rw [hq] at hj
    simp at hj
    subst hj
    have hc : l[j]? = some c := by
      rw [List.getElem?_take] at hq
      split at hq
      · exact hq
      · simp at hq
    unfold World.cell?
    rw [h]
    simpa using adv_b v l j c hc

theorem okA_ne (v : Int) (l : List UInt8) (hl : l.length = 16) (h : ¬ v = 6) : (v == 4 && l == l.take 4 ++ zb 12) = okA v l := by
  have h6 : (v == 6) = false := by simpa using h
  have e : (l == l.take 4 ++ zb 12) = (l.drop 4 == zb 12) := by
    rw [Bool.eq_iff_iff, beq_iff_eq, beq_iff_eq]
    constructor
    · intro h
      have h2 := congrArg (List.drop 4) h
      rwa [List.drop_left' (by simp; omega)] at h2
    · intro h
      rw [← h]
      exact (List.take_append_drop 4 l).symm
  rw [okA, h6, e, Bool.false_or]

end Go.Proofs.Ytccidoigjdbepaa
