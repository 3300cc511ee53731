
/- Equality of prefixes and of endpoints; contract: crawlwayref11.Same. -/
import Derived.Test.YtccidoigjdbepaaDoorOpnR
import Derived.Test.YtccidoigjdbepaaDoorHdE
import Derived.Deep.RegionHeld
namespace Go.Proofs.YtccidoigjdbepaaDoor
open Go.RowKit
set_option maxRecDepth 100000
set_option linter.unusedSimpArgs false
set_option linter.unusedVariables false

/-- Are two prefixes (two endpoints) the same? Two lists? -/
def pfxEq (p q : Pfx) : Bool := (p.v == q.v && p.l == q.l) && p.bits == q.bits
def allEq {α : Type} (f : α → α → Bool) : List α → List α → Bool
  | [], [] => true
  | x :: xs, y :: ys => f x y && allEq f xs ys
  | _, _ => false
theorem allEq_len {α : Type} (f : α → α → Bool) : ∀ (a b : List α), allEq f a b = true → a.length = b.length
  | [], [], _ => rfl
  | x :: xs, y :: ys, h => by
    simp only [allEq, Bool.and_eq_true] at h
    simp [allEq_len f xs ys h.2]
  | [], _ :: _, h => by simp [allEq] at h
  | _ :: _, [], h => by simp [allEq] at h
theorem allEq_iff {α : Type} (f : α → α → Bool) : ∀ (a b : List α), a.length = b.length → (allEq f a b = true ↔ ∀ (j : Nat) (x y : α), a[j]? = some x → b[j]? = some y → f x y = true)
  | [], [], _ => by simp [allEq]
  | x :: xs, y :: ys, hl => by
    simp only [allEq, Bool.and_eq_true]
    rw [allEq_iff f xs ys (by simpa using hl)]
    constructor
    · rintro ⟨h0, h⟩ j u v hu hv
      match j with
      | 0 => simp at hu hv; subst hu; subst hv; exact h0
      | j + 1 => exact h j u v (by simpa using hu) (by simpa using hv)
    · intro h
      exact ⟨h 0 x y rfl rfl, fun j u v hu hv => h (j + 1) u v (by simpa using hu) (by simpa using hv)⟩
  | [], _ :: _, hl => by simp at hl
  | _ :: _, [], hl => by simp at hl
theorem allEq_no {α : Type} (f : α → α → Bool) (a b : List α) (h : ¬ a.length = b.length) : allEq f a b = false := by
  cases hb : allEq f a b
  · rfl
  · exact absurd (allEq_len f a b hb) h
theorem allEq_part {α : Type} (f : α → α → Bool) (a b : List α) (j : Nat) (x y : α) (hx : a[j]? = some x) (hy : b[j]? = some y) (h : f x y = false) : allEq f a b = false := by
  cases hb : allEq f a b
  · rfl
  · have := (allEq_iff f a b (allEq_len f a b hb)).1 hb j x y hx hy
    rw [h] at this
    cases this

theorem adr_eq9 (v v' : Int) (l l' : List UInt8) (hl : l.length = 16) (hl' : l'.length = 16) (w : World) : (Op.equalIn 9999 24 (.agg (adv v l)) (.agg (adv v' l'))).run Tryd.prog w = .ok (v == v' && l == l') w := by
  have hfs : (Tryd.prog.fieldsOf 24).toList = (match Tryd.prog.underlying 24 with | some (.struct fs) => fs.toList | _ => []) := by kernel_rfl
  rw [run_equalIn_struct w 9998 24 _ _ (by kernel_rfl) (by kernel_rfl), hfs, Tryd.underlying24]
  exact eqFields_two 9998 _ _ _ _ _ _ _ _ _ _ (by decide) (by decide) w (adr_v v l w) (adr_v v' l' w) (run_equalIn_int w 9997 3 .i64 .i64 v v' Tryd.underlying3) (adr_b v l hl w) (adr_b v' l' hl' w)
    (run_equalIn_bytes (P := Tryd.prog) w 9996 22 5 16 Tryd.underlying22 Tryd.underlying5 (fun w => by
    have hs := Tryd.sizeU8
    cases hq : Tryd.prog.info? 5 with
    | none => simp [hq] at hs
    | some i => simp [sizeOf, typeInfo, hq] at *; exact hs) l l' hl hl')
theorem pfxC_len (p : Pfx) (h : p.l.length = 16) : (pfxC p).length = 18 := by simp [pfxC, adv, h]
theorem pfx_ext (p : Pfx) (h : p.l.length = 16) : (pfxC p).toArray.extract 0 17 = adv p.v p.l := by
  have hz := adv_size p.v p.l h
  apply Array.ext'
  simp [pfxC, hz]
theorem pfx_bits (p : Pfx) (h : p.l.length = 16) : (pfxC p).toArray[17]? = some (.int .i64 p.bits) := by
  have hz := adv_size p.v p.l h
  have hz' : (adv p.v p.l).toList.length = 17 := by simpa using hz
  simp [pfxC, hz]
theorem pfx_a (p : Pfx) (h : p.l.length = 16) (w : World) : (part 24 (pfxC p).toArray 0).run Tryd.prog w = .ok (.agg (adv p.v p.l)) w := by
  have hi := Tryd.infoAddr
  cases hq : Tryd.prog.info? 24 with
  | none => simp [hq] at hi
  | some i =>
    have hsz : i.size = 17 := by simpa [hq] using hi
    have hx := pfx_ext p h
    generalize (pfxC p).toArray = X at *
    simp [part, isAgg, run_underlying Tryd.underlying24, sizeOf, typeInfo, hq, hsz, hx]
theorem pfx_b (p : Pfx) (h : p.l.length = 16) (w : World) : (part 3 (pfxC p).toArray 17).run Tryd.prog w = .ok (.int .i64 p.bits) w := by
  have := pfx_bits p h
  simp only [List.getElem?_toArray] at this
  simp [part, isAgg, run_underlying Tryd.underlying3, this]

theorem pfx_eq (p q : Pfx) (hp : p.l.length = 16) (hq : q.l.length = 16) (w : World) : (Op.equalIn 10000 45 (.agg (pfxC p).toArray) (.agg (pfxC q).toArray)).run Tryd.prog w = .ok (pfxEq p q) w := by
  have hfs : (Tryd.prog.fieldsOf 45).toList = (match Tryd.prog.underlying 45 with | some (.struct fs) => fs.toList | _ => []) := by kernel_rfl
  rw [run_equalIn_struct w 9999 45 _ _ (by kernel_rfl) (by kernel_rfl), hfs, Tryd.underlying45]
  exact eqFields_two 9999 _ _ _ _ _ _ _ _ _ _ (by decide) (by decide) w (pfx_a p hp w) (pfx_a q hq w) (adr_eq9 p.v q.v p.l q.l hp hq w) (pfx_b p hp w) (pfx_b q hq w) (run_equalIn_int w 9998 3 .i64 .i64 p.bits q.bits Tryd.underlying3)

theorem end_eq (p q : Pfx) (hp : p.l.length = 16) (hq : q.l.length = 16) (w : World) : (Op.equalIn 10000 60 (.agg (pfxC p).toArray) (.agg (pfxC q).toArray)).run Tryd.prog w = .ok (pfxEq p q) w := by
  have hfs : (Tryd.prog.fieldsOf 60).toList = (match Tryd.prog.underlying 60 with | some (.struct fs) => fs.toList | _ => []) := by kernel_rfl
  rw [run_equalIn_struct w 9999 60 _ _ (by kernel_rfl) (by kernel_rfl), hfs, Tryd.underlying60]
  exact eqFields_two 9999 _ _ _ _ _ _ _ _ _ _ (by decide) (by decide) w (pfx_a p hp w) (pfx_a q hq w) (adr_eq9 p.v q.v p.l q.l hp hq w) (pfx_b p hp w) (pfx_b q hq w) (run_equalIn_int w 9998 3 .i64 .i64 p.bits q.bits Tryd.underlying3)

theorem Tryd.plainPfx : Tryd.prog.eqGuardType Tryd.prog.depth 45 = false := by kernel_rfl
theorem Tryd.plainEnd : Tryd.prog.eqGuardType Tryd.prog.depth 60 = false := by kernel_rfl
theorem Tryd.infoPfx : (Tryd.prog.info? 45).map (·.size) = some 18 := by kernel_rfl
theorem Tryd.infoEnd : (Tryd.prog.info? 60).map (·.size) = some 18 := by kernel_rfl

theorem yieldsIf_neq {P : Program} {ops : Array Oper} {S : World → Prop} {op : Oper} {a : Act} {cs ds : Array Value} {b : Bool} (hw : Region.wanted op (yielded ops a.tmps) = true) (ty rt : TypeId) (x y : Operand) (ho : op.op = .binOp .neq ty x y rt)
    (hx : a.eval x = .agg cs) (hy : a.eval y = .agg ds) (hm : P.eqGuardType P.depth ty = false) (he : ∀ w, (Op.equalIn 10000 ty (.agg cs) (.agg ds)).run P w = .ok b w) : YieldsIf P ops S op (.bool (!b)) a :=
  .inl ⟨hw, fun w hw' => by
    unfold execOp
    simp only [ho, hx, hy, Sem.run_bind, run_eqGuard_agg w .neq ty x y _ _ hm, Result.andThen_ok, run_neq_struct, he w, Sem.run_pure]⟩

end Go.Proofs.YtccidoigjdbepaaDoor
