
/- Contracts: addr.Right, size, Bytes; bytes.Clone. -/
import Derived.Test.YtccidoigjdbepaaDoorAdrA
import Derived.Lib.BufferMore
import Derived.Deep.MidRow
namespace Go.Proofs.YtccidoigjdbepaaDoor
set_option linter.unusedSimpArgs false
open Go.RowKit
set_option maxRecDepth 100000

theorem bclone_any (A : Addr) (n c : Nat) (l : List UInt8) (w : World) (hn : n ≤ 1000000) (h : Shows w w.heap.size (some A) n l) :
    Calls Tryd.prog 52 #[.slice (some A) n c] w fun e w' => ∃ v, e = .returned v ∧ Own w' w.heap.size v n l ∧ Below w.heap.size w w' := by
  go_enter Tryd.func52, Tryd.ntmps52
  go_wp2_with fail
  rw [Lib.run_eql_slice_some_nil _ _ _ _ Tryd.underlying26]
  simp only [Result.andThen_ok]
  go_wp2_with (first
    | (at_builtin; refine wpList_appAll _ rfl _ _ rfl w.heap.size _ 0 [] rfl (own_lit0 w w.heap.size (Nat.le_refl _)) A n c w.heap.size l rfl (h.alloc (Nat.le_refl _) _) (by omega) (by simp) ?_))
  intro v1 w1 ho1 hg1
  have hb1 : Below w.heap.size w w1 := Below.grown ((Below.refl _ _).alloc (Nat.le_refl _) _) hg1 (by simp) (fun k hk => by simp [Value.ownBlock] at hk; omega)
  clear h hg1
  go_wp2
  go_ret
  exact ⟨_, rfl, by simpa using ho1, hb1⟩

/-- Whether an address may be. -/
def okA (v : Int) (l : List UInt8) : Bool := v == 6 || (v == 4 && l.drop 4 == zb 12)
/-- How many bytes it has. -/
def sizeA (v : Int) (l : List UInt8) : Nat := if okA v l then (if v = 4 then 4 else 16) else 0

theorem Tryd.plainAddr : Tryd.prog.eqGuardType Tryd.prog.depth 24 = false := by kernel_rfl

theorem adv_extract (v : Int) (l : List UInt8) (hl : l.length = 16) : (adv v l).extract 1 17 = (l.map bv).toArray := by
  unfold adv
  rw [List.extract_toArray]
  simp only [List.extract, List.drop_succ_cons, List.drop_zero]
  rw [List.take_of_length_le (by simp [hl])]

theorem eqFields_two {P : Program} (d : Nat) (xs ys : Array Value) (f g : Field) (u v u' v' : Value) (b c : Bool) (hf : ¬ f.name = "_") (hg : ¬ g.name = "_") (w : World)
    (h1 : (part f.type xs f.offset).run P w = .ok u w) (h2 : (part f.type ys f.offset).run P w = .ok v w) (h3 : (Op.equalIn d f.type u v).run P w = .ok b w)
    (k1 : (part g.type xs g.offset).run P w = .ok u' w) (k2 : (part g.type ys g.offset).run P w = .ok v' w) (k3 : (Op.equalIn d g.type u' v').run P w = .ok c w) :
    (Op.eqFields d xs ys [f, g]).run P w = .ok (b && c) w := by
  have e2 : (Op.eqFields d xs ys [g]).run P w = .ok c w := by
    cases c
    · simp only [Op.eqFields, Sem.run_ite, hg, ne_eq, not_false_eq_true, if_true, Sem.run_bind, k1, k2, k3, Result.andThen_ok, Bool.not_false, Sem.run_pure]
    · simp only [Op.eqFields, Sem.run_ite, hg, ne_eq, not_false_eq_true, if_true, Sem.run_bind, k1, k2, k3, Result.andThen_ok, Bool.not_true, Bool.false_eq_true, if_false, Sem.run_pure]
  cases b
  · simp only [Op.eqFields, Sem.run_ite, hf, ne_eq, not_false_eq_true, if_true, Sem.run_bind, h1, h2, h3, Result.andThen_ok, Bool.not_false, Sem.run_pure, Bool.false_and]
  · rw [Op.eqFields]
    simp only [Sem.run_ite, hf, ne_eq, not_false_eq_true, if_true, Sem.run_bind, h1, h2, h3, Result.andThen_ok, Bool.not_true, Bool.false_eq_true, if_false, Bool.true_and]
    exact e2

theorem adr_v (v : Int) (l : List UInt8) (w : World) : (part 3 (adv v l) 0).run Tryd.prog w = .ok (.int .i64 v) w := by simp [part, isAgg, run_underlying Tryd.underlying3, adv_v]
theorem adr_b (v : Int) (l : List UInt8) (hl : l.length = 16) (w : World) : (part 22 (adv v l) 1).run Tryd.prog w = .ok (.agg (l.map bv).toArray) w := by
  have hi : (Tryd.prog.info? 22).map (·.size) = some 16 := by kernel_rfl
  cases hq : Tryd.prog.info? 22 with
  | none => simp [hq] at hi
  | some i =>
    have hsz : i.size = 16 := by simpa [hq] using hi
    simp [part, isAgg, run_underlying Tryd.underlying22, sizeOf, typeInfo, hq, hsz, adv_extract v l hl]
theorem adr_e (l l' : List UInt8) (hl : l.length = 16) (hl' : l'.length = 16) (w : World) : (Op.equalIn 9999 22 (.agg (l.map bv).toArray) (.agg (l'.map bv).toArray)).run Tryd.prog w = .ok (l == l') w :=
  run_equalIn_bytes (P := Tryd.prog) w 9997 22 5 16 Tryd.underlying22 Tryd.underlying5 (fun w => by
    have hs := Tryd.sizeU8
    cases hq : Tryd.prog.info? 5 with
    | none => simp [hq] at hs
    | some i => simp [sizeOf, typeInfo, hq] at *; exact hs) l l' hl hl'

theorem adr_eq (v v' : Int) (l l' : List UInt8) (hl : l.length = 16) (hl' : l'.length = 16) (w : World) : (Op.equalIn 10000 24 (.agg (adv v l)) (.agg (adv v' l'))).run Tryd.prog w = .ok (v == v' && l == l') w := by
  have hfs : (Tryd.prog.fieldsOf 24).toList = (match Tryd.prog.underlying 24 with | some (.struct fs) => fs.toList | _ => []) := by kernel_rfl
  rw [run_equalIn_struct w 9999 24 _ _ (by kernel_rfl) (by kernel_rfl), hfs, Tryd.underlying24]
  exact eqFields_two 9999 _ _ _ _ _ _ _ _ _ _ (by decide) (by decide) w (adr_v v l w) (adr_v v' l' w) (run_equalIn_int w 9998 3 .i64 .i64 v v' Tryd.underlying3) (adr_b v l hl w) (adr_b v' l' hl' w) (adr_e l l' hl hl' w)

theorem qc_loadVar {P : Program} (w : World) (ad : Addr) (ty : TypeId) (kk : IntKind) (v : Value) (hc : w.cell? ad = some v) (hu : P.underlying ty = some (.int kk)) : (loadVar ty ad).run P w = .ok v w := by
  simp [loadVar, run_underlying hu, isAgg, hc]
theorem qc_load {P : Program} {ad : Addr} {v : Value} {o : Oper} {a : Act} {C : World → Prop} {K : Act → Prop} (ty : TypeId) (kk : IntKind) (x : Operand) (ho : o.op = .load ty x) (hx : a.eval x = .pointer (some ad)) (hA : ∀ w, C w → w.cell? ad = some v)
    (hu : P.underlying ty = some (.int kk)) (hk : K (a.put o.dst v)) : o.quiet P a C K :=
  ⟨_, fun w hw => by
    unfold Oper.quietAt execOp
    simp only [ho, hx, Instr.loadAt, Instr.sureAddr, Sem.run_bind, Sem.run_pure, Result.andThen_ok, qc_loadVar w ad ty kk v (hA w hw) hu]
    exact ⟨rfl, rfl⟩, hk⟩
theorem qb_load {P : Program} {g : Nat} {t : TypeId} {cs : Array Value} {o : Oper} {a : Act} {C : World → Prop} {K : Act → Prop} (ty : TypeId) (x : Operand) (ho : o.op = .load ty x) (hx : a.eval x = .pointer (some ⟨g, 0, none⟩)) (hA : ∀ w, C w → Blk w g t cs)
    (d : TypeDesc) (hu : P.underlying ty = some d) (hd : (match d with | .struct _ | .array _ _ => true | _ => false) = true)
    (hi : (P.info? ty).map (·.size) = some cs.size) (hk : K (a.put o.dst (.agg cs))) : o.quiet P a C K :=
  ⟨_, fun w hw => by
    unfold Oper.quietAt execOp
    simp only [ho, hx, Instr.loadAt, Instr.sureAddr, Sem.run_bind, Sem.run_pure, Result.andThen_ok, run_loadVar_row w g t ty cs (0, 0) d (hA w hw) hu hd hi]
    exact ⟨rfl, rfl⟩, hk⟩
theorem qs_arr {P : Program} {o : Oper} {a : Act} {C : World → Prop} {K : Act → Prop} (arr e : TypeId) (x : Operand) (n len c : Nat) (ad : Addr) (ho : o.op = .sliceToArrayPointer arr x) (hx : a.eval x = .slice (some ad) len c)
    (hu : P.underlying arr = some (.array n e)) (hn : n ≤ len) (hk : K (a.put o.dst (.pointer (some ad)))) : o.quiet P a C K :=
  ⟨_, fun w hw => by
    have hn' : ¬ len < n := by omega
    have hr : (Instr.arrayAt arr (.slice (some ad) len c)).run P w = .ok (.pointer (some ad)) w := by
      first
        | simp [Instr.arrayAt, run_underlying hu, hn']
        | simp [Instr.arrayAt, run_underlying hu, hn]
        | (unfold Instr.arrayAt; simp [run_underlying hu, hn', hn])
    unfold Oper.quietAt execOp
    simp only [ho, hx, hr, Sem.run_bind, Sem.run_pure, Result.andThen_ok]
    exact ⟨rfl, rfl⟩, hk⟩
theorem qm_load {P : Program} {g off : Nat} {cs : List Value} {o : Oper} {a : Act} {C : World → Prop} {K : Act → Prop} (ty : TypeId) (x : Operand) (ho : o.op = .load ty x) (hx : a.eval x = .pointer (some ⟨g, off, none⟩)) (hA : ∀ w, C w → w.rangeAt g off cs)
    (d : TypeDesc) (hu : P.underlying ty = some d) (hd : d.isRow = true)
    (hi : (P.info? ty).map (·.size) = some cs.length) (hk : K (a.put o.dst (.agg cs.toArray))) : o.quiet P a C K :=
  ⟨_, fun w hw => by
    unfold Oper.quietAt execOp
    simp only [ho, hx, Instr.loadAt, Instr.sureAddr, Sem.run_bind, Sem.run_pure, Result.andThen_ok, run_loadVar_mid w g off ty cs d (hA w hw) hu hd hi]
    exact ⟨rfl, rfl⟩, hk⟩
theorem qe_eql {P : Program} {o : Oper} {a : Act} {cs ds : Array Value} {b : Bool} {C : World → Prop} {K : Act → Prop} (ty rt : TypeId) (x y : Operand) (ho : o.op = .binOp .eql ty x y rt)
    (hx : a.eval x = .agg cs) (hy : a.eval y = .agg ds) (hm : P.eqGuardType P.depth ty = false) (he : ∀ w, (Op.equalIn 10000 ty (.agg cs) (.agg ds)).run P w = .ok b w)
    (hk : K (a.put o.dst (.bool b))) : o.quiet P a C K :=
  ⟨_, fun w hw => by
    unfold Oper.quietAt execOp
    simp only [ho, hx, hy, Sem.run_bind, run_eqGuard_agg w .eql ty x y _ _ hm, Result.andThen_ok, run_eql_struct, he w, Sem.run_pure]
    exact ⟨rfl, rfl⟩, hk⟩
theorem Blk.advRange {w : World} {g : Nat} {t : TypeId} {v : Int} {l : List UInt8} (h : Blk w g t (adv v l)) (m : Nat) (hm : m ≤ l.length) : w.rangeAt g 1 ((l.take m).map bv) := by
  intro j x hj
  have hs := (h.advShows m hm)
  rw [List.getElem?_map] at hj
  cases hq : (l.take m)[j]? with
  | none => rw [hq] at hj; simp at hj
  | some c =>
    rw [hq] at hj
    simp at hj
    subst hj
    have hc : l[j]? = some c := by
      rw [List.getElem?_take] at hq
      split at hq
      · exact hq
      · simp at hq
    unfold World.cell?
    rw [h]
    simpa using adv_b v l j c hc

theorem okA_ne (v : Int) (l : List UInt8) (hl : l.length = 16) (h : ¬ v = 6) : (v == 4 && l == l.take 4 ++ zb 12) = okA v l := by
  have h6 : (v == 6) = false := by simpa using h
  have e : (l == l.take 4 ++ zb 12) = (l.drop 4 == zb 12) := by
    rw [Bool.eq_iff_iff, beq_iff_eq, beq_iff_eq]
    constructor
    · intro h
      have h2 := congrArg (List.drop 4) h
      rwa [List.drop_left' (by simp; omega)] at h2
    · intro h
      rw [← h]
      exact (List.take_append_drop 4 l).symm
  rw [okA, h6, e, Bool.false_or]

set_option maxHeartbeats 1000000 in
theorem right_any (v : Int) (l : List UInt8) (hl : l.length = 16) (w : World) :
    Calls Tryd.prog 15 #[.agg (adv v l)] w fun e w' => e = .returned (.bool (okA v l)) ∧ Below w.heap.size w w' := by
  have k0 : Blk (w.alloc (.cells (adv v l) 24)) w.heap.size 24 (adv v l) := blk_new _ _ _
  have hb0 : Below w.heap.size w (w.alloc (.cells (adv v l) 24)) := (Below.refl _ _).alloc (Nat.le_refl _) _
  have hz := Adr_size v l hl
  have hl4 : (l.take 4).length = 4 := by simp; omega
  have hle : (l.take 4 ++ zb 12).length = 16 := by simp [hl4, zb]
  have hr : ∀ W : World, Blk W w.heap.size 24 (adv v l) → W.rangeAt w.heap.size 1 ((l.take 4).map bv) := fun W h => h.advRange 4 (by omega)
  have HF := Lib.hid (fun W => four_any (l.take 4) hl4 W)
  have HE := Lib.hid (fun W => adr_eq v 4 l (l.take 4 ++ zb 12) hl hle W)
  have hok : (¬ v = 6) → (v == 4 && l == l.take 4 ++ zb 12) = okA v l := okA_ne v l hl
  generalize hL4 : l.take 4 = l4 at *
  by_cases h6 : v = 6
  · subst h6
    have hO : okA 6 l = true := by simp [okA]
    rw [hO]
    clear HF HE hok
    go_enter Tryd.func15, Tryd.ntmps15
    go_wp2_with fail
    have hup : ∀ W : World, Below (w.alloc (.cells (adv 6 l) 24)).heap.size (w.alloc (.cells (adv 6 l) 24)) W → Below w.heap.size w W := fun W hW => Below.on hb0 hb0.size hW
    generalize w.alloc (.cells (adv 6 l) 24) = w2 at *
    generalize hg1 : w.heap.size = g1 at *
    refine wp_region_below w2.heap.size (by kernel_rfl) (by kernel_rfl) ?_
    repeat (first
      | go_big_quiet_skip
      | (go_big_quiet_want
         first
           | (refine qc_load (ad := ⟨g1, 0, none⟩) (v := .int .i64 6) 3 .i64 (.tmp 3) ?ho ?hx ?hA Tryd.underlying3 ?_
              case ho => with_reducible rfl
              case hx => rfl
              case hA => exact fun w' hw' => (k0.on hw').adv0
              go_big_quiet_on
              simp only [Act.put, List.setIfInBounds_toArray, List.set_cons_succ, List.set_cons_zero])
           | (go_big_quiet_op
              first
                | go_big_quiet_on
                | (with_reducible refine ⟨_, fun _ _ => rfl, ?_⟩; go_big_quiet_on))))
    refine wpQuiet_nil ?_
    intro w3 hw3
    go_wp2
    go_ret
    first
      | exact ⟨rfl, hup _ hw3⟩
      | exact ⟨rfl, by rw [hg1]; exact hup _ hw3⟩
  · have h6' : decide (v = 6) = false := decide_eq_false h6
    have h6'' : (v == 6) = false := by simpa using h6
    rw [← hok h6]
    clear hok
    go_enter Tryd.func15, Tryd.ntmps15
    go_wp2_with fail
    have hup : ∀ W : World, Below (w.alloc (.cells (adv v l) 24)).heap.size (w.alloc (.cells (adv v l) 24)) W → Below w.heap.size w W := fun W hW => Below.on hb0 hb0.size hW
    generalize w.alloc (.cells (adv v l) 24) = w2 at *
    generalize hg1 : w.heap.size = g1 at *
    generalize hB : (v == 4 && l == l4 ++ zb 12) = B at *
    refine wp_region_below w2.heap.size (by kernel_rfl) (by kernel_rfl) ?_
    repeat (first
      | go_big_quiet_skip
      | (go_big_quiet_want
         first
           | (refine qc_load (ad := ⟨g1, 0, none⟩) (v := .int .i64 v) 3 .i64 (.tmp 3) ?ho ?hx ?hA Tryd.underlying3 ?_
              case ho => with_reducible rfl
              case hx => rfl
              case hA => exact fun w' hw' => (k0.on hw').adv0
              go_big_quiet_on
              simp only [Act.put, List.setIfInBounds_toArray, List.set_cons_succ, List.set_cons_zero])
           | (refine qb_load (g := g1) (t := 24) (cs := adv v l) 24 (.tmp 1) ?ho ?hx ?hA _ Tryd.underlying24 rfl hz ?_
              case ho => with_reducible rfl
              case hx => rfl
              case hA => exact fun w' hw' => k0.on hw'
              go_big_quiet_on
              simp only [Act.put, List.setIfInBounds_toArray, List.set_cons_succ, List.set_cons_zero])
           | (refine qs_arr 37 5 (.tmp 9) 4 4 16 ⟨g1, 1, none⟩ ?ho ?hx Tryd.underlying37 (by omega) ?_
              case ho => with_reducible rfl
              case hx => rfl
              go_big_quiet_on
              simp only [Act.put, List.setIfInBounds_toArray, List.set_cons_succ, List.set_cons_zero])
           | (refine qm_load (g := g1) (off := 1) (cs := l4.map bv) 37 (.tmp 10) ?ho ?hx ?hA _ Tryd.underlying37 rfl ?hi ?_
              case ho => with_reducible rfl
              case hx => rfl
              case hA => exact fun w' hw' => hr _ (k0.on hw')
              case hi => rw [List.length_map, hl4]; kernel_rfl
              go_big_quiet_on
              simp only [Act.put, List.setIfInBounds_toArray, List.set_cons_succ, List.set_cons_zero])
           | (refine qe_eql (cs := adv v l) (ds := adv 4 (l4 ++ zb 12)) (b := B) 24 24 (.tmp 7) (.tmp 12) ?ho ?hx ?hy Tryd.plainAddr ?he ?_
              case ho => with_reducible rfl
              case hx => rfl
              case hy => rfl
              case he => exact HE.out
              go_big_quiet_on
              simp only [Act.put, List.setIfInBounds_toArray, List.set_cons_succ, List.set_cons_zero])
           | (go_big_quiet_op
              first
                | go_big_quiet_on
                | (with_reducible refine ⟨_, fun _ _ => rfl, ?_⟩; go_big_quiet_on)
                | (apply Exists.intro
                   refine ⟨fun w' hw' => ?_, ?_⟩
                   · (go_at_call 24; refine (HF.out _).mono ?_; exact fun _ _ h => ⟨h.1, Below.on hw' hw'.size h.2⟩)
                   go_big_quiet_on))))
    refine wpQuiet_nil ?_
    intro w3 hw3
    go_wp2
    go_ret
    first
      | exact ⟨rfl, hup _ hw3⟩
      | exact ⟨rfl, by rw [hg1]; exact hup _ hw3⟩
      | exact ⟨by rw [hB]; rfl, hup _ hw3⟩
      | exact ⟨by rw [hB]; rfl, by rw [hg1]; exact hup _ hw3⟩

end Go.Proofs.YtccidoigjdbepaaDoor
