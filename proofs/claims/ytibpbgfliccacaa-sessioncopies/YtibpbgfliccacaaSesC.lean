
/- Contracts of layer 30: crawlwayref30.Send, Take. -/
import Derived.Test.YtibpbgfliccacaaSesB
import Derived.BigQuiet
import Derived.Laws.AppendOwnNone
import Derived.Deep.QuietTactic
namespace Go.Proofs.Ytibpbgfliccacaa
open Go.RowKit
set_option linter.unusedSimpArgs false

/-- The cells of the document's session. -/
def rsC (pre : List Value) (nx : Nat) (tv : Value) : Array Value := (pre ++ [u6 nx, tv]).toArray
theorem rsC_size (pre : List Value) (nx : Nat) (tv : Value) (h : pre.length = 34) : (rsC pre nx tv).size = 36 := by unfold rsC; simp [h]
theorem rsC_one (pre : List Value) (nx : Nat) (A : Option Addr) (n c : Nat) (h : ∀ v ∈ pre, v.oneCell' = true) : (rsC pre nx (.slice A n c)).all (·.oneCell') = true := by
  unfold rsC
  refine all_oneCell_toArray fun v hv => ?_
  rcases List.mem_append.1 hv with hv | hv
  · exact h v hv
  · simp at hv
    rcases hv with rfl | rfl <;> rfl
theorem rsC_next {w : World} {g nx : Nat} {ty : TypeId} {pre : List Value} {tv : Value} (h : Blk w g ty (rsC pre nx tv)) (hp : pre.length = 34) : w.cell? ⟨g, 34, none⟩ = some (.int .u64 (nx : Int)) := by
  rw [cell_of_row w g 34 _ ty _ h]
  unfold rsC
  rw [List.getElem?_toArray, List.getElem?_append_right (by omega), hp]
  rfl
theorem rsC_tv {w : World} {g nx : Nat} {ty : TypeId} {pre : List Value} {tv : Value} (h : Blk w g ty (rsC pre nx tv)) (hp : pre.length = 34) : w.cell? ⟨g, 35, none⟩ = some tv := by
  rw [cell_of_row w g 35 _ ty _ h]
  unfold rsC
  rw [List.getElem?_toArray, List.getElem?_append_right (by omega), hp]
  rfl
theorem rsC_putNext {w : World} {g nx : Nat} {ty : TypeId} {pre : List Value} {tv : Value} (h : Blk w g ty (rsC pre nx tv)) (hp : pre.length = 34) (m : Nat) : Blk (w.setCell ⟨g, 34, none⟩ (u6 m)) g ty (rsC pre m tv) := by
  have := h.setCell 34 (u6 m)
  unfold rsC at *
  rw [List.setIfInBounds_toArray, List.set_append_right _ _ (by omega), hp] at this
  exact this
theorem rsC_putTv {w : World} {g nx : Nat} {ty : TypeId} {pre : List Value} {tv : Value} (h : Blk w g ty (rsC pre nx tv)) (hp : pre.length = 34) (v : Value) : Blk (w.setCell ⟨g, 35, none⟩ v) g ty (rsC pre nx v) := by
  have := h.setCell 35 v
  unfold rsC at *
  rw [List.setIfInBounds_toArray, List.set_append_right _ _ (by omega), hp] at this
  exact this
/-- A zero one's cells. -/
def zRs : Array Value := (List.replicate 32 (Value.int .u8 0) ++ [Value.int .u32 0, Value.int .u32 0, Value.int .u64 0, Value.slice none 0 0]).toArray
theorem Try.zeroRs : (Try.prog.info? 58).map (fun i => (i.zero, i.size)) = some (some (.agg zRs), 36) := by kernel_rfl
theorem Try.sizeRs : (Try.prog.info? 58).map (·.size) = some 36 := by kernel_rfl
/-- What is handed back lies in a block, and beside it two plain values. -/
theorem bodyPost_blk3 {P : Program} {w : World} {g : Nat} {t : TypeId} {cs : Array Value} {a : Act} {fn : Func} {R : Ending → World → Prop} {p q r : Tmp} {ty : TypeId} (h : fn.results = #[.cell p ty, .tmp q, .tmp r]) (d : TypeDesc) (hp : a.tmps.getD p undef = .pointer (some ⟨g, 0, none⟩)) (hA : Blk w g t cs)
    (hu : P.underlying ty = some d) (hdd : (match d with | .struct _ | .array _ _ => true | _ => false) = true) (hi : (P.info? ty).map (·.size) = some cs.size) (hd : a.defers = []) (hR : R (.returned (.tuple #[.agg cs, a.tmps.getD q undef, a.tmps.getD r undef])) w) : bodyPost P fn R .ret a w := by
  refine bodyPost_ret (v := .tuple #[.agg cs, a.tmps.getD q undef, a.tmps.getD r undef]) ?_ hd hR
  have hp' : a.tmps[p]?.getD undef = .pointer (some ⟨g, 0, none⟩) := by simpa using hp
  simp [results, h, hp', asAddr, run_loadVar_row w g t ty cs (0, 0) d hA hu hdd hi]

/-- Elements appended to a row of the call's own, all of a slice, be it nil. -/
theorem wpList_gappAny {α : Type} (f : α → Value) {P : Program} (w : World) {ops : Array Oper} {rest : List Oper} {o : Oper} {a : Act} {Q : Exit → Act → World → Prop} (hgd : o.guard = none) (s x : Operand)
    (t e : TypeId) (z : Value) (bts : Nat) (ho : o.op = .call { callee := .builtin .append, args := #[s, x], argTypes := #[t, t] })
    (ht : P.underlying t = some (.slice e)) (hinfo : (P.info? e).map (fun i => (i.zero, i.size, i.bytes)) = some (some z, 1, bts)) (hz1 : z.cells.size = 1) (hf1 : ∀ c, (f c).oneCell' = true)
    (base : Nat) (v : Value) (n : Nat) (l : List α) (hs : a.eval s = v) (hown : GOwn f e w base v n l)
    (A : Option Addr) (m c' B : Nat) (k : List α) (hx : a.eval x = .slice A m c') (hc0 : A = none → c' = 0) (hk : Sh f w B A m k)
    (h63 : (n + m) * bts ≤ 140737488355328) (h63' : n + m ≤ 140737488355328) (hbase : base ≤ w.heap.size)
    (h : ∀ v' w', GOwn f e w' base v' (n + m) (l ++ k) → w.grownBy w' v.ownBlock → wpList P ops Q rest (a.put o.dst v') w') : wpList P ops Q (o :: rest) a w := by
  obtain ⟨i, hi, hz, hsz, hby⟩ := info_parts hinfo
  cases A with
  | some ad =>
    refine wpList_append_own w hgd s x t ho base e i z 1 bts ht hi hz hsz hby hz1 (by decide) v n _ hs hown ad m c' (k.map f) hx (by simp [hk.len]) ?_ ?_ (by simp only [maxLen]; omega) h63 hbase ?_
    · intro j u hj
      simp at hj
      obtain ⟨y, hy, rfl⟩ := hj
      obtain ⟨hjl, rfl⟩ := List.getElem?_eq_some_iff.1 hy
      obtain ⟨b, off, e, _, hc⟩ := hk.2 (by have := hk.len; omega)
      injection e with e
      subst e
      rw [Go.WideShapes.add_plain]
      exact hc j hjl
    · intro u hu; simp at hu; obtain ⟨y, _, rfl⟩ := hu; exact hf1 y
    · intro v' w' h2 h3 _
      exact h v' w' (by unfold GOwn; simpa using h2) h3
  | none =>
    have hm : m = 0 := by
      rcases Nat.eq_zero_or_pos m with h0 | h0
      · exact h0
      · obtain ⟨_, _, e, _⟩ := hk.2 h0
        cases e
    subst hm
    obtain rfl : k = [] := List.eq_nil_of_length_eq_zero hk.len
    obtain rfl := hc0 rfl
    exact wpList_append_own_none hgd s x t ho base e i 1 ht hi v n _ hs hown hx (h _ _ (by simpa using hown) ⟨rfl, rfl, rfl, Nat.le_refl _, fun _ _ _ => rfl⟩)
theorem own6_lit0 (w : World) (base : Nat) (hb : base ≤ w.heap.size) : Own6 (w.alloc (.cells #[] 23)) base (.slice (some ⟨w.heap.size, 0, none⟩) 0 0) 0 [] :=
  ⟨rfl, .inr ⟨w.heap.size, 0, #[], rfl, hb, _root_.Go.heap_alloc_new w _, Nat.le_refl _, by simp [maxLen], rfl, rfl⟩⟩

set_option maxRecDepth 100000 in
set_option maxHeartbeats 1000000 in
theorem rsend_spent (pre : List Value) (hp : pre.length = 34) (h1 : ∀ v ∈ pre, v.oneCell' = true) (nx : Nat) (A : Option Addr) (n c : Nat) (w : World) (hn : 18446744073709543423 ≤ nx) :
    Calls Try.prog 39 #[.agg (rsC pre nx (.slice A n c))] w fun e w' => e = .returned (.tuple #[.agg (rsC pre nx (.slice A n c)), .int .u64 0, .int .i64 18]) ∧ Below w.heap.size w w' := by
  have hz := (zero_of_info Try.zeroRs).1
  have hne : ¬ zRs = #[] := by unfold zRs; simp
  have hd : decide ((18446744073709543423 : Int) ≤ (nx : Int)) = true := by simp; omega
  have HN := Lib.hid (fun (W : World) (g : Nat) (h : Blk W g 58 (rsC pre nx (.slice A n c))) => rsC_next h hp)
  have HI : Hid ((Try.prog.info? 58).map (·.size) = some (rsC pre nx (.slice A n c)).size) := Lib.hid (by rw [rsC_size _ _ _ hp]; kernel_rfl)
  have HS : Hid (zRs.size = (rsC pre nx (.slice A n c)).size) := Lib.hid (by rw [rsC_size _ _ _ hp]; rfl)
  have HO := Lib.hid (rsC_one pre nx A n c h1)
  generalize rsC pre nx (.slice A n c) = M at *
  have k0 : Blk ((w.alloc (.cells M 58)).alloc (.cells zRs 58)) w.heap.size 58 M := (blk_new _ _ _).alloc _
  have k1 : Blk ((w.alloc (.cells M 58)).alloc (.cells zRs 58)) (w.heap.size + 1) 58 zRs := blk_new' _ _ _ _ (by simp)
  have hb0 : Below w.heap.size w ((w.alloc (.cells M 58)).alloc (.cells zRs 58)) := ((Below.refl _ _).alloc (Nat.le_refl _) _).alloc (by simp) _
  have hc := HN.out _ _ k0
  clear hn hp h1
  go_enter Try.func39, Try.ntmps39
  go_wp2_with fail
  generalize ((w.alloc (.cells M 58)).alloc (.cells zRs 58)) = W at *
  go_quiet ((go_at_call 23; exact Calls.quiet_of_same ((limit_any _).mono fun _ _ hh => ⟨hh.1, hh.2.symm⟩)))
  have K0 : Blk (W.drewN nq) w.heap.size 58 M := k0
  have K1 : Blk (W.drewN nq) (w.heap.size + 1) 58 zRs := k1
  have KB : Below w.heap.size w (W.drewN nq) := below_draw hb0 nq
  clear k0 k1 hb0 hc
  go_wp2_with (first
    | (refine wpList_loadBlk (g := w.heap.size) (t := 58) (cs := M) rfl 58 (.tmp 1) ?ho ?hx ?hA _ Try.underlying58 rfl ?hi ?_
       case ho => with_reducible rfl
       case hx => rfl
       case hA => exact K0
       case hi => exact HI.out)
    | (refine wpList_storeBlk (g := w.heap.size + 1) (t := 58) (cs := M) rfl 58 (.tmp 2) (.tmp 9) ?ho ?hx2 ?hy2 zRs K1 ?hi ?hs ?h1 ?_
       case ho => with_reducible rfl
       case hx2 => rfl
       case hy2 => rfl
       case hi => exact HI.out
       case hs => exact HS.out
       case h1 => exact HO.out
       intro w5 kb hg5
       have b5 : Below w.heap.size w w5 := KB.grown hg5 KB.size (fun k hk => by injection hk with hk; omega)))
  refine bodyPost_blk3 rfl _ rfl kb Try.underlying58 rfl HI.out rfl ⟨rfl, b5⟩

/-- A whole value, written over a block: one step of a region that draws its order. -/
theorem step_storeBlk {P : Program} {w : World} {g : Nat} {t : TypeId} {cs : Array Value} {o : Oper} {a : Act} {ops : Array Oper} {K : Act → World → Prop} {Q : Exit → Act → World → Prop} {E : Prop} (hgd : o.guard = none) (ty : TypeId) (x y : Operand) (ho : o.op = .store ty x y)
    (hx : a.eval x = .pointer (some ⟨g, 0, none⟩)) (hy : a.eval y = .agg cs) (old : Array Value) (hA : Blk w g t old) (hi : (P.info? ty).map (·.size) = some cs.size)
    (hs : old.size = cs.size) (h1 : cs.all (·.oneCell') = true)
    (h : ∀ w', Blk w' g t cs → w.grownBy w' (some g) → K (a.put o.dst undef) w') : if Region.wanted o (yielded ops a.tmps) = true then Oper.wp P o a w K Q else E := by
  rw [if_pos (by simp [Region.wanted, hgd])]
  exact wp_store_row ty x y ho g cs hx hy t old hA hi hs h1 (by obtain ⟨h2, h3⟩ := setRow_grown w g t old cs hA; exact h _ h2 h3)
theorem blk_range' {w : World} {g : Nat} {t : TypeId} {cs : Array Value} (h : Blk w g t cs) : w.rangeAt g 0 cs.toList := blk_range h

set_option maxRecDepth 100000 in
set_option maxHeartbeats 1000000 in
theorem rsend_ok (pre : List Value) (hp : pre.length = 34) (h1 : ∀ v ∈ pre, v.oneCell' = true) (nx : Nat) (A : Option Addr) (n c : Nat) (w : World) (hn : nx < 18446744073709543423) :
    Calls Try.prog 39 #[.agg (rsC pre nx (.slice A n c))] w fun e w' => e = .returned (.tuple #[.agg (rsC pre (nx + 1) (.slice A n c)), .int .u64 (nx : Int), .int .i64 0]) ∧ Below w.heap.size w w' := by
  have hz := (zero_of_info Try.zeroRs).1
  have hne : ¬ zRs = #[] := by unfold zRs; simp
  have hd : decide ((18446744073709543423 : Int) ≤ (nx : Int)) = false := by simp; omega
  have hw1 : IntKind.u64.wrap ((nx : Int) + 1) = (nx : Int) + 1 := by rw [IntKind.wrap_u64]; omega
  have hw2 : IntKind.u64.wrap ((nx : Int) + 1 - 1) = (nx : Int) := by rw [IntKind.wrap_u64]; omega
  have hw3 : IntKind.u64.wrap (nx : Int) = (nx : Int) := by rw [IntKind.wrap_u64]; omega
  have HN := Lib.hid (fun (W : World) (g : Nat) (h : Blk W g 58 (rsC pre nx (.slice A n c))) => rsC_next h hp)
  have HN2 := Lib.hid (fun (W : World) (g : Nat) (h : Blk W g 58 (rsC pre (nx + 1) (.slice A n c))) => rsC_next h hp)
  have HP := Lib.hid (fun (W : World) (g : Nat) (h : Blk W g 58 (rsC pre nx (.slice A n c))) => rsC_putNext h hp (nx + 1))
  have HI : Hid ((Try.prog.info? 58).map (·.size) = some (rsC pre (nx + 1) (.slice A n c)).size) := Lib.hid (by rw [rsC_size _ _ _ hp]; kernel_rfl)
  have HS : Hid (zRs.size = (rsC pre (nx + 1) (.slice A n c)).size) := Lib.hid (by rw [rsC_size _ _ _ hp]; rfl)
  have HO := Lib.hid (rsC_one pre (nx + 1) A n c h1)
  generalize rsC pre nx (.slice A n c) = M at *
  generalize rsC pre (nx + 1) (.slice A n c) = M2 at *
  have k0 : Blk ((w.alloc (.cells M 58)).alloc (.cells zRs 58)) w.heap.size 58 M := (blk_new _ _ _).alloc _
  have k1 : Blk ((w.alloc (.cells M 58)).alloc (.cells zRs 58)) (w.heap.size + 1) 58 zRs := blk_new' _ _ _ _ (by simp)
  have hb0 : Below w.heap.size w ((w.alloc (.cells M 58)).alloc (.cells zRs 58)) := ((Below.refl _ _).alloc (Nat.le_refl _) _).alloc (by simp) _
  have hc := HN.out _ _ k0
  clear hn hp h1
  go_enter Try.func39, Try.ntmps39
  go_wp2_with fail
  generalize ((w.alloc (.cells M 58)).alloc (.cells zRs 58)) = W at *
  go_quiet ((go_at_call 23; exact Calls.quiet_of_same ((limit_any _).mono fun _ _ hh => ⟨hh.1, hh.2.symm⟩)))
  have K0 : Blk (W.drewN nq) w.heap.size 58 M := k0
  have K1 : Blk (W.drewN nq) (w.heap.size + 1) 58 zRs := k1
  have KB : Below w.heap.size w (W.drewN nq) := below_draw hb0 nq
  have hc2 := HN.out _ _ K0
  have hfz := frozen_of_row _ _ 34 _ _ K0
  have q0 : Blk ((W.drewN nq).setCell ⟨w.heap.size, 34, none⟩ (.int .u64 ((nx : Int) + 1))).drew w.heap.size 58 M2 := HP.out _ _ K0
  have q1 : Blk ((W.drewN nq).setCell ⟨w.heap.size, 34, none⟩ (.int .u64 ((nx : Int) + 1))).drew (w.heap.size + 1) 58 zRs := K1.other _ _ (by simp)
  have qb : Below w.heap.size w ((W.drewN nq).setCell ⟨w.heap.size, 34, none⟩ (.int .u64 ((nx : Int) + 1))).drew := (KB.setCell (Nat.le_refl _) _).drew
  clear k0 k1 hb0 hc K0 K1 KB HN HP
  generalize W.drewN nq = W1 at *
  go_wp2_with fail
  refine wp_region_held_drew (S := fun V => Blk V w.heap.size 58 M2) (by kernel_rfl) q0 ?_
  intro hS
  clear hc2 hfz
  generalize (W1.setCell ⟨w.heap.size, 34, none⟩ (.int .u64 ((nx : Int) + 1))).drew = W2 at *
  refine wpAnyH_take (i := 0) (oi := ?o1) (v := .agg M2) ?hio1 (by kernel_rfl) (by kernel_rfl) (by kernel_rfl) ?hQo1 ?hyo1 hS ?_
  case hio1 => (simp only [List.getElem?_toArray, List.getElem?_cons_succ, List.getElem?_cons_zero]; rfl)
  case hQo1 => exact fun _ _ _ h => h
  case hyo1 => exact yieldsIf_load_mid (by rfl) 58 (.tmp 1) rfl w.heap.size 0 rfl M2.toList _ (fun W hW => blk_range hW) Try.underlying58 rfl (by simpa using HI.out)
  try simp only [Act.put, List.setIfInBounds_toArray, List.set_cons_zero, List.set_cons_succ]
  refine wpAnyH_take (i := 1) (oi := ?o2) (v := .pointer (some ⟨w.heap.size, 34, none⟩)) ?hio2 (by kernel_rfl) (by kernel_rfl) (by kernel_rfl) ?hQo2 ?hyo2 hS ?_
  case hio2 => (simp only [List.getElem?_toArray, List.getElem?_cons_succ, List.getElem?_cons_zero]; rfl)
  case hQo2 => exact fun _ _ _ h => h
  case hyo2 => exact Or.inl ⟨by rfl, fun W hW => by go_simp⟩
  try simp only [Act.put, List.setIfInBounds_toArray, List.set_cons_zero, List.set_cons_succ]
  refine wpAnyH_take (i := 2) (oi := ?o3) (v := .int .u64 ((nx : Int) + 1)) ?hio3 (by kernel_rfl) (by kernel_rfl) (by kernel_rfl) ?hQo3 ?hyo3 hS ?_
  case hio3 => (simp only [List.getElem?_toArray, List.getElem?_cons_succ, List.getElem?_cons_zero]; rfl)
  case hQo3 => exact fun _ _ _ h => h
  case hyo3 =>
    refine Or.inl ⟨by rfl, ?_⟩
    intro W hW
    have hcW : W.cell? ⟨w.heap.size, 34, none⟩ = some (.int .u64 ((nx : Int) + 1)) := by have := HN2.out _ _ hW; simpa using this
    go_simp
  try simp only [Act.put, List.setIfInBounds_toArray, List.set_cons_zero, List.set_cons_succ]
  refine wpAnyH_take (i := 3) (oi := ?o4) (v := .int .u64 (nx : Int)) ?hio4 (by kernel_rfl) (by kernel_rfl) (by kernel_rfl) ?hQo4 ?hyo4 hS ?_
  case hio4 => (simp only [List.getElem?_toArray, List.getElem?_cons_succ, List.getElem?_cons_zero]; rfl)
  case hQo4 => exact fun _ _ _ h => h
  case hyo4 => exact Or.inl ⟨by rfl, fun W hW => by go_simp⟩
  try simp only [Act.put, List.setIfInBounds_toArray, List.set_cons_zero, List.set_cons_succ]
  refine wpAnyH_ready (rs := [4]) (by kernel_rfl) (by simp) ?_
  refine AllReadyH.cons (o := ?o7) ?hoo7 (fun K hK => ?ho7) AllReadyH.nil
  case hoo7 => (simp only [List.getElem?_toArray, List.getElem?_cons_succ, List.getElem?_cons_zero]; rfl)
  case ho7 =>
    refine step_storeBlk (g := w.heap.size + 1) (t := 58) (cs := M2) rfl 58 (.tmp 2) (.tmp 14) rfl rfl rfl zRs q1 HI.out HS.out HO.out ?_
    intro w5 kb hg5
    have b5 : Below w.heap.size w w5 := qb.grown hg5 qb.size (fun k hk => by injection hk with hk; omega)
    have q5 : Blk w5 w.heap.size 58 M2 := (hg5.block _ q0.lt (fun e => by injection e with e; omega)).trans q0
    refine hK.out _ _ q5 (fun hS5 => ?_)
    clear hK K q0 q1 qb hS q5
    try simp only [Act.put, List.setIfInBounds_toArray, List.set_cons_zero, List.set_cons_succ]
    refine wpAnyH_take (i := 5) (oi := ?o5) (v := .int .u64 (nx : Int)) ?hio5 (by kernel_rfl) (by kernel_rfl) (by kernel_rfl) ?hQo5 ?hyo5 hS5 ?_
    case hio5 => (simp only [List.getElem?_toArray, List.getElem?_cons_succ, List.getElem?_cons_zero]; rfl)
    case hQo5 => exact fun _ _ _ h => h
    case hyo5 => exact Or.inl ⟨by rfl, fun W hW => by go_simp⟩
    try simp only [Act.put, List.setIfInBounds_toArray, List.set_cons_zero, List.set_cons_succ]
    refine wpAnyH_take (i := 6) (oi := ?o6) (v := .int .i64 0) ?hio6 (by kernel_rfl) (by kernel_rfl) (by kernel_rfl) ?hQo6 ?hyo6 hS5 ?_
    case hio6 => (simp only [List.getElem?_toArray, List.getElem?_cons_succ, List.getElem?_cons_zero]; rfl)
    case hQo6 => exact fun _ _ _ h => h
    case hyo6 => exact Or.inl ⟨by rfl, fun W hW => by go_simp⟩
    try simp only [Act.put, List.setIfInBounds_toArray, List.set_cons_zero, List.set_cons_succ]
    refine wpAnyH_done (by kernel_rfl) ?_ _
    clear hS5
    go_wp2
    refine bodyPost_blk3 rfl _ rfl kb Try.underlying58 rfl HI.out rfl ⟨rfl, b5⟩

end Go.Proofs.Ytibpbgfliccacaa
