
/- Contracts of layer 30: session.New. -/
import Derived.Test.YtibpbgfliccacaaSesA
import Derived.Deep.RegionHeld
import Derived.Deep.MidRow
namespace Go.Proofs.Ytibpbgfliccacaa
open Go.RowKit
set_option linter.unusedSimpArgs false

/-- What stands ahead of a new session's next number. -/
def preK (kb : List UInt8) (lo re : Int) : List Value := kb.map bv ++ [Value.int .u32 lo, Value.int .u32 re]
/-- A new session's cells. -/
def newC (kb : List UInt8) (lo re : Int) (nx : Nat) : Array Value := ((preK kb lo re ++ [u6 nx]) ++ ((List.replicate 32 0).map u6 ++ [u6 0])).toArray
theorem list32 (l : List UInt8) (h : l.length = 32) : ∃ b0 b1 b2 b3 b4 b5 b6 b7 b8 b9 b10 b11 b12 b13 b14 b15 b16 b17 b18 b19 b20 b21 b22 b23 b24 b25 b26 b27 b28 b29 b30 b31, l = [b0, b1, b2, b3, b4, b5, b6, b7, b8, b9, b10, b11, b12, b13, b14, b15, b16, b17, b18, b19, b20, b21, b22, b23, b24, b25, b26, b27, b28, b29, b30, b31] := by
  match l, h with
  | [b0, b1, b2, b3, b4, b5, b6, b7, b8, b9, b10, b11, b12, b13, b14, b15, b16, b17, b18, b19, b20, b21, b22, b23, b24, b25, b26, b27, b28, b29, b30, b31], _ => exact ⟨b0, b1, b2, b3, b4, b5, b6, b7, b8, b9, b10, b11, b12, b13, b14, b15, b16, b17, b18, b19, b20, b21, b22, b23, b24, b25, b26, b27, b28, b29, b30, b31, rfl⟩
theorem blk_range {w : World} {g : Nat} {t : TypeId} {cs : Array Value} (h : Blk w g t cs) : w.rangeAt g 0 cs.toList := fun j v hv => by
  rw [Nat.zero_add, cell_of_row w g j _ t _ h, ← Array.getElem?_toList]
  exact hv
/-- An operation that builds a value: its outcome is handed in. -/
theorem wpList_build {P : Program} {w : World} {ops : Array Oper} {rest : List Oper} {o : Oper} {a : Act} {Q : Exit → Act → World → Prop} (hgd : o.guard = none) (ty : TypeId) (fs : Array (Nat × Operand)) (_ : o.op = .build ty fs) (v : Value)
    (hr : ∀ w, (execOp a.eval o).run P w = .ok (.value v) w) (h : wpList P ops Q rest (a.put o.dst v) w) : wpList P ops Q (o :: rest) a w :=
  wpList_plain hgd fun _ hK => by
    unfold Oper.wp
    rw [hr w]
    exact hK _ _ h
theorem preK_len (kb : List UInt8) (lo re : Int) (h : kb.length = 32) : (preK kb lo re).length = 34 := by unfold preK; simp [h]
theorem preK_one (kb : List UInt8) (lo re : Int) : ∀ v ∈ preK kb lo re, v.oneCell' = true := by
  intro v hv
  unfold preK at hv
  rcases List.mem_append.1 hv with hv | hv
  · obtain ⟨x, _, rfl⟩ := List.mem_map.1 hv
    rfl
  · simp at hv
    rcases hv with rfl | rfl <;> rfl

set_option maxRecDepth 100000 in
set_option maxHeartbeats 1000000 in
theorem snew_any (kb : List UInt8) (hkb : kb.length = 32) (lo re : Int) (nx : Nat) (w : World) :
    Calls Try.prog 29 #[av kb, .int .u32 lo, .int .u32 re, .int .u64 (nx : Int)] w fun e w' => ∃ g, e = .returned (.pointer (some ⟨g, 0, none⟩)) ∧ w.heap.size ≤ g ∧ Ses w' g (preK kb lo re) nx [] ∧ Below w.heap.size w w' := by
  have k0 : Blk (w.alloc (.cells (kb.map bv).toArray 54)) w.heap.size 54 (kb.map bv).toArray := blk_new _ _ _
  have hb0 : Below w.heap.size w (w.alloc (.cells (kb.map bv).toArray 54)) := (Below.refl _ _).alloc (Nat.le_refl _) _
  have zi : (Try.prog.info? 54).map (·.size) = some (kb.map bv).toArray.size := by simp only [List.size_toArray, List.length_map, hkb]; kernel_rfl
  have HD : Hid (∀ (W : World) (g : Nat), Blk W g 56 (newC kb lo re nx) → Ses W g (preK kb lo re) nx []) := Lib.hid (fun W g h => ⟨preK_len kb lo re hkb, _, rings_nil, h, rfl⟩)
  obtain ⟨b0, b1, b2, b3, b4, b5, b6, b7, b8, b9, b10, b11, b12, b13, b14, b15, b16, b17, b18, b19, b20, b21, b22, b23, b24, b25, b26, b27, b28, b29, b30, b31, e32⟩ := list32 kb hkb
  have HX := Lib.hid (show ([b0, b1, b2, b3, b4, b5, b6, b7, b8, b9, b10, b11, b12, b13, b14, b15, b16, b17, b18, b19, b20, b21, b22, b23, b24, b25, b26, b27, b28, b29, b30, b31].map bv).toArray = (kb.map bv).toArray by rw [e32])
  have HY := Lib.hid (show newC [b0, b1, b2, b3, b4, b5, b6, b7, b8, b9, b10, b11, b12, b13, b14, b15, b16, b17, b18, b19, b20, b21, b22, b23, b24, b25, b26, b27, b28, b29, b30, b31] lo re nx = newC kb lo re nx by rw [e32])
  clear e32 hkb
  generalize newC kb lo re nx = Y at *
  have eav : av kb = .agg (kb.map bv).toArray := rfl
  rw [eav]
  clear eav
  generalize (kb.map bv).toArray = X at *
  go_enter Try.func29, Try.ntmps29
  go_wp2_with fail
  have q0 : Blk (w.alloc (.cells X 54)).drew w.heap.size 54 X := k0
  have qb : Below w.heap.size w (w.alloc (.cells X 54)).drew := hb0.drew
  clear k0 hb0
  refine wp_region_held_drew (S := fun W => Blk W w.heap.size 54 X) (by kernel_rfl) q0 ?_
  intro hS
  generalize hgw : (w.alloc (.cells X 54)).drew = W0 at *
  clear hgw
  refine wpAnyH_take (i := 0) (oi := ?o1) (v := .agg X) ?hio1 (by kernel_rfl) (by kernel_rfl) (by kernel_rfl) ?hQo1 ?hyo1 hS ?_
  case hio1 => (simp only [List.getElem?_toArray, List.getElem?_cons_succ, List.getElem?_cons_zero]; rfl)
  case hQo1 => exact fun _ _ _ h => h
  case hyo1 => exact yieldsIf_load_mid (by rfl) 54 (.tmp 4) rfl w.heap.size 0 rfl X.toList _ (fun W hW => blk_range hW) Try.underlying54 rfl (by simpa using zi)
  try simp only [Act.put, List.setIfInBounds_toArray, List.set_cons_zero, List.set_cons_succ]
  refine wpAnyH_take (i := 1) (oi := ?o2) (v := .int .u32 lo) ?hio2 (by kernel_rfl) (by kernel_rfl) (by kernel_rfl) ?hQo2 ?hyo2 hS ?_
  case hio2 => (simp only [List.getElem?_toArray, List.getElem?_cons_succ, List.getElem?_cons_zero]; rfl)
  case hQo2 => exact fun _ _ _ h => h
  case hyo2 => exact Or.inl ⟨by rfl, fun W hW => by go_simp⟩
  try simp only [Act.put, List.setIfInBounds_toArray, List.set_cons_zero, List.set_cons_succ]
  refine wpAnyH_take (i := 2) (oi := ?o3) (v := .int .u32 re) ?hio3 (by kernel_rfl) (by kernel_rfl) (by kernel_rfl) ?hQo3 ?hyo3 hS ?_
  case hio3 => (simp only [List.getElem?_toArray, List.getElem?_cons_succ, List.getElem?_cons_zero]; rfl)
  case hQo3 => exact fun _ _ _ h => h
  case hyo3 => exact Or.inl ⟨by rfl, fun W hW => by go_simp⟩
  try simp only [Act.put, List.setIfInBounds_toArray, List.set_cons_zero, List.set_cons_succ]
  refine wpAnyH_take (i := 3) (oi := ?o4) (v := .int .u64 (nx : Int)) ?hio4 (by kernel_rfl) (by kernel_rfl) (by kernel_rfl) ?hQo4 ?hyo4 hS ?_
  case hio4 => (simp only [List.getElem?_toArray, List.getElem?_cons_succ, List.getElem?_cons_zero]; rfl)
  case hQo4 => exact fun _ _ _ h => h
  case hyo4 => exact Or.inl ⟨by rfl, fun W hW => by go_simp⟩
  try simp only [Act.put, List.setIfInBounds_toArray, List.set_cons_zero, List.set_cons_succ]
  refine wpAnyH_ready (rs := [4]) (by kernel_rfl) (by simp) ?_
  refine AllReadyH.cons (o := ?o10) ?hoo10 (fun K hK => ?ho10) AllReadyH.nil
  case hoo10 => (simp only [List.getElem?_toArray, List.getElem?_cons_succ, List.getElem?_cons_zero]; rfl)
  case ho10 =>
    go_simp
    go_at_call 22
    with_reducible refine (cnew_any _ _).mono ?_
    rintro e w2 ⟨rfl, hw2⟩
    have HB : Hid (Blk w2 W0.heap.size 47 #[.int .u64 (nx : Int)]) := Lib.hid (by rw [← hw2]; exact blk_new _ _ _)
    have b2 : Below w.heap.size w w2 := by rw [← hw2]; exact qb.alloc qb.size _
    have q2 : Blk w2 w.heap.size 54 X := by rw [← hw2]; exact q0.alloc _
    clear hw2
    refine hK.out _ _ q2 (fun hS2 => ?_)
    clear hK K hS2
    try simp only [Act.put, List.setIfInBounds_toArray, List.set_cons_zero, List.set_cons_succ]
    refine wpAnyH_take (i := 5) (oi := ?o5) (v := .pointer (some ⟨W0.heap.size, 0, none⟩)) ?hio5 (by kernel_rfl) (by kernel_rfl) (by kernel_rfl) ?hQo5 ?hyo5 q2 ?_
    case hio5 => (simp only [List.getElem?_toArray, List.getElem?_cons_succ, List.getElem?_cons_zero]; rfl)
    case hQo5 => exact fun _ _ _ h => h
    case hyo5 => exact Or.inl ⟨by rfl, fun W hW => by go_simp⟩
    try simp only [Act.put, List.setIfInBounds_toArray, List.set_cons_zero, List.set_cons_succ]
    have hc := blk_cell HB.out 0 _ rfl
    clear HB
    refine wpAnyH_ready (rs := [6]) (by kernel_rfl) (by simp) ?_
    refine AllReadyH.cons (o := ?o9) ?hoo9 (fun K hK => ?ho9) AllReadyH.nil
    case hoo9 => (simp only [List.getElem?_toArray, List.getElem?_cons_succ, List.getElem?_cons_zero]; rfl)
    case ho9 =>
      go_simp
      refine hK.out _ _ q2 (fun hS3 => ?_)
      clear hK K hS3 hc
      try simp only [Act.put, List.setIfInBounds_toArray, List.set_cons_zero, List.set_cons_succ]
      refine wpAnyH_take (i := 7) (oi := ?o6) (v := .agg Y) ?hio6 (by kernel_rfl) (by kernel_rfl) (by kernel_rfl) ?hQo6 ?hyo6 q2 ?_
      case hio6 => (simp only [List.getElem?_toArray, List.getElem?_cons_succ, List.getElem?_cons_zero]; rfl)
      case hQo6 => exact fun _ _ _ h => h
      case hyo6 => exact Or.inl ⟨by rfl, fun W _ => by (have e1 := HX.out); (have e2 := HY.out); rw [← e1, ← e2]; change _ = _; kernel_rfl⟩
      try simp only [Act.put, List.setIfInBounds_toArray, List.set_cons_zero, List.set_cons_succ]
      refine wpAnyH_ready (rs := [8]) (by kernel_rfl) (by simp) ?_
      refine AllReadyH.cons (o := ?o8) ?hoo8 (fun K hK => ?ho8) AllReadyH.nil
      case hoo8 => (simp only [List.getElem?_toArray, List.getElem?_cons_succ, List.getElem?_cons_zero]; rfl)
      case ho8 =>
        go_simp
        refine hK.out _ _ (q2.alloc _) (fun hS4 => ?_)
        clear hK K
        try simp only [Act.put, List.setIfInBounds_toArray, List.set_cons_zero, List.set_cons_succ]
        refine wpAnyH_take (i := 9) (oi := ?o7) (v := .pointer (some ⟨w2.heap.size, 0, none⟩)) ?hio7 (by kernel_rfl) (by kernel_rfl) (by kernel_rfl) ?hQo7 ?hyo7 hS4 ?_
        case hio7 => (simp only [List.getElem?_toArray, List.getElem?_cons_succ, List.getElem?_cons_zero]; rfl)
        case hQo7 => exact fun _ _ _ h => h
        case hyo7 => exact Or.inl ⟨by rfl, fun W hW => by go_simp⟩
        try simp only [Act.put, List.setIfInBounds_toArray, List.set_cons_zero, List.set_cons_succ]
        refine wpAnyH_done (by kernel_rfl) ?_ _
        clear hS4 q0 q2 hS
        go_wp2
        go_ret
        exact ⟨_, rfl, b2.size, HD.out _ _ (blk_new _ _ _), b2.alloc b2.size _⟩

end Go.Proofs.Ytibpbgfliccacaa
