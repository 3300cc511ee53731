
/- Contracts of layer 2: law02.step at bytes and zeros, over what its callees do. -/
import Derived.Test.YtlppjndkflfgaaaTkrE
import Derived.Deep.RegionHeld
namespace Go.Proofs.Ytlppjndkflfgaaa
open Go.RowKit
set_option linter.unusedSimpArgs false
set_option linter.unusedVariables false

set_option maxHeartbeats 1000000 in
theorem step_zeros (g : Nat) (A1 : Option Addr) (n1 c1 : Nat) (f1 : Int) (l1 : List UInt8) (A2 : Option Addr) (n2 c2 : Nat) (f2 : Int) (l2 : List UInt8) (A : Option Addr) (n c at_ : Nat) (f kd m : Int) (cs : Array Value) (w : World) (hk : Tk w g A1 n1 c1 f1 l1) (hcs : cs.size = 3) (hc1 : cs.all (·.oneCell') = true) (hn0 : ¬ kd = 0) (hn1 : ¬ kd = 1) (hn2 : ¬ kd = 2) (V : Bool)
    (HR : ∀ W, Below w.heap.size w W → Calls Try.prog 24 #[.agg (stC A n c at_ f), .int .i64 m] W fun e w' => e = .returned (.tuple #[.agg cs, .bool V]) ∧ Below W.heap.size W w')
    (HT : ∀ W, Tk W g A1 n1 c1 f1 l1 → Calls Try.prog 13 #[.pointer (some ⟨g, 0, none⟩), .int .i64 m] W fun e w' => e = .returned (.bool V) ∧ Tk w' g A2 n2 c2 f2 l2 ∧ W.grownBy w' (some g)) :
    Calls Try.prog 15 #[.pointer (some ⟨g, 0, none⟩), .agg (stC A n c at_ f), .agg #[.int .i64 kd, .int .i64 m]] w fun e w' => e = .returned (.tuple #[.agg cs, .bool true]) ∧ Tk w' g A2 n2 c2 f2 l2 ∧ w.grownBy w' (some g) := by
  have hgl := hk.lt
  generalize hs0 : stC A n c at_ f = s0 at *
  have k0 : Blk (((w.alloc (.cells s0 43)).alloc (.cells #[.int .i64 kd, .int .i64 m] 35)).alloc (.cells #[.slice none 0 0, .int .i64 0, .int .i64 0] 43)) w.heap.size 43 s0 := ((blk_new _ _ _).alloc _).alloc _
  have kc : Blk (((w.alloc (.cells s0 43)).alloc (.cells #[.int .i64 kd, .int .i64 m] 35)).alloc (.cells #[.slice none 0 0, .int .i64 0, .int .i64 0] 43)) (w.heap.size + 1) 35 #[.int .i64 kd, .int .i64 m] := (blk_new' _ _ _ _ (by simp)).alloc _
  have k6 : Blk (((w.alloc (.cells s0 43)).alloc (.cells #[.int .i64 kd, .int .i64 m] 35)).alloc (.cells #[.slice none 0 0, .int .i64 0, .int .i64 0] 43)) (w.heap.size + 2) 43 #[.slice none 0 0, .int .i64 0, .int .i64 0] := blk_new' _ _ _ _ (by simp)
  have b0 : Below w.heap.size w (((w.alloc (.cells s0 43)).alloc (.cells #[.int .i64 kd, .int .i64 m] 35)).alloc (.cells #[.slice none 0 0, .int .i64 0, .int .i64 0] 43)) := (((Below.refl _ _).alloc (Nat.le_refl _) _).alloc (by simp) _).alloc (by simp; omega) _
  have t0 := hk.on b0
  have HC := Lib.hid (HR _ b0)
  have HI : Hid ((Try.prog.info? 43).map (·.size) = some cs.size) := Lib.hid (by rw [hcs]; exact Try.sizeSt)
  have HS3 := Lib.hid hcs
  have HO := Lib.hid hc1
  have d0 := blk_cell2 kc 0 _ rfl
  have d1 := blk_cell2 kc 1 _ rfl
  have e0 : (kd == 0) = false := by simpa using hn0
  have e1 : (kd == 1) = false := by simpa using hn1
  have e2 : (kd == 2) = false := by simpa using hn2
  clear HR
  go_enter Try.func15, Try.ntmps15
  go_wp2_with (first
  | (refine wpList_loadBlk (g := w.heap.size) (t := 43) (cs := s0) rfl 43 (.tmp 4) ?ho ?hx ?hA _ Try.underlying43 rfl ?hi ?_
     case ho => with_reducible rfl
     case hx => rfl
     case hA => exact k0
     case hi => rw [← hs0]; exact Try.sizeSt))
  generalize (((w.alloc (.cells s0 43)).alloc (.cells #[.int .i64 kd, .int .i64 m] 35)).alloc (.cells #[.slice none 0 0, .int .i64 0, .int .i64 0] 43)) = W at *
  refine HC.out.mono ?_
  rintro e w1 ⟨rfl, hb1⟩
  have b1 := Below.on b0 b0.size hb1
  have a2 : Below w1.heap.size w1 (w1.alloc (.cells cs 43)) := (Below.refl _ _).alloc (Nat.le_refl _) _
  have k8 : Blk (w1.alloc (.cells cs 43)) w1.heap.size 43 cs := blk_new _ _ _
  have k6' := (k6.on hb1).on a2
  have kc' := (kc.on hb1).on a2
  have t1 := (t0.on hb1).on a2
  have b2 := Below.on b1 b1.size a2
  have hl6 := (k6.on hb1).lt
  clear k0 kc k6 t0 HC hb1 a2 b1 b0 d0 d1
  go_wp2_with (first
  | (refine wpList_allocStore (cs := cs) rfl rfl 43 ?ho (.tmp 13) (.tmp 70) ?ho2 Try.zeroSt ?hz ?hx ?hy ?hn ?h1 ?_
     case ho => with_reducible rfl
     case ho2 => rfl
     case hz => rfl
     case hx => rfl
     case hy => rfl
     case hn => exact HS3.out
     case h1 => exact HO.out))
  have k8 : Blk (w1.alloc (.cells cs 43)).drew w1.heap.size 43 cs := k8
  have k6' : Blk (w1.alloc (.cells cs 43)).drew (w.heap.size + 2) 43 #[.slice none 0 0, .int .i64 0, .int .i64 0] := k6'
  have kc' : Blk (w1.alloc (.cells cs 43)).drew (w.heap.size + 1) 35 #[.int .i64 kd, .int .i64 m] := kc'
  have t1 : Tk (w1.alloc (.cells cs 43)).drew g A1 n1 c1 f1 l1 := t1
  have b2 := b2.drew
  refine wp_region_held_drew (S := fun V => Blk V w1.heap.size 43 cs ∧ Blk V (w.heap.size + 1) 35 #[.int .i64 kd, .int .i64 m]) (by kernel_rfl) ⟨k8, kc'⟩ ?_
  intro hS
  generalize (w1.alloc (.cells cs 43)).drew = W2 at *
  generalize w1.heap.size = g8 at *
  refine wpAnyH_take (i := 0) (oi := ?o1) (v := .agg cs) ?hio1 (by kernel_rfl) (by kernel_rfl) (by kernel_rfl) ?hQo1 ?hyo1 hS ?_
  case hio1 => (simp only [List.getElem?_toArray, List.getElem?_cons_succ, List.getElem?_cons_zero]; rfl)
  case hQo1 => exact fun _ _ _ h => h
  case hyo1 => exact yieldsIf_load_mid (by rfl) 43 (.tmp 13) rfl g8 0 rfl cs.toList _ (fun W hW => blkr hW.1) Try.underlying43 rfl (by simpa using HI.out)
  try simp only [Act.put, List.setIfInBounds_toArray, List.set_cons_zero, List.set_cons_succ]
  refine wpAnyH_take (i := 1) (oi := ?o2) (v := .pointer (some ⟨g, 0, none⟩)) ?hio2 (by kernel_rfl) (by kernel_rfl) (by kernel_rfl) ?hQo2 ?hyo2 hS ?_
  case hio2 => (simp only [List.getElem?_toArray, List.getElem?_cons_succ, List.getElem?_cons_zero]; rfl)
  case hQo2 => exact fun _ _ _ h => h
  case hyo2 => exact Or.inl ⟨by rfl, fun W hW => by go_simp⟩
  try simp only [Act.put, List.setIfInBounds_toArray, List.set_cons_zero, List.set_cons_succ]
  refine wpAnyH_take (i := 2) (oi := ?o3) (v := .pointer (some ⟨w.heap.size + 1, 1, none⟩)) ?hio3 (by kernel_rfl) (by kernel_rfl) (by kernel_rfl) ?hQo3 ?hyo3 hS ?_
  case hio3 => (simp only [List.getElem?_toArray, List.getElem?_cons_succ, List.getElem?_cons_zero]; rfl)
  case hQo3 => exact fun _ _ _ h => h
  case hyo3 => exact Or.inl ⟨by rfl, fun W hW => by go_simp⟩
  try simp only [Act.put, List.setIfInBounds_toArray, List.set_cons_zero, List.set_cons_succ]
  refine wpAnyH_take (i := 3) (oi := ?o4) (v := .int .i64 m) ?hio4 (by kernel_rfl) (by kernel_rfl) (by kernel_rfl) ?hQo4 ?hyo4 hS ?_
  case hio4 => (simp only [List.getElem?_toArray, List.getElem?_cons_succ, List.getElem?_cons_zero]; rfl)
  case hQo4 => exact fun _ _ _ h => h
  case hyo4 =>
    refine Or.inl ⟨by rfl, ?_⟩
    intro W hW
    have hcW := blk_cell2 hW.2 1 _ rfl
    go_simp
  try simp only [Act.put, List.setIfInBounds_toArray, List.set_cons_zero, List.set_cons_succ]
  refine wpAnyH_take (i := 5) (oi := ?o5) (v := .bool V) ?hio5 (by kernel_rfl) (by kernel_rfl) (by kernel_rfl) ?hQo5 ?hyo5 hS ?_
  case hio5 => (simp only [List.getElem?_toArray, List.getElem?_cons_succ, List.getElem?_cons_zero]; rfl)
  case hQo5 => exact fun _ _ _ h => h
  case hyo5 => exact Or.inl ⟨by rfl, fun W hW => by go_simp⟩
  try simp only [Act.put, List.setIfInBounds_toArray, List.set_cons_zero, List.set_cons_succ]
  refine wpAnyH_ready (rs := [4]) (by kernel_rfl) (by simp) ?_
  refine AllReadyH.cons (o := ?o9) ?hoo9 (fun K hK => ?ho9) AllReadyH.nil
  case hoo9 => (simp only [List.getElem?_toArray, List.getElem?_cons_succ, List.getElem?_cons_zero]; rfl)
  case ho9 =>
    go_simp
    go_at_call 13
    with_reducible refine (HT _ t1).mono ?_
    rintro e w3 ⟨rfl, t3, hg3⟩
    have k8' := blk_grw k8 hg3 (fun e => by injection e with e; omega)
    have k6'' := blk_grw k6' hg3 (fun e => by injection e with e; omega)
    have kc'' := blk_grw kc' hg3 (fun e => by injection e with e; omega)
    have gg := grown_tr (grown_of b2 (some g)) hg3
    refine hK.out _ _ ⟨k8', kc''⟩ (fun hS3 => ?_)
    clear hK K k8 k6' kc' t1 b2 hg3 hS
    try simp only [Act.put, List.setIfInBounds_toArray, List.set_cons_zero, List.set_cons_succ]
    refine wpAnyH_take (i := 6) (oi := ?o8) (v := .bool true) ?hio8 (by kernel_rfl) (by kernel_rfl) (by kernel_rfl) ?hQo8 ?hyo8 hS3 ?_
    case hio8 => (simp only [List.getElem?_toArray, List.getElem?_cons_succ, List.getElem?_cons_zero]; rfl)
    case hQo8 => exact fun _ _ _ h => h
    case hyo8 => exact Or.inl ⟨by rfl, fun W hW => by cases V <;> go_simp⟩
    try simp only [Act.put, List.setIfInBounds_toArray, List.set_cons_zero, List.set_cons_succ]
    refine wpAnyH_ready (rs := [7]) (by kernel_rfl) (by simp) ?_
    refine AllReadyH.cons (o := ?o7) ?hoo7 (fun K hK => ?ho7) AllReadyH.nil
    case hoo7 => (simp only [List.getElem?_toArray, List.getElem?_cons_succ, List.getElem?_cons_zero]; rfl)
    case ho7 =>
      refine step_stBlk (g := w.heap.size + 2) (t := 43) (cs := cs) rfl 43 (.tmp 6) (.tmp 72) rfl rfl rfl #[.slice none 0 0, .int .i64 0, .int .i64 0] k6'' HI.out (by rw [HS3.out]; rfl) HO.out ?_
      intro w5 kb hg5
      have hF := Lib.hid (And.intro (t3.gr hg5 (by omega)) (grown_in gg hg5 (by omega)))
      have q8 := blk_grw k8' hg5 (fun e => by injection e with e; omega)
      have qc := blk_grw kc'' hg5 (fun e => by injection e with e; omega)
      refine hK.out _ _ ⟨q8, qc⟩ (fun hS5 => ?_)
      clear hK K t3 gg hg5 k8' kc'' k6''
      try simp only [Act.put, List.setIfInBounds_toArray, List.set_cons_zero, List.set_cons_succ]
      refine wpAnyH_take (i := 8) (oi := ?o6) (v := .bool true) ?hio6 (by kernel_rfl) (by kernel_rfl) (by kernel_rfl) ?hQo6 ?hyo6 hS5 ?_
      case hio6 => (simp only [List.getElem?_toArray, List.getElem?_cons_succ, List.getElem?_cons_zero]; rfl)
      case hQo6 => exact fun _ _ _ h => h
      case hyo6 => exact Or.inl ⟨by rfl, fun W hW => by go_simp⟩
      try simp only [Act.put, List.setIfInBounds_toArray, List.set_cons_zero, List.set_cons_succ]
      refine wpAnyH_done (by kernel_rfl) ?_ _
      clear hS5
      go_wp2
      exact bodyPost_blk2 rfl _ rfl kb Try.underlying43 rfl HI.out rfl ⟨rfl, hF.out.1, hF.out.2⟩

set_option maxHeartbeats 1000000 in
theorem step_bytes (g : Nat) (A1 : Option Addr) (n1 c1 : Nat) (f1 : Int) (l1 : List UInt8) (A2 : Option Addr) (n2 c2 : Nat) (f2 : Int) (l2 : List UInt8) (A : Option Addr) (n c at_ : Nat) (f m : Int) (cs : Array Value) (w : World) (hk : Tk w g A1 n1 c1 f1 l1) (hcs : cs.size = 3) (hc1 : cs.all (·.oneCell') = true) (sv : Value)
    (HR : ∀ W, Below w.heap.size w W → Calls Try.prog 22 #[.agg (stC A n c at_ f), .int .i64 m] W fun e w' => e = .returned (.tuple #[.agg cs, sv]) ∧ Below W.heap.size W w')
    (HT : ∀ W, Below w.heap.size w W → Tk W g A1 n1 c1 f1 l1 → Calls Try.prog 12 #[.pointer (some ⟨g, 0, none⟩), .int .i64 m] W fun e w' => ∃ A' m' c', e = .returned (.slice A' m' c') ∧ Tk w' g A2 n2 c2 f2 l2 ∧ W.grownBy w' (some g) ∧ Calls Try.prog 23 #[.slice A' m' c', sv] w' fun e w'' => e = .returned (.bool true) ∧ ∃ mm, w'' = w'.drewN mm) :
    Calls Try.prog 15 #[.pointer (some ⟨g, 0, none⟩), .agg (stC A n c at_ f), .agg #[.int .i64 2, .int .i64 m]] w fun e w' => e = .returned (.tuple #[.agg cs, .bool true]) ∧ Tk w' g A2 n2 c2 f2 l2 ∧ w.grownBy w' (some g) := by
  have hgl := hk.lt
  generalize hs0 : stC A n c at_ f = s0 at *
  have k0 : Blk (((w.alloc (.cells s0 43)).alloc (.cells #[.int .i64 2, .int .i64 m] 35)).alloc (.cells #[.slice none 0 0, .int .i64 0, .int .i64 0] 43)) w.heap.size 43 s0 := ((blk_new _ _ _).alloc _).alloc _
  have kc : Blk (((w.alloc (.cells s0 43)).alloc (.cells #[.int .i64 2, .int .i64 m] 35)).alloc (.cells #[.slice none 0 0, .int .i64 0, .int .i64 0] 43)) (w.heap.size + 1) 35 #[.int .i64 2, .int .i64 m] := (blk_new' _ _ _ _ (by simp)).alloc _
  have k6 : Blk (((w.alloc (.cells s0 43)).alloc (.cells #[.int .i64 2, .int .i64 m] 35)).alloc (.cells #[.slice none 0 0, .int .i64 0, .int .i64 0] 43)) (w.heap.size + 2) 43 #[.slice none 0 0, .int .i64 0, .int .i64 0] := blk_new' _ _ _ _ (by simp)
  have b0 : Below w.heap.size w (((w.alloc (.cells s0 43)).alloc (.cells #[.int .i64 2, .int .i64 m] 35)).alloc (.cells #[.slice none 0 0, .int .i64 0, .int .i64 0] 43)) := (((Below.refl _ _).alloc (Nat.le_refl _) _).alloc (by simp) _).alloc (by simp; omega) _
  have t0 := hk.on b0
  have HC := Lib.hid (HR _ b0)
  have HI : Hid ((Try.prog.info? 43).map (·.size) = some cs.size) := Lib.hid (by rw [hcs]; exact Try.sizeSt)
  have HS3 := Lib.hid hcs
  have HO := Lib.hid hc1
  have d0 := blk_cell2 kc 0 _ rfl
  have d1 := blk_cell2 kc 1 _ rfl
  clear HR
  go_enter Try.func15, Try.ntmps15
  go_wp2_with (first
  | (refine wpList_loadBlk (g := w.heap.size) (t := 43) (cs := s0) rfl 43 (.tmp 4) ?ho ?hx ?hA _ Try.underlying43 rfl ?hi ?_
     case ho => with_reducible rfl
     case hx => rfl
     case hA => exact k0
     case hi => rw [← hs0]; exact Try.sizeSt))
  generalize (((w.alloc (.cells s0 43)).alloc (.cells #[.int .i64 2, .int .i64 m] 35)).alloc (.cells #[.slice none 0 0, .int .i64 0, .int .i64 0] 43)) = W at *
  refine HC.out.mono ?_
  rintro e w1 ⟨rfl, hb1⟩
  have b1 := Below.on b0 b0.size hb1
  have a2 : Below w1.heap.size w1 (w1.alloc (.cells cs 43)) := (Below.refl _ _).alloc (Nat.le_refl _) _
  have k8 : Blk (w1.alloc (.cells cs 43)) w1.heap.size 43 cs := blk_new _ _ _
  have k6' := (k6.on hb1).on a2
  have kc' := (kc.on hb1).on a2
  have t1 := (t0.on hb1).on a2
  have b2 := Below.on b1 b1.size a2
  have hl6 := (k6.on hb1).lt
  clear k0 kc k6 t0 HC hb1 a2 b1 b0 d0 d1
  go_wp2_with (first
  | (refine wpList_allocStore (cs := cs) rfl rfl 43 ?ho (.tmp 11) (.tmp 56) ?ho2 Try.zeroSt ?hz ?hx ?hy ?hn ?h1 ?_
     case ho => with_reducible rfl
     case ho2 => rfl
     case hz => rfl
     case hx => rfl
     case hy => rfl
     case hn => exact HS3.out
     case h1 => exact HO.out))
  have k8 : Blk (w1.alloc (.cells cs 43)).drew w1.heap.size 43 cs := k8
  have k6' : Blk (w1.alloc (.cells cs 43)).drew (w.heap.size + 2) 43 #[.slice none 0 0, .int .i64 0, .int .i64 0] := k6'
  have kc' : Blk (w1.alloc (.cells cs 43)).drew (w.heap.size + 1) 35 #[.int .i64 2, .int .i64 m] := kc'
  have t1 : Tk (w1.alloc (.cells cs 43)).drew g A1 n1 c1 f1 l1 := t1
  have b2 := b2.drew
  refine wp_region_held_drew (S := fun V => Blk V w1.heap.size 43 cs ∧ Blk V (w.heap.size + 1) 35 #[.int .i64 2, .int .i64 m]) (by kernel_rfl) ⟨k8, kc'⟩ ?_
  intro hS
  generalize (w1.alloc (.cells cs 43)).drew = W2 at *
  generalize w1.heap.size = g8 at *
  refine wpAnyH_take (i := 0) (oi := ?o10) (v := .agg cs) ?hio10 (by kernel_rfl) (by kernel_rfl) (by kernel_rfl) ?hQo10 ?hyo10 hS ?_
  case hio10 => (simp only [List.getElem?_toArray, List.getElem?_cons_succ, List.getElem?_cons_zero]; rfl)
  case hQo10 => exact fun _ _ _ h => h
  case hyo10 => exact yieldsIf_load_mid (by rfl) 43 (.tmp 11) rfl g8 0 rfl cs.toList _ (fun W hW => blkr hW.1) Try.underlying43 rfl (by simpa using HI.out)
  try simp only [Act.put, List.setIfInBounds_toArray, List.set_cons_zero, List.set_cons_succ]
  refine wpAnyH_take (i := 1) (oi := ?o11) (v := .pointer (some ⟨g, 0, none⟩)) ?hio11 (by kernel_rfl) (by kernel_rfl) (by kernel_rfl) ?hQo11 ?hyo11 hS ?_
  case hio11 => (simp only [List.getElem?_toArray, List.getElem?_cons_succ, List.getElem?_cons_zero]; rfl)
  case hQo11 => exact fun _ _ _ h => h
  case hyo11 => exact Or.inl ⟨by rfl, fun W hW => by go_simp⟩
  try simp only [Act.put, List.setIfInBounds_toArray, List.set_cons_zero, List.set_cons_succ]
  refine wpAnyH_take (i := 2) (oi := ?o12) (v := .pointer (some ⟨w.heap.size + 1, 1, none⟩)) ?hio12 (by kernel_rfl) (by kernel_rfl) (by kernel_rfl) ?hQo12 ?hyo12 hS ?_
  case hio12 => (simp only [List.getElem?_toArray, List.getElem?_cons_succ, List.getElem?_cons_zero]; rfl)
  case hQo12 => exact fun _ _ _ h => h
  case hyo12 => exact Or.inl ⟨by rfl, fun W hW => by go_simp⟩
  try simp only [Act.put, List.setIfInBounds_toArray, List.set_cons_zero, List.set_cons_succ]
  refine wpAnyH_take (i := 3) (oi := ?o13) (v := .int .i64 m) ?hio13 (by kernel_rfl) (by kernel_rfl) (by kernel_rfl) ?hQo13 ?hyo13 hS ?_
  case hio13 => (simp only [List.getElem?_toArray, List.getElem?_cons_succ, List.getElem?_cons_zero]; rfl)
  case hQo13 => exact fun _ _ _ h => h
  case hyo13 =>
    refine Or.inl ⟨by rfl, ?_⟩
    intro W hW
    have hcW := blk_cell2 hW.2 1 _ rfl
    go_simp
  try simp only [Act.put, List.setIfInBounds_toArray, List.set_cons_zero, List.set_cons_succ]
  refine wpAnyH_take (i := 5) (oi := ?o14) (v := sv) ?hio14 (by kernel_rfl) (by kernel_rfl) (by kernel_rfl) ?hQo14 ?hyo14 hS ?_
  case hio14 => (simp only [List.getElem?_toArray, List.getElem?_cons_succ, List.getElem?_cons_zero]; rfl)
  case hQo14 => exact fun _ _ _ h => h
  case hyo14 => exact Or.inl ⟨by rfl, fun W hW => by go_simp⟩
  try simp only [Act.put, List.setIfInBounds_toArray, List.set_cons_zero, List.set_cons_succ]
  refine wpAnyH_ready (rs := [4]) (by kernel_rfl) (by simp) ?_
  refine AllReadyH.cons (o := ?o18) ?hoo18 (fun K hK => ?ho18) AllReadyH.nil
  case hoo18 => (simp only [List.getElem?_toArray, List.getElem?_cons_succ, List.getElem?_cons_zero]; rfl)
  case ho18 =>
    go_simp
    go_at_call 12
    with_reducible refine (HT _ b2 t1).mono ?_
    rintro e w3 ⟨A', m', c', rfl, t3, hg3, hSm⟩
    have k8' := blk_grw k8 hg3 (fun e => by injection e with e; omega)
    have k6'' := blk_grw k6' hg3 (fun e => by injection e with e; omega)
    have kc'' := blk_grw kc' hg3 (fun e => by injection e with e; omega)
    have gg := grown_tr (grown_of b2 (some g)) hg3
    refine hK.out _ _ ⟨k8', kc''⟩ (fun hS3 => ?_)
    clear hK K k8 k6' kc' t1 b2 hg3 hS
    try simp only [Act.put, List.setIfInBounds_toArray, List.set_cons_zero, List.set_cons_succ]
    refine wpAnyH_ready (rs := [6]) (by kernel_rfl) (by simp) ?_
    refine AllReadyH.cons (o := ?o17) ?hoo17 (fun K hK => ?ho17) AllReadyH.nil
    case hoo17 => (simp only [List.getElem?_toArray, List.getElem?_cons_succ, List.getElem?_cons_zero]; rfl)
    case ho17 =>
      go_simp
      go_at_call 23
      with_reducible refine hSm.mono ?_
      rintro e w6 ⟨rfl, mm, hw6⟩
      have k8' : Blk w6 g8 43 cs := by rw [hw6]; exact k8'
      have kc'' : Blk w6 (w.heap.size + 1) 35 #[.int .i64 2, .int .i64 m] := by rw [hw6]; exact kc''
      have k6'' : Blk w6 (w.heap.size + 2) 43 #[.slice none 0 0, .int .i64 0, .int .i64 0] := by rw [hw6]; exact k6''
      have t3 : Tk w6 g A2 n2 c2 f2 l2 := by rw [hw6]; exact t3
      have gg : w.grownBy w6 (some g) := by rw [hw6]; exact ⟨gg.os, gg.tape, gg.output, gg.size, gg.block⟩
      have hS3 := And.intro k8' kc''
      clear hw6
      refine hK.out _ _ hS3 (fun _ => ?_)
      clear hK K hSm
      try simp only [Act.put, List.setIfInBounds_toArray, List.set_cons_zero, List.set_cons_succ]
      refine wpAnyH_ready (rs := [7]) (by kernel_rfl) (by simp) ?_
      refine AllReadyH.cons (o := ?o16) ?hoo16 (fun K hK => ?ho16) AllReadyH.nil
      case hoo16 => (simp only [List.getElem?_toArray, List.getElem?_cons_succ, List.getElem?_cons_zero]; rfl)
      case ho16 =>
        refine step_stBlk (g := w.heap.size + 2) (t := 43) (cs := cs) rfl 43 (.tmp 6) (.tmp 58) rfl rfl rfl #[.slice none 0 0, .int .i64 0, .int .i64 0] k6'' HI.out (by rw [HS3.out]; rfl) HO.out ?_
        intro w5 kb hg5
        have hF := Lib.hid (And.intro (t3.gr hg5 (by omega)) (grown_in gg hg5 (by omega)))
        have q8 := blk_grw k8' hg5 (fun e => by injection e with e; omega)
        have qc := blk_grw kc'' hg5 (fun e => by injection e with e; omega)
        refine hK.out _ _ ⟨q8, qc⟩ (fun hS5 => ?_)
        clear hK K t3 gg hg5 k8' kc'' k6''
        try simp only [Act.put, List.setIfInBounds_toArray, List.set_cons_zero, List.set_cons_succ]
        refine wpAnyH_take (i := 8) (oi := ?o15) (v := .bool true) ?hio15 (by kernel_rfl) (by kernel_rfl) (by kernel_rfl) ?hQo15 ?hyo15 hS5 ?_
        case hio15 => (simp only [List.getElem?_toArray, List.getElem?_cons_succ, List.getElem?_cons_zero]; rfl)
        case hQo15 => exact fun _ _ _ h => h
        case hyo15 => exact Or.inl ⟨by rfl, fun W hW => by go_simp⟩
        try simp only [Act.put, List.setIfInBounds_toArray, List.set_cons_zero, List.set_cons_succ]
        refine wpAnyH_done (by kernel_rfl) ?_ _
        clear hS5
        go_wp2
        exact bodyPost_blk2 rfl _ rfl kb Try.underlying43 rfl HI.out rfl ⟨rfl, hF.out.1, hF.out.2⟩

end Go.Proofs.Ytlppjndkflfgaaa
