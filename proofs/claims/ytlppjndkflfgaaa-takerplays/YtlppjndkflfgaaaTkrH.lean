
/- Contracts of layer 2: law02.plays. -/
import Derived.Test.YtlppjndkflfgaaaTkrG
import Derived.Deep.RegionHeld
namespace Go.Proofs.Ytlppjndkflfgaaa
open Go.RowKit
set_option linter.unusedSimpArgs false
set_option linter.unusedVariables false

/-- Askings that a slice value shows: two cells each. -/
def ShC (w : World) (B : Nat) (A : Option Addr) (n : Nat) (l : List (Int × Int)) : Prop :=
  l.length = n ∧ (0 < n → ∃ b off, A = some ⟨b, off, none⟩ ∧ b < B ∧ ∀ j (h : j < l.length), w.cell? ⟨b, off + j * 2, none⟩ = some (.int .i64 (l[j]'h).1) ∧ w.cell? ⟨b, off + j * 2 + 1, none⟩ = some (.int .i64 (l[j]'h).2))
theorem ShC.elem {w : World} {B n : Nat} {A : Option Addr} {l : List (Int × Int)} (h : ShC w B A n l) {k : Nat} (hk : k < n) :
    ∃ (b off : Nat) (d x : Int), A = some ⟨b, off, none⟩ ∧ b < B ∧ w.cell? ⟨b, off + k * 2, none⟩ = some (.int .i64 d) ∧ w.cell? ⟨b, off + k * 2 + 1, none⟩ = some (.int .i64 x) ∧ (d, x) ∈ l := by
  obtain ⟨b, off, e, hb, hc⟩ := h.2 (by omega)
  have hl : k < l.length := by have := h.1; omega
  exact ⟨b, off, _, _, e, hb, (hc k hl).1, (hc k hl).2, List.getElem_mem hl⟩
theorem ShC.gr {w w' : World} {B n : Nat} {A : Option Addr} {l : List (Int × Int)} {g : Nat} (h : ShC w B A n l) (hg : w.grownBy w' (some g)) (hB : B ≤ g) (hw : B ≤ w.heap.size) : ShC w' B A n l :=
  ⟨h.1, fun hn => by
    obtain ⟨b, off, e, hb, hc⟩ := h.2 hn
    have hk : w'.heap[b]? = w.heap[b]? := hg.block b (by omega) (fun e => by injection e with e; omega)
    exact ⟨b, off, e, hb, fun j hj => ⟨(World.cell?_of_block hk).trans (hc j hj).1, (World.cell?_of_block hk).trans (hc j hj).2⟩⟩⟩
theorem Try.zeroCall : (Try.prog.info? 35).map (fun i => (i.zero, i.size)) = some (some (.agg #[.int .i64 0, .int .i64 0]), 2) := by kernel_rfl
theorem Try.sizeCall : (Try.prog.info? 35).map (·.size) = some 2 := by kernel_rfl

set_option maxRecDepth 100000 in
set_option maxHeartbeats 2000000 in
theorem plays2 (g : Nat) (A1 : Option Addr) (c1 : Nat) (A : Option Addr) (n c : Nat) (l : List UInt8) (dA : Option Addr) (dn dc : Nat) (D : List (Int × Int)) (B : Nat) (w : World) (hn : n ≤ 1000000) (hnc : n ≤ c) (hdn : dn ≤ 1000)
    (hk : Tk w g A1 n c1 0 l) (h : Shows w B A n l) (hB : B ≤ g) (hD : ShC w B dA dn D) (hD64 : ∀ d ∈ D, -9223372036854775808 ≤ d.2 ∧ d.2 ≤ 9223372036854775807) :
    Calls Try.prog 9 #[.pointer (some ⟨g, 0, none⟩), .slice A n c, .slice dA dn dc] w fun e w' => e = .returned (.bool true) ∧ w.grownBy w' (some g) := by
  have hgl := hk.lt
  have k0 : Blk (w.alloc (.cells (stC A n c 0 0) 43)) w.heap.size 43 (stC A n c 0 0) := blk_new _ _ _
  have b0 : Below w.heap.size w (w.alloc (.cells (stC A n c 0 0) 43)) := (Below.refl _ _).alloc (Nat.le_refl _) _
  have HK := Lib.hid (And.intro (hk.on b0) (And.intro k0 (grown_of b0 (some g))))
  have HSh := Lib.hid h
  have HDw := Lib.hid hD
  have HD64 := Lib.hid hD64
  clear hk k0 b0 h hD hD64
  go_enter Try.func9, Try.ntmps9
  go_wp2_with (first
  | (refine wpList_allocStore (cs := stC A n c 0 0) rfl rfl 43 ?ho (.tmp 7) (.tmp 13) ?ho2 Try.zeroSt ?hz ?hx ?hy ?hn ?h1 ?_
     case ho => with_reducible rfl
     case ho2 => rfl
     case hz => rfl
     case hx => rfl
     case hy => rfl
     case hn => rfl
     case h1 => simp [stC, Value.oneCell']))
  generalize w.alloc (.cells (stC A n c 0 0) 43) = W at *
  go_loopw [16] (fun i wr => ∃ (k at' : Nat) (f' : Int) (A2 : Option Addr) (c2 : Nat), k ≤ dn ∧ i = .int .i64 (k : Int) ∧ at' ≤ n ∧ Tk wr g A2 (n - at') c2 f' (l.drop at') ∧ Blk wr w.heap.size 43 (stC A n c at' f') ∧ w.grownBy wr (some g)) (fun i _ => dn - (intOf i).toNat)
  case atStart => exact ⟨0, 0, 0, A1, c1, Nat.zero_le _, rfl, Nat.zero_le _, HK.out.1, HK.out.2.1, HK.out.2.2⟩
  case round =>
    obtain ⟨k, at', f', A2, c2, hk, rfl, hat, hT, hM, hG⟩ := hrel
    by_cases hlt : k < dn
    · obtain ⟨b, off, kd, m, rfl, hbb, hcd, hcx, hmem⟩ := (HDw.out.gr hG hB (by omega)).elem hlt
      have hm := HD64.out _ hmem
      have hshr := shows_grow HSh.out hG hB (by omega)
      have a1 : Below wr.heap.size wr (wr.alloc (.cells #[.int .i64 kd, .int .i64 m] 35)) := (Below.refl _ _).alloc (Nat.le_refl _) _
      have t1 := hT.on a1
      have m1 := hM.on a1
      have g1 := grown_tr hG (grown_of a1 (some g))
      have sh1 : Shows (wr.alloc (.cells #[.int .i64 kd, .int .i64 m] 35)) B A n l := hshr.keep fun p hp => a1.cell (by have := hT.lt; omega)
      have kc : Blk (wr.alloc (.cells #[.int .i64 kd, .int .i64 m] 35)) wr.heap.size 35 #[.int .i64 kd, .int .i64 m] := blk_new _ _ _
      have HSt := Lib.hid (step_any g A2 c2 A n c at' f' kd m l B _ hat hn hnc hm t1 sh1 hB)
      have HK1 := Lib.hid (And.intro m1 g1)
      have hml := hM.lt
      clear hT hM hG hshr a1 t1 g1 sh1 hmem hm
      go_wp2_with (first
      | (refine wpList_allocStore (cs := #[.int .i64 kd, .int .i64 m]) rfl rfl 35 ?ho (.tmp 9) (.tmp 19) ?ho2 Try.zeroCall ?hz ?hx ?hy ?hn ?h1 ?_
         case ho => with_reducible rfl
         case ho2 => rfl
         case hz => rfl
         case hx => rfl
         case hy => rfl
         case hn => rfl
         case h1 => rfl)
      | (refine wpList_loadBlk (g := w.heap.size) (t := 43) (cs := stC A n c at' f') rfl 43 (.tmp 7) ?ho ?hx ?hA _ Try.underlying43 rfl ?hi ?_
         case ho => with_reducible rfl
         case hx => rfl
         case hA => exact m1
         case hi => exact Try.sizeSt)
      | (refine wpList_loadBlk (g := wr.heap.size) (t := 35) (cs := #[.int .i64 kd, .int .i64 m]) rfl 35 (.tmp 9) ?ho ?hx ?hA _ Try.underlying35 rfl ?hi ?_
         case ho => with_reducible rfl
         case hx => rfl
         case hA => exact kc
         case hi => exact Try.sizeCall))
      refine HSt.out.mono ?_
      rintro e w2 ⟨at2, f2, A3, c3, rfl, hat2, t2, hg2⟩
      have m2 := blk_grw m1 hg2 (fun e => by injection e with e; omega)
      have g2 := grown_tr HK1.out.2 hg2
      have a3 : Below w2.heap.size w2 (w2.alloc (.cells (stC A n c at2 f2) 43)) := (Below.refl _ _).alloc (Nat.le_refl _) _
      have t3 := t2.on a3
      have m3 := m2.on a3
      have g3 := grown_tr g2 (grown_of a3 (some g))
      have k3 : Blk (w2.alloc (.cells (stC A n c at2 f2) 43)) w2.heap.size 43 (stC A n c at2 f2) := blk_new _ _ _
      clear t2 m2 g2 hg2 a3 m1 kc HK1 HSt
      go_wp2_with (first
      | (refine wpList_allocStore (cs := stC A n c at2 f2) rfl rfl 43 ?ho (.tmp 10) (.tmp 25) ?ho2 Try.zeroSt ?hz ?hx ?hy ?hn ?h1 ?_
         case ho => with_reducible rfl
         case ho2 => rfl
         case hz => rfl
         case hx => rfl
         case hy => rfl
         case hn => rfl
         case h1 => simp [stC, Value.oneCell'])
      | (refine wpList_loadBlk (g := w2.heap.size) (t := 43) (cs := stC A n c at2 f2) rfl 43 (.tmp 10) ?ho ?hx ?hA _ Try.underlying43 rfl ?hi ?_
         case ho => with_reducible rfl
         case hx => rfl
         case hA => exact k3
         case hi => exact Try.sizeSt)
      | (refine wpList_storeBlk (g := w.heap.size) (t := 43) (cs := stC A n c at2 f2) rfl 43 (.tmp 7) (.tmp 27) ?ho ?hx2 ?hy2 (stC A n c at' f') m3 ?hi ?hs ?h1 ?_
         case ho => with_reducible rfl
         case hx2 => rfl
         case hy2 => rfl
         case hi => exact Try.sizeSt
         case hs => rfl
         case h1 => simp [stC, Value.oneCell']
         intro w5 m5 hg5
         have t5 := t3.gr hg5 (by omega)
         have g5 := grown_in g3 hg5 (Nat.le_refl _)
         clear t3 m3 g3 k3 hg5))
      have q0 : Tk w5.drew g A3 (n - at2) c3 f2 (l.drop at2) := t5
      have q1 : Blk w5.drew w.heap.size 43 (stC A n c at2 f2) := m5
      have qg : w.grownBy w5.drew (some g) := ⟨g5.os, g5.tape, g5.output, g5.size, g5.block⟩
      clear t5 m5 g5
      have hlf : ((n - at2 : Nat) : Int) = (n : Int) - (at2 : Int) := by omega
      have hsb : IntKind.i64.wrap ((n : Int) - (at2 : Int)) = (n : Int) - (at2 : Int) := IntWalk.i64_in _ (by omega)
      have HLf := Lib.hid (fun (V : World) (hV : Tk V g A3 (n - at2) c3 f2 (l.drop at2)) => left_any g A3 (n - at2) c3 f2 _ V hV)
      rw [hlf] at HLf
      have HFl := Lib.hid (fun (V : World) (hV : Tk V g A3 (n - at2) c3 f2 (l.drop at2)) => fail_any g A3 (n - at2) c3 f2 _ V hV)
      clear hlf
      refine wp_region_held_drew (S := fun V => Tk V g A3 (n - at2) c3 f2 (l.drop at2) ∧ Blk V w.heap.size 43 (stC A n c at2 f2)) (by kernel_rfl) ⟨q0, q1⟩ ?_
      intro hS
      generalize w5.drew = W6 at *
      refine wpAnyH_take (i := 0) (oi := ?o1) (v := .bool true) ?hio1 (by kernel_rfl) (by kernel_rfl) (by kernel_rfl) ?hQo1 ?hyo1 hS ?_
      case hio1 => (simp only [List.getElem?_toArray, List.getElem?_cons_succ, List.getElem?_cons_zero]; rfl)
      case hQo1 => exact fun _ _ _ h => h
      case hyo1 => exact Or.inl ⟨by rfl, fun W hW => by go_simp⟩
      try simp only [Act.put, List.setIfInBounds_toArray, List.set_cons_zero, List.set_cons_succ]
      refine wpAnyH_take (i := 1) (oi := ?o2) (v := .bool false) ?hio2 (by kernel_rfl) (by kernel_rfl) (by kernel_rfl) ?hQo2 ?hyo2 hS ?_
      case hio2 => (simp only [List.getElem?_toArray, List.getElem?_cons_succ, List.getElem?_cons_zero]; rfl)
      case hQo2 => exact fun _ _ _ h => h
      case hyo2 => exact Or.inl ⟨by rfl, fun W hW => by go_simp⟩
      try simp only [Act.put, List.setIfInBounds_toArray, List.set_cons_zero, List.set_cons_succ]
      refine wpAnyH_take (i := 2) (oi := ?o3) (v := .bool false) ?hio3 (by kernel_rfl) (by kernel_rfl) (by kernel_rfl) ?hQo3 ?hyo3 hS ?_
      case hio3 => (simp only [List.getElem?_toArray, List.getElem?_cons_succ, List.getElem?_cons_zero]; rfl)
      case hQo3 => exact fun _ _ _ h => h
      case hyo3 => exact Or.inl ⟨by rfl, fun W hW => by go_simp⟩
      try simp only [Act.put, List.setIfInBounds_toArray, List.set_cons_zero, List.set_cons_succ]
      refine wpAnyH_take (i := 3) (oi := ?o4) (v := .pointer (some ⟨g, 0, none⟩)) ?hio4 (by kernel_rfl) (by kernel_rfl) (by kernel_rfl) ?hQo4 ?hyo4 hS ?_
      case hio4 => (simp only [List.getElem?_toArray, List.getElem?_cons_succ, List.getElem?_cons_zero]; rfl)
      case hQo4 => exact fun _ _ _ h => h
      case hyo4 => exact Or.inl ⟨by rfl, fun W hW => by go_simp⟩
      try simp only [Act.put, List.setIfInBounds_toArray, List.set_cons_zero, List.set_cons_succ]
      refine wpAnyH_take (i := 5) (oi := ?o5) (v := .pointer (some ⟨w.heap.size, 0, none⟩)) ?hio5 (by kernel_rfl) (by kernel_rfl) (by kernel_rfl) ?hQo5 ?hyo5 hS ?_
      case hio5 => (simp only [List.getElem?_toArray, List.getElem?_cons_succ, List.getElem?_cons_zero]; rfl)
      case hQo5 => exact fun _ _ _ h => h
      case hyo5 => exact Or.inl ⟨by rfl, fun W hW => by go_simp⟩
      try simp only [Act.put, List.setIfInBounds_toArray, List.set_cons_zero, List.set_cons_succ]
      refine wpAnyH_take (i := 6) (oi := ?o6) (v := .slice A n c) ?hio6 (by kernel_rfl) (by kernel_rfl) (by kernel_rfl) ?hQo6 ?hyo6 hS ?_
      case hio6 => (simp only [List.getElem?_toArray, List.getElem?_cons_succ, List.getElem?_cons_zero]; rfl)
      case hQo6 => exact fun _ _ _ h => h
      case hyo6 =>
        refine Or.inl ⟨by rfl, ?_⟩
        intro W hW
        obtain ⟨y0, y1, y2⟩ := st_c hW.2
        go_simp
      try simp only [Act.put, List.setIfInBounds_toArray, List.set_cons_zero, List.set_cons_succ]
      refine wpAnyH_take (i := 7) (oi := ?o7) (v := .int .i64 (n : Int)) ?hio7 (by kernel_rfl) (by kernel_rfl) (by kernel_rfl) ?hQo7 ?hyo7 hS ?_
      case hio7 => (simp only [List.getElem?_toArray, List.getElem?_cons_succ, List.getElem?_cons_zero]; rfl)
      case hQo7 => exact fun _ _ _ h => h
      case hyo7 => exact Or.inl ⟨by rfl, fun W hW => by go_simp⟩
      try simp only [Act.put, List.setIfInBounds_toArray, List.set_cons_zero, List.set_cons_succ]
      refine wpAnyH_take (i := 8) (oi := ?o8) (v := .pointer (some ⟨w.heap.size, 1, none⟩)) ?hio8 (by kernel_rfl) (by kernel_rfl) (by kernel_rfl) ?hQo8 ?hyo8 hS ?_
      case hio8 => (simp only [List.getElem?_toArray, List.getElem?_cons_succ, List.getElem?_cons_zero]; rfl)
      case hQo8 => exact fun _ _ _ h => h
      case hyo8 => exact Or.inl ⟨by rfl, fun W hW => by go_simp⟩
      try simp only [Act.put, List.setIfInBounds_toArray, List.set_cons_zero, List.set_cons_succ]
      refine wpAnyH_take (i := 9) (oi := ?o9) (v := .int .i64 (at2 : Int)) ?hio9 (by kernel_rfl) (by kernel_rfl) (by kernel_rfl) ?hQo9 ?hyo9 hS ?_
      case hio9 => (simp only [List.getElem?_toArray, List.getElem?_cons_succ, List.getElem?_cons_zero]; rfl)
      case hQo9 => exact fun _ _ _ h => h
      case hyo9 =>
        refine Or.inl ⟨by rfl, ?_⟩
        intro W hW
        obtain ⟨y0, y1, y2⟩ := st_c hW.2
        go_simp
      try simp only [Act.put, List.setIfInBounds_toArray, List.set_cons_zero, List.set_cons_succ]
      refine wpAnyH_take (i := 10) (oi := ?o10) (v := .int .i64 ((n : Int) - (at2 : Int))) ?hio10 (by kernel_rfl) (by kernel_rfl) (by kernel_rfl) ?hQo10 ?hyo10 hS ?_
      case hio10 => (simp only [List.getElem?_toArray, List.getElem?_cons_succ, List.getElem?_cons_zero]; rfl)
      case hQo10 => exact fun _ _ _ h => h
      case hyo10 => exact Or.inl ⟨by rfl, fun W hW => by go_simp⟩
      try simp only [Act.put, List.setIfInBounds_toArray, List.set_cons_zero, List.set_cons_succ]
      refine wpAnyH_ready (rs := [4]) (by kernel_rfl) (by simp) ?_
      refine AllReadyH.cons (o := ?o20) ?hoo20 (fun K hK => ?ho20) AllReadyH.nil
      case hoo20 => (simp only [List.getElem?_toArray, List.getElem?_cons_succ, List.getElem?_cons_zero]; rfl)
      case ho20 =>
        go_simp
        go_at_call 7
        with_reducible refine (HLf.out _ hS.1).mono ?_
        rintro e w7 ⟨rfl, rfl⟩
        refine hK.out _ _ hS (fun _ => ?_)
        clear hK K
        try simp only [Act.put, List.setIfInBounds_toArray, List.set_cons_zero, List.set_cons_succ]
        refine wpAnyH_take (i := 11) (oi := ?o13) (v := .bool false) ?hio13 (by kernel_rfl) (by kernel_rfl) (by kernel_rfl) ?hQo13 ?hyo13 hS ?_
        case hio13 => (simp only [List.getElem?_toArray, List.getElem?_cons_succ, List.getElem?_cons_zero]; rfl)
        case hQo13 => exact fun _ _ _ h => h
        case hyo13 => exact Or.inl ⟨by rfl, fun W hW => by go_simp⟩
        try simp only [Act.put, List.setIfInBounds_toArray, List.set_cons_zero, List.set_cons_succ]
        refine wpAnyH_take (i := 12) (oi := ?o14) (v := .bool false) ?hio14 (by kernel_rfl) (by kernel_rfl) (by kernel_rfl) ?hQo14 ?hyo14 hS ?_
        case hio14 => (simp only [List.getElem?_toArray, List.getElem?_cons_succ, List.getElem?_cons_zero]; rfl)
        case hQo14 => exact fun _ _ _ h => h
        case hyo14 => exact Or.inl ⟨by rfl, fun W hW => by go_simp⟩
        try simp only [Act.put, List.setIfInBounds_toArray, List.set_cons_zero, List.set_cons_succ]
        refine wpAnyH_take (i := 13) (oi := ?o15) (v := .bool false) ?hio15 (by kernel_rfl) (by kernel_rfl) (by kernel_rfl) ?hQo15 ?hyo15 hS ?_
        case hio15 => (simp only [List.getElem?_toArray, List.getElem?_cons_succ, List.getElem?_cons_zero]; rfl)
        case hQo15 => exact fun _ _ _ h => h
        case hyo15 => exact Or.inl ⟨by rfl, fun W hW => by go_simp⟩
        try simp only [Act.put, List.setIfInBounds_toArray, List.set_cons_zero, List.set_cons_succ]
        refine wpAnyH_take (i := 14) (oi := ?o16) (v := .pointer (some ⟨g, 0, none⟩)) ?hio16 (by kernel_rfl) (by kernel_rfl) (by kernel_rfl) ?hQo16 ?hyo16 hS ?_
        case hio16 => (simp only [List.getElem?_toArray, List.getElem?_cons_succ, List.getElem?_cons_zero]; rfl)
        case hQo16 => exact fun _ _ _ h => h
        case hyo16 => exact Or.inl ⟨by rfl, fun W hW => by go_simp⟩
        try simp only [Act.put, List.setIfInBounds_toArray, List.set_cons_zero, List.set_cons_succ]
        refine wpAnyH_take (i := 16) (oi := ?o17) (v := .pointer (some ⟨w.heap.size, 2, none⟩)) ?hio17 (by kernel_rfl) (by kernel_rfl) (by kernel_rfl) ?hQo17 ?hyo17 hS ?_
        case hio17 => (simp only [List.getElem?_toArray, List.getElem?_cons_succ, List.getElem?_cons_zero]; rfl)
        case hQo17 => exact fun _ _ _ h => h
        case hyo17 => exact Or.inl ⟨by rfl, fun W hW => by go_simp⟩
        try simp only [Act.put, List.setIfInBounds_toArray, List.set_cons_zero, List.set_cons_succ]
        refine wpAnyH_take (i := 17) (oi := ?o18) (v := .int .i64 f2) ?hio18 (by kernel_rfl) (by kernel_rfl) (by kernel_rfl) ?hQo18 ?hyo18 hS ?_
        case hio18 => (simp only [List.getElem?_toArray, List.getElem?_cons_succ, List.getElem?_cons_zero]; rfl)
        case hQo18 => exact fun _ _ _ h => h
        case hyo18 =>
          refine Or.inl ⟨by rfl, ?_⟩
          intro W hW
          obtain ⟨y0, y1, y2⟩ := st_c hW.2
          go_simp
        try simp only [Act.put, List.setIfInBounds_toArray, List.set_cons_zero, List.set_cons_succ]
        refine wpAnyH_ready (rs := [15]) (by kernel_rfl) (by simp) ?_
        refine AllReadyH.cons (o := ?o19) ?hoo19 (fun K hK => ?ho19) AllReadyH.nil
        case hoo19 => (simp only [List.getElem?_toArray, List.getElem?_cons_succ, List.getElem?_cons_zero]; rfl)
        case ho19 =>
          go_simp
          go_at_call 8
          with_reducible refine (HFl.out _ hS.1).mono ?_
          rintro e w7 ⟨rfl, rfl⟩
          refine hK.out _ _ hS (fun _ => ?_)
          clear hK K
          try simp only [Act.put, List.setIfInBounds_toArray, List.set_cons_zero, List.set_cons_succ]
          refine wpAnyH_take (i := 18) (oi := ?o11) (v := .bool false) ?hio11 (by kernel_rfl) (by kernel_rfl) (by kernel_rfl) ?hQo11 ?hyo11 hS ?_
          case hio11 => (simp only [List.getElem?_toArray, List.getElem?_cons_succ, List.getElem?_cons_zero]; rfl)
          case hQo11 => exact fun _ _ _ h => h
          case hyo11 => exact Or.inl ⟨by rfl, fun W hW => by go_simp⟩
          try simp only [Act.put, List.setIfInBounds_toArray, List.set_cons_zero, List.set_cons_succ]
          refine wpAnyH_take (i := 19) (oi := ?o12) (v := .bool false) ?hio12 (by kernel_rfl) (by kernel_rfl) (by kernel_rfl) ?hQo12 ?hyo12 hS ?_
          case hio12 => (simp only [List.getElem?_toArray, List.getElem?_cons_succ, List.getElem?_cons_zero]; rfl)
          case hQo12 => exact fun _ _ _ h => h
          case hyo12 => exact Or.inl ⟨by rfl, fun W hW => by go_simp⟩
          try simp only [Act.put, List.setIfInBounds_toArray, List.set_cons_zero, List.set_cons_succ]
          refine wpAnyH_done (by kernel_rfl) ?_ _
          have HX := Lib.hid (And.intro q0 (And.intro q1 qg))
          clear hS q0 q1 qg HLf HFl hsb
          go_wp2
          go_roundw
          case rel => exact ⟨k + 1, at2, f2, A3, c3, by omega, by go_num, hat2, HX.out.1, HX.out.2.1, HX.out.2.2⟩
          case measure => simp [intOf]; omega
    · obtain rfl : k = dn := by omega
      have HX := Lib.hid hG
      clear hT hM hG
      go_wp2
      go_ret
      exact ⟨rfl, HX.out⟩

end Go.Proofs.Ytlppjndkflfgaaa
