
/- Contracts: ref15.Parse. -/
import Derived.Test.YtlllakjimgomjaaCokB
namespace Go.Proofs.Ytlllakjimgomjaa
open Go.RowKit

theorem Cok_two (w : World) : Blk ((w.alloc (.cells (mcs [0] (zer 56)) 54)).alloc (.cells (mcs [0] (zer 56)) 54)) w.heap.size 54 (mcs [0] (zer 56)) ∧
    Blk ((w.alloc (.cells (mcs [0] (zer 56)) 54)).alloc (.cells (mcs [0] (zer 56)) 54)) (w.heap.size + 1) 54 (mcs [0] (zer 56)) ∧
    Below w.heap.size w ((w.alloc (.cells (mcs [0] (zer 56)) 54)).alloc (.cells (mcs [0] (zer 56)) 54)) :=
  ⟨(blk_new w 54 _).alloc _, blk_new' _ _ _ _ (by simp), ((Below.refl _ _).alloc (Nat.le_refl _) _).alloc (by simp) _⟩

theorem Cok_sizeZ : (Try.prog.info? 54).map (·.size) = some (mcs [0] (zer 56)).size := by rw [Try.infoCok, mcs_size, zer_len]; rfl

set_option maxRecDepth 100000 in
theorem ref15Parse_short (A : Option Addr) (n c : Nat) (w : World) (hn : n < 64) :
    Calls Try.prog 49 #[.slice A n c] w fun e w' => e = .returned (.tuple #[.agg (mcs [0] (zer 56)), .int .i64 3]) ∧ Below w.heap.size w w' := by
  have hz := (zero_of_info Try.zeroCok).1
  obtain ⟨k0, x0, hb0⟩ := Cok_two w
  go_enter Try.func49, Try.ntmps49
  go_wp2_with (first
    | (refine wpList_loadBlk (g := w.heap.size + 1) (t := 54) (cs := mcs [0] (zer 56)) rfl 54 (.tmp 4) ?ho ?hx ?hA _ Try.underlying54 rfl ?hi ?_
       case ho => with_reducible rfl
       case hx => rfl
       case hA => exact x0
       case hi => exact Cok_sizeZ)
    | (refine wpList_storeBlk (g := w.heap.size) (t := 54) (cs := mcs [0] (zer 56)) rfl 54 (.tmp 2) (.tmp 10) ?ho ?hx2 ?hy2 (mcs [0] (zer 56)) k0 ?hi ?hs ?h1 ?_
       case ho => with_reducible rfl
       case hx2 => rfl
       case hy2 => rfl
       case hi => exact Cok_sizeZ
       case hs => rfl
       case h1 => exact mcs_one _ _
       intro w9 hB hg))
  refine bodyPost_blk2 rfl _ rfl hB Try.underlying54 rfl Cok_sizeZ rfl ⟨rfl, ?_⟩
  exact hb0.grown hg hb0.size (fun k hk => by injection hk with hk; omega)

set_option maxRecDepth 100000 in
theorem ref15Parse_long (A : Option Addr) (n c : Nat) (w : World) (hn : 64 < n) (hm : n ≤ 9223372036854775807) :
    Calls Try.prog 49 #[.slice A n c] w fun e w' => e = .returned (.tuple #[.agg (mcs [0] (zer 56)), .int .i64 4]) ∧ Below w.heap.size w w' := by
  have hz := (zero_of_info Try.zeroCok).1
  obtain ⟨k0, x0, hb0⟩ := Cok_two w
  go_enter Try.func49, Try.ntmps49
  go_wp2_with (first
    | (refine wpList_loadBlk (g := w.heap.size + 1) (t := 54) (cs := mcs [0] (zer 56)) rfl 54 (.tmp 4) ?ho ?hx ?hA _ Try.underlying54 rfl ?hi ?_
       case ho => with_reducible rfl
       case hx => rfl
       case hA => exact x0
       case hi => exact Cok_sizeZ)
    | (refine wpList_storeBlk (g := w.heap.size) (t := 54) (cs := mcs [0] (zer 56)) rfl 54 (.tmp 2) (.tmp 14) ?ho ?hx2 ?hy2 (mcs [0] (zer 56)) k0 ?hi ?hs ?h1 ?_
       case ho => with_reducible rfl
       case hx2 => rfl
       case hy2 => rfl
       case hi => exact Cok_sizeZ
       case hs => rfl
       case h1 => exact mcs_one _ _
       intro w9 hB hg))
  refine bodyPost_blk2 rfl _ rfl hB Try.underlying54 rfl Cok_sizeZ rfl ⟨rfl, ?_⟩
  exact hb0.grown hg hb0.size (fun k hk => by injection hk with hk; omega)

set_option maxRecDepth 100000 in
theorem ref15Parse_kind (A : Option Addr) (n c : Nat) (x : UInt8) (l : List UInt8) (w : World) (hn : n = 64) (hs : Shows w w.heap.size A n (x :: l)) (hx : x ≠ 3) :
    Calls Try.prog 49 #[.slice A n c] w fun e w' => e = .returned (.tuple #[.agg (mcs [0] (zer 56)), .int .i64 9]) ∧ Below w.heap.size w w' := by
  subst hn
  obtain ⟨b, off, e, hb, hcell⟩ := hs.2 (by omega)
  subst e
  have c0 := hcell 0 (by simp)
  simp only [List.getElem_cons_zero, Nat.add_zero] at c0
  have hx4 : x.toNat ≠ 3 := fun e => hx (UInt8.toNat_inj.1 e)
  have hd : decide ((x.toNat : Int) = 3) = false := decide_eq_false (by omega)
  clear hcell hs hx
  have hz := (zero_of_info Try.zeroCok).1
  obtain ⟨k0, x0, hb0⟩ := Cok_two w
  go_enter Try.func49, Try.ntmps49
  go_wp2_with (first
    | (refine wpList_loadBlk (g := w.heap.size + 1) (t := 54) (cs := mcs [0] (zer 56)) rfl 54 (.tmp 4) ?ho ?hx ?hA _ Try.underlying54 rfl ?hi ?_
       case ho => with_reducible rfl
       case hx => rfl
       case hA => exact x0
       case hi => exact Cok_sizeZ)
    | (refine wpList_storeBlk (g := w.heap.size) (t := 54) (cs := mcs [0] (zer 56)) rfl 54 (.tmp 2) (.tmp 19) ?ho ?hx2 ?hy2 (mcs [0] (zer 56)) k0 ?hi ?hs ?h1 ?_
       case ho => with_reducible rfl
       case hx2 => rfl
       case hy2 => rfl
       case hi => exact Cok_sizeZ
       case hs => rfl
       case h1 => exact mcs_one _ _
       intro w9 hB hg))
  refine bodyPost_blk2 rfl _ rfl hB Try.underlying54 rfl Cok_sizeZ rfl ⟨rfl, ?_⟩
  exact hb0.grown hg hb0.size (fun k hk => by injection hk with hk; omega)

set_option maxRecDepth 100000 in
theorem ref15Parse_zero (A : Option Addr) (n c : Nat) (x y z : UInt8) (l : List UInt8) (w : World) (hn : n = 64) (hs : Shows w w.heap.size A n (3 :: x :: y :: z :: l)) (hx : ¬ (x = 0 ∧ y = 0 ∧ z = 0)) :
    Calls Try.prog 49 #[.slice A n c] w fun e w' => e = .returned (.tuple #[.agg (mcs [0] (zer 56)), .int .i64 10]) ∧ Below w.heap.size w w' := by
  subst hn
  obtain ⟨b, off, e, hb, hcell⟩ := hs.2 (by omega)
  subst e
  have c0 := hcell 0 (by simp)
  have c1 := hcell 1 (by simp)
  have c2 := hcell 2 (by simp)
  have c3 := hcell 3 (by simp)
  simp only [List.getElem_cons_zero, List.getElem_cons_succ, Nat.add_zero] at c0 c1 c2 c3
  have key : (x.toNat ≠ 0) ∨ (x = 0 ∧ y.toNat ≠ 0) ∨ (x = 0 ∧ y = 0 ∧ z.toNat ≠ 0) := by
    have t : ∀ u : UInt8, u ≠ 0 → u.toNat ≠ 0 := fun u hu e => hu (UInt8.toNat_inj.1 (by simpa using e))
    by_cases h1 : x = 0
    · by_cases h2 : y = 0
      · exact .inr (.inr ⟨h1, h2, t z fun h3 => hx ⟨h1, h2, h3⟩⟩)
      · exact .inr (.inl ⟨h1, t y h2⟩)
    · exact .inl (t x h1)
  clear hcell hs hx
  have hz := (zero_of_info Try.zeroCok).1
  obtain ⟨k0, x0, hb0⟩ := Cok_two w
  go_enter Try.func49, Try.ntmps49
  rcases key with h | ⟨rfl, h⟩ | ⟨rfl, rfl, h⟩
  all_goals have hd := decide_eq_false (mt Int.natCast_eq_zero.1 h)
  all_goals go_wp2_with (first
    | (refine wpList_loadBlk (g := w.heap.size + 1) (t := 54) (cs := mcs [0] (zer 56)) rfl 54 (.tmp 4) ?ho ?hx ?hA _ Try.underlying54 rfl ?hi ?_
       case ho => with_reducible rfl
       case hx => rfl
       case hA => exact x0
       case hi => exact Cok_sizeZ)
    | (refine wpList_storeBlk (g := w.heap.size) (t := 54) (cs := mcs [0] (zer 56)) rfl 54 (.tmp 2) (.tmp 36) ?ho ?hx2 ?hy2 (mcs [0] (zer 56)) k0 ?hi ?hs ?h1 ?_
       case ho => with_reducible rfl
       case hx2 => rfl
       case hy2 => rfl
       case hi => exact Cok_sizeZ
       case hs => rfl
       case h1 => exact mcs_one _ _
       intro w9 hB hg))
  all_goals refine bodyPost_blk2 rfl _ rfl hB Try.underlying54 rfl Cok_sizeZ rfl ⟨rfl, ?_⟩
  all_goals exact hb0.grown hg hb0.size (fun k hk => by injection hk with hk; omega)

end Go.Proofs.Ytlllakjimgomjaa
