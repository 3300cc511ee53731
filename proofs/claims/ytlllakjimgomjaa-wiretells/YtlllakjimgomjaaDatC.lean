
/- Contracts: ref16.Bytes. -/
import Derived.Test.YtlllakjimgomjaaDatB
namespace Go.Proofs.Ytlllakjimgomjaa
open Go.RowKit

theorem ref16Bytes_short (r k : Nat) (A : Option Addr) (n c : Nat) (w : World) (hn : n < 16) :
    Calls Try.prog 42 #[.agg (trv r k A n c)] w fun e w' => e = .returned (.tuple #[.slice none 0 0, .int .i64 3]) ∧ Below w.heap.size w w' := by
  go_enter Try.func42, Try.ntmps42
  go_wp2
  go_ret2
  exact ⟨rfl, (Below.refl _ _).alloc (Nat.le_refl _) _⟩

theorem ref16Bytes_ok (r k : Nat) (ad : Addr) (n c : Nat) (l : List UInt8) (w : World) (hr : r < 4294967296) (hk : k < 18446744073709551616) (h16 : 16 ≤ n) (hn : n ≤ 65551) (hs : Shows w w.heap.size (some ad) n l) :
    Calls Try.prog 42 #[.agg (trv r k (some ad) n c)] w fun e w' => ∃ v, e = .returned (.tuple #[v, .int .i64 0]) ∧ Own w' w.heap.size v (16 + n) (dataL r k l) ∧ Below w.heap.size w w' := by
  have hw : IntKind.u64.wrap (r : Int) = (r : Int) := IntWalk.u64_in _ (by omega)
  have hlen := hs.len
  go_enter Try.func42, Try.ntmps42
  go_wp2_with fail
  have hB0 := blk_new w 56 (trv r k (some ad) n c)
  have hb0 : Below w.heap.size w (w.alloc (.cells (trv r k (some ad) n c) 56)) := (Below.refl _ _).alloc (Nat.le_refl _) _
  have hs0 := (hs.alloc (Nat.le_refl _) (.cells (trv r k (some ad) n c) 56)).up (show w.heap.size ≤ (w.alloc (.cells (trv r k (some ad) n c) 56)).heap.size by simp)
  generalize hw0 : w.alloc (.cells (trv r k (some ad) n c) 56) = w0 at *
  clear hs hw0
  refine (put_ok r 4 w0 (by omega) (by omega) (by omega) (by omega)).mono ?_
  rintro e w1 ⟨⟨v1, rfl, ho1⟩, hb1⟩
  have hB1 := hB0.on hb1
  have hs1 := Sh.on (f := bv) hs0 hb1
  have hb01 := Below.on hb0 hb0.size hb1
  obtain ⟨a1, c1, rfl, _, hs1a⟩ := ho1.at_some (by omega)
  have hc1 : w1.cell? ⟨w.heap.size, 1, none⟩ = some (.int .u64 (k : Int)) := by unfold World.cell?; rw [hB1]; rfl
  clear hB0 hs0 hb0 hb1 ho1
  go_wp2_with fail
  refine (put_ok k 8 w1 (by omega) (by omega) (by omega) (by omega)).mono ?_
  rintro e w2 ⟨⟨v2, rfl, ho2⟩, hb2⟩
  have hB2 := hB1.on hb2
  have hs2 := Sh.on (f := bv) hs1 hb2
  have hs2a := Sh.on (f := bv) hs1a hb2
  have hb02 := Below.on hb01 hb01.size hb2
  obtain ⟨a2, c2, rfl, _, hs2b⟩ := ho2.at_some (by omega)
  clear hB1 hs1 hs1a hb01 hb2 ho2 hc1
  have hsz2 := hb02.size
  have hL0 := own_lit w2 w2.heap.size 4 [4, 0, 0, 0] #[bv 4, bv 0, bv 0, bv 0] rfl (Nat.le_refl _) rfl (by omega)
  have hb3 : Below w2.heap.size w2 (w2.alloc (.cells #[bv 4, bv 0, bv 0, bv 0] 5)) := (Below.refl _ _).alloc (Nat.le_refl _) _
  have hsz3 : w2.heap.size ≤ (w2.alloc (.cells #[bv 4, bv 0, bv 0, bv 0] 5)).heap.size := hb3.size
  go_wp2_with (at_builtin; refine wpList_appAll _ rfl _ _ rfl w2.heap.size _ _ _ rfl hL0 a1 4 c1 _ (leBytes r 4) rfl (hs2a.below hb3) (by omega) hsz3 ?_)
  intro v3 w3 ho3 hg3
  have hb03 := hb3.grown hg3 hsz3 (fun g hg => (hL0.lt g hg).1)
  clear hL0 hb3 hg3 hs2a hsz3
  go_wp2_with (at_builtin; refine wpList_appAll _ rfl _ _ rfl w2.heap.size _ _ _ rfl ho3 a2 8 c2 _ (leBytes k 8) rfl (hs2b.below hb03) (by omega) hb03.size ?_)
  intro v4 w4 ho4 hg4
  have hb04 := hb03.grown hg4 hb03.size (fun g hg => (ho3.lt g hg).1)
  clear ho3 hb03 hg4 hs2b
  have hB4 := hB2.on hb04
  have hc4 : w4.cell? ⟨w.heap.size, 2, none⟩ = some (.slice (some ad) n c) := by unfold World.cell?; rw [hB4]; rfl
  clear hB2 hB4
  go_wp2_with (at_builtin; refine wpList_appAll _ rfl _ _ rfl w2.heap.size _ _ _ rfl ho4 ad n c _ l rfl (hs2.below hb04) (by omega) hb04.size ?_)
  intro v5 w5 ho5 hg5
  have hb05 := hb04.grown hg5 hb04.size (fun g hg => (ho4.lt g hg).1)
  have hb06 := Below.on hb02 hb02.size hb05
  have ho6 : Own w5 w.heap.size v5 (16 + n) (dataL r k l) := ho5.base hsz2
  clear ho5 ho4 hb04 hg5 hs2 hc4 hb05
  go_wp2
  go_ret2
  exact ⟨_, rfl, ho6, hb06⟩

end Go.Proofs.Ytlllakjimgomjaa
