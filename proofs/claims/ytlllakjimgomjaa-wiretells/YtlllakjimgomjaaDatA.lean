
/- Contracts: data.Bytes. -/
import Derived.Test.YtlllakjimgomjaaMsgD
import Derived.Test.YtlllakjimgomjaaEndE
import Derived.Deep.RegionWith
namespace Go.Proofs.Ytlllakjimgomjaa
open Go.RowKit

/-- A message that carries a packet, as a value, and its bytes. -/
abbrev trv (r k : Nat) (A : Option Addr) (n c : Nat) : Array Value := #[.int .u32 (r : Int), .int .u64 (k : Int), .slice A n c]
def dataL (r k : Nat) (l : List UInt8) : List UInt8 := [4, 0, 0, 0] ++ (leBytes r 4 ++ (leBytes k 8 ++ l))
theorem dataL_len (r k : Nat) (l : List UInt8) : (dataL r k l).length = 16 + l.length := by simp [dataL, leBytes_len]; omega

theorem dataBytes_short (r k : Nat) (A : Option Addr) (n c : Nat) (w : World) (hn : n < 16) :
    Calls Try.prog 38 #[.agg (trv r k A n c)] w fun e w' => e = .returned (.tuple #[.slice none 0 0, .int .i64 3]) ∧ Below w.heap.size w w' := by
  go_enter Try.func38, Try.ntmps38
  go_wp2
  go_ret2
  exact ⟨rfl, (Below.refl _ _).alloc (Nat.le_refl _) _⟩
theorem dataBytes_long (r k : Nat) (A : Option Addr) (n c : Nat) (w : World) (hn : 65551 < n) (hm : n ≤ 9223372036854775807) :
    Calls Try.prog 38 #[.agg (trv r k A n c)] w fun e w' => e = .returned (.tuple #[.slice none 0 0, .int .i64 4]) ∧ Below w.heap.size w w' := by
  go_enter Try.func38, Try.ntmps38
  go_wp2
  go_ret2
  exact ⟨rfl, (Below.refl _ _).alloc (Nat.le_refl _) _⟩

theorem dataBytes_ok (r k : Nat) (ad : Addr) (n c : Nat) (l : List UInt8) (w : World) (hr : r < 4294967296) (hk : k < 18446744073709551616) (h16 : 16 ≤ n) (hn : n ≤ 65551) (hs : Shows w w.heap.size (some ad) n l) :
    Calls Try.prog 38 #[.agg (trv r k (some ad) n c)] w fun e w' => ∃ v, e = .returned (.tuple #[v, .int .i64 0]) ∧ Own w' w.heap.size v (16 + n) (dataL r k l) ∧ Below w.heap.size w w' := by
  have hw : IntKind.u64.wrap (r : Int) = (r : Int) := IntWalk.u64_in _ (by omega)
  have hlen := hs.len
  go_enter Try.func38, Try.ntmps38
  go_wp2_with fail
  have hB0 := blk_new w 56 (trv r k (some ad) n c)
  have hb0 : Below w.heap.size w (w.alloc (.cells (trv r k (some ad) n c) 56)) := (Below.refl _ _).alloc (Nat.le_refl _) _
  have hs0 := (hs.alloc (Nat.le_refl _) (.cells (trv r k (some ad) n c) 56)).up (show w.heap.size ≤ (w.alloc (.cells (trv r k (some ad) n c) 56)).heap.size by simp)
  generalize hw0 : w.alloc (.cells (trv r k (some ad) n c) 56) = w0 at *
  clear hs hw0
  refine (little_ok r 4 w0 (by omega) (by omega) (by rw [ones_32]; omega)).mono ?_
  rintro e w1 ⟨rfl, ho1, hb1⟩
  have hB1 := hB0.on hb1
  have hs1 := Sh.on (f := bv) hs0 hb1
  have hb01 := Below.on hb0 hb0.size hb1
  have hs1a := ho1.shown
  have hc1 : w1.cell? ⟨w.heap.size, 1, none⟩ = some (.int .u64 (k : Int)) := by unfold World.cell?; rw [hB1]; rfl
  clear hB0 hs0 hb0 hb1 ho1
  go_wp2_with fail
  refine (little_ok k 8 w1 (by omega) (by omega) (by rw [ones_64]; omega)).mono ?_
  rintro e w2 ⟨rfl, ho2, hb2⟩
  have hB2 := hB1.on hb2
  have hs2 := Sh.on (f := bv) hs1 hb2
  have hs2a := Sh.on (f := bv) hs1a hb2
  have hb02 := Below.on hb01 hb01.size hb2
  have hs2b := ho2.shown
  have hc2 : w2.cell? ⟨w.heap.size, 2, none⟩ = some (.slice (some ad) n c) := by unfold World.cell?; rw [hB2]; rfl
  have hlt := hB2.lt
  clear hB1 hs1 hs1a hb01 hb2 ho2 hc1
  generalize hg1 : w0.heap.size = g1 at *
  generalize hg2 : w1.heap.size = g2 at *
  clear hg1 hg2
  have HC := Lib.hid (concat_msg 4 4 [(⟨g1, 0, none⟩, 4, 4), (⟨g2, 0, none⟩, 8, 8), (ad, n, c)] [leBytes r 4, leBytes k 8, l] w2 _ rfl rfl rfl (by omega) (fun j p x h1 h2 => by
    match j, h1, h2 with
    | 0, h1, h2 => simp at h1 h2; subst h1; subst h2; exact hs2a
    | 1, h1, h2 => simp at h1 h2; subst h1; subst h2; exact hs2b
    | 2, h1, h2 => simp at h1 h2; subst h1; subst h2; exact hs2) (by simp [leBytes_len]; omega))
  clear hs2 hs2a hs2b
  go_wp2_with fail
  go_region_with (first
    | (go_at_call 59; refine (headBytes_any 4 _).mono ?_; rintro e w3 ⟨rfl, rfl⟩)
    | (go_at_call 58; refine HC.out.mono ?_; rintro e w4 ⟨v, rfl, ho4, hb4⟩))
  all_goals
    have ho5 : Own w4 w.heap.size v (16 + n) (dataL r k l) := by
      have := ho4.base hb02.size
      rw [show 4 + [leBytes r 4, leBytes k 8, l].flatten.length = 16 + n by simp [leBytes_len, hlen]; omega, show [4, 0, 0, 0] ++ [leBytes r 4, leBytes k 8, l].flatten = dataL r k l by simp [dataL]] at this
      exact this
    have hb5 := Below.on hb02 hb02.size hb4
    clear ho4 hb4 HC
    go_wp2
    go_ret2
    exact ⟨v, rfl, ho5, hb5⟩

end Go.Proofs.Ytlllakjimgomjaa
