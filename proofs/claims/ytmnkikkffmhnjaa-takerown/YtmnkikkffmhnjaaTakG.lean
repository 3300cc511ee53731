/- The walk of law02.TakerOwn, of nil too. -/
import Derived.Test.YtmnkikkffmhnjaaTakF
namespace Go.Proofs.Ytmnkikkffmhnjaa
open Go.RowKit

theorem sh0 (w : World) (B : Nat) (A : Option Addr) : Shows w B A 0 [] := ⟨rfl, fun h => absurd h (by omega)⟩

set_option maxHeartbeats 4000000 in
theorem own_nil (c : Nat) {w : World} :
    Calls Try.prog 9 #[.slice none 0 c, .int .i64 0] w fun e w' => e = .returned (.bool true) ∧ Below w.heap.size w w' := by
  go_enter Try.func9, Try.ntmps9
  go_wp2_with fail
  refine (new_any _ 0 0 [] _ (by omega) (sh0 _ _ _)).mono ?_
  rintro e w2 ⟨g, rfl, hg, ht2, hb2⟩
  have b2 := Below.step (Below.refl w.heap.size w) (Nat.le_refl _) hb2
  have hgw : w.heap.size ≤ g := by simp at hg; omega
  clear hb2 hg
  go_wp2_with fail
  refine (bytes_ok g _ 0 0 0 [] w2 ht2 (Nat.le_refl _) (by omega)).mono ?_
  rintro e w3 ⟨b, rfl, hb, ho3, ht3, hg3⟩
  have hgl := ht2.lt
  have b3 := below_grown b2 hg3 b2.size hgw
  have hblt : b < w3.heap.size := (ho3.lt b rfl).2
  have hgb : g < b := by omega
  clear ht2 b2 hg3
  go_wp2_with fail
  refine (same_below _ _ 0 _ _ [] _ (by decide) (sh0 _ _ _) (sh0 _ _ _)).mono ?_
  rintro e w4 ⟨rfl, hb4⟩
  have ho4 : Own w4 b (.slice (some ⟨b, 0, none⟩) 0 0) 0 [] := by
    refine ⟨ho3.1, ?_⟩
    rcases ho3.2 with ⟨e, _⟩ | ⟨g', cap, cur, e, h4, h5, h6⟩
    · cases e
    · have hlt : g' < w3.heap.size := (Array.getElem?_eq_some_iff.1 h5).1
      exact .inr ⟨g', cap, cur, e, h4, by rw [hb4.block g' hlt]; exact h5, h6⟩
  have ht4 := ht3.on hb4
  have b4 := Below.on b3 b3.size hb4
  have hw34 := hb4.size
  clear ht3 b3 ho3 hb4
  go_wp2_with (at_builtin; refine wpList_appAll _ rfl _ _ rfl b _ 0 [] rfl (by exact ho4.alloc _) ⟨w4.heap.size, 0, none⟩ 3 3 _ [7, 7, 7] rfl (by exact shows_new _ _ [7, 7, 7] rfl) ?c2 ?c3 ?_)
  case c2 => omega
  case c3 => simp; omega
  intro v5 w5 ho5 hg5
  have hb5 : Below b w4 w5 := by
    refine Below.grown ((Below.refl _ _).alloc (by omega) _) hg5 (by simp; omega) (fun k hk => (ho4.lt k hk).1)
  obtain ⟨g5, c5, hv5, hbg5⟩ : ∃ g5 c5, v5 = .slice (some ⟨g5, 0, none⟩) 3 c5 ∧ b ≤ g5 := by
    rcases ho5.2 with ⟨_, e⟩ | ⟨g', cap, cur, e, h4, _⟩
    · omega
    · exact ⟨g', cap, e, h4⟩
  subst hv5
  obtain ⟨old, hc5, _⟩ := ho5.at (j := 0) (by omega)
  have hf5 := World.ownsRow.frozenAt ho5 0
  have hput := ho5.put 0 9
  have hb6 : Below b w4 (w5.setCell ⟨g5, 0, none⟩ (.int .u8 9)) := Below.grown hb5 hput.2 (by have := hb5.size; omega) (fun k hk => by injection hk with hk; omega)
  clear hput hg5 ho5 ho4 hb5
  generalize hw6 : w5.setCell ⟨g5, 0, none⟩ (.int .u8 9) = w6 at *
  have Hw6 := Lib.hid hw6
  have ht6 : Tk w6 g (restAt (some ⟨_, 0, none⟩) 0 0) (0 - 0) (0 - 0) 0 (List.drop 0 []) :=
    ⟨by rw [hb6.block g (by omega)]; exact ht4.1, ht4.2.1, ht4.2.2.1, ht4.2.2.2.keep fun p hp => hb6.cell (by omega)⟩
  have b6 : Below w.heap.size w w6 := b4.trans (hb6.mono (by omega))
  have ht7 : Tk w6.drew g _ (0 - 0) (0 - 0) 0 (List.drop 0 []) := ht6
  have b7 : Below w.heap.size w w6.drew := b6.drew
  clear ht4 b4 hb6 hw6 ht6 b6
  go_wp2_with fail
  rw [Hw6.out]
  clear Hw6 hc5 hf5 hbg5
  by_cases hx : c = 0
  all_goals
    go_region_with (first
      | (go_at_call 28; refine (left_any g _ _ _ _ _ _ ht7).mono ?_; rintro e w7 ⟨rfl, rfl⟩)
      | (go_at_call 31; refine (bytes_ok g _ 0 0 0 [] _ ht7 (Nat.le_refl _) (by omega)).mono ?_; rintro e w8 ⟨b8, rfl, hb8, ho8, _, hg8⟩; have b8' := below_grown b7 hg8 b7.size (by omega); clear ho8 hg8)
      | (go_at_call 16; refine (same_below _ _ 0 _ _ [] _ (by decide) (sh0 _ _ _) (sh0 _ _ _)).mono ?_; rintro e w9 ⟨rfl, hb9⟩; have b9 := Below.on b8' b8'.size hb9; clear b8')
      | (go_at_call 16; refine (same_below _ _ 0 _ _ [] _ (by decide) (sh0 _ _ _) (sh0 _ _ _)).mono ?_; rintro e w10 ⟨rfl, hb10⟩; have b10 := Below.on b9 b9.size hb10; clear hb10)
      | (go_at_call 26; refine (alive2 _).mono ?_; rintro e w11 ⟨rfl, hb11⟩; have b11 := Below.on b10 b10.size hb11))
    all_goals
      go_wp2
      go_ret
      exact ⟨rfl, b11⟩

theorem walk_TakerOwn (A : Option Addr) (n c : Nat) (l : List UInt8) (a1 : Int) {w : World} (hc : n ≤ c ∧ c ≤ maxLen) (h : Shows w w.heap.size A n l) (w1 : (Lit.int .i64 a1).wf = true) :
    Calls Try.prog 9 #[.slice A n c, .int .i64 a1] w fun e w' => e = .returned (.bool true) ∧ Below w.heap.size w w' := by
  have hm : n ≤ 9223372036854775807 := by have := Nat.le_trans hc.1 hc.2; unfold maxLen at this; omega
  by_cases hs : 300 < n ∨ a1 < 0 ∨ (n : Int) < a1
  · exact own_early A n c a1 hm hs
  · obtain ⟨m, rfl⟩ := Int.eq_ofNat_of_zero_le (show 0 ≤ a1 by omega)
    cases A with
    | some ad => exact own_main ad n c m l hc.1 (by omega) (by omega) h
    | none =>
      have hn0 : n = 0 := by
        rcases Nat.eq_zero_or_pos n with h0 | h0
        · exact h0
        · obtain ⟨_, _, e, _⟩ := h.2 h0
          cases e
      subst hn0
      obtain rfl : m = 0 := by omega
      exact own_nil c

end Go.Proofs.Ytmnkikkffmhnjaa
