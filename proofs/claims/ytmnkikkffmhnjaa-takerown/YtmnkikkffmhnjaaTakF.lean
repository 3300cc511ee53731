/- The walk of law02.TakerOwn. -/
import Derived.Test.YtmnkikkffmhnjaaTakE
namespace Go.Proofs.Ytmnkikkffmhnjaa
open Go.RowKit

theorem own_early (A : Option Addr) (n c : Nat) (a1 : Int) {w : World} (hm : n ≤ 9223372036854775807) (hs : 300 < n ∨ a1 < 0 ∨ (n : Int) < a1) :
    Calls Try.prog 9 #[.slice A n c, .int .i64 a1] w fun e w' => e = .returned (.bool true) ∧ Below w.heap.size w w' := by
  by_cases h1 : 300 < n
  · go_enter Try.func9, Try.ntmps9
    go_wp2_with fail
    refine (alive2 _).mono ?_; rintro e w3 ⟨rfl, hb3⟩
    go_wp2
    go_ret
    exact ⟨rfl, hb3⟩
  · by_cases h2 : a1 < 0
    · go_enter Try.func9, Try.ntmps9
      go_wp2_with fail
      refine (alive2 _).mono ?_; rintro e w3 ⟨rfl, hb3⟩
      go_wp2
      go_ret
      exact ⟨rfl, hb3⟩
    · have h3 : (n : Int) < a1 := by omega
      go_enter Try.func9, Try.ntmps9
      go_wp2_with fail
      refine (alive2 _).mono ?_; rintro e w3 ⟨rfl, hb3⟩
      go_wp2
      go_ret
      exact ⟨rfl, hb3⟩

set_option maxHeartbeats 4000000 in
theorem own_main (ad : Addr) (n c m : Nat) (l : List UInt8) {w : World} (hnc : n ≤ c) (hmn : m ≤ n) (hn3 : n ≤ 300) (h : Shows w w.heap.size (some ad) n l) :
    Calls Try.prog 9 #[.slice (some ad) n c, .int .i64 (m : Int)] w fun e w' => e = .returned (.bool true) ∧ Below w.heap.size w w' := by
  have hmx : n ≤ maxLen := by unfold maxLen; omega
  have hmx2 : m ≤ maxLen := by unfold maxLen; omega
  go_enter Try.func9, Try.ntmps9
  go_wp2_with (at_builtin; refine wpList_appAll _ rfl _ _ rfl w.heap.size _ 0 [] rfl (by exact own_lit0 w _ (Nat.le_refl _)) ad n c w.heap.size l rfl (by exact h.alloc (Nat.le_refl _) _) (by omega) (by simp) ?_)
  intro v wB hoB hgB
  have hbB : Below w.heap.size w wB := by
    refine Below.grown ((Below.refl _ _).alloc (Nat.le_refl _) _) hgB (by simp) (fun k hk => by injection hk with hk; simp at hk; omega)
  obtain ⟨A2, c2, rfl, _, _, s2⟩ := hoB.shows
  have hB := (h.below hbB).up hbB.size
  clear hgB h hoB
  go_wp2_with fail
  refine (new_any A2 n c2 l wB (by omega) s2).mono ?_
  rintro e w2 ⟨g, rfl, hg, ht2, hb2⟩
  have s22 := s2.below hb2
  have hB2 := hB.below hb2
  have b2 := Below.on hbB hbB.size hb2
  clear s2 hB hb2
  go_wp2_with fail
  refine (bytes_ok g _ n n m l w2 ht2 hmn (by omega)).mono ?_
  rintro e w3 ⟨b, rfl, hb, ho3, ht3, hg3⟩
  have hgl := ht2.lt
  have kp : ∀ p : Addr, p.block < wB.heap.size → w3.cell? p = w2.cell? p := fun p hp => World.cell?_of_block (hg3.block p.block (by omega) (fun e => by injection e with e; omega))
  have s23 := s22.keep kp
  have hB3 := hB2.keep kp
  have b3 := below_grown b2 hg3 b2.size (by have := hbB.size; omega)
  have hs3 := ho3.shown
  have hblt : b < w3.heap.size := (ho3.lt b rfl).2
  have hgb : g < b := by omega
  clear ht2 s22 hB2 b2 kp
  have hwB3 : wB.heap.size ≤ w3.heap.size := by omega
  have hF3 : Shows w3 w3.heap.size (some ad) m (l.take m) := Sh.front (f := bv) (hB3.up hwB3) hmn
  go_wp2_with fail
  refine (same_below _ _ _ _ _ _ _ hmx2 hs3 hF3).mono ?_
  rintro e w4 ⟨rfl, hb4⟩
  have ho4 : Own w4 b (.slice (some ⟨b, 0, none⟩) m m) m (l.take m) := by
    refine ⟨ho3.1, ?_⟩
    rcases ho3.2 with ⟨e, _⟩ | ⟨g', cap, cur, e, h4, h5, h6⟩
    · cases e
    · have hlt : g' < w3.heap.size := (Array.getElem?_eq_some_iff.1 h5).1
      exact .inr ⟨g', cap, cur, e, h4, by rw [hb4.block g' hlt]; exact h5, h6⟩
  have ht4 := ht3.on hb4
  have s24 := s23.keep fun p hp => hb4.cell (w' := w4) (show p.block < w3.heap.size by omega)
  have hB4 := hB3.keep fun p hp => hb4.cell (w' := w4) (show p.block < w3.heap.size by omega)
  have b4 := Below.on b3 b3.size hb4
  have hw34 := hb4.size
  clear ht3 s23 hB3 b3 ho3 hs3 hF3 hb4
  go_wp2_with (at_builtin; refine wpList_appAll _ rfl _ _ rfl b _ m (l.take m) rfl (by exact ho4.alloc _) ⟨w4.heap.size, 0, none⟩ 3 3 _ [7, 7, 7] rfl (by exact shows_new _ _ [7, 7, 7] rfl) ?c2 ?c3 ?_)
  case c2 => omega
  case c3 => simp; omega
  intro v5 w5 ho5 hg5
  have hb5 : Below b w4 w5 := by
    refine Below.grown ((Below.refl _ _).alloc (by omega) _) hg5 (by simp; omega) (fun k hk => (ho4.lt k hk).1)
  obtain ⟨g5, c5, hv5, hbg5⟩ : ∃ g5 c5, v5 = .slice (some ⟨g5, 0, none⟩) (m + 3) c5 ∧ b ≤ g5 := by
    rcases ho5.2 with ⟨_, e⟩ | ⟨g', cap, cur, e, h4, _⟩
    · omega
    · exact ⟨g', cap, e, h4⟩
  subst hv5
  obtain ⟨old, hc5, _⟩ := ho5.at (j := 0) (by omega)
  have hf5 := World.ownsRow.frozenAt ho5 0
  have hput := ho5.put 0 9
  have hb6 : Below b w4 (w5.setCell ⟨g5, 0, none⟩ (.int .u8 9)) := Below.grown hb5 hput.2 (by have := hb5.size; omega) (fun k hk => by injection hk with hk; omega)
  have hlt5 : w4.heap.size ≤ w5.heap.size := hb5.size
  clear hput hg5 ho5 ho4 hb5
  generalize hw6 : w5.setCell ⟨g5, 0, none⟩ (.int .u8 9) = w6 at *
  have Hw6 := Lib.hid hw6
  have ht6 : Tk w6 g (restAt (some ⟨wB.heap.size, 0, none⟩) n m) (n - m) (n - m) 0 (l.drop m) :=
    ⟨by rw [hb6.block g (by omega)]; exact ht4.1, ht4.2.1, ht4.2.2.1, ht4.2.2.2.keep fun p hp => hb6.cell (by omega)⟩
  have s26 : Shows w6 wB.heap.size A2 n l := s24.keep fun p hp => hb6.cell (by omega)
  have hB6 : Shows w6 wB.heap.size (some ad) n l := hB4.keep fun p hp => hb6.cell (by omega)
  have b6 : Below w.heap.size w w6 := b4.trans (hb6.mono (by have := hbB.size; omega))
  have hw6s : w5.heap.size = w6.heap.size := by rw [← hw6]; simp [World.setCell]
  clear ht4 s24 hB4 b4 hb6 hw6
  have htd : (l.drop m).take (n - m) = l.drop m := List.take_of_length_le (by rw [List.length_drop, hB6.len]; exact Nat.le_refl _)
  have Htd := Lib.hid htd
  have ht7 : Tk w6.drew g (restAt (some ⟨wB.heap.size, 0, none⟩) n m) (n - m) (n - m) 0 (l.drop m) := ht6
  have s27 : Shows w6.drew wB.heap.size A2 n l := s26
  have hB7 : Shows w6.drew wB.heap.size (some ad) n l := hB6
  have b7 : Below w.heap.size w w6.drew := b6.drew
  have hsz7 : wB.heap.size ≤ g ∧ g < w6.drew.heap.size ∧ w.heap.size ≤ g := ⟨hg, ht7.lt, by have := hbB.size; omega⟩
  have hmx3 : n - m ≤ maxLen := by unfold maxLen; omega
  clear htd ht6 s26 hB6 b6
  go_wp2_with fail
  rw [Hw6.out]
  clear Hw6 hc5 hf5 hlt5 hw6s hbg5 hg3
  by_cases hx : c = m
  · have sb7 : Shows w6.drew wB.heap.size (some ad) (n - m) (l.drop m) := by have := Sh.back (f := bv) hB7 hmn hnc; rwa [if_pos hx] at this
    go_region_with (first
      | (go_at_call 28; refine (left_any g _ _ _ _ _ _ ht7).mono ?_; rintro e w7 ⟨rfl, rfl⟩)
      | (go_at_call 31; refine (bytes_ok g _ (n - m) (n - m) (n - m) (l.drop m) _ ht7 (Nat.le_refl _) (by omega)).mono ?_; rintro e w8 ⟨b8, rfl, hb8, ho8, _, hg8⟩; have s8 := ho8.shown; rw [Htd.out] at s8; have kp8 : ∀ p : Addr, p.block < wB.heap.size → w8.cell? p = w6.drew.cell? p := (fun p hp => World.cell?_of_block (hg8.block p.block (by omega) (fun e => by injection e with e; omega))); have hw8 := hg8.size; have s28 := (s27.keep kp8).up (show wB.heap.size ≤ w8.heap.size by omega); have hB8 := (hB7.keep kp8).up (show wB.heap.size ≤ w8.heap.size by omega); have sb8 := (sb7.keep kp8).up (show wB.heap.size ≤ w8.heap.size by omega); have b8' := below_grown b7 hg8 b7.size (by omega); clear ho8 hg8 kp8)
      | (go_at_call 16; refine (same_below _ _ _ _ _ (l.drop m) _ hmx3 s8 sb8).mono ?_; rintro e w9 ⟨rfl, hb9⟩; have s29 := (s28.below hb9).up hb9.size; have hB9 := (hB8.below hb9).up hb9.size; have b9 := Below.on b8' b8'.size hb9; clear s8 sb8 s28 hB8 hb9 b8')
      | (go_at_call 16; refine (same_below _ _ _ _ _ l _ hmx s29 hB9).mono ?_; rintro e w10 ⟨rfl, hb10⟩; have b10 := Below.on b9 b9.size hb10; clear hb10)
      | (go_at_call 26; refine (alive2 _).mono ?_; rintro e w11 ⟨rfl, hb11⟩; have b11 := Below.on b10 b10.size hb11))
    all_goals
      go_wp2
      go_ret
      exact ⟨rfl, b11⟩
  · have sb7 : Shows w6.drew wB.heap.size (some (ad.add m)) (n - m) (l.drop m) := by have := Sh.back (f := bv) hB7 hmn hnc; rwa [if_neg hx] at this
    go_region_with (first
      | (go_at_call 28; refine (left_any g _ _ _ _ _ _ ht7).mono ?_; rintro e w7 ⟨rfl, rfl⟩)
      | (go_at_call 31; refine (bytes_ok g _ (n - m) (n - m) (n - m) (l.drop m) _ ht7 (Nat.le_refl _) (by omega)).mono ?_; rintro e w8 ⟨b8, rfl, hb8, ho8, _, hg8⟩; have s8 := ho8.shown; rw [Htd.out] at s8; have kp8 : ∀ p : Addr, p.block < wB.heap.size → w8.cell? p = w6.drew.cell? p := (fun p hp => World.cell?_of_block (hg8.block p.block (by omega) (fun e => by injection e with e; omega))); have hw8 := hg8.size; have s28 := (s27.keep kp8).up (show wB.heap.size ≤ w8.heap.size by omega); have hB8 := (hB7.keep kp8).up (show wB.heap.size ≤ w8.heap.size by omega); have sb8 := (sb7.keep kp8).up (show wB.heap.size ≤ w8.heap.size by omega); have b8' := below_grown b7 hg8 b7.size (by omega); clear ho8 hg8 kp8)
      | (go_at_call 16; refine (same_below _ _ _ _ _ (l.drop m) _ hmx3 s8 sb8).mono ?_; rintro e w9 ⟨rfl, hb9⟩; have s29 := (s28.below hb9).up hb9.size; have hB9 := (hB8.below hb9).up hb9.size; have b9 := Below.on b8' b8'.size hb9; clear s8 sb8 s28 hB8 hb9 b8')
      | (go_at_call 16; refine (same_below _ _ _ _ _ l _ hmx s29 hB9).mono ?_; rintro e w10 ⟨rfl, hb10⟩; have b10 := Below.on b9 b9.size hb10; clear hb10)
      | (go_at_call 26; refine (alive2 _).mono ?_; rintro e w11 ⟨rfl, hb11⟩; have b11 := Below.on b10 b10.size hb11))
    all_goals
      go_wp2
      go_ret
      exact ⟨rfl, b11⟩

end Go.Proofs.Ytmnkikkffmhnjaa
