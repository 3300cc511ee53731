
/- Contracts of layer 2: law02.step, whatever is asked. -/
import Derived.Test.YtlppjndkflfgaaaTkrF
namespace Go.Proofs.Ytlppjndkflfgaaa
open Go.RowKit

theorem canE_zero (left : Nat) (f m : Int) (b : Bool) (h : canE left f m b = 0) : f = 0 ∧ b = true ∧ m ≤ (left : Int) := by
  unfold canE at h
  by_cases hf : f = 0
  · cases b
    · rw [if_pos hf] at h; simp at h
    · by_cases hm : (left : Int) < m
      · simp [hf, hm] at h
      · exact ⟨hf, rfl, by omega⟩
  · rw [if_neg hf] at h; exact absurd h hf
theorem shows_grow {w w' : World} {B g n : Nat} {A : Option Addr} {l : List UInt8} (h : Shows w B A n l) (hg : w.grownBy w' (some g)) (hB : B ≤ g) (hw : B ≤ w.heap.size) : Shows w' B A n l :=
  h.keep fun p hp => World.cell?_of_block (hg.block p.block (by omega) (fun e => by injection e with e; omega))
theorem first_not (l : List UInt8) : ∀ M, M ≤ l.length → (∀ j, j < M → l[j]? = some 0) ∨ ∃ K x, K < M ∧ (∀ j, j < K → l[j]? = some 0) ∧ l[K]? = some x ∧ x ≠ 0
  | 0, _ => .inl fun j hj => by omega
  | M + 1, h => by
    rcases first_not l M (by omega) with h1 | ⟨K, x, h1, h2, h3, h4⟩
    · by_cases hx : l[M] = 0
      · refine .inl fun j hj => ?_
        by_cases hjM : j = M
        · subst hjM; rw [List.getElem?_eq_getElem (by omega), hx]
        · exact h1 j (by omega)
      · exact .inr ⟨M, l[M], by omega, h1, List.getElem?_eq_getElem (by omega), hx⟩
    · exact .inr ⟨K, x, by omega, h2, h3, h4⟩

theorem step_any (g : Nat) (A1 : Option Addr) (c1 : Nat) (A : Option Addr) (n c at_ : Nat) (f kd m : Int) (l : List UInt8) (B : Nat) (w : World) (hat : at_ ≤ n) (hn : n ≤ 1000000) (hnc : n ≤ c) (hm : -9223372036854775808 ≤ m ∧ m ≤ 9223372036854775807)
    (hk : Tk w g A1 (n - at_) c1 f (l.drop at_)) (h : Shows w B A n l) (hB : B ≤ g) :
    Calls Try.prog 15 #[.pointer (some ⟨g, 0, none⟩), .agg (stC A n c at_ f), .agg #[.int .i64 kd, .int .i64 m]] w fun e w' =>
      ∃ (at' : Nat) (f' : Int) (A2 : Option Addr) (c2 : Nat), e = .returned (.tuple #[.agg (stC A n c at' f'), .bool true]) ∧ at' ≤ n ∧ Tk w' g A2 (n - at') c2 f' (l.drop at') ∧ w.grownBy w' (some g) := by
  have hgl := hk.lt
  have hS : ∀ W, Below w.heap.size w W → Shows W W.heap.size A n l := fun W hb => (h.keep fun p hp => hb.cell (by omega)).up (by have := hb.size; omega)
  have hl : l.length = n := h.len
  have hdrop : ∀ M, (l.drop at_).drop M = l.drop (at_ + M) := fun M => by rw [List.drop_drop]
  have hsub : ∀ M, n - at_ - M = n - (at_ + M) := fun M => by omega
  by_cases h0 : kd = 0 ∨ kd = 1
  · by_cases hE : canE (n - at_) f m (numB m) = 0
    · obtain ⟨rfl, hb, hle⟩ := canE_zero _ _ _ _ hE
      unfold numB at hb
      simp only [Bool.and_eq_true, decide_eq_true_eq] at hb
      obtain ⟨M, rfl⟩ := Int.eq_ofNat_of_zero_le (show 0 ≤ m by omega)
      have hM : at_ + M ≤ n := by omega
      obtain ⟨b, off, rfl, hbB, _⟩ := h.2 (by omega)
      rcases h0 with rfl | rfl
      · refine (step_little g A1 (n - at_) c1 0 (l.drop at_) _ _ _ 0 _ (some ⟨b, off, none⟩) n c at_ 0 (M : Int) (stC (some ⟨b, off, none⟩) n c (at_ + M) 0) w hk rfl (st_one _ _ _ _ _) (leNat ((l.drop at_).take M))
          (fun W hb2 => rnum_little b off n c at_ M l W hn hnc (by omega) (by omega) hM (hS W hb2)) (fun W hW => little_tk g A1 (n - at_) c1 M (l.drop at_) W hW (by omega) (by omega) (by omega))).mono ?_
        rintro e w' ⟨he, ht, hg⟩
        exact ⟨at_ + M, 0, _, _, he, hM, by rw [← hsub, ← hdrop]; exact ht, hg⟩
      · refine (step_big g A1 (n - at_) c1 0 (l.drop at_) _ _ _ 0 _ (some ⟨b, off, none⟩) n c at_ 0 (M : Int) (stC (some ⟨b, off, none⟩) n c (at_ + M) 0) w hk rfl (st_one _ _ _ _ _) (leNat ((l.drop at_).take M).reverse)
          (fun W hb2 => rnum_big b off n c at_ M l W hn hnc (by omega) (by omega) hM (hS W hb2)) (fun W hW => big_tk g A1 (n - at_) c1 M (l.drop at_) W hW (by omega) (by omega) (by omega))).mono ?_
        rintro e w' ⟨he, ht, hg⟩
        exact ⟨at_ + M, 0, _, _, he, hM, by rw [← hsub, ← hdrop]; exact ht, hg⟩
    · rcases h0 with rfl | rfl
      · refine (step_little g A1 (n - at_) c1 f (l.drop at_) A1 (n - at_) c1 (canE (n - at_) f m (numB m)) (l.drop at_) A n c at_ f m (stC A n c at_ (canE (n - at_) f m (numB m))) w hk rfl (st_one _ _ _ _ _) 0
          (fun W _ => rnum_no A n c at_ f m false W hat hn hm hE) (fun W hW => little_no g A1 (n - at_) c1 f m (l.drop at_) W hW hE)).mono ?_
        rintro e w' ⟨he, ht, hg⟩
        exact ⟨at_, _, _, _, he, hat, ht, hg⟩
      · refine (step_big g A1 (n - at_) c1 f (l.drop at_) A1 (n - at_) c1 (canE (n - at_) f m (numB m)) (l.drop at_) A n c at_ f m (stC A n c at_ (canE (n - at_) f m (numB m))) w hk rfl (st_one _ _ _ _ _) 0
          (fun W _ => rnum_no A n c at_ f m true W hat hn hm hE) (fun W hW => big_no g A1 (n - at_) c1 f m (l.drop at_) W hW hE)).mono ?_
        rintro e w' ⟨he, ht, hg⟩
        exact ⟨at_, _, _, _, he, hat, ht, hg⟩
  · have hk0 : ¬ kd = 0 := fun e => h0 (.inl e)
    have hk1 : ¬ kd = 1 := fun e => h0 (.inr e)
    by_cases hk2 : kd = 2
    · subst hk2
      by_cases hE : canE (n - at_) f m (decide (0 ≤ m)) = 0
      · obtain ⟨rfl, hb, hle⟩ := canE_zero _ _ _ _ hE
        obtain ⟨M, rfl⟩ := Int.eq_ofNat_of_zero_le (show 0 ≤ m by simpa using hb)
        have hM : at_ + M ≤ n := by omega
        refine (step_bytes g A1 (n - at_) c1 0 (l.drop at_) (restAt A1 c1 M) (n - at_ - M) (c1 - M) 0 ((l.drop at_).drop M) A n c at_ 0 (M : Int) (stC A n c (at_ + M) 0) w hk rfl (st_one _ _ _ _ _) (.slice (restAt A c at_) M (c - at_))
          (fun W hb2 => rbytes_ok A n c at_ M W hn hnc hM) (fun W hb2 hW => ?_)).mono ?_
        · refine (bytes_ok g A1 (n - at_) c1 M (l.drop at_) W hW (by omega) (by omega)).mono ?_
          rintro e w' ⟨b, rfl, hbw, ho, ht, hg⟩
          refine ⟨_, _, _, rfl, ht, hg, ?_⟩
          have hsw : Shows W B A n l := h.keep fun p hp => hb2.cell (by omega)
          have hs2 : Shows w' w'.heap.size A n l := (shows_grow hsw hg hB (by have := hb2.size; omega)).up (by have := hb2.size; have := hg.size; omega)
          exact same_yes _ _ M _ _ _ w' (by simp [maxLen]; omega) ho.shown (seg_shows hs2 hnc hM)
        · rintro e w' ⟨he, ht, hg⟩
          exact ⟨at_ + M, 0, _, _, he, hM, by rw [← hsub, ← hdrop]; exact ht, hg⟩
      · refine (step_bytes g A1 (n - at_) c1 f (l.drop at_) A1 (n - at_) c1 (canE (n - at_) f m (decide (0 ≤ m))) (l.drop at_) A n c at_ f m (stC A n c at_ (canE (n - at_) f m (decide (0 ≤ m)))) w hk rfl (st_one _ _ _ _ _) (.slice none 0 0)
          (fun W _ => rbytes_no A n c at_ f m W hat hn hm hE) (fun W _ hW => ?_)).mono ?_
        · refine (bytes_no g A1 (n - at_) c1 f m (l.drop at_) W hW hE).mono ?_
          rintro e w' ⟨rfl, ht, hg⟩
          exact ⟨none, 0, 0, rfl, ht, hg, same_yes none none 0 0 0 [] w' (by decide) (shows_none _ _) (shows_none _ _)⟩
        · rintro e w' ⟨he, ht, hg⟩
          exact ⟨at_, _, _, _, he, hat, ht, hg⟩
    · by_cases hE : canE (n - at_) f m (decide (0 ≤ m)) = 0
      · obtain ⟨rfl, hb, hle⟩ := canE_zero _ _ _ _ hE
        obtain ⟨M, rfl⟩ := Int.eq_ofNat_of_zero_le (show 0 ≤ m by simpa using hb)
        have hM : at_ + M ≤ n := by omega
        rcases first_not (l.drop at_) M (by rw [List.length_drop]; omega) with hz | ⟨K, x, hK, hz, hx, hx0⟩
        · refine (step_zeros g A1 (n - at_) c1 0 (l.drop at_) _ _ _ 0 _ A n c at_ 0 kd (M : Int) (stC A n c (at_ + M) 0) w hk rfl (st_one _ _ _ _ _) hk0 hk1 hk2 true
            (fun W hb2 => rzeros_ok A n c at_ M l W hn hnc hM (hS W hb2) hz) (fun W hW => zeros_ok g A1 (n - at_) c1 M (l.drop at_) W hW (by omega) (by omega) hz)).mono ?_
          rintro e w' ⟨he, ht, hg⟩
          exact ⟨at_ + M, 0, _, _, he, hM, by rw [← hsub, ← hdrop]; exact ht, hg⟩
        · refine (step_zeros g A1 (n - at_) c1 0 (l.drop at_) _ _ _ 10 _ A n c at_ 0 kd (M : Int) (stC A n c at_ 10) w hk rfl (st_one _ _ _ _ _) hk0 hk1 hk2 false
            (fun W hb2 => rzeros_not A n c at_ M K x l W hn hnc hM (hS W hb2) hK hz hx hx0) (fun W hW => zeros_not g A1 (n - at_) c1 M K x (l.drop at_) W hW (by omega) (by omega) hK hz hx hx0)).mono ?_
          rintro e w' ⟨he, ht, hg⟩
          exact ⟨at_, 10, _, _, he, hat, ht, hg⟩
      · refine (step_zeros g A1 (n - at_) c1 f (l.drop at_) A1 (n - at_) c1 (canE (n - at_) f m (decide (0 ≤ m))) (l.drop at_) A n c at_ f kd m (stC A n c at_ (canE (n - at_) f m (decide (0 ≤ m)))) w hk rfl (st_one _ _ _ _ _) hk0 hk1 hk2 false
          (fun W _ => rzeros_no A n c at_ f m W hat hn hm hE) (fun W hW => zeros_no g A1 (n - at_) c1 f m (l.drop at_) W hW hE)).mono ?_
        rintro e w' ⟨he, ht, hg⟩
        exact ⟨at_, _, _, _, he, hat, ht, hg⟩

end Go.Proofs.Ytlppjndkflfgaaa
