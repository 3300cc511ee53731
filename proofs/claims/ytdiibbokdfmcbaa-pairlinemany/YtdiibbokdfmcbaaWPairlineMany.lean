
/- The walk of law36.PairlineMany. -/
import Derived.Test.YtdiibbokdfmcbaaPlnK
namespace Go.Proofs.Ytdiibbokdfmcbaa
open Go.RowKit Lin Pln
set_option maxRecDepth 100000

/-- Many lines, and their pairs. -/
def manyP (n : Nat) : List Pr := List.replicate n ([107], [])
def manyT (n : Nat) : List UInt8 := joinL (List.replicate n [107, 61])
theorem manyP_succ (n : Nat) : manyP (n + 1) = manyP n ++ [([107], [])] := List.replicate_succ'
theorem manyT_succ (n : Nat) : manyT (n + 1) = manyT n ++ [107, 61, 10] := by
  unfold manyT
  rw [List.replicate_succ']
  simp [joinL]
theorem manyT_len (n : Nat) : (manyT n).length = 3 * n := by
  induction n with
  | zero => rfl
  | succ n ih => rw [manyT_succ, List.length_append, ih]; rfl
theorem many_blk (n : Nat) : IsBlk (manyT n ++ [10]) (List.replicate n [107, 61]) := by
  refine ⟨?_, ?_⟩
  · unfold manyT
    rw [parts_joinL]
    · rfl
    · intro x hx
      rw [List.eq_of_mem_replicate hx]
      decide
  · intro hx
    have := List.eq_of_mem_replicate hx
    cases this
theorem many_tE : tE [107] [] = 0 ∧ tL [107] [] = [107, 61] := by decide
theorem many_b (n : Nat) (h : n ≤ 400) : bE (manyP n) = 0 ∧ bT (manyP n) = manyT n ++ [10] := by
  have h1 : bE (manyP n) = 0 := by
    rw [bE, if_neg (by simp [manyP]; omega), fstE_ok]
    intro e he
    obtain ⟨p, hp, rfl⟩ := List.mem_map.1 he
    rw [List.eq_of_mem_replicate hp]
    exact many_tE.1
  refine ⟨h1, ?_⟩
  rw [bT, if_pos h1, manyP, List.map_replicate, many_tE.2]
  rfl
theorem many_over (n : Nat) (h : 400 < n) : bE (manyP n) = 4 ∧ bT (manyP n) = [] ∧ rE (manyT n ++ [10]) = 4 ∧ rP (manyT n ++ [10]) = [] := by
  have h1 : bE (manyP n) = 4 := by rw [bE, if_pos (by simp [manyP]; omega)]
  have h2 : rE (manyT n ++ [10]) = 4 := by rw [(rE_yes _ _ (many_blk n)).1, if_pos (by simp; omega)]
  exact ⟨h1, by rw [bT, if_neg (by omega)], h2, rP_bad _ (by omega)⟩
theorem many_r (n : Nat) (h : n ≤ 400) : rE (manyT n ++ [10]) = 0 ∧ (rP (manyT n ++ [10])).length = n := by
  obtain ⟨h1, h2⟩ := many_b n h
  have h3 := r_b _ h1
  rw [h2] at h3
  exact ⟨h3.1, by rw [h3.2]; simp [manyP]⟩
theorem manyP_len (n : Nat) : ∀ p ∈ manyP n, p.1.length ≤ 100000 ∧ p.2.length ≤ 100000 := by
  intro p hp
  rw [List.eq_of_mem_replicate hp]
  decide

set_option maxHeartbeats 1000000 in
theorem many_walk (n : Nat) (w : World) (hn : n ≤ 410) :
    Calls Try.prog 6 #[.int .i64 (n : Int)] w fun e w' => e = .returned (.bool true) ∧ Below w.heap.size w w' := by
  go_enter Try.func6, Try.ntmps6
  go_wp2
  go_loopw [3, 4, 5] (fun v u i wr => ∃ k : Nat, k ≤ n ∧ i = .int .i64 k ∧ v = sv (manyT k) ∧ OwnPr 27 wr w.heap.size u k (manyP k) ∧ Below w.heap.size w wr) (fun _ _ i _ => n - (intOf i).toNat)
  case atStart => exact ⟨0, Nat.zero_le _, rfl, rfl, World.ownsRow_nil _ _ _ _, Below.refl _ _⟩
  case round =>
    obtain ⟨k, hk, rfl, rfl, hown, hbel⟩ := hrel
    have hbs := hbel.size
    by_cases hlt : k < n
    · have HT := Lib.hid (manyT_succ k)
      have HP := Lib.hid (manyP_succ k)
      have hTl := manyT_len k
      generalize manyT k = T at *
      generalize manyP k = PS at *
      go_wp2_with (at_builtin; refine wpList_appPr _ rfl _ _ 36 27 rfl Try.underlying36 Try.infoPairB w.heap.size _ _ _ rfl (hown.alloc _) wr.heap.size 1 ([107], []) rfl (cells_two (blk_new' _ _ _ _ rfl)).1 (cells_two (blk_new' _ _ _ _ rfl)).2 (by omega) (by simp; omega) ?_; intro v' w3 hown' hgrow)
      have b3 : Below w.heap.size w w3 := by
        refine Below.grown ?_ hgrow ?_ (fun g hg => (hown.lt g hg).1)
        · exact hbel.alloc hbs _
        · simp; omega
      clear hgrow
      go_wp2
      go_roundw
      case rel => exact ⟨k + 1, by omega, by go_num, congrArg Value.string (by rw [HT.out]; exact str_add _ _), by rw [HP.out]; exact hown', b3⟩
      case measure => simp [intOf] <;> omega
    · obtain rfl : k = n := by omega
      obtain ⟨A1, c1, rfl, q1, q2, q3⟩ := hown.sh
      have H1 := Lib.hid (fun W h => block_any A1 k c1 (manyP k) W (by omega) (manyP_len k) h)
      have hlen := manyT_len k
      have H2 := Lib.hid (fun W => read_any (manyT k ++ [10]) W (by simp; omega))
      have hadd : ByteArray.mk ⟨manyT k⟩ ++ ByteArray.mk #[10] = ByteArray.mk ⟨manyT k ++ [10]⟩ := str_add (manyT k) [10]
      have hTs : (ByteArray.mk ⟨manyT k⟩).size = 3 * k := hlen
      by_cases h4 : 400 < k
      · obtain ⟨e1, e2, e3, e4⟩ := many_over k h4
        rw [e1, e2] at H1
        rw [e3, e4] at H2
        have d4 : decide ((400 : Int) < (k : Int)) = true := by simp; omega
        clear e1 e2 e3 e4
        unfold sv at *
        generalize ByteArray.mk ⟨manyT k ++ [10]⟩ = T2 at *
        generalize ByteArray.mk ⟨manyT k⟩ = T at *
        go_wp2_with fail
        refine (H1.out _ q3).mono ?_; rintro e w2 ⟨rfl, hb2⟩
        have b2 := Below.on hbel hbel.size hb2
        go_wp2_with fail
        refine (H2.out _).mono ?_; rintro e w3 ⟨⟨A3, c3, rfl, _, _, s3⟩, hb3⟩
        have b3 := Below.on b2 b2.size hb3
        go_wp2_with fail
        refine (alive36 _).mono ?_; rintro e w5 ⟨rfl, hb5⟩
        have b5 := Below.on b3 b3.size hb5
        go_wp2
        go_ret
        exact ⟨rfl, b5⟩
      · obtain ⟨e1, e2⟩ := many_b k (by omega)
        obtain ⟨e3, e4⟩ := many_r k (by omega)
        rw [e1, e2] at H1
        rw [e3] at H2
        have d4 : decide ((400 : Int) < (k : Int)) = false := by simp; omega
        have H4 := Lib.hid e4
        clear e1 e2 e3 e4
        generalize rP (manyT k ++ [10]) = PS at *
        unfold sv at *
        generalize ByteArray.mk ⟨manyT k ++ [10]⟩ = T2 at *
        generalize ByteArray.mk ⟨manyT k⟩ = T at *
        go_wp2_with fail
        refine (H1.out _ q3).mono ?_; rintro e w2 ⟨rfl, hb2⟩
        have b2 := Below.on hbel hbel.size hb2
        go_wp2_with fail
        refine (H2.out _).mono ?_; rintro e w3 ⟨⟨A3, c3, rfl, _, _, s3⟩, hb3⟩
        rw [H4.out]
        have b3 := Below.on b2 b2.size hb3
        go_wp2_with fail
        refine (alive36 _).mono ?_; rintro e w5 ⟨rfl, hb5⟩
        have b5 := Below.on b3 b3.size hb5
        go_wp2
        go_ret
        exact ⟨rfl, b5⟩

theorem walk_PairlineMany (a : Int) (w : World) (w0 : (Lit.int .i64 a).wf = true) :
    Calls Try.prog 6 #[.int .i64 a] w fun e w' => e = .returned (.bool true) ∧ Below w.heap.size w w' := by
  obtain ⟨h1, h2⟩ := bounds_i64 w0
  by_cases h : a < 0 ∨ 410 < a
  · by_cases h0 : a < 0
    · have d0 : decide (a < 0) = true := decide_eq_true h0
      go_enter Try.func6, Try.ntmps6
      go_wp2_with fail
      refine (alive36 _).mono ?_; rintro e w3 ⟨rfl, hb3⟩
      go_wp2
      go_ret
      exact ⟨rfl, hb3⟩
    · have h4 : 410 < a := by omega
      have d0 : decide (a < 0) = false := decide_eq_false h0
      have d1 : decide (410 < a) = true := decide_eq_true h4
      go_enter Try.func6, Try.ntmps6
      go_wp2_with fail
      refine (alive36 _).mono ?_; rintro e w3 ⟨rfl, hb3⟩
      go_wp2
      go_ret
      exact ⟨rfl, hb3⟩
  · obtain ⟨n, rfl⟩ := Int.eq_ofNat_of_zero_le (show 0 ≤ a by omega)
    exact many_walk n w (by omega)

end Go.Proofs.Ytdiibbokdfmcbaa
