
/- Contracts: Block of pairline and of its reference. -/
import Derived.Test.YtdiibbokdfmcbaaPlnM
namespace Go.Proofs.Ytdiibbokdfmcbaa.Pln
open Go.RowKit Lin
set_option maxRecDepth 100000

theorem joinL_snoc (ls : List (List UInt8)) : joinL (ls ++ [[]]) = joinL ls ++ [10] := by simp [joinL]
theorem joinL_most (ls : List (List UInt8)) (h : ∀ x ∈ ls, x.length ≤ 512) : (joinL ls).length ≤ ls.length * 513 := by
  induction ls with
  | nil => simp [joinL]
  | cons x t ih =>
    have h1 := ih (fun y hy => h y (by simp [hy]))
    have h2 := h x (by simp)
    simp only [joinL, List.flatMap_cons, List.length_append, List.length_cons, List.length_nil] at *
    omega
theorem OwnS_sh {w : World} {base n : Nat} {v : Value} {l : List (List UInt8)} (h : OwnS w base v n l) : ∃ A c, v = .slice A n c ∧ n ≤ c ∧ c ≤ maxLen ∧ Sh sv w w.heap.size A n l := GOwn.sh h

set_option maxHeartbeats 1000000 in
theorem block_any (A : Option Addr) (n c : Nat) (ps : List Pr) (w : World) (hn : n ≤ 1000000) (hsz : ∀ p ∈ ps, p.1.length ≤ 100000 ∧ p.2.length ≤ 100000) (h : ShP w w.heap.size A n ps) :
    Calls Try.prog 12 #[.slice A n c] w fun e w' => e = .returned (.tuple #[sv (bT ps), .int .i64 (bE ps : Int)]) ∧ Below w.heap.size w w' := by
  have hl := h.len
  by_cases h4 : 400 < n
  · have e1 : bE ps = 4 := by rw [bE, if_pos (by omega)]
    have e2 : bT ps = [] := by rw [bT, if_neg (by omega)]
    rw [e1, e2]
    have d4 : decide ((400 : Int) < (n : Int)) = true := by simp; omega
    go_enter Try.func12, Try.ntmps12
    go_wp2
    go_ret2
    exact ⟨rfl, Below.refl _ _⟩
  · have e1 : bE ps = fstE (ps.map fun p => tE p.1 p.2) := by rw [bE, if_neg (by omega)]
    have e2 : bT ps = if fstE (ps.map fun p => tE p.1 p.2) = 0 then joinL (ps.map fun p => tL p.1 p.2) ++ [10] else [] := by rw [bT, e1]
    rw [e1, e2]
    have HC := Lib.hid (fun W (hW : ShP W W.heap.size A n ps) => eachT_any A n c ps W hn hsz hW)
    have hT : ∀ x ∈ ps.map (fun p : Pr => tL p.1 p.2), x.length ≤ 512 := by
      intro x hx
      obtain ⟨p, _, rfl⟩ := List.mem_map.1 hx
      exact tL_len _ _
    have hTn : (ps.map fun p : Pr => tL p.1 p.2).length = n := by rw [List.length_map, hl]
    have hj := joinL_most _ hT
    rw [hTn] at hj
    clear e1 e2 hl hsz hT
    have d4 : decide ((400 : Int) < (n : Int)) = false := by simp; omega
    generalize fstE (ps.map fun p => tE p.1 p.2) = E at *
    generalize (ps.map fun p : Pr => tL p.1 p.2) = T at *
    have HTn := Lib.hid hTn
    clear hTn
    by_cases hE : E = 0
    · subst hE
      rw [if_pos rfl]
      go_enter Try.func12, Try.ntmps12
      go_wp2_with fail
      refine (HC.out _ h).mono ?_; rintro e w1 ⟨⟨v, rfl, r1, r2⟩, hb1⟩
      have hown := r1 trivial
      clear r1 r2
      have hsz := hb1.size
      go_wp2_with (at_builtin; refine wpList_apps _ rfl _ _ rfl w.heap.size _ _ _ rfl (hown.alloc _) ⟨w1.heap.size, 0, none⟩ 1 [] rfl (one_new _ _ _ _ rfl) (by omega) (by simp; omega) ?_; intro v' w3 hown' hgrow)
      have b3 : Below w.heap.size w w3 := by
        refine Below.grown ?_ hgrow ?_ (fun g hg => (hown.lt g hg).1)
        · exact hb1.alloc hsz _
        · simp; omega
      clear hgrow
      obtain ⟨A2, c2, rfl, q1, q2, q3⟩ := OwnS_sh hown'
      go_wp2_with fail
      refine (join_any A2 (n + 1) c2 _ _ (by omega) (by rw [joinL_snoc]; simp; omega) q3).mono ?_; rintro e w4 ⟨rfl, hb4⟩
      rw [joinL_snoc]
      have b4 := Below.on b3 b3.size hb4
      go_wp2
      go_ret2
      exact ⟨rfl, b4⟩
    · rw [if_neg hE]
      have hne : ((E : Int) != 0) = true := by rw [bne_iff_ne]; omega
      go_enter Try.func12, Try.ntmps12
      go_wp2_with fail
      refine (HC.out _ h).mono ?_; rintro e w1 ⟨⟨v, rfl, r1, r2⟩, hb1⟩
      obtain rfl := r2 hE
      clear r1 r2
      go_wp2
      go_ret2
      exact ⟨rfl, hb1⟩

set_option maxHeartbeats 1000000 in
theorem refBlock_any (A : Option Addr) (n c : Nat) (ps : List Pr) (w : World) (hn : n ≤ 1000000) (hsz : ∀ p ∈ ps, p.1.length ≤ 100000 ∧ p.2.length ≤ 100000) (h : ShP w w.heap.size A n ps) :
    Calls Try.prog 13 #[.slice A n c] w fun e w' => e = .returned (.tuple #[sv (bT ps), .int .i64 (bE ps : Int)]) ∧ Below w.heap.size w w' := by
  have hl := h.len
  by_cases h4 : 400 < n
  · have e1 : bE ps = 4 := by rw [bE, if_pos (by omega)]
    have e2 : bT ps = [] := by rw [bT, if_neg (by omega)]
    rw [e1, e2]
    have d4 : decide ((400 : Int) < (n : Int)) = true := by simp; omega
    go_enter Try.func13, Try.ntmps13
    go_wp2
    go_ret2
    exact ⟨rfl, Below.refl _ _⟩
  · have e1 : bE ps = fstE (ps.map fun p => tE p.1 p.2) := by rw [bE, if_neg (by omega)]
    have e2 : bT ps = if fstE (ps.map fun p => tE p.1 p.2) = 0 then joinL (ps.map fun p => tL p.1 p.2) ++ [10] else [] := by rw [bT, e1]
    rw [e1, e2]
    have hT : ∀ x ∈ ps.map (fun p : Pr => tL p.1 p.2), x.length ≤ 512 := by
      intro x hx
      obtain ⟨p, _, rfl⟩ := List.mem_map.1 hx
      exact tL_len _ _
    have hTn : (ps.map fun p : Pr => tL p.1 p.2).length = n := by rw [List.length_map, hl]
    have hj := joinL_most _ hT
    rw [hTn] at hj
    have HT := Lib.hid (fun k p (hp : ps[k]? = some p) => at_map (fun p : Pr => tL p.1 p.2) ps k p hp)
    have HE := Lib.hid (fun k p (hp : ps[k]? = some p) => at_map (fun p : Pr => tE p.1 p.2) ps k p hp)
    have HL := Lib.hid (show (ps.map fun p => tE p.1 p.2).length = n by rw [List.length_map, hl])
    have Hsz := Lib.hid hsz
    clear e1 e2 hl hsz hT
    have d4 : decide ((400 : Int) < (n : Int)) = false := by simp; omega
    generalize (ps.map fun p => tE p.1 p.2) = es at *
    generalize (ps.map fun p : Pr => tL p.1 p.2) = T at *
    have HTn := Lib.hid hTn
    clear hTn
    have HB := Lib.hid (show ∀ BT, (if fstE es = 0 then joinL T ++ [10] else []) = BT → (fstE es = 0 → BT = joinL T ++ [10]) ∧ (fstE es ≠ 0 → BT = []) from fun BT e => ⟨fun h => by rw [← e, if_pos h], fun h => by rw [← e, if_neg h]⟩)
    generalize hBT : (if fstE es = 0 then joinL T ++ [10] else []) = BT
    have HB2 := Lib.hid (HB.out BT hBT)
    clear HB hBT
    go_enter Try.func13, Try.ntmps13
    go_wp2
    go_loopw [4, 5] (fun v i wr => ∃ k : Nat, k ≤ n ∧ i = .int .i64 k ∧ v = sv (joinL (T.take k)) ∧ Hid (∀ q < k, es[q]? = some 0) ∧ Below w.heap.size w wr) (fun _ i _ => n - (intOf i).toNat)
    case atStart => exact ⟨0, Nat.zero_le _, rfl, rfl, Lib.hid (fun j hj => absurd hj (by omega)), Below.refl _ _⟩
    case round =>
      obtain ⟨k, hk, rfl, rfl, hz, hbel⟩ := hrel
      have hbs := hbel.size
      by_cases hlt : k < n
      · obtain ⟨b, off, p, rfl, hb, p0, p1, hp⟩ := (h.below hbel).elem hlt
        have hs := Hsz.out p (List.mem_of_getElem? hp)
        have hE := HE.out k p hp
        have HS := Lib.hid (joinL_succ T k _ (HT.out k p hp))
        have hle := joinL_le T (k + 1)
        rw [HS.out] at hle
        simp only [List.length_append, List.length_cons, List.length_nil] at hle
        have HC := Lib.hid (fun W => refText_any p.1 p.2 W hs.1 hs.2)
        have HE2 := Lib.hid hE
        clear hp hs hE
        generalize tE p.1 p.2 = e1 at *
        generalize tL p.1 p.2 = t1 at *
        generalize joinL (T.take k) = J at *
        unfold sv at p0 p1 HC
        generalize ByteArray.mk ⟨p.1⟩ = K at *
        generalize ByteArray.mk ⟨p.2⟩ = V at *
        go_wp2_with fail
        refine (HC.out _).mono ?_; rintro e w2 ⟨rfl, hb2⟩
        have b2 := Below.on hbel hbs (by exact hb2)
        clear hb2 hbel
        by_cases he : e1 = 0
        · subst he
          go_wp2
          go_roundw
          case rel =>
            refine ⟨k + 1, by omega, by go_num, congrArg Value.string (by rw [HS.out, str_add]; exact str_add _ _), Lib.hid (fun q hq => ?_), b2⟩
            rcases Nat.lt_or_ge q k with h1 | h1
            · exact hz.out q h1
            · obtain rfl : q = k := by omega
              exact HE2.out
          case measure => simp [intOf] <;> omega
        · have hne : ((e1 : Int) != 0) = true := by rw [bne_iff_ne]; omega
          have HF := Lib.hid (fstE_at es k e1 HE2.out he hz.out)
          go_wp2
          go_ret2
          exact ⟨by rw [HF.out, HB2.out.2 (by rw [HF.out]; exact he)]; rfl, b2⟩
      · obtain rfl : k = n := by omega
        have HF := Lib.hid ((fstE_ok es).2 (fun e he => by
          obtain ⟨j, hj, rfl⟩ := List.mem_iff_getElem.1 he
          have h1 := hz.out j (by rw [← HL.out]; exact hj)
          rw [List.getElem?_eq_getElem hj] at h1
          injection h1))
        have HJ := Lib.hid (show T.take k = T from List.take_of_length_le (Nat.le_of_eq HTn.out))
        have HB3 := Lib.hid (HB2.out.1 HF.out)
        rw [HJ.out]
        clear HB2
        generalize joinL T = J at *
        have hJs : (ByteArray.mk ⟨J⟩).size = J.length := rfl
        go_wp2
        go_ret2
        exact ⟨by rw [HF.out, HB3.out]; exact congrArg (fun z => Ending.returned (.tuple #[.string z, .int .i64 0])) (str_add _ _), hbel⟩

end Go.Proofs.Ytdiibbokdfmcbaa.Pln
