
/- Own rows of pairs; contract: each, from lines to pairs. -/
import Derived.Test.YtdiibbokdfmcbaaPlnD
namespace Go.Proofs.Ytdiibbokdfmcbaa.Pln
open Go.RowKit Lin
set_option maxRecDepth 100000

/-- A row of pairs of the call's own. -/
abbrev OwnPr (e : TypeId) (w : World) (base : Nat) (v : Value) (n : Nat) (ps : List Pr) : Prop := w.ownsRow base e 2 v n (ps.flatMap fun p => [sv p.1, sv p.2])
theorem flat_len (ps : List Pr) : (ps.flatMap fun p => [sv p.1, sv p.2]).length = ps.length * 2 := by
  induction ps with
  | nil => rfl
  | cons p t ih => simp only [List.flatMap_cons, List.length_append, ih, List.length_cons, List.length_nil]; omega
theorem flat_at (ps : List Pr) (j : Nat) (h : j < ps.length) : (ps.flatMap fun p => [sv p.1, sv p.2])[j * 2]? = some (sv (ps[j]).1) ∧ (ps.flatMap fun p => [sv p.1, sv p.2])[j * 2 + 1]? = some (sv (ps[j]).2) := by
  induction ps generalizing j with
  | nil => simp at h
  | cons p t ih =>
    cases j with
    | zero => exact ⟨rfl, rfl⟩
    | succ j =>
      have := ih j (by simpa using h)
      simp only [List.flatMap_cons, List.getElem_cons_succ]
      rw [show (j + 1) * 2 = j * 2 + 2 by omega]
      exact this
theorem OwnPr.len {e : TypeId} {w : World} {base n : Nat} {v : Value} {ps : List Pr} (h : OwnPr e w base v n ps) : ps.length = n := by
  have := h.1
  rw [flat_len] at this
  omega
theorem OwnPr.sh {e : TypeId} {w : World} {base n : Nat} {v : Value} {ps : List Pr} (h : OwnPr e w base v n ps) :
    ∃ A c, v = .slice A n c ∧ n ≤ c ∧ c ≤ maxLen ∧ ShP w w.heap.size A n ps := by
  have hl := h.len
  rcases h.2 with ⟨rfl, rfl⟩ | ⟨g, cap, cur, rfl, hb, hg, hnc, hcm, hcs, ht⟩
  · exact ⟨none, 0, rfl, by omega, by simp [maxLen], hl, fun h => absurd h (by omega)⟩
  · have hlt : g < w.heap.size := (Array.getElem?_eq_some_iff.1 hg).1
    refine ⟨_, _, rfl, hnc, hcm, hl, fun _ => ⟨g, 0, rfl, hlt, fun j hj => ?_⟩⟩
    obtain ⟨a1, a2⟩ := flat_at ps j hj
    constructor
    · rw [Nat.zero_add, World.ownsRow.cellAt h (j * 2) (by omega)]
      exact a1
    · rw [Nat.zero_add, World.ownsRow.cellAt h (j * 2 + 1) (by omega)]
      exact a2

theorem Try.infoPairB : (Try.prog.info? 27).map (fun i => (i.zero, i.size, i.bytes)) = some (some (.agg zP), 2, 32) := by kernel_rfl
theorem Try.infoRPairB : (Try.prog.info? 30).map (fun i => (i.zero, i.size, i.bytes)) = some (some (.agg zP), 2, 32) := by kernel_rfl

/-- One pair appended. -/
theorem wpList_appPr {ops : Array Oper} {rest : List Oper} {o : Oper} {a : Act} {Q : Exit → Act → World → Prop} (w : World) (hgd : o.guard = none) (s x : Operand) (t e : TypeId)
    (ho : o.op = .call { callee := .builtin .append, args := #[s, x], argTypes := #[t, t] })
    (ht : Try.prog.underlying t = some (.slice e)) (hinfo : (Try.prog.info? e).map (fun i => (i.zero, i.size, i.bytes)) = some (some (.agg zP), 2, 32))
    (base : Nat) (v : Value) (n : Nat) (l : List Pr) (hs : a.eval s = v) (hown : OwnPr e w base v n l)
    (g : Nat) (c' : Nat) (p : Pr) (hx : a.eval x = .slice (some ⟨g, 0, none⟩) 1 c') (hc : w.cell? ⟨g, 0, none⟩ = some (sv p.1)) (hc' : w.cell? ⟨g, 1, none⟩ = some (sv p.2))
    (h63 : n + 1 ≤ 1000000000) (hbase : base ≤ w.heap.size)
    (h : ∀ v' w', OwnPr e w' base v' (n + 1) (l ++ [p]) → w.grownBy w' v.ownBlock → wpList Try.prog ops Q rest (a.put o.dst v') w') : wpList Try.prog ops Q (o :: rest) a w := by
  obtain ⟨i, hi, hz, hsz, hby⟩ := info_parts hinfo
  refine wpList_append_own w hgd s x t ho base e i _ 2 32 ht hi hz hsz hby rfl (by decide) v n _ hs hown ⟨g, 0, none⟩ 1 c' [sv p.1, sv p.2] hx rfl ?_ ?_ (by simp only [maxLen]; omega) (by omega) hbase ?_
  · intro j u hj
    match j, hj with
    | 0, hj => simp at hj; subst hj; simpa [Addr.add] using hc
    | 1, hj => simp at hj; subst hj; simpa [Addr.add] using hc'
  · intro u hu
    simp at hu
    rcases hu with rfl | rfl <;> rfl
  · intro v' w' h2 h3 _
    exact h v' w' (by unfold OwnPr; rw [List.flatMap_append]; simpa using h2) h3

set_option maxHeartbeats 1000000 in
theorem eachP_any (A : Option Addr) (n c : Nat) (ls : List (List UInt8)) (w : World) (hn : n ≤ 1000000) (hsz : ∀ x ∈ ls, x.length ≤ 100000) (h : Sh sv w w.heap.size A n ls) :
    Calls Try.prog 25 #[.slice A n c, .func (.func 10) #[] #[]] w fun e w' =>
      (∃ v, e = .returned (.tuple #[v, .int .i64 (fstE (ls.map pE) : Int)]) ∧ (fstE (ls.map pE) = 0 → OwnPr 27 w' w.heap.size v n (ls.map fun x => (pK x, pV x))) ∧ (fstE (ls.map pE) ≠ 0 → v = .slice none 0 0)) ∧ Below w.heap.size w w' := by
  have HT := Lib.hid (fun k x (hp : ls[k]? = some x) => take_snoc (fun x => ((pK x, pV x) : Pr)) ls k x hp)
  have HE := Lib.hid (fun k x (hp : ls[k]? = some x) => at_map pE ls k x hp)
  have hlen := h.len
  have HL := Lib.hid (show (ls.map pE).length = n by rw [List.length_map, hlen])
  have HTn := Lib.hid (show (ls.map fun x => ((pK x, pV x) : Pr)).take n = ls.map fun x => (pK x, pV x) by rw [List.take_of_length_le]; simp; omega)
  have Hsz := Lib.hid hsz
  clear hlen hsz
  generalize ls.map pE = es at *
  generalize (ls.map fun x => ((pK x, pV x) : Pr)) = T at *
  go_enter Try.func25, Try.ntmps25
  go_wp2
  go_loopw [6, 13] (fun v i wr => ∃ k : Nat, k ≤ n ∧ i = .int .i64 k ∧ Hid (∀ j < k, es[j]? = some 0) ∧ OwnPr 27 wr w.heap.size v k (T.take k) ∧ Below w.heap.size w wr) (fun _ i _ => n - (intOf i).toNat)
  case atStart => exact ⟨0, Nat.zero_le _, rfl, Lib.hid (fun j hj => absurd hj (by omega)), World.ownsRow_nil _ _ _ _, Below.refl _ _⟩
  case round =>
    obtain ⟨k, hk, rfl, hz, hown, hbel⟩ := hrel
    have hbs := hbel.size
    by_cases hlt : k < n
    · obtain ⟨b, off, x, rfl, hb, p0, hp⟩ := (h.below hbel).elem hlt
      have hs := Hsz.out x (List.mem_of_getElem? hp)
      have hE := HE.out k x hp
      have HS := Lib.hid (HT.out k x hp)
      have HC := Lib.hid (fun W => parse_any x W hs)
      have HE2 := Lib.hid hE
      clear hp hs hE
      generalize pE x = e1 at *
      generalize pK x = kx at *
      generalize pV x = vx at *
      unfold sv at p0 HC
      generalize ByteArray.mk ⟨x⟩ = X at *
      go_wp2_with fail
      refine (HC.out _).mono ?_; rintro e w2 ⟨rfl, hb2⟩
      have b2 := Below.on hbel hbs (by exact hb2)
      have o2 := own_keep hown (by exact hb2)
      have hsz2 := b2.size
      clear hb2 hown hbel
      by_cases he : e1 = 0
      · subst he
        go_wp2_with (at_builtin; refine wpList_appPr _ rfl _ _ 36 27 rfl Try.underlying36 Try.infoPairB w.heap.size _ _ _ rfl ((o2.alloc _).alloc _) (w2.heap.size + 1) 1 (kx, vx) rfl (cells_two (blk_new' _ _ _ _ (by simp))).1 (cells_two (blk_new' _ _ _ _ (by simp))).2 (by omega) (by simp; omega) ?_; intro v' w3 hown' hgrow)
        have b3 : Below w.heap.size w w3 := by
          refine Below.grown ?_ hgrow ?_ (fun g hg => (o2.lt g hg).1)
          · exact (b2.alloc hsz2 _).alloc (by simp; omega) _
          · simp; omega
        clear hgrow
        go_wp2
        go_roundw
        case rel =>
          refine ⟨k + 1, by omega, by go_num, Lib.hid (fun j hj => ?_), by rw [HS.out]; exact hown', b3⟩
          rcases Nat.lt_or_ge j k with h1 | h1
          · exact hz.out j h1
          · obtain rfl : j = k := by omega
            exact HE2.out
        case measure => simp [intOf] <;> omega
      · have hne : ((e1 : Int) != 0) = true := by rw [bne_iff_ne]; omega
        have HF := Lib.hid (fstE_at es k e1 HE2.out he hz.out)
        have hF0 : fstE es ≠ 0 := by rw [HF.out]; exact he
        go_wp2
        go_ret2
        exact ⟨⟨_, by rw [HF.out]; rfl, fun h0 => absurd h0 hF0, fun _ => rfl⟩, b2.alloc b2.size _⟩
    · obtain rfl : k = n := by omega
      have HF := Lib.hid ((fstE_ok es).2 (fun e he => by
        obtain ⟨j, hj, rfl⟩ := List.mem_iff_getElem.1 he
        have h1 := hz.out j (by rw [← HL.out]; exact hj)
        rw [List.getElem?_eq_getElem hj] at h1
        injection h1))
      go_wp2
      go_ret2
      exact ⟨⟨_, by rw [HF.out]; rfl, fun _ => by rw [← HTn.out]; exact hown, fun h0 => absurd HF.out h0⟩, hbel⟩

end Go.Proofs.Ytdiibbokdfmcbaa.Pln
