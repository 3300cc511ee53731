
/- Contracts: slices.Grow of nil, slices.Concat of rows of bytes, heading.Bytes. -/
import Derived.Test.YtkokgoodpibboaaApp
namespace Go.Proofs.Ytkokgoodpibboaa
open Go.RowKit
set_option maxRecDepth 100000

theorem nextslicecap_zero' {n : Nat} (h : 0 < n) : Builtin.nextslicecap n 0 = n := by unfold Builtin.nextslicecap; simp; omega

/-- 'append(nil, make([]T, n)...)'. -/
theorem run_append_ofMake {P : Program} (w : World) (t ti ty e : TypeId) (i : TypeInfo) (z : Value) (ht : P.underlying t = some (.slice e)) (hti : P.underlying ti = some (.int .i64)) (hi : P.info? e = some i) (hz : i.zero = some z)
    (hsz : i.size = 1) (hby : i.bytes = 1) (n : Nat) (h0 : 0 < n) (h63 : n ≤ 1000000) :
    (Builtin.append_ #[t, ti] ty #[.slice none 0 0, .int .i64 (n : Int)]).run P w =
      .ok (.slice (some ⟨w.heap.size, 0, none⟩) n (grownCap w n 0 e)) (w.drew.alloc (.cells (Builtin.zeroCells z.cells n ++ Builtin.zeroCells z.cells (grownCap w n 0 e - n)) e)) := by
  have hw : IntKind.i64.wrap (n : Int) = (n : Int) := IntWalk.i64_in _ (by omega)
  have hn : n ≠ 0 := by omega
  have h1 : ¬ ((n : Int) < 0) := by omega
  have h2 : ¬ (281474976710656 < (n : Int)) := by omega
  have h63' : ¬ (9223372036854775807 < (n : Int)) := by omega
  have h48' : ¬ (281474976710656 < Builtin.nextslicecap n 0) := by rw [nextslicecap_zero' h0]; omega
  simp [Builtin.append_, run_underlying ht, run_underlying hti, sizeOf, typeInfo, zeroValue, hi, hz, hn, h2, h63', h48', hw, hsz, hby, asInt, asIntOf, Question.forced, run_firstCells_none, newRow, grownCap]
  exact fun h => absurd h h1

set_option maxRecDepth 100000 in
theorem wpList_appOfMake {ops : Array Oper} {rest : List Oper} {o : Oper} {a : Act} {Q : Exit → Act → World → Prop} (w : World) (hgd : o.guard = none) (s x : Operand)
    (ho : o.op = .call { callee := .builtin .append, args := #[s, x], argTypes := #[43, 3] })
    (n : Nat) (hs : a.eval s = .slice none 0 0) (hx : a.eval x = .int .i64 (n : Int)) (h0 : 0 < n) (h63 : n ≤ 1000000)
    (h : ∀ cap w', n ≤ cap → cap ≤ maxLen → w.grownBy w' none → w.heap.size < w'.heap.size → Own w' w.heap.size (.slice (some ⟨w.heap.size, 0, none⟩) 0 cap) 0 [] →
      wpList Try.prog ops Q rest (a.put o.dst (.slice (some ⟨w.heap.size, 0, none⟩) n cap)) w') : wpList Try.prog ops Q (o :: rest) a w := by
  obtain ⟨i, hi, hz, hsz, hby⟩ := info_parts Try.infoU8
  refine wpList_plain hgd fun _ hK => ?_
  have hr := run_append_ofMake (P := Try.prog) w 43 3 o.type 5 i (.int .u8 0) Try.underlying43 Try.underlying3 hi hz hsz hby n h0 h63
  unfold Oper.wp execOp
  simp only [ho, resolve, invoke, builtin, Sem.run_bind, Sem.run_pure, Result.andThen_ok, List.map_toArray, List.map_cons, List.map_nil, hs, hx, hr]
  have hge := grownCap_ge w n 0 5
  have hcm := grownCap_le_maxLen w n 0 5 (by simp [maxLen]; omega)
  refine hK _ _ (h _ _ hge hcm ⟨rfl, rfl, rfl, by simp, fun k hk _ => heap_alloc_old w.drew _ hk⟩ (by simp) ⟨rfl, .inr ⟨w.heap.size, _, _, rfl, Nat.le_refl _, heap_alloc_new w.drew _, Nat.zero_le _, hcm, ?_, by simp⟩⟩)
  simp [size_zeroCells, Value.cells]
  omega

theorem grow_nil (n : Nat) (w : World) (h0 : 0 < n) (h63 : n ≤ 1000000) :
    Calls Try.prog 110 #[.slice none 0 0, .int .i64 (n : Int)] w fun e w' => ∃ v, e = .returned v ∧ Own w' w.heap.size v 0 [] ∧ Below w.heap.size w w' := by
  go_enter Try.func110, Try.ntmps110
  go_wp2_with (at_builtin; refine wpList_appOfMake _ rfl _ _ rfl n ?e1 ?e2 h0 h63 ?_)
  case e1 => rfl
  case e2 => first | rfl | (simp <;> go_num)
  intro cap w1 h1 h2 hg hsz hown
  have hb : Below w.heap.size w w1 := (Below.refl _ _).grown hg (Nat.le_refl _) (fun k hk => by cases hk)
  clear hg
  go_wp2
  go_ret
  exact ⟨_, rfl, hown, hb⟩

/-- A slice of bytes as an element. -/
abbrev slv (p : Addr × Nat × Nat) : Value := .slice (some p.1) p.2.1 p.2.2

theorem flat_next (ls : List (List UInt8)) (k : Nat) (l : List UInt8) (h : ls[k]? = some l) : (ls.take (k + 1)).flatten = (ls.take k).flatten ++ l := by
  obtain ⟨hk, rfl⟩ := List.getElem?_eq_some_iff.1 h
  rw [List.take_succ_eq_append_getElem hk, List.flatten_append]
  simp only [List.flatten_cons, List.flatten_nil, List.append_nil]
theorem flat_le (ls : List (List UInt8)) (k : Nat) : (ls.take k).flatten.length ≤ ls.flatten.length := by
  conv => rhs; rw [← List.take_append_drop k ls]
  simp only [List.flatten_append, List.length_append]
  omega

theorem concat_any (A : Option Addr) (n c : Nat) (ps : List (Addr × Nat × Nat)) (ls : List (List UInt8)) (w : World) (hS : Sh slv w w.heap.size A n ps) (hl : ls.length = n) (hn : n ≤ 100)
    (hp : ∀ (j : Nat) (p : Addr × Nat × Nat) (l : List UInt8), ps[j]? = some p → ls[j]? = some l → Shows w w.heap.size (some p.1) p.2.1 l) (h0 : 0 < ls.flatten.length) (h63 : ls.flatten.length ≤ 1000000) :
    Calls Try.prog 71 #[.slice A n c] w fun e w' => ∃ v, e = .returned v ∧ Own w' w.heap.size v ls.flatten.length ls.flatten ∧ Below w.heap.size w w' := by
  have Hp := Lib.hid hp
  have Hn := Lib.hid hl
  clear hp hl
  generalize hN : ls.flatten.length = N at *
  have HN := Lib.hid hN
  clear hN
  go_enter Try.func71, Try.ntmps71
  go_wp2
  go_loop [3, 11] (fun s i => ∃ k : Nat, k ≤ n ∧ s = .int .i64 (((ls.take k).flatten.length : Nat) : Int) ∧ i = .int .i64 k) (fun _ i => n - (intOf i).toNat)
  case atStart => exact ⟨0, Nat.zero_le _, rfl, rfl⟩
  case round =>
    obtain ⟨k, hk, rfl, rfl⟩ := hrel
    by_cases hlt : k < n
    · obtain ⟨b, off, p, rfl, hb, hc, hpk⟩ := hS.elem hlt
      obtain ⟨l, hlk⟩ : ∃ l, ls[k]? = some l := ⟨ls[k]'(by have := Hn.out; omega), List.getElem?_eq_getElem _⟩
      have hsh := Lib.hid (Hp.out k p l hpk hlk)
      have hfl := flat_next ls k l hlk
      have hle := flat_le ls (k + 1)
      rw [HN.out] at hle
      obtain ⟨ad, m, c'⟩ := p
      have hm : l.length = m := hsh.out.len
      have hsum : (ls.take (k + 1)).flatten.length = (ls.take k).flatten.length + m := by rw [hfl, List.length_append, hm]
      have Hsum := Lib.hid hsum
      generalize (ls.take k).flatten.length = S at *
      clear hfl hlk hpk hsum
      have hle' : S + m ≤ N := by have := Hsum.out; omega
      clear hle
      go_wp2
      go_round
      case rel => exact ⟨k + 1, by omega, by rw [Hsum.out]; go_num, by go_num⟩
      case measure => simp [intOf] <;> omega
    · obtain rfl : k = n := by omega
      have hfull : (ls.take k).flatten.length = N := by rw [List.take_of_length_le (by have := Hn.out; omega), HN.out]
      rw [hfull]
      go_wp2_with (go_at_call 110; refine (grow_nil N _ h0 h63).mono ?_; rintro e w1 ⟨v, rfl, hown, hb1⟩)
      go_loopw [6, 27] (fun v i wr => ∃ j m : Nat, j ≤ k ∧ i = .int .i64 j ∧ m = (ls.take j).flatten.length ∧ Own wr w.heap.size v m (ls.take j).flatten ∧ Below w.heap.size w wr) (fun _ i _ => k - (intOf i).toNat)
      case atStart => exact ⟨0, 0, Nat.zero_le _, rfl, rfl, hown, hb1⟩
      case round =>
        clear hown hb1 hfull
        obtain ⟨j, m, hj, rfl, hm, hown, hbel⟩ := hrel
        have Hm := Lib.hid hm
        clear hm
        by_cases hlt2 : j < k
        · obtain ⟨b, off, p, rfl, hb, hc, hpk⟩ := (hS.below hbel).elem hlt2
          obtain ⟨l, hlk⟩ : ∃ l, ls[j]? = some l := ⟨ls[j]'(by have := Hn.out; omega), List.getElem?_eq_getElem _⟩
          have hsh := (Hp.out j p l hpk hlk).below hbel
          have hfl := flat_next ls j l hlk
          have hle := flat_le ls (j + 1)
          rw [HN.out] at hle
          obtain ⟨ad, m2, c'⟩ := p
          have hm2 : l.length = m2 := hsh.len
          have hsum : (ls.take (j + 1)).flatten.length = m + m2 := by rw [hfl, List.length_append, hm2, Hm.out]
          have Hsum := Lib.hid hsum
          have hle' : m + m2 ≤ 1000000 := by omega
          have Hfl := Lib.hid hfl
          have hsz := hbel.size
          clear hfl hlk hpk hsum hle hS
          go_wp2_with (at_builtin; refine wpList_appAll _ rfl _ _ rfl w.heap.size _ _ _ rfl hown ad m2 c' _ l rfl hsh hle' hsz ?_)
          intro v' w2 hown' hgrow
          have hb2 : Below w.heap.size w w2 := hbel.grown hgrow hsz (fun g hg => (hown.lt g hg).1)
          clear hown hbel hgrow hsh
          go_wp2
          go_roundw
          case rel => exact ⟨j + 1, m + m2, by omega, by go_num, Hsum.out.symm, by rw [Hfl.out]; exact hown', hb2⟩
          case measure => simp [intOf] <;> omega
        · obtain rfl : j = k := by omega
          have hfull : (ls.take j).flatten = ls.flatten := by rw [List.take_of_length_le (by have := Hn.out; omega)]
          obtain rfl : m = N := by have h1 := Hm.out; rw [hfull] at h1; exact h1.trans HN.out
          rw [hfull] at hown
          clear hfull
          go_wp2
          go_ret
          exact ⟨_, rfl, hown, hbel⟩

end Go.Proofs.Ytkokgoodpibboaa
