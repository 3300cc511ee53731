
/- The walk of law42.InilexMany. -/
import Derived.Test.YtglghfbdchcihaaDoorInxI
import Derived.Lib.SlBytesConst
import Derived.ArgAppend
namespace Go.Proofs.YtglghfbdchcihaaDoor.Inx
open Go.RowKit Lin
set_option maxRecDepth 100000
set_option linter.unusedVariables false

theorem many_parts (n : Nat) : parts 10 (List.replicate n 10) = List.replicate (n + 1) ([] : List UInt8) := by
  induction n with
  | zero => rfl
  | succ n ih =>
    rw [List.replicate_succ, parts, if_pos rfl, ih]
    rfl
theorem many_loose (n : Nat) : loose (List.replicate n 10) = List.replicate n ([] : List UInt8) := by
  cases n with
  | zero => rfl
  | succ n => rw [List.replicate_succ', loose_end, many_parts]
theorem void_line : lineE [] = 0 := by decide +kernel
theorem many_good (n k : Nat) : Good (List.replicate n ([] : List UInt8)) k := by
  intro j _ x hx
  obtain rfl : x = ([] : List UInt8) := List.eq_of_mem_replicate (List.mem_of_getElem? hx)
  exact void_line
theorem many_lexes (n : Nat) : ∃ I, Lexes (loose (List.replicate n 10)) (if 400 < n then 4 else 0) (if 400 < n then 401 else 0) I := by
  rw [many_loose]
  by_cases h : 400 < n
  · rw [if_pos h, if_pos h]
    exact ⟨_, .inr (.inl ⟨by simpa using h, many_good _ _, rfl, rfl, rfl⟩)⟩
  · rw [if_neg h, if_neg h]
    exact ⟨_, .inr (.inr ⟨by simp; omega, many_good _ _, rfl, rfl, rfl⟩)⟩
theorem rem_line (q : Nat) : lineE (35 :: List.replicate q 97) = if 512 < q + 1 then 4 else 0 := by
  unfold lineE
  rw [show (35 :: List.replicate q (97 : UInt8)).length = q + 1 by simp]
  split
  · rfl
  · rw [if_pos]
    have : ahead 35 (35 :: List.replicate q (97 : UInt8)) = [] := by simp [ahead]
    unfold saidL
    rw [this]
    rfl
theorem rem_loose (q : Nat) : loose (35 :: List.replicate q 97) = [35 :: List.replicate q 97] := by
  have hno : (10 : UInt8) ∉ (35 :: List.replicate q (97 : UInt8)) := by
    intro h
    rcases List.mem_cons.1 h with h | h
    · exact absurd h (by decide)
    · exact absurd (List.eq_of_mem_replicate h) (by decide)
  rcases text_cases (35 :: List.replicate q (97 : UInt8)) with h | ⟨m, h⟩ | ⟨m, c, h, hc⟩
  · cases h
  · exact absurd (by rw [h]; simp) hno
  · rw [h] at hno ⊢
    rw [loose_open m c hc, parts_no 10 _ hno]
theorem rem_lexes (q : Nat) : ∃ I, Lexes (loose (35 :: List.replicate q 97)) (if 512 < q + 1 then 4 else 0) (if 512 < q + 1 then 1 else 0) I := by
  rw [rem_loose]
  by_cases h : 512 < q + 1
  · have := rem_line q
    rw [if_pos h] at this
    rw [if_pos h, if_pos h]
    exact ⟨[], .inl ⟨0, _, by omega, rfl, Good.start _, by rw [this]; decide, this.symm, rfl, rfl⟩⟩
  · have := rem_line q
    rw [if_neg h] at this
    rw [if_neg h, if_neg h]
    refine ⟨_, .inr (.inr ⟨by simp, ?_, rfl, rfl, rfl⟩)⟩
    intro j hj x hx
    have hj0 : j = 0 := by simpa using hj
    subst hj0
    injection hx with hx
    rw [← hx]; exact this

/-- What is told of such a text, but the items. -/
theorem lex_known (l : List UInt8) (W : World) (hl : l.length ≤ 100000) (E k : Nat) (h : ∃ I, Lexes (loose l) E k I) :
    Calls Tryd.prog 7 #[sv l] W fun e w' => (∃ (A : Option Addr) (n c : Nat), e = .returned (.tuple #[.slice A n c, .int .i64 (k : Int), .int .i64 (E : Int)])) ∧ Below W.heap.size W w' := by
  refine (lex_any l W hl).mono ?_
  rintro e w' ⟨⟨A, n, c, E', k', I, rfl, h1, h2, h3, h4⟩, hB⟩
  obtain ⟨I', h'⟩ := h
  obtain ⟨rfl, rfl, rfl⟩ := h3.one h'
  exact ⟨⟨A, n, c, rfl⟩, hB⟩

theorem own_lit1 (w : World) (base : Nat) (hb : base ≤ w.heap.size) : Own (w.alloc (.cells #[.int .u8 35] 5)) base (.slice (some ⟨w.heap.size, 0, none⟩) 1 1) 1 [35] := by
  refine ⟨rfl, .inr ⟨w.heap.size, 1, #[.int .u8 35], rfl, hb, ?_, Nat.le_refl _, by simp [maxLen], rfl, rfl⟩⟩
  show (w.heap.push _)[w.heap.size]? = _
  simp

theorem many_out (x y : Int) (w : World) (h : x < 0 ∨ 410 < x ∨ y < 0 ∨ 520 < y) :
    Calls Tryd.prog 4 #[.int .i64 x, .int .i64 y] w fun e w' => e = .returned (.bool true) ∧ Below w.heap.size w w' := by
  by_cases h1 : x < 0
  · have d1 : decide (x < 0) = true := by simp; omega
    go_enter Tryd.func4, Tryd.ntmps4
    go_wp2_with fail
    refine (alive42 _).mono ?_; rintro e w3 ⟨rfl, hb3⟩
    go_wp2
    go_ret
    exact ⟨rfl, hb3⟩
  have d1 : decide (x < 0) = false := by simp; omega
  by_cases h2 : 410 < x
  · have d2 : decide (410 < x) = true := by simp; omega
    go_enter Tryd.func4, Tryd.ntmps4
    go_wp2_with fail
    refine (alive42 _).mono ?_; rintro e w3 ⟨rfl, hb3⟩
    go_wp2
    go_ret
    exact ⟨rfl, hb3⟩
  have d2 : decide (410 < x) = false := by simp; omega
  by_cases h3 : y < 0
  · have d3 : decide (y < 0) = true := by simp; omega
    go_enter Tryd.func4, Tryd.ntmps4
    go_wp2_with fail
    refine (alive42 _).mono ?_; rintro e w3 ⟨rfl, hb3⟩
    go_wp2
    go_ret
    exact ⟨rfl, hb3⟩
  have d3 : decide (y < 0) = false := by simp; omega
  have d4 : decide (520 < y) = true := by simp; omega
  go_enter Tryd.func4, Tryd.ntmps4
  go_wp2_with fail
  refine (alive42 _).mono ?_; rintro e w3 ⟨rfl, hb3⟩
  go_wp2
  go_ret
  exact ⟨rfl, hb3⟩

theorem cell_new1 (w : World) (t : TypeId) (v : Value) : (w.alloc (.cells #[v] t)).cell? ⟨w.heap.size, 0, none⟩ = some v := by
  rw [Lib.cell_of_heap (blk_new _ _ _)]
  rfl
/-- The bytes so far: the constant's row, or a row of the call's own. -/
def Rem (w1 wr : World) (q : Nat) (v : Value) : Prop :=
  (q = 0 ∧ v = .slice (some ⟨w1.heap.size, 0, none⟩) 1 1 ∧ wr.cell? ⟨w1.heap.size, 0, none⟩ = some (.int .u8 35) ∧ w1.heap.size < wr.heap.size) ∨ Own wr w1.heap.size v (q + 1) (35 :: List.replicate q 97)
theorem Rem.shows {w1 wr : World} {q : Nat} {v : Value} (h : Rem w1 wr q v) : ∃ A c, v = .slice A (q + 1) c ∧ Shows wr wr.heap.size A (q + 1) (35 :: List.replicate q 97) := by
  rcases h with ⟨rfl, rfl, hc, hlt⟩ | h
  · refine ⟨_, _, rfl, rfl, fun _ => ⟨w1.heap.size, 0, rfl, hlt, fun j hj => ?_⟩⟩
    have hj0 : j = 0 := by simpa using hj
    subst hj0
    exact hc
  · obtain ⟨A, c, e, _, _, h3⟩ := Own.shows h
    exact ⟨A, c, e, h3⟩
/-- The first byte behind the constant's row. -/
theorem wpList_appC {ops : Array Oper} {rest : List Oper} {o : Oper} {a : Act} {Q : Exit → Act → World → Prop} (w : World) (hgd : o.guard = none) (s x : Operand)
    (ho : o.op = .call { callee := .builtin .append, args := #[s, x], argTypes := #[34, 34] })
    (g : Nat) (hs : a.eval s = .slice (some ⟨g, 0, none⟩) 1 1) (hc0 : w.cell? ⟨g, 0, none⟩ = some (.int .u8 35))
    (ad : Addr) (c' : Nat) (hx : a.eval x = .slice (some ad) 1 c') (hc : w.cell? ad = some (bv 97))
    (h : ∀ v' w', Own w' w.heap.size v' 2 [35, 97] → w.grownBy w' none → wpList Tryd.prog ops Q rest (a.put o.dst v') w') : wpList Tryd.prog ops Q (o :: rest) a w := by
  obtain ⟨i, hi, hz, hsz, hby⟩ := info_parts Tryd.infoU8
  refine wpList_append_grows w hgd s x 34 ho 5 i (.int .u8 0) 1 1 Tryd.underlying34 hi hz hsz hby rfl (by decide) (some ⟨g, 0, none⟩) 1 1 [bv 35] hs (fun h => by cases h) rfl ?_ ad 1 c' [bv 97] hx rfl ?_ ?_ (by omega) (by simp [maxLen]) (by omega) (fun v' w' h1 h2 => h v' w' h1 h2)
  · intro b hb j u hj
    injection hb with hb
    subst hb
    match j, hj with
    | 0, hj => simp at hj; subst hj; exact hc0
  · intro j u hj
    match j, hj with
    | 0, hj => simp at hj; subst hj; simpa [Addr.add] using hc
  · intro u hu
    simp at hu
    subst hu
    rfl
def lenOf : Value → Nat
  | .slice _ n _ => n
  | _ => 0

set_option maxHeartbeats 2000000 in
theorem many_in (m g : Nat) (w : World) (hm : m ≤ 410) (hg : g ≤ 520) :
    Calls Tryd.prog 4 #[.int .i64 (m : Int), .int .i64 (g : Int)] w fun e w' => e = .returned (.bool true) ∧ Below w.heap.size w w' := by
  have d1 : decide ((m : Int) < 0) = false := by simp
  have d2 : decide ((410 : Int) < (m : Int)) = false := by simp; omega
  have d3 : decide ((g : Int) < 0) = false := by simp
  have d4 : decide ((520 : Int) < (g : Int)) = false := by simp; omega
  have HL := Lib.hid (fun W => lex_known (List.replicate m 10) W (by simp; omega) _ _ (many_lexes m))
  have HR := Lib.hid (fun (q : Nat) (hq : q ≤ 600) W => lex_known (35 :: List.replicate q 97) W (by simp; omega) _ _ (rem_lexes q))
  go_enter Tryd.func4, Tryd.ntmps4
  go_wp2
  go_loopw [5, 6] (fun v i wr => ∃ k : Nat, k ≤ m ∧ i = .int .i64 k ∧ v = sv (List.replicate k 10) ∧ wr = w) (fun _ i _ => m - (intOf i).toNat)
  case atStart => exact ⟨0, Nat.zero_le _, rfl, rfl, rfl⟩
  case round =>
    obtain ⟨k, hk, rfl, rfl, hww⟩ := hrel
    have hww' := hww.symm
    clear hww
    subst hww'
    by_cases hlt : k < m
    · have hS : (ByteArray.mk ⟨List.replicate k 10⟩ ++ ByteArray.mk #[10]) = ByteArray.mk ⟨List.replicate (k + 1) (10 : UInt8)⟩ := by
        rw [List.replicate_succ']
        exact ByteArray.mk_append_mk (List.replicate k 10) [10]
      have HS := Lib.hid hS
      have hsz : (ByteArray.mk ⟨List.replicate k (10 : UInt8)⟩).size = k := by show (List.replicate k (10 : UInt8)).length = _; simp
      clear hS
      unfold sv
      generalize ByteArray.mk ⟨List.replicate k (10 : UInt8)⟩ = T at *
      go_wp2
      go_roundw
      case rel => exact ⟨k + 1, by omega, by go_num, congrArg Value.string HS.out, trivial⟩
      case measure => simp [intOf] <;> omega
    · obtain rfl : k = m := by omega
      rcases Nat.lt_or_ge 400 k with h4 | h4
      · have c4 : decide ((400 : Int) < (k : Int)) = true := by simp; omega
        have c5 : decide ((k : Int) ≤ 400) = false := by simp; omega
        rw [if_pos h4, if_pos h4] at HL
        clear h4
        unfold sv at HL ⊢
        generalize ByteArray.mk ⟨List.replicate k (10 : UInt8)⟩ = T at *
        go_wp2_with fail
        refine (HL.out _).mono ?_; rintro e w1 ⟨⟨A1, n1, c1, rfl⟩, hb1⟩
        clear HL
        have kc := fun (w : World) (C : Array Value) (n c : Nat) => Lib.run_convert_bytes_const (P := Tryd.prog) w 34 5 C n c Tryd.underlying34 Tryd.underlying5
        go_wp2
        go_loopw [10] (fun v wr => ∃ q : Nat, (q ≤ 520 ∧ (q = 0 ∨ q + 1 ≤ g)) ∧ Rem w1 wr q v ∧ Below w1.heap.size w1 wr) (fun v _ => g - lenOf v)
        case atStart => exact ⟨0, ⟨by omega, .inl rfl⟩, .inl ⟨rfl, rfl, (World.cell?_alloc_mark _ _ _ _ 0).trans rfl, by simp⟩, (Below.refl _ _).alloc (Nat.le_refl _) _⟩
        case round =>
          obtain ⟨q, ⟨hq, hqg⟩, hown, hbel⟩ := hrel
          have hbs := hbel.size
          clear kc
          by_cases hlt : q + 1 < g
          · have HS := Lib.hid (show (35 :: List.replicate (q + 1) (97 : UInt8)) = (35 :: List.replicate q 97) ++ [97] by rw [List.replicate_succ']; rfl)
            rcases hown with ⟨rfl, rfl, hc0, hlt0⟩ | hown
            · have hc0' : (wr.alloc (.cells #[.int .u8 97] 5)).cell? ⟨w1.heap.size, 0, none⟩ = some (.int .u8 35) := by
                rw [World.cell?_alloc_lt _ _ _ hlt0]; exact hc0
              go_wp2_with (at_builtin; refine wpList_appC _ rfl _ _ rfl w1.heap.size rfl hc0' ⟨wr.heap.size, 0, none⟩ 1 rfl (cell_new1 _ _ _) ?_; intro v' w3 hown' hgrow)
              have b3 : Below w1.heap.size w1 w3 := by
                refine Below.grown ?_ hgrow ?_ (fun g hg => by cases hg)
                · exact hbel.alloc hbs _
                · simp; omega
              have o3 : Own w3 w1.heap.size v' 2 [35, 97] := Own.base hown' (by simp; omega)
              clear hgrow hown'
              obtain ⟨ad', cap', rfl, hcap', hcm', hshow'⟩ := Own.shows o3
              go_wp2
              go_roundw
              case rel => exact ⟨1, ⟨by omega, by omega⟩, .inr o3, b3⟩
              case measure => simp [lenOf] <;> omega
            · obtain ⟨ad, cap, rfl, hcap, hcm, hshow⟩ := Own.shows hown
              clear hshow
              go_wp2_with (at_builtin; refine wpList_app1 _ rfl _ _ rfl w1.heap.size _ _ _ rfl (hown.alloc _) ⟨wr.heap.size, 0, none⟩ 1 97 rfl (cell_new1 _ _ _) (by omega) (by simp; omega) ?_; intro v' w3 hown' hgrow)
              have b3 : Below w1.heap.size w1 w3 := by
                refine Below.grown ?_ hgrow ?_ (fun g hg => (hown.lt g hg).1)
                · exact hbel.alloc hbs _
                · simp; omega
              clear hgrow
              obtain ⟨ad', cap', rfl, hcap', hcm', hshow'⟩ := Own.shows hown'
              go_wp2
              go_roundw
              case rel => exact ⟨q + 1, ⟨by omega, by omega⟩, .inr (by rw [HS.out]; exact hown'), b3⟩
              case measure => simp [lenOf] <;> omega
          · obtain ⟨ad, cap, rfl, hshow⟩ := Rem.shows hown
            have ht := run_text wr ad (q + 1) cap (35 :: List.replicate q 97) hshow
            have HQ := Lib.hid (fun W => HR.out q (by omega) W)
            clear HR hshow hown
            by_cases h5 : 512 < g
            · have c6 : decide ((512 : Int) < (g : Int)) = true := by simp; omega
              rw [if_pos (by omega), if_pos (by omega)] at HQ
              unfold sv at HQ
              go_wp2_with fail
              refine (HQ.out _).mono ?_; rintro e w4 ⟨⟨A4, n4, c4', rfl⟩, hb4⟩
              have b4 := Below.on hbel hbel.size (by exact hb4)
              go_wp2_with fail
              refine (alive42 _).mono ?_; rintro e w5 ⟨rfl, hb5⟩
              have b5 := Below.on b4 b4.size (by exact hb5)
              go_wp2
              go_ret
              exact ⟨rfl, Below.on hb1 hb1.size b5⟩
            · have c6 : decide ((512 : Int) < (g : Int)) = false := by simp; omega
              rw [if_neg (by omega), if_neg (by omega)] at HQ
              unfold sv at HQ
              go_wp2_with fail
              refine (HQ.out _).mono ?_; rintro e w4 ⟨⟨A4, n4, c4', rfl⟩, hb4⟩
              have b4 := Below.on hbel hbel.size (by exact hb4)
              go_wp2_with fail
              refine (alive42 _).mono ?_; rintro e w5 ⟨rfl, hb5⟩
              have b5 := Below.on b4 b4.size (by exact hb5)
              go_wp2
              go_ret
              exact ⟨rfl, Below.on hb1 hb1.size b5⟩
      · have c4 : decide ((400 : Int) < (k : Int)) = false := by simp; omega
        have c5 : decide ((k : Int) ≤ 400) = true := by simp; omega
        rw [if_neg (by omega), if_neg (by omega)] at HL
        clear h4
        unfold sv at HL ⊢
        generalize ByteArray.mk ⟨List.replicate k (10 : UInt8)⟩ = T at *
        go_wp2_with fail
        refine (HL.out _).mono ?_; rintro e w1 ⟨⟨A1, n1, c1, rfl⟩, hb1⟩
        clear HL
        have kc := fun (w : World) (C : Array Value) (n c : Nat) => Lib.run_convert_bytes_const (P := Tryd.prog) w 34 5 C n c Tryd.underlying34 Tryd.underlying5
        go_wp2
        go_loopw [10] (fun v wr => ∃ q : Nat, (q ≤ 520 ∧ (q = 0 ∨ q + 1 ≤ g)) ∧ Rem w1 wr q v ∧ Below w1.heap.size w1 wr) (fun v _ => g - lenOf v)
        case atStart => exact ⟨0, ⟨by omega, .inl rfl⟩, .inl ⟨rfl, rfl, (World.cell?_alloc_mark _ _ _ _ 0).trans rfl, by simp⟩, (Below.refl _ _).alloc (Nat.le_refl _) _⟩
        case round =>
          obtain ⟨q, ⟨hq, hqg⟩, hown, hbel⟩ := hrel
          have hbs := hbel.size
          clear kc
          by_cases hlt : q + 1 < g
          · have HS := Lib.hid (show (35 :: List.replicate (q + 1) (97 : UInt8)) = (35 :: List.replicate q 97) ++ [97] by rw [List.replicate_succ']; rfl)
            rcases hown with ⟨rfl, rfl, hc0, hlt0⟩ | hown
            · have hc0' : (wr.alloc (.cells #[.int .u8 97] 5)).cell? ⟨w1.heap.size, 0, none⟩ = some (.int .u8 35) := by
                rw [World.cell?_alloc_lt _ _ _ hlt0]; exact hc0
              go_wp2_with (at_builtin; refine wpList_appC _ rfl _ _ rfl w1.heap.size rfl hc0' ⟨wr.heap.size, 0, none⟩ 1 rfl (cell_new1 _ _ _) ?_; intro v' w3 hown' hgrow)
              have b3 : Below w1.heap.size w1 w3 := by
                refine Below.grown ?_ hgrow ?_ (fun g hg => by cases hg)
                · exact hbel.alloc hbs _
                · simp; omega
              have o3 : Own w3 w1.heap.size v' 2 [35, 97] := Own.base hown' (by simp; omega)
              clear hgrow hown'
              obtain ⟨ad', cap', rfl, hcap', hcm', hshow'⟩ := Own.shows o3
              go_wp2
              go_roundw
              case rel => exact ⟨1, ⟨by omega, by omega⟩, .inr o3, b3⟩
              case measure => simp [lenOf] <;> omega
            · obtain ⟨ad, cap, rfl, hcap, hcm, hshow⟩ := Own.shows hown
              clear hshow
              go_wp2_with (at_builtin; refine wpList_app1 _ rfl _ _ rfl w1.heap.size _ _ _ rfl (hown.alloc _) ⟨wr.heap.size, 0, none⟩ 1 97 rfl (cell_new1 _ _ _) (by omega) (by simp; omega) ?_; intro v' w3 hown' hgrow)
              have b3 : Below w1.heap.size w1 w3 := by
                refine Below.grown ?_ hgrow ?_ (fun g hg => (hown.lt g hg).1)
                · exact hbel.alloc hbs _
                · simp; omega
              clear hgrow
              obtain ⟨ad', cap', rfl, hcap', hcm', hshow'⟩ := Own.shows hown'
              go_wp2
              go_roundw
              case rel => exact ⟨q + 1, ⟨by omega, by omega⟩, .inr (by rw [HS.out]; exact hown'), b3⟩
              case measure => simp [lenOf] <;> omega
          · obtain ⟨ad, cap, rfl, hshow⟩ := Rem.shows hown
            have ht := run_text wr ad (q + 1) cap (35 :: List.replicate q 97) hshow
            have HQ := Lib.hid (fun W => HR.out q (by omega) W)
            clear HR hshow hown
            by_cases h5 : 512 < g
            · have c6 : decide ((512 : Int) < (g : Int)) = true := by simp; omega
              rw [if_pos (by omega), if_pos (by omega)] at HQ
              unfold sv at HQ
              go_wp2_with fail
              refine (HQ.out _).mono ?_; rintro e w4 ⟨⟨A4, n4, c4', rfl⟩, hb4⟩
              have b4 := Below.on hbel hbel.size (by exact hb4)
              go_wp2_with fail
              refine (alive42 _).mono ?_; rintro e w5 ⟨rfl, hb5⟩
              have b5 := Below.on b4 b4.size (by exact hb5)
              go_wp2
              go_ret
              exact ⟨rfl, Below.on hb1 hb1.size b5⟩
            · have c6 : decide ((512 : Int) < (g : Int)) = false := by simp; omega
              rw [if_neg (by omega), if_neg (by omega)] at HQ
              unfold sv at HQ
              go_wp2_with fail
              refine (HQ.out _).mono ?_; rintro e w4 ⟨⟨A4, n4, c4', rfl⟩, hb4⟩
              have b4 := Below.on hbel hbel.size (by exact hb4)
              go_wp2_with fail
              refine (alive42 _).mono ?_; rintro e w5 ⟨rfl, hb5⟩
              have b5 := Below.on b4 b4.size (by exact hb5)
              go_wp2
              go_ret
              exact ⟨rfl, Below.on hb1 hb1.size b5⟩

theorem walk_InilexMany (x y : Int) (w : World) (hx : (Lit.int .i64 x).wf = true) (hy : (Lit.int .i64 y).wf = true) :
    Calls Tryd.prog 4 #[.int .i64 x, .int .i64 y] w fun e w' => e = .returned (.bool true) ∧ Below w.heap.size w w' := by
  by_cases h : x < 0 ∨ 410 < x ∨ y < 0 ∨ 520 < y
  · exact many_out x y w h
  · obtain ⟨m, rfl⟩ : ∃ m : Nat, x = m := ⟨x.toNat, by omega⟩
    obtain ⟨g, rfl⟩ : ∃ g : Nat, y = g := ⟨y.toNat, by omega⟩
    exact many_in m g w (by omega) (by omega)

end Go.Proofs.YtglghfbdchcihaaDoor.Inx
