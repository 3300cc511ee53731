
/- Layer 9. Contract: colon.readGroups. -/
import Derived.Test.YtccidoigjdbepaaDoorClI
import Derived.Deep.RegionLaw
namespace Go.Proofs.YtccidoigjdbepaaDoor.Cl
open Go.RowKit Lin
set_option maxRecDepth 100000
set_option linter.unusedVariables false

theorem wpList_appu {ops : Array Oper} {rest : List Oper} {o : Oper} {a : Act} {Q : Exit → Act → World → Prop} (w : World) (hgd : o.guard = none) (s x : Operand)
    (ho : o.op = .call { callee := .builtin .append, args := #[s, x], argTypes := #[100, 100] })
    (base : Nat) (v : Value) (n : Nat) (l : List Nat) (hs : a.eval s = v) (hown : GOwn u16v 94 w base v n l)
    (ad : Addr) (c' : Nat) (c : Nat) (hx : a.eval x = .slice (some ad) 1 c') (hc : w.cell? ad = some (u16v c))
    (h63 : n + 1 ≤ 1000000000) (hbase : base ≤ w.heap.size)
    (h : ∀ v' w', GOwn u16v 94 w' base v' (n + 1) (l ++ [c]) → w.grownBy w' v.ownBlock → wpList Tryd.prog ops Q rest (a.put o.dst v') w') : wpList Tryd.prog ops Q (o :: rest) a w :=
  wpList_gapp1 u16v w hgd s x 100 94 (.int .u16 0) 2 ho Tryd.underlying100 Tryd.infoU16 rfl base v n l hs hown ad c' c hx hc rfl (by omega) (by omega) hbase h
/-- Two of them, as one step of a region that draws its order. -/
theorem step_appu2 {ops : Array Oper} {o : Oper} {a : Act} {K : Act → World → Prop} {Q : Exit → Act → World → Prop} {E : Prop} (w : World) (hgd : o.guard = none) (s x : Operand)
    (ho : o.op = .call { callee := .builtin .append, args := #[s, x], argTypes := #[100, 100] })
    (base : Nat) (v : Value) (n : Nat) (l : List Nat) (hs : a.eval s = v) (hown : GOwn u16v 94 w base v n l)
    (g c' : Nat) (c d : Nat) (hx : a.eval x = .slice (some ⟨g, 0, none⟩) 2 c') (hc : w.cell? ⟨g, 0, none⟩ = some (u16v c) ∧ w.cell? ⟨g, 1, none⟩ = some (u16v d))
    (h63 : n + 2 ≤ 1000000000) (hbase : base ≤ w.heap.size)
    (h : ∀ v' w', GOwn u16v 94 w' base v' (n + 2) (l ++ [c, d]) → w.grownBy w' v.ownBlock → K (a.put o.dst v') w') :
    if Region.wanted o (yielded ops a.tmps) = true then Oper.wp Tryd.prog o a w K Q else E := by
  have hw : Region.wanted o (yielded ops a.tmps) = true := by simp [Region.wanted, hgd]
  rw [if_pos hw]
  obtain ⟨i, hi, hz, hsz, hby⟩ := info_parts Tryd.infoU16
  refine wp_append_own w s x 100 ho base 94 i (.int .u16 0) 1 2 Tryd.underlying100 hi hz hsz hby rfl (by decide) v n _ hs hown ⟨g, 0, none⟩ 2 c' [u16v c, u16v d] hx rfl ?_ ?_ (by simp only [maxLen]; omega) (by omega) hbase ?_
  · intro j u hj
    match j, hj with
    | 0, hj => simp at hj; subst hj; simpa [Addr.add] using hc.1
    | 1, hj => simp at hj; subst hj; simpa [Addr.add] using hc.2
  · intro u hu
    simp at hu
    rcases hu with rfl | rfl <;> rfl
  · intro v' w' h2 h3 _
    exact h v' w' (by unfold GOwn; simpa using h2) h3

set_option maxHeartbeats 2000000 in
theorem readGroups_any (l : List UInt8) (last : Bool) (w : World) (hn : l.length ≤ 1000000) :
    Calls Tryd.prog 86 #[sv l, .bool last] w (GivesG u16v 94 (.int .i64 0) (.int .i64 5) (rdS last l) w) := by
  have HP := Lib.hid (fun W => parts58 l W hn)
  have Hpl := Lib.hid (parts_len 58 l)
  have HXl := Lib.hid (part_len58 l 1000000 hn)
  by_cases hnil : l = []
  · have e : rdS last l = some [] := if_pos hnil
    rw [e]
    subst hnil
    go_enter Tryd.func86, Tryd.ntmps86
    go_wp2
    go_ret2
    exact ⟨.inl ⟨[], _, rfl, rfl, World.ownsRow_nil _ _ _ _⟩, Below.refl _ _⟩
  have e : rdS last l = rdRow last (parts 58 l) := if_neg hnil
  rw [e]
  have hne : (ByteArray.mk ⟨l⟩).toList.isEmpty = false := by simp; exact hnil
  unfold sv at HP ⊢
  clear e hnil
  generalize ByteArray.mk ⟨l⟩ = s at *
  generalize hP : parts 58 l = P at *
  have hpl : P.length ≤ 1000001 := by have := Hpl.out; omega
  clear hP Hpl hn
  have hQ4 : (Tryd.prog.info? 37).map (fun i => (i.zero, i.size)) = some (some (.agg #[bv 0, bv 0, bv 0, bv 0]), 4) := by kernel_rfl
  go_enter Tryd.func86, Tryd.ntmps86
  go_wp2_with fail
  refine (HP.out _).mono ?_; rintro e w1 ⟨⟨v, rfl, ho⟩, hb1⟩
  obtain ⟨A1, c1, rfl, hc1, hc2, hs0⟩ := GOwn.sh ho
  have hsz1 := hb1.size
  clear ho
  obtain ⟨N, hN⟩ : ∃ N, P.length = N := ⟨_, rfl⟩
  rw [hN] at hs0 hc1 hpl ⊢
  have HN := Lib.hid hN
  clear hN
  have hwN : IntKind.i64.wrap ((N : Int) - 1) = (N : Int) - 1 := IntWalk.i64_in _ (by omega)
  go_wp2
  go_loopw [8, 23] (fun v i wr => ∃ (k : Nat) (done : List Nat), k ≤ N ∧ done.length ≤ k + 1 ∧ Hid (k < N → done.length ≤ k) ∧ i = .int .i64 (k : Int) ∧ Hid (rdRow last P = (rdRow last (P.drop k)).map (done ++ ·)) ∧ GOwn u16v 94 wr w1.heap.size v done.length done ∧ Below w1.heap.size w1 wr) (fun _ i _ => N - (intOf i).toNat)
  case atStart => exact ⟨0, [], Nat.zero_le _, Nat.zero_le _, Lib.hid (fun _ => Nat.zero_le _), rfl, Lib.hid (by simp), World.ownsRow_nil _ _ _ _, Below.refl _ _⟩
  case round =>
    obtain ⟨k, done, hk, hdl, hdk, rfl, hrd, hown, hbel⟩ := hrel
    have hbs := hbel.size
    by_cases hlt : k < N
    · obtain ⟨b, off, x, rfl, hb, hcell, hx⟩ := (hs0.below hbel).elem hlt
      have hxl := HXl.out x (List.mem_of_getElem? hx)
      cases hv : gV x with
      | some n =>
        have HC := Lib.hid (fun W => rg_some x n hv W)
        have hn := (gV_some x n hv).2.2.2.2
        have HRd := Lib.hid (rd_group hrd.out hx hv)
        clear hx hxl hv
        unfold sv at hcell HC
        generalize ByteArray.mk ⟨x⟩ = X at *
        go_wp2_with fail
        refine (HC.out _).mono ?_; rintro e w2 ⟨rfl, hw2⟩
        subst hw2
        go_wp2_with (at_builtin; refine wpList_appu _ rfl _ _ rfl w1.heap.size _ _ _ rfl (hown.alloc _) ⟨wr.heap.size, 0, none⟩ 1 n rfl (one_new _ _ _ _ rfl) (by omega) (by simp; omega) ?_; intro v' w3 hown' hgrow)
        have b3 : Below w1.heap.size w1 w3 := by
          refine Below.grown ?_ hgrow ?_ (fun g hg => (hown.lt g hg).1)
          · exact hbel.alloc hbs _
          · simp; omega
        clear hgrow
        go_wp2
        go_roundw
        case rel => exact ⟨k + 1, done ++ [n], by omega, by simp; have := hdk.out hlt; omega, Lib.hid (fun _ => by simp; have := hdk.out hlt; omega), by go_num, HRd, by simpa using hown', b3⟩
        case measure => simp [intOf] <;> omega
      | none =>
        have HC := Lib.hid (fun W => rg_none x hv hxl W)
        have HQ := Lib.hid (fun W => quad_any x hxl W)
        have HRd := Lib.hid (rd_quad hrd.out hx hv)
        have HLen := Lib.hid (qs_nums x)
        clear hx hxl hv
        unfold sv at hcell HC HQ
        generalize Qd.qE x = E at *
        generalize qs x = QS at *
        generalize qb x 0 = q0 at *
        generalize qb x 1 = q1 at *
        generalize qb x 2 = q2 at *
        generalize qb x 3 = q3 at *
        have l0 := q0.toNat_lt
        have l1 := q1.toNat_lt
        have l2 := q2.toNat_lt
        have l3 := q3.toNat_lt
        generalize ByteArray.mk ⟨x⟩ = X at *
        go_wp2_with fail
        refine (HC.out _).mono ?_; rintro e w2 ⟨rfl, hw2⟩
        subst hw2
        go_wp2_with fail
        refine (HQ.out _).mono ?_; rintro e w3 ⟨rfl, hb3⟩
        have b3 := Below.on hbel hbs (by exact hb3)
        have b3s := b3.size
        have o3 := own_keep2 hown (by exact hb3)
        clear hb3 hown hbel
        have b4 := b3.alloc b3s (.cells #[.int .u8 (q0.toNat : Int), .int .u8 (q1.toNat : Int), .int .u8 (q2.toNat : Int), .int .u8 (q3.toNat : Int)] 37)
        have o4 := o3.alloc (.cells #[.int .u8 (q0.toNat : Int), .int .u8 (q1.toNat : Int), .int .u8 (q2.toNat : Int), .int .u8 (q3.toNat : Int)] 37)
        have k4 : Blk (w3.alloc (.cells #[.int .u8 (q0.toNat : Int), .int .u8 (q1.toNat : Int), .int .u8 (q2.toNat : Int), .int .u8 (q3.toNat : Int)] 37)) w3.heap.size 37 #[.int .u8 (q0.toNat : Int), .int .u8 (q1.toNat : Int), .int .u8 (q2.toNat : Int), .int .u8 (q3.toNat : Int)] := blk_new _ _ _
        have hE0 : (E = 0 ∧ ((E : Int) != 0) = false) ∨ (E ≠ 0 ∧ ((E : Int) != 0) = true) := by
          by_cases h : E = 0
          · exact .inl ⟨h, by simp [h]⟩
          · exact .inr ⟨h, by rw [bne_iff_ne]; omega⟩
        rcases hE0 with ⟨hE, hEb⟩ | ⟨hE, hEb⟩
        · cases last with
          | false =>
            have HR := Lib.hid (HRd.out.trans (if_neg (by simp)))
            by_cases hlast : k + 1 = N
            all_goals
              first
                | (have hkI : ((k : Int) != (N : Int) - 1) = false := by rw [bne_eq_false_iff_eq]; omega)
                | (have hkI : ((k : Int) != (N : Int) - 1) = true := by rw [bne_iff_ne]; omega)
              go_wp2
              go_ret2
              exact ⟨.inr ⟨HR.out, rfl⟩, Below.on hb1 hsz1 b4⟩
          | true =>
            by_cases hlast : k + 1 = N
            · have HR := Lib.hid (HRd.out.trans (if_pos ⟨hE, rfl, by rw [HN.out]; exact hlast⟩))
              have HP0 := Lib.hid (fun W => pair_any q0 q1 W)
              have HP1 := Lib.hid (fun W => pair_any q2 q3 W)
              have hE1 := HLen.out
              subst hE1
              generalize 256 * q0.toNat + q1.toNat = g0 at *
              generalize 256 * q2.toNat + q3.toNat = g1 at *
              have hkI : ((k : Int) != (N : Int) - 1) = false := by rw [bne_eq_false_iff_eq]; omega
              generalize q0.toNat = n0 at *
              generalize q1.toNat = n1 at *
              generalize q2.toNat = n2 at *
              generalize q3.toNat = n3 at *
              go_wp2
              go_region_law (first
                | (go_simp
                   go_at_call 100
                   first
                     | (with_reducible refine (HP0.out _).mono ?_)
                     | (with_reducible refine (HP1.out _).mono ?_)
                   rintro e w6 ⟨rfl, hw6⟩
                   subst hw6)
                | (refine step_appu2 _ rfl _ _ rfl w1.heap.size _ _ _ rfl (o4.alloc _) _ 2 g0 g1 rfl (two_new _ _ _ _ _ (by simp)) (by omega) (by simp; omega) ?_
                   intro v' w5 hown' hgrow))
              all_goals
                have b5 : Below w1.heap.size w1 w5 := by
                  refine Below.grown (w := (World.alloc _ _).drew) ?_ hgrow ?_ (fun g hg => (o4.lt g hg).1)
                  · exact (b4.alloc b4.size _).drew
                  · simp; omega
                clear hgrow
                go_wp2
                go_roundw
                case rel =>
                  refine ⟨k + 1, done ++ [g0, g1], by omega, by simp; have := hdk.out hlt; omega, Lib.hid (fun h => absurd h (by omega)), by go_num, Lib.hid ?_, by simpa using hown', b5⟩
                  rw [List.drop_of_length_le (by rw [HN.out]; omega), HR.out]
                  simp [rdRow]
                case measure => simp [intOf] <;> omega
            · have HR := Lib.hid (HRd.out.trans (if_neg (by rw [HN.out]; simp; omega)))
              have hkI : ((k : Int) != (N : Int) - 1) = true := by rw [bne_iff_ne]; omega
              go_wp2
              go_ret2
              exact ⟨.inr ⟨HR.out, rfl⟩, Below.on hb1 hsz1 b4⟩
        · have HR := Lib.hid (HRd.out.trans (if_neg (fun h => hE h.1)))
          go_wp2
          go_ret2
          exact ⟨.inr ⟨HR.out, rfl⟩, Below.on hb1 hsz1 b4⟩
    · obtain rfl : k = N := by omega
      have HE := Lib.hid (rd_end hrd.out (Nat.le_of_eq HN.out))
      go_wp2
      go_ret2
      exact ⟨.inl ⟨done, _, HE.out, rfl, own_base hown hsz1⟩, Below.on hb1 hsz1 hbel⟩
end Go.Proofs.YtccidoigjdbepaaDoor.Cl
