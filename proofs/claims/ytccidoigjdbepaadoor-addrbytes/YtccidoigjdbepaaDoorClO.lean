
/- Layer 9. Contract: crawlwayref09.Parse. -/
import Derived.Test.YtccidoigjdbepaaDoorZClb
namespace Go.Proofs.YtccidoigjdbepaaDoor.Cl
open Go.RowKit Lin
set_option maxRecDepth 100000
set_option linter.unusedVariables false

theorem gp_cases (l : List UInt8) : gp l = -1 ∨ ∃ k : Nat, gp l = (k : Int) ∧ k + 2 ≤ l.length := by
  unfold gp
  rcases Lib.index_spec l [58, 58] with ⟨h, _⟩ | ⟨i, h, _⟩
  · exact .inl h
  · have := Lib.index_room l [58, 58] (by omega)
    simp at this
    exact .inr ⟨i, h, by omega⟩
theorem cut_no (l : List UInt8) (h : gp l = -1) : Lib.cut l [58, 58] = (l, [], false) := by
  unfold gp at h
  unfold Lib.cut
  rw [if_neg (by omega)]
theorem cut_yes (l : List UInt8) (k : Nat) (h : gp l = (k : Int)) : Lib.cut l [58, 58] = (l.take k, l.drop (k + 2), true) := by
  unfold gp at h
  unfold Lib.cut
  rw [if_pos (by omega), h]
  rfl
theorem rdS_nil : rdS true [] = some [] := if_pos rfl
theorem pG_no (l : List UInt8) (h : gp l = -1) : pG l = match rdS true l with | some F => if F.length = 8 then some F else none | none => none := by
  unfold pG
  rw [cut_no l h]
  simp only [Bool.not_false, rdS_nil]
  cases rdS true l with
  | none => rfl
  | some F =>
    by_cases h8 : F.length = 8
    · simp [gFits, gMid, h8]
    · simp [gFits, h8]
theorem pG_yes (l : List UInt8) (k : Nat) (h : gp l = (k : Int)) : pG l = match rdS false (l.take k), rdS true (l.drop (k + 2)) with | some F, some B => if F.length + B.length ≤ 7 then some (gMid F B) else none | _, _ => none := by
  unfold pG
  rw [cut_yes l k h]
  simp only [Bool.not_true]
  cases rdS false (l.take k) with
  | none => rfl
  | some F =>
    cases rdS true (l.drop (k + 2)) with
    | none => rfl
    | some B => simp [gFits]
theorem cell_other (w : World) (g i : Nat) (v : Value) (p : Addr) (h : p.block ≠ g) : (w.setCell ⟨g, i, none⟩ v).cell? p = w.cell? p := by
  unfold World.cell?
  rw [heap_setCell_other w ⟨g, i, none⟩ p.block v h]
theorem tk_snoc {α : Type} (l : List α) (k : Nat) (x : α) (h : l[k]? = some x) : l.take k ++ [x] = l.take (k + 1) := by
  obtain ⟨hk, rfl⟩ := List.getElem?_eq_some_iff.1 h
  rw [List.take_succ_eq_append_getElem hk]
theorem run_append_nil0 {P : Program} (w : World) (t ty e : TypeId) (i : TypeInfo) (ht : P.underlying t = some (.slice e)) (hi : P.info? e = some i) (A : Option Addr) (n cap c' : Nat) (h : n ≤ cap) :
    (Builtin.append_ #[t, t] ty #[.slice A n cap, .slice none 0 c']).run P w = .ok (.slice A n cap) w := by
  cases A <;> simp [Builtin.append_, run_underlying ht, sizeOf, typeInfo, hi, h, Builtin.lenOf, run_firstCells_none, storeCells]

set_option maxRecDepth 100000 in
noncomputable def pS (l : List UInt8) : Bool := (pG l).isSome
def lenV : Value → Nat
  | .slice _ n _ => n
  | _ => 0
theorem wpList_appiAny {ops : Array Oper} {rest : List Oper} {o : Oper} {a : Act} {Q : Exit → Act → World → Prop} (w : World) (hgd : o.guard = none) (s x : Operand)
    (ho : o.op = .call { callee := .builtin .append, args := #[s, x], argTypes := #[111, 111] })
    (base : Nat) (v : Value) (n : Nat) (l : List Nat) (hs : a.eval s = v) (hown : GOwn i64v 3 w base v n l)
    (A : Option Addr) (m c' B : Nat) (k : List Nat) (hx : a.eval x = .slice A m c') (hk : Sh i64v w B A m k)
    (h63 : n + m ≤ 1000000) (hbase : base ≤ w.heap.size)
    (h : ∀ v' w', GOwn i64v 3 w' base v' (n + m) (l ++ k) → w.grownBy w' v.ownBlock → wpList Tryd.prog ops Q rest (a.put o.dst v') w') : wpList Tryd.prog ops Q (o :: rest) a w := by
  obtain ⟨i, hi, hz, hsz, hby⟩ := info_parts Tryd.infoI64
  have hkl := hk.len
  rcases Nat.eq_zero_or_pos m with rfl | hm
  · obtain rfl : k = [] := List.eq_nil_of_length_eq_zero hkl
    cases A with
    | none =>
      obtain ⟨A', c2, rfl, hnc, _, _⟩ := GOwn.sh hown
      refine wpList_plain hgd fun _ hK => ?_
      have hr := run_append_nil0 (P := Tryd.prog) w 111 o.type 3 i Tryd.underlying111 hi A' n c2 c' hnc
      unfold Oper.wp execOp
      simp only [ho, resolve, invoke, builtin, Sem.run_bind, Sem.run_pure, Result.andThen_ok, List.map_toArray, List.map_cons, List.map_nil, hs, hx, hr]
      exact hK _ _ (h _ _ (by simpa using hown) ⟨rfl, rfl, rfl, Nat.le_refl _, fun _ _ _ => rfl⟩)
    | some ad =>
      refine wpList_append_own w hgd s x 111 ho base 3 i (.int .i64 0) 1 8 Tryd.underlying111 hi hz hsz hby rfl (by decide) v n _ hs hown ad 0 c' [] hx rfl (fun j u hj => by simp at hj) (fun u hu => by simp at hu) (by simp only [maxLen]; omega) (by omega) hbase ?_
      intro v' w' h2 h3 _
      exact h v' w' (by simpa using h2) h3
  · obtain ⟨b, off, rfl, hb, hc⟩ := hk.2 hm
    refine wpList_append_own w hgd s x 111 ho base 3 i (.int .i64 0) 1 8 Tryd.underlying111 hi hz hsz hby rfl (by decide) v n _ hs hown ⟨b, off, none⟩ m c' (k.map i64v) hx (by simp [hkl]) ?_ ?_ (by simp only [maxLen]; omega) (by omega) hbase ?_
    · intro j u hj
      rw [List.getElem?_map] at hj
      cases hq : k[j]? with
      | none => rw [hq] at hj; cases hj
      | some y =>
        rw [hq] at hj
        injection hj with hj
        subst hj
        obtain ⟨hl, rfl⟩ := List.getElem?_eq_some_iff.1 hq
        rw [Go.WideShapes.add_plain]
        exact hc j hl
    · intro u hu
      obtain ⟨y, _, rfl⟩ := List.mem_map.1 hu
      rfl
    · intro v' w' h2 h3 _
      exact h v' w' (by unfold GOwn; rw [List.map_append]; exact h2) h3
/-- The cells of a row that is not empty, and that they are its own. -/
theorem GOwn_cells {w : World} {base n : Nat} {v : Value} {l : List Nat} (h : GOwn i64v 3 w base v n l) (hn : 0 < n) :
    ∃ b off c, v = .slice (some ⟨b, off, none⟩) n c ∧ base ≤ b ∧ b < w.heap.size ∧ Hid (∀ (j x : Nat), l[j]? = some x → w.cell? ⟨b, off + j, none⟩ = some (i64v x)) := by
  obtain ⟨A, c, rfl, _, _, hs⟩ := GOwn.sh h
  obtain ⟨b, off, rfl, hb, hc⟩ := hs.2 hn
  refine ⟨b, off, c, rfl, (h.lt b rfl).1, hb, Lib.hid fun j x hj => ?_⟩
  obtain ⟨hl, rfl⟩ := List.getElem?_eq_some_iff.1 hj
  exact hc j hl

set_option maxHeartbeats 4000000 in
theorem refcparse_any (l : List UInt8) (hn : l.length ≤ 1000000) (w : World) :
    Calls Tryd.prog 64 #[sv l] w fun e w' => e = .returned (.tuple #[av (pB l), .bool (pS l)]) ∧ Below w.heap.size w w' := by
  have HPB := Lib.hid (show pB l = match pG l with | some G => bOf G | none => List.replicate 16 0 from rfl)
  have HPS := Lib.hid (show pS l = (pG l).isSome from rfl)
  have HGp := Lib.hid (fun W => refGap_any l W hn)
  have hsz : (ByteArray.mk ⟨l⟩).size = l.length := rfl
  have k0 : Arr (w.alloc (.cells ((List.replicate 16 (0 : UInt8)).map bv).toArray 22)) w.heap.size 22 (List.replicate 16 0) := blk_new _ _ _
  have k1 : Arr ((w.alloc (.cells ((List.replicate 16 (0 : UInt8)).map bv).toArray 22)).alloc (.cells ((List.replicate 16 (0 : UInt8)).map bv).toArray 22)) w.heap.size 22 (List.replicate 16 0) := k0.alloc _
  have k2 : Arr ((w.alloc (.cells ((List.replicate 16 (0 : UInt8)).map bv).toArray 22)).alloc (.cells ((List.replicate 16 (0 : UInt8)).map bv).toArray 22)) (w.heap.size + 1) 22 (List.replicate 16 0) := by unfold Arr; exact blk_new' _ _ _ _ (by simp)
  have b0 : Below w.heap.size w ((w.alloc (.cells ((List.replicate 16 (0 : UInt8)).map bv).toArray 22)).alloc (.cells ((List.replicate 16 (0 : UInt8)).map bv).toArray 22)) := ((Below.refl _ _).alloc (Nat.le_refl _) _).alloc (by simp) _
  have z0 : ((w.alloc (.cells ((List.replicate 16 (0 : UInt8)).map bv).toArray 22)).alloc (.cells ((List.replicate 16 (0 : UInt8)).map bv).toArray 22)).heap.size = w.heap.size + 2 := by simp
  clear k0
  rcases gp_cases l with hgp | ⟨k, hgp, hkl⟩
  · have HPG := Lib.hid (pG_no l hgp)
    have HLs := Lib.hid (fun W => refList_any l true W hn)
    have HN1 := Lib.hid (fun L h => rdS_len true l L h)
    have HL1 := Lib.hid (fun L h => rdS_lt true l L h)
    rw [hgp] at HGp
    generalize pB l = PB at *
    generalize pS l = PS at *
    generalize pG l = PG at *
    generalize rdS true l = R at *
    unfold sv at HGp HLs ⊢
    generalize ByteArray.mk ⟨l⟩ = s at *
    go_enter Tryd.func64, Tryd.ntmps64
    go_wp2_with fail
    refine (HGp.out _).mono ?_; rintro e w1 ⟨rfl, hw1⟩
    subst hw1
    go_wp2_with fail
    refine (HLs.out _).mono ?_; rintro e w2 ⟨h2, hb2⟩
    have hb2 : Below ((w.alloc (.cells ((List.replicate 16 (0 : UInt8)).map bv).toArray 22)).alloc (.cells ((List.replicate 16 (0 : UInt8)).map bv).toArray 22)).heap.size ((w.alloc (.cells ((List.replicate 16 (0 : UInt8)).map bv).toArray 22)).alloc (.cells ((List.replicate 16 (0 : UInt8)).map bv).toArray 22)) w2 := hb2
    have k3 := k1.on hb2
    have k4 := k2.on hb2
    have b2 := Below.on b0 b0.size hb2
    have hs2 := hb2.size
    clear k1 k2 b0 hb2
    rcases h2 with ⟨F, v, hF, rfl, hO⟩ | ⟨hF, rfl⟩
    · have hO := own_base hO (show w.heap.size + 2 ≤ _ by simp)
      have hFl := HN1.out F hF
      have hF16 := HL1.out F hF
      by_cases h8 : F.length = 8
      · have HG : Hid (PG = some F) := Lib.hid (by rw [HPG.out, hF]; exact if_pos h8)
        have HGl := Lib.hid h8
        have HG16 := Lib.hid hF16
        rw [h8] at hO
        obtain ⟨b, off, c, rfl, hb1, hb3, hcs⟩ := GOwn_cells hO (by omega)
        have hbn : b ≠ w.heap.size + 1 := by omega
        clear hO h8 hFl hF16 hF HPG HN1 HL1 HLs HGp hb1 hb3 hs2
        have hB0 : PB = bOf F := by rw [HPB.out, HG.out]
        have hS0 : PS = true := by rw [HPS.out, HG.out]; rfl
        have hbf := bAtK_full F HGl.out
        rw [← hbf] at hB0
        subst hB0 hS0
        clear hbf
        have HS := Lib.hid (fun k n h => bAtK_set F HGl.out k n h)
        have HLn := Lib.hid (fun k hk => bAtK_len F HGl.out k hk)
        have hb00 : bAtK F 0 = List.replicate 16 0 := by unfold bAtK; simp [bOf]
        go_wp2
        go_loopw [14] (fun i wr => ∃ k : Nat, k ≤ 8 ∧ i = .int .i64 (k : Int) ∧ Arr wr w.heap.size 22 (List.replicate 16 0) ∧ Arr wr (w.heap.size + 1) 22 (bAtK F k) ∧ Hid (∀ (j x : Nat), (F)[j]? = some x → wr.cell? ⟨b, off + j, none⟩ = some (i64v x)) ∧ Below w.heap.size w wr) (fun i _ => 8 - (intOf i).toNat)
        case atStart => exact ⟨0, Nat.zero_le _, rfl, k3, by rw [hb00]; exact k4, hcs, b2⟩
        case round =>
          clear k4 k3 b2 hcs
          obtain ⟨k, hk, rfl, hrb, hkb, hcs, hbel⟩ := hrel
          have hbs := hbel.size
          by_cases hlt : k < 8
          · obtain ⟨n, hn⟩ : ∃ n, (F)[k]? = some n := ⟨(F)[k]'(by rw [HGl.out]; omega), List.getElem?_eq_getElem _⟩
            have hset := HS.out k n hn
            have hn16 := HG16.out n (List.mem_of_getElem? hn)
            have hl16 := HLn.out k hk
            have hc1 := hcs.out k n hn
            have hv1 : IntKind.u8.wrap ((n : Int) / 256) = ((UInt8.ofNat (n / 256)).toNat : Int) := by
              rw [IntWalk.u8_in _ (by omega)]; simp; omega
            have hv2 : IntKind.u8.wrap ((n : Int) % 256) = ((UInt8.ofNat (n % 256)).toNat : Int) := by
              rw [IntWalk.u8_in _ (by omega)]; simp
            have hq1 : (n : Int).tdiv 256 = (n : Int) / 256 := Int.tdiv_eq_ediv_of_nonneg (by omega)
            have hq2 : (n : Int).tmod 256 = (n : Int) % 256 := Int.tmod_eq_emod_of_nonneg (by omega)
            have hw8 : IntKind.i64.wrap ((n : Int) / 256) = (n : Int) / 256 := IntWalk.i64_in _ (by omega)
            have hw9 : IntKind.i64.wrap ((n : Int) % 256) = (n : Int) % 256 := IntWalk.i64_in _ (by omega)
            obtain ⟨c0, h0⟩ : ∃ c, (bAtK F k)[2 * k]? = some c := ⟨(bAtK F k)[2 * k]'(by omega), List.getElem?_eq_getElem _⟩
            obtain ⟨c1, h1⟩ : ∃ c, (bAtK F k)[2 * k + 1]? = some c := ⟨(bAtK F k)[2 * k + 1]'(by omega), List.getElem?_eq_getElem _⟩
            have e0 := hkb.byte h0
            have e1 := hkb.byte h1
            have f0 := hkb.frozen (2 * k)
            have f1 := hkb.frozen (2 * k + 1)
            have HT := Lib.hid (show Arr ((wr.setCell ⟨w.heap.size + 1, 2 * k, none⟩ (bv (UInt8.ofNat (n / 256)))).setCell ⟨w.heap.size + 1, 2 * k + 1, none⟩ (bv (UInt8.ofNat (n % 256)))) (w.heap.size + 1) 22 (bAtK F (k + 1)) by
              have := (hkb.put (2 * k) (UInt8.ofNat (n / 256))).put (2 * k + 1) (UInt8.ofNat (n % 256))
              rw [hset] at this
              exact this)
            have HR := Lib.hid ((hrb.putOther ⟨w.heap.size + 1, 2 * k, none⟩ (bv (UInt8.ofNat (n / 256))) (by simp)).putOther ⟨w.heap.size + 1, 2 * k + 1, none⟩ (bv (UInt8.ofNat (n % 256))) (by simp))
            have HC := Lib.hid (fun (j x : Nat) (hj : (F)[j]? = some x) => show ((wr.setCell ⟨w.heap.size + 1, 2 * k, none⟩ (bv (UInt8.ofNat (n / 256)))).setCell ⟨w.heap.size + 1, 2 * k + 1, none⟩ (bv (UInt8.ofNat (n % 256)))).cell? ⟨b, off + j, none⟩ = some (i64v x) from
              ((cell_other _ _ _ _ _ hbn).trans (cell_other _ _ _ _ _ hbn)).trans (hcs.out j x hj))
            have hc2 : (wr.setCell ⟨w.heap.size + 1, 2 * k, none⟩ (bv (UInt8.ofNat (n / 256)))).cell? ⟨b, off + k, none⟩ = some (.int .i64 (n : Int)) := (cell_other _ _ _ _ _ hbn).trans hc1
            have hc1 : wr.cell? ⟨b, off + k, none⟩ = some (.int .i64 (n : Int)) := hc1
            have HB := Lib.hid ((hbel.setCell (p := ⟨w.heap.size + 1, 2 * k, none⟩) (by show w.heap.size ≤ w.heap.size + 1; omega) (bv (UInt8.ofNat (n / 256)))).setCell (p := ⟨w.heap.size + 1, 2 * k + 1, none⟩) (by show w.heap.size ≤ w.heap.size + 1; omega) (bv (UInt8.ofNat (n % 256))))
            have i1 : (2 : Int) * (k : Int) < 16 := by omega
            have i2 : (0 : Int) ≤ 2 * (k : Int) := by omega
            have i3 : ((2 : Int) * (k : Int)).toNat = 2 * k := by omega
            have i4 : (2 : Int) * (k : Int) + 1 < 16 := by omega
            have i5 : (0 : Int) ≤ 2 * (k : Int) + 1 := by omega
            have i6 : ((2 : Int) * (k : Int) + 1).toNat = 2 * k + 1 := by omega
            have w1 : IntKind.i64.wrap (2 * (k : Int)) = 2 * (k : Int) := IntWalk.i64_in _ (by omega)
            have w2 : IntKind.i64.wrap (2 * (k : Int) + 1) = 2 * (k : Int) + 1 := IntWalk.i64_in _ (by omega)
            have i7 : 2 * k < 16 := by omega
            have i8 : 2 * k + 1 < 16 := by omega
            clear hset hn hkb hrb h0 h1 hcs
            generalize UInt8.ofNat (n / 256) = U at *
            generalize UInt8.ofNat (n % 256) = V at *
            go_wp2
            go_roundw
            case rel => exact ⟨k + 1, by omega, by go_num, HR.out, HT.out, HC, HB.out⟩
            case measure => simp [intOf] <;> omega
          · obtain rfl : k = 8 := by omega
            have hl16q := HLn.out 8 (Nat.le_refl _)
            generalize hLq : bAtK F 8 = L at *
            have hl16 : (L).length = 16 := hl16q
            go_wp2_with (first
              | (refine wpList_loadArr (g := w.heap.size + 1) (t := 22) (l := L) rfl 22 5 (.tmp 4) ?ho ?hx hkb hl16 Tryd.underlying22 Tryd.infoB16 ?_
                 case ho => with_reducible rfl
                 case hx => rfl)
              | (refine wpList_storeBlk (g := w.heap.size) (t := 22) (cs := ((L).map bv).toArray) ?hw 22 (.tmp 2) (.tmp 111) ?ho ?hx2 ?hy2 ((List.replicate 16 (0 : UInt8)).map bv).toArray hrb.blk ?hi ?hs ?h1 ?_
                 case ho => with_reducible rfl
                 case hw => rfl
                 case hx2 => rfl
                 case hy2 => rfl
                 case hi => rw [show (((L).map bv).toArray).size = 16 by simp [hl16]]; exact info16
                 case hs => simp [hl16]
                 case h1 => exact one_bytes _
                 intro w9 k9 hg9
                 have b9 : Below w.heap.size w w9 := (hbel).grown hg9 (hbel).size (fun j hj => by injection hj with hj; omega))
              | fail)
            refine bodyPost_blk2 rfl _ rfl k9 Tryd.underlying22 rfl (by rw [show (((L).map bv).toArray).size = 16 by simp [hl16]]; exact info16) rfl ⟨by first | rfl | (rw [hLq]; rfl), b9⟩
      · have HG : Hid (PG = none) := Lib.hid (by rw [HPG.out, hF]; exact if_neg h8)
        obtain ⟨A1, c1, rfl, _, _, _⟩ := GOwn.sh hO
        have h8I : ((F.length : Int) != 8) = true := by rw [bne_iff_ne]; omega
        clear hO hF16 hF
        generalize F.length = f at *
        have hB0 : PB = List.replicate 16 0 := by rw [HPB.out, HG.out]
        have hS0 : PS = false := by rw [HPS.out, HG.out]; rfl
        subst hB0 hS0
        have hl16 : (List.replicate 16 (0 : UInt8)).length = 16 := rfl
        go_wp2_with (first
          | (refine wpList_loadArr (g := w.heap.size + 1) (t := 22) (l := List.replicate 16 (0 : UInt8)) rfl 22 5 (.tmp 4) ?ho ?hx k4 hl16 Tryd.underlying22 Tryd.infoB16 ?_
             case ho => with_reducible rfl
             case hx => rfl)
          | (refine wpList_storeBlk (g := w.heap.size) (t := 22) (cs := ((List.replicate 16 (0 : UInt8)).map bv).toArray) ?hw 22 (.tmp 2) (.tmp 31) ?ho ?hx2 ?hy2 ((List.replicate 16 (0 : UInt8)).map bv).toArray k3.blk ?hi ?hs ?h1 ?_
             case ho => with_reducible rfl
             case hw => rfl
             case hx2 => rfl
             case hy2 => rfl
             case hi => rw [show (((List.replicate 16 (0 : UInt8)).map bv).toArray).size = 16 by simp]; exact info16
             case hs => simp
             case h1 => exact one_bytes _
             intro w9 k9 hg9
             have b9 : Below w.heap.size w w9 := (b2).grown hg9 (b2).size (fun j hj => by injection hj with hj; omega))
          | fail)
        refine bodyPost_blk2 rfl _ rfl k9 Tryd.underlying22 rfl (by rw [show (((List.replicate 16 (0 : UInt8)).map bv).toArray).size = 16 by simp]; exact info16) rfl ⟨rfl, b9⟩
    · have HG : Hid (PG = none) := Lib.hid (by rw [HPG.out, hF])
      have hB0 : PB = List.replicate 16 0 := by rw [HPB.out, HG.out]
      have hS0 : PS = false := by rw [HPS.out, HG.out]; rfl
      subst hB0 hS0
      have hl16 : (List.replicate 16 (0 : UInt8)).length = 16 := rfl
      go_wp2_with (first
        | (refine wpList_loadArr (g := w.heap.size + 1) (t := 22) (l := List.replicate 16 (0 : UInt8)) rfl 22 5 (.tmp 4) ?ho ?hx k4 hl16 Tryd.underlying22 Tryd.infoB16 ?_
           case ho => with_reducible rfl
           case hx => rfl)
        | (refine wpList_storeBlk (g := w.heap.size) (t := 22) (cs := ((List.replicate 16 (0 : UInt8)).map bv).toArray) ?hw 22 (.tmp 2) (.tmp 31) ?ho ?hx2 ?hy2 ((List.replicate 16 (0 : UInt8)).map bv).toArray k3.blk ?hi ?hs ?h1 ?_
           case ho => with_reducible rfl
           case hw => rfl
           case hx2 => rfl
           case hy2 => rfl
           case hi => rw [show (((List.replicate 16 (0 : UInt8)).map bv).toArray).size = 16 by simp]; exact info16
           case hs => simp
           case h1 => exact one_bytes _
           intro w9 k9 hg9
           have b9 : Below w.heap.size w w9 := (b2).grown hg9 (b2).size (fun j hj => by injection hj with hj; omega))
        | fail)
      refine bodyPost_blk2 rfl _ rfl k9 Tryd.underlying22 rfl (by rw [show (((List.replicate 16 (0 : UInt8)).map bv).toArray).size = 16 by simp]; exact info16) rfl ⟨rfl, b9⟩
  · have HPG := Lib.hid (pG_yes l k hgp)
    have HLs := Lib.hid (fun W => refList_any (l.take k) false W (by simp; omega))
    have HLt := Lib.hid (fun W => refList_any (l.drop (k + 2)) true W (by simp; omega))
    have HN1 := Lib.hid (fun L h => Nat.le_trans (rdS_len false (l.take k) L h) (show _ ≤ l.length + 2 by simp; omega))
    have HL1 := Lib.hid (fun L h => rdS_lt false (l.take k) L h)
    have HN2 := Lib.hid (fun L h => Nat.le_trans (rdS_len true (l.drop (k + 2)) L h) (show _ ≤ l.length + 2 by simp))
    have HL2 := Lib.hid (fun L h => rdS_lt true (l.drop (k + 2)) L h)
    have hx1 : (ByteArray.mk ⟨l⟩).extract 0 k = ⟨⟨l.take k⟩⟩ := by rw [text_cut]; simp
    have hx2 : (ByteArray.mk ⟨l⟩).extract (k + 2) l.length = ⟨⟨l.drop (k + 2)⟩⟩ := by rw [text_cut, List.take_length]
    rw [hgp] at HGp
    generalize pB l = PB at *
    generalize pS l = PS at *
    generalize pG l = PG at *
    generalize rdS false (l.take k) = R1 at *
    generalize rdS true (l.drop (k + 2)) = R2 at *
    unfold sv at HGp HLs HLt ⊢
    rw [← hx1] at HLs
    rw [← hx2] at HLt
    clear hx1 hx2
    generalize ByteArray.mk ⟨l⟩ = s at *
    generalize l.length = N at *
    have j1 : (k : Int) ≤ (N : Int) := by omega
    have j2 : IntKind.i64.wrap ((k : Int) + 2) = (k : Int) + 2 := IntWalk.i64_in _ (by omega)
    have j3 : (k : Int) + 2 ≤ (N : Int) := by omega
    have j4 : ((k : Int) + 2).toNat = k + 2 := by omega
    have j5 : (0 : Int) ≤ (k : Int) + 2 := by omega
    have j6 : ¬ (k : Int) < 0 := by omega
    have j7 : k ≤ N := by omega
    go_enter Tryd.func64, Tryd.ntmps64
    go_wp2_with fail
    refine (HGp.out _).mono ?_; rintro e w1 ⟨rfl, hw1⟩
    subst hw1
    go_wp2_with fail
    refine (HLs.out _).mono ?_; rintro e w2 ⟨h2, hb2⟩
    have hb2 : Below ((w.alloc (.cells ((List.replicate 16 (0 : UInt8)).map bv).toArray 22)).alloc (.cells ((List.replicate 16 (0 : UInt8)).map bv).toArray 22)).heap.size ((w.alloc (.cells ((List.replicate 16 (0 : UInt8)).map bv).toArray 22)).alloc (.cells ((List.replicate 16 (0 : UInt8)).map bv).toArray 22)) w2 := hb2
    have k3 := k1.on hb2
    have k4 := k2.on hb2
    have b2 := Below.on b0 b0.size hb2
    have hs2 := hb2.size
    clear k1 k2 b0 hb2
    rcases h2 with ⟨F, v1, hF, rfl, hO1⟩ | ⟨hF, rfl⟩
    · have hO1 := own_base hO1 (show w.heap.size + 2 ≤ _ by simp)
      go_wp2_with fail
      refine (HLt.out _).mono ?_; rintro e w3 ⟨h3, hb3⟩
      have k5 := k3.on hb3
      have k6 := k4.on hb3
      have b3 := Below.on b2 b2.size hb3
      have hs3 := hb3.size
      have hO1 := own_keep2 hO1 hb3
      clear k3 k4 b2 hb3
      obtain ⟨A1, c1, rfl, _, _, hS1⟩ := GOwn.sh hO1
      have hFl := HN1.out F hF
      rcases h3 with ⟨B, v2, hB, rfl, hO2⟩ | ⟨hB, rfl⟩
      · obtain ⟨A2, c2, rfl, _, _, hS2⟩ := GOwn.sh hO2
        have hBl := HN2.out B hB
        have v0 : IntKind.i64.wrap ((F.length : Int) + (B.length : Int)) = (F.length : Int) + (B.length : Int) := IntWalk.i64_in _ (by omega)
        by_cases h7 : F.length + B.length ≤ 7
        · have h7I : ¬ (F.length : Int) + (B.length : Int) > 7 := by omega
          have HG : Hid (PG = some (gMid F B)) := Lib.hid (by rw [HPG.out, hF, hB]; exact if_pos h7)
          have HGl := Lib.hid (gMid_len F B (by omega))
          have HG16 := Lib.hid (gMid_lt F B (HL1.out F hF) (HL2.out B hB))
          have HMid := Lib.hid (show gMid F B = F ++ List.replicate (8 - F.length - B.length) 0 ++ B from rfl)
          have HFf := Lib.hid (show F.take F.length = F from List.take_length)
          have HFl := Lib.hid (rfl : F.length = F.length)
          have Hsn := Lib.hid (fun k x (h : F[k]? = some x) => tk_snoc F k x h)
          clear hO1 hO2 hF hB HPG HN1 HL1 HN2 HL2 HLs HLt HGp hFl hBl
          generalize hfq : F.length = f at *
          generalize hbq : B.length = bl at *
          have hFq := Lib.hid hfq
          have hBq := Lib.hid hbq
          clear hfq hbq
          go_wp2
          have g0 : GOwn i64v 3 w3 w3.heap.size (.slice none 0 0) 0 ([] : List Nat) := World.ownsRow_nil _ _ _ _
          go_loopw [5, 13] (fun v i wr => ∃ k : Nat, k ≤ f ∧ i = .int .i64 (k : Int) ∧ GOwn i64v 3 wr w3.heap.size v k (F.take k) ∧ Below w3.heap.size w3 wr) (fun _ i _ => f - (intOf i).toNat)
          case atStart => exact ⟨0, Nat.zero_le _, rfl, g0, Below.refl _ _⟩
          case round =>
            obtain ⟨k', hk', rfl, hown, hbel⟩ := hrel
            have hbs := hbel.size
            by_cases hlt : k' < f
            · obtain ⟨b, off, x, rfl, hb, hcell, hx⟩ := (hS1.below hbel).elem hlt
              have HX := Lib.hid (Hsn.out k' x hx)
              clear hx
              go_wp2_with (at_builtin; refine wpList_appi _ rfl _ _ rfl w3.heap.size _ _ _ rfl (hown.alloc _) ⟨wr.heap.size, 0, none⟩ 1 x rfl (one_new _ _ _ _ rfl) (by omega) (by simp; omega) ?_; intro v' w5 hown' hgrow)
              have b5 : Below w3.heap.size w3 w5 := by
                refine Below.grown ?_ hgrow ?_ (fun g hg => (hown.lt g hg).1)
                · exact hbel.alloc hbs _
                · simp; omega
              clear hgrow
              rw [HX.out] at hown'
              go_wp2
              go_roundw
              case rel => exact ⟨k' + 1, by omega, by go_num, hown', b5⟩
              case measure => simp [intOf] <;> omega
            · obtain rfl : k' = f := by omega
              rw [show F.take k' = F ++ List.replicate (k' - k') 0 from by rw [HFf.out]; simp] at hown
              go_wp2
              go_loopw [5] (fun v wr => ∃ n : Nat, k' ≤ n ∧ n + bl ≤ 8 ∧ GOwn i64v 3 wr w3.heap.size v n (F ++ List.replicate (n - k') 0) ∧ Below w3.heap.size w3 wr) (fun v _ => 8 - lenV v)
              case atStart => exact ⟨k', Nat.le_refl _, by omega, hown, hbel⟩
              case round =>
                clear hown hbel hbs
                obtain ⟨n, hn1, hn2, hown, hbel⟩ := hrel
                have hbs := hbel.size
                obtain ⟨A3, c3, rfl, _, _, _⟩ := GOwn.sh hown
                have v3 : IntKind.i64.wrap ((n : Int) + (bl : Int)) = (n : Int) + (bl : Int) := IntWalk.i64_in _ (by omega)
                by_cases hlt2 : n + bl < 8
                · have hI : (n : Int) + (bl : Int) < 8 := by omega
                  go_wp2_with (at_builtin; refine wpList_appi _ rfl _ _ rfl w3.heap.size _ _ _ rfl (hown.alloc _) ⟨wr.heap.size, 0, none⟩ 1 0 rfl (one_new _ _ _ _ rfl) (by omega) (by simp; omega) ?_; intro v' w5 hown' hgrow)
                  have b5 : Below w3.heap.size w3 w5 := by
                    refine Below.grown ?_ hgrow ?_ (fun g hg => (hown.lt g hg).1)
                    · exact hbel.alloc hbs _
                    · simp; omega
                  clear hgrow
                  have hown' : GOwn i64v 3 w5 w3.heap.size v' (n + 1) (F ++ List.replicate (n + 1 - k') 0) := by
                    rw [List.append_assoc, ← List.replicate_succ', show n - k' + 1 = n + 1 - k' by omega] at hown'
                    exact hown'
                  obtain ⟨A4, c4, rfl, _, _, _⟩ := GOwn.sh hown'
                  go_wp2
                  go_roundw
                  case rel => exact ⟨n + 1, by omega, by omega, hown', b5⟩
                  case measure => simp [lenV] <;> omega
                · have hI : ¬ (n : Int) + (bl : Int) < 8 := by omega
                  have hs25 := hS2.below hbel
                  go_wp2_with (at_builtin; refine wpList_appiAny _ rfl _ _ rfl w3.heap.size _ _ _ rfl hown A2 bl c2 w3.heap.size B rfl hs25 (by omega) hbs ?_; intro v' w5 hown' hgrow)
                  have b5 : Below w3.heap.size w3 w5 := Below.grown hbel hgrow hbs (fun g hg => (hown.lt g hg).1)
                  clear hgrow
                  have hown' : GOwn i64v 3 w5 w3.heap.size v' 8 (gMid F B) := by
                    rw [HMid.out, show 8 - k' - bl = n - k' by omega]
                    rw [show n + bl = 8 by omega] at hown'
                    exact hown'
                  obtain ⟨b, off, c, rfl, hb1, hb9, hcs⟩ := GOwn_cells hown' (by omega)
                  have k7 := k5.on b5
                  have k8 := k6.on b5
                  have b7 := Below.on b3 b3.size b5
                  have hbn : b ≠ w.heap.size + 1 := by omega
                  clear hown hown' hbel b5 k5 k6 b3 hs25 hb1 hb9 hS1 hS2 HMid
                  generalize gMid F B = G at *
                  have hB0 : PB = bOf G := by rw [HPB.out, HG.out]
                  have hS0 : PS = true := by rw [HPS.out, HG.out]; rfl
                  have hbf := bAtK_full G HGl.out
                  rw [← hbf] at hB0
                  subst hB0 hS0
                  clear hbf
                  have HS := Lib.hid (fun k n h => bAtK_set G HGl.out k n h)
                  have HLn := Lib.hid (fun k hk => bAtK_len G HGl.out k hk)
                  have hb00 : bAtK G 0 = List.replicate 16 0 := by unfold bAtK; simp [bOf]
                  go_wp2
                  go_loopw [14] (fun i wr => ∃ k : Nat, k ≤ 8 ∧ i = .int .i64 (k : Int) ∧ Arr wr w.heap.size 22 (List.replicate 16 0) ∧ Arr wr (w.heap.size + 1) 22 (bAtK G k) ∧ Hid (∀ (j x : Nat), (G)[j]? = some x → wr.cell? ⟨b, off + j, none⟩ = some (i64v x)) ∧ Below w.heap.size w wr) (fun i _ => 8 - (intOf i).toNat)
                  case atStart => exact ⟨0, Nat.zero_le _, rfl, k7, by rw [hb00]; exact k8, hcs, b7⟩
                  case round =>
                    clear k8 k7 b7 hcs
                    obtain ⟨k, hk, rfl, hrb, hkb, hcs, hbel⟩ := hrel
                    have hbs := hbel.size
                    by_cases hlt : k < 8
                    · obtain ⟨n, hn⟩ : ∃ n, (G)[k]? = some n := ⟨(G)[k]'(by rw [HGl.out]; omega), List.getElem?_eq_getElem _⟩
                      have hset := HS.out k n hn
                      have hn16 := HG16.out n (List.mem_of_getElem? hn)
                      have hl16 := HLn.out k hk
                      have hc1 := hcs.out k n hn
                      have hv1 : IntKind.u8.wrap ((n : Int) / 256) = ((UInt8.ofNat (n / 256)).toNat : Int) := by
                        rw [IntWalk.u8_in _ (by omega)]; simp; omega
                      have hv2 : IntKind.u8.wrap ((n : Int) % 256) = ((UInt8.ofNat (n % 256)).toNat : Int) := by
                        rw [IntWalk.u8_in _ (by omega)]; simp
                      have hq1 : (n : Int).tdiv 256 = (n : Int) / 256 := Int.tdiv_eq_ediv_of_nonneg (by omega)
                      have hq2 : (n : Int).tmod 256 = (n : Int) % 256 := Int.tmod_eq_emod_of_nonneg (by omega)
                      have hw8 : IntKind.i64.wrap ((n : Int) / 256) = (n : Int) / 256 := IntWalk.i64_in _ (by omega)
                      have hw9 : IntKind.i64.wrap ((n : Int) % 256) = (n : Int) % 256 := IntWalk.i64_in _ (by omega)
                      obtain ⟨c0, h0⟩ : ∃ c, (bAtK G k)[2 * k]? = some c := ⟨(bAtK G k)[2 * k]'(by omega), List.getElem?_eq_getElem _⟩
                      obtain ⟨c1, h1⟩ : ∃ c, (bAtK G k)[2 * k + 1]? = some c := ⟨(bAtK G k)[2 * k + 1]'(by omega), List.getElem?_eq_getElem _⟩
                      have e0 := hkb.byte h0
                      have e1 := hkb.byte h1
                      have f0 := hkb.frozen (2 * k)
                      have f1 := hkb.frozen (2 * k + 1)
                      have HT := Lib.hid (show Arr ((wr.setCell ⟨w.heap.size + 1, 2 * k, none⟩ (bv (UInt8.ofNat (n / 256)))).setCell ⟨w.heap.size + 1, 2 * k + 1, none⟩ (bv (UInt8.ofNat (n % 256)))) (w.heap.size + 1) 22 (bAtK G (k + 1)) by
                        have := (hkb.put (2 * k) (UInt8.ofNat (n / 256))).put (2 * k + 1) (UInt8.ofNat (n % 256))
                        rw [hset] at this
                        exact this)
                      have HR := Lib.hid ((hrb.putOther ⟨w.heap.size + 1, 2 * k, none⟩ (bv (UInt8.ofNat (n / 256))) (by simp)).putOther ⟨w.heap.size + 1, 2 * k + 1, none⟩ (bv (UInt8.ofNat (n % 256))) (by simp))
                      have HC := Lib.hid (fun (j x : Nat) (hj : (G)[j]? = some x) => show ((wr.setCell ⟨w.heap.size + 1, 2 * k, none⟩ (bv (UInt8.ofNat (n / 256)))).setCell ⟨w.heap.size + 1, 2 * k + 1, none⟩ (bv (UInt8.ofNat (n % 256)))).cell? ⟨b, off + j, none⟩ = some (i64v x) from
                        ((cell_other _ _ _ _ _ hbn).trans (cell_other _ _ _ _ _ hbn)).trans (hcs.out j x hj))
                      have hc2 : (wr.setCell ⟨w.heap.size + 1, 2 * k, none⟩ (bv (UInt8.ofNat (n / 256)))).cell? ⟨b, off + k, none⟩ = some (.int .i64 (n : Int)) := (cell_other _ _ _ _ _ hbn).trans hc1
                      have hc1 : wr.cell? ⟨b, off + k, none⟩ = some (.int .i64 (n : Int)) := hc1
                      have HB := Lib.hid ((hbel.setCell (p := ⟨w.heap.size + 1, 2 * k, none⟩) (by show w.heap.size ≤ w.heap.size + 1; omega) (bv (UInt8.ofNat (n / 256)))).setCell (p := ⟨w.heap.size + 1, 2 * k + 1, none⟩) (by show w.heap.size ≤ w.heap.size + 1; omega) (bv (UInt8.ofNat (n % 256))))
                      have i1 : (2 : Int) * (k : Int) < 16 := by omega
                      have i2 : (0 : Int) ≤ 2 * (k : Int) := by omega
                      have i3 : ((2 : Int) * (k : Int)).toNat = 2 * k := by omega
                      have i4 : (2 : Int) * (k : Int) + 1 < 16 := by omega
                      have i5 : (0 : Int) ≤ 2 * (k : Int) + 1 := by omega
                      have i6 : ((2 : Int) * (k : Int) + 1).toNat = 2 * k + 1 := by omega
                      have w1 : IntKind.i64.wrap (2 * (k : Int)) = 2 * (k : Int) := IntWalk.i64_in _ (by omega)
                      have w2 : IntKind.i64.wrap (2 * (k : Int) + 1) = 2 * (k : Int) + 1 := IntWalk.i64_in _ (by omega)
                      have i7 : 2 * k < 16 := by omega
                      have i8 : 2 * k + 1 < 16 := by omega
                      clear hset hn hkb hrb h0 h1 hcs
                      generalize UInt8.ofNat (n / 256) = U at *
                      generalize UInt8.ofNat (n % 256) = V at *
                      go_wp2
                      go_roundw
                      case rel => exact ⟨k + 1, by omega, by go_num, HR.out, HT.out, HC, HB.out⟩
                      case measure => simp [intOf] <;> omega
                    · obtain rfl : k = 8 := by omega
                      have hl16q := HLn.out 8 (Nat.le_refl _)
                      generalize hLq : bAtK G 8 = L at *
                      have hl16 : (L).length = 16 := hl16q
                      go_wp2_with (first
                        | (refine wpList_loadArr (g := w.heap.size + 1) (t := 22) (l := L) rfl 22 5 (.tmp 4) ?ho ?hx hkb hl16 Tryd.underlying22 Tryd.infoB16 ?_
                           case ho => with_reducible rfl
                           case hx => rfl)
                        | (refine wpList_storeBlk (g := w.heap.size) (t := 22) (cs := ((L).map bv).toArray) ?hw 22 (.tmp 2) (.tmp 111) ?ho ?hx2 ?hy2 ((List.replicate 16 (0 : UInt8)).map bv).toArray hrb.blk ?hi ?hs ?h1 ?_
                           case ho => with_reducible rfl
                           case hw => rfl
                           case hx2 => rfl
                           case hy2 => rfl
                           case hi => rw [show (((L).map bv).toArray).size = 16 by simp [hl16]]; exact info16
                           case hs => simp [hl16]
                           case h1 => exact one_bytes _
                           intro w9 k9 hg9
                           have b9 : Below w.heap.size w w9 := (hbel).grown hg9 (hbel).size (fun j hj => by injection hj with hj; omega))
                        | fail)
                      refine bodyPost_blk2 rfl _ rfl k9 Tryd.underlying22 rfl (by rw [show (((L).map bv).toArray).size = 16 by simp [hl16]]; exact info16) rfl ⟨by first | rfl | (rw [hLq]; rfl), b9⟩
        · have h7I : (F.length : Int) + (B.length : Int) > 7 := by omega
          have HG : Hid (PG = none) := Lib.hid (by rw [HPG.out, hF, hB]; exact if_neg h7)
          clear hO1 hO2 hF hB hS1 hS2
          generalize F.length = f at *
          generalize B.length = bl at *
          have hB0 : PB = List.replicate 16 0 := by rw [HPB.out, HG.out]
          have hS0 : PS = false := by rw [HPS.out, HG.out]; rfl
          subst hB0 hS0
          have hl16 : (List.replicate 16 (0 : UInt8)).length = 16 := rfl
          go_wp2_with (first
            | (refine wpList_loadArr (g := w.heap.size + 1) (t := 22) (l := List.replicate 16 (0 : UInt8)) rfl 22 5 (.tmp 4) ?ho ?hx k6 hl16 Tryd.underlying22 Tryd.infoB16 ?_
               case ho => with_reducible rfl
               case hx => rfl)
            | (refine wpList_storeBlk (g := w.heap.size) (t := 22) (cs := ((List.replicate 16 (0 : UInt8)).map bv).toArray) ?hw 22 (.tmp 2) (.tmp 62) ?ho ?hx2 ?hy2 ((List.replicate 16 (0 : UInt8)).map bv).toArray k5.blk ?hi ?hs ?h1 ?_
               case ho => with_reducible rfl
               case hw => rfl
               case hx2 => rfl
               case hy2 => rfl
               case hi => rw [show (((List.replicate 16 (0 : UInt8)).map bv).toArray).size = 16 by simp]; exact info16
               case hs => simp
               case h1 => exact one_bytes _
               intro w9 k9 hg9
               have b9 : Below w.heap.size w w9 := (b3).grown hg9 (b3).size (fun j hj => by injection hj with hj; omega))
            | fail)
          refine bodyPost_blk2 rfl _ rfl k9 Tryd.underlying22 rfl (by rw [show (((List.replicate 16 (0 : UInt8)).map bv).toArray).size = 16 by simp]; exact info16) rfl ⟨rfl, b9⟩
      · have HG : Hid (PG = none) := Lib.hid (by rw [HPG.out, hF, hB])
        clear hO1 hS1 hF
        generalize F.length = f at *
        have hB0 : PB = List.replicate 16 0 := by rw [HPB.out, HG.out]
        have hS0 : PS = false := by rw [HPS.out, HG.out]; rfl
        subst hB0 hS0
        have hl16 : (List.replicate 16 (0 : UInt8)).length = 16 := rfl
        go_wp2_with (first
          | (refine wpList_loadArr (g := w.heap.size + 1) (t := 22) (l := List.replicate 16 (0 : UInt8)) rfl 22 5 (.tmp 4) ?ho ?hx k6 hl16 Tryd.underlying22 Tryd.infoB16 ?_
             case ho => with_reducible rfl
             case hx => rfl)
          | (refine wpList_storeBlk (g := w.heap.size) (t := 22) (cs := ((List.replicate 16 (0 : UInt8)).map bv).toArray) ?hw 22 (.tmp 2) (.tmp 62) ?ho ?hx2 ?hy2 ((List.replicate 16 (0 : UInt8)).map bv).toArray k5.blk ?hi ?hs ?h1 ?_
             case ho => with_reducible rfl
             case hw => rfl
             case hx2 => rfl
             case hy2 => rfl
             case hi => rw [show (((List.replicate 16 (0 : UInt8)).map bv).toArray).size = 16 by simp]; exact info16
             case hs => simp
             case h1 => exact one_bytes _
             intro w9 k9 hg9
             have b9 : Below w.heap.size w w9 := (b3).grown hg9 (b3).size (fun j hj => by injection hj with hj; omega))
          | fail)
        refine bodyPost_blk2 rfl _ rfl k9 Tryd.underlying22 rfl (by rw [show (((List.replicate 16 (0 : UInt8)).map bv).toArray).size = 16 by simp]; exact info16) rfl ⟨rfl, b9⟩
    · have HG : Hid (PG = none) := Lib.hid (by rw [HPG.out, hF])
      go_wp2_with fail
      refine (HLt.out _).mono ?_; rintro e w3 ⟨h3, hb3⟩
      have k5 := k3.on hb3
      have k6 := k4.on hb3
      have b3 := Below.on b2 b2.size hb3
      clear k3 k4 b2 hb3
      rcases h3 with ⟨B, v2, hB, rfl, hO2⟩ | ⟨hB, rfl⟩
      · clear hO2
        have hB0 : PB = List.replicate 16 0 := by rw [HPB.out, HG.out]
        have hS0 : PS = false := by rw [HPS.out, HG.out]; rfl
        subst hB0 hS0
        have hl16 : (List.replicate 16 (0 : UInt8)).length = 16 := rfl
        go_wp2_with (first
          | (refine wpList_loadArr (g := w.heap.size + 1) (t := 22) (l := List.replicate 16 (0 : UInt8)) rfl 22 5 (.tmp 4) ?ho ?hx k6 hl16 Tryd.underlying22 Tryd.infoB16 ?_
             case ho => with_reducible rfl
             case hx => rfl)
          | (refine wpList_storeBlk (g := w.heap.size) (t := 22) (cs := ((List.replicate 16 (0 : UInt8)).map bv).toArray) ?hw 22 (.tmp 2) (.tmp 62) ?ho ?hx2 ?hy2 ((List.replicate 16 (0 : UInt8)).map bv).toArray k5.blk ?hi ?hs ?h1 ?_
             case ho => with_reducible rfl
             case hw => rfl
             case hx2 => rfl
             case hy2 => rfl
             case hi => rw [show (((List.replicate 16 (0 : UInt8)).map bv).toArray).size = 16 by simp]; exact info16
             case hs => simp
             case h1 => exact one_bytes _
             intro w9 k9 hg9
             have b9 : Below w.heap.size w w9 := (b3).grown hg9 (b3).size (fun j hj => by injection hj with hj; omega))
          | fail)
        refine bodyPost_blk2 rfl _ rfl k9 Tryd.underlying22 rfl (by rw [show (((List.replicate 16 (0 : UInt8)).map bv).toArray).size = 16 by simp]; exact info16) rfl ⟨rfl, b9⟩
      · skip
        have hB0 : PB = List.replicate 16 0 := by rw [HPB.out, HG.out]
        have hS0 : PS = false := by rw [HPS.out, HG.out]; rfl
        subst hB0 hS0
        have hl16 : (List.replicate 16 (0 : UInt8)).length = 16 := rfl
        go_wp2_with (first
          | (refine wpList_loadArr (g := w.heap.size + 1) (t := 22) (l := List.replicate 16 (0 : UInt8)) rfl 22 5 (.tmp 4) ?ho ?hx k6 hl16 Tryd.underlying22 Tryd.infoB16 ?_
             case ho => with_reducible rfl
             case hx => rfl)
          | (refine wpList_storeBlk (g := w.heap.size) (t := 22) (cs := ((List.replicate 16 (0 : UInt8)).map bv).toArray) ?hw 22 (.tmp 2) (.tmp 62) ?ho ?hx2 ?hy2 ((List.replicate 16 (0 : UInt8)).map bv).toArray k5.blk ?hi ?hs ?h1 ?_
             case ho => with_reducible rfl
             case hw => rfl
             case hx2 => rfl
             case hy2 => rfl
             case hi => rw [show (((List.replicate 16 (0 : UInt8)).map bv).toArray).size = 16 by simp]; exact info16
             case hs => simp
             case h1 => exact one_bytes _
             intro w9 k9 hg9
             have b9 : Below w.heap.size w w9 := (b3).grown hg9 (b3).size (fun j hj => by injection hj with hj; omega))
          | fail)
        refine bodyPost_blk2 rfl _ rfl k9 Tryd.underlying22 rfl (by rw [show (((List.replicate 16 (0 : UInt8)).map bv).toArray).size = 16 by simp]; exact info16) rfl ⟨rfl, b9⟩
end Go.Proofs.YtccidoigjdbepaaDoor.Cl
