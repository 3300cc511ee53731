
/- Layer 9. Contract: colon.Parse. -/
import Derived.Test.YtccidoigjdbepaaDoorClK
import Derived.Test.YtccidoigjdbepaaDoorClL
import Derived.Laws.CopyOwn
namespace Go.Proofs.YtccidoigjdbepaaDoor.Cl
open Go.RowKit Lin
set_option maxRecDepth 100000
set_option linter.unusedVariables false

/-- The groups of both sides, noughts between them. -/
def gMid (F B : List Nat) : List Nat := F ++ List.replicate (8 - F.length - B.length) 0 ++ B
def gFits (g : Bool) (F B : List Nat) : Bool := if g then decide (F.length + B.length ≤ 7) else decide (F.length + B.length = 8)
/-- What a text says. -/
noncomputable def pG (l : List UInt8) : Option (List Nat) :=
  match rdS (!(Lib.cut l [58, 58]).2.2) (Lib.cut l [58, 58]).1, rdS true (Lib.cut l [58, 58]).2.1 with
  | some F, some B => if gFits (Lib.cut l [58, 58]).2.2 F B = true then some (gMid F B) else none
  | _, _ => none
noncomputable def pB (l : List UInt8) : List UInt8 := match pG l with | some G => bOf G | none => List.replicate 16 0
noncomputable def pE (l : List UInt8) : Nat := match pG l with | some _ => 0 | none => 5
theorem gFits_le (g : Bool) (F B : List Nat) (h : gFits g F B = true) : F.length + B.length ≤ 8 := by
  unfold gFits at h
  split at h <;> simp at h <;> omega
theorem gMid_len (F B : List Nat) (h : F.length + B.length ≤ 8) : (gMid F B).length = 8 := by
  unfold gMid
  simp
  omega
theorem rdS_lt (q : Bool) (l : List UInt8) (L : List Nat) (h : rdS q l = some L) : ∀ n ∈ L, n < 65536 := by
  unfold rdS at h
  split at h
  · injection h with h; subst h; intro n hn; cases hn
  · exact (rdRow_lt q _ L h).1
theorem rdS_len (q : Bool) (l : List UInt8) (L : List Nat) (h : rdS q l = some L) : L.length ≤ l.length + 2 := by
  unfold rdS at h
  split at h
  · injection h with h; subst h; simp
  · have h1 := (rdRow_lt q _ L h).2
    have h2 := parts_len 58 l
    omega
theorem gMid_lt (F B : List Nat) (hF : ∀ n ∈ F, n < 65536) (hB : ∀ n ∈ B, n < 65536) : ∀ n ∈ gMid F B, n < 65536 := by
  intro n hn
  unfold gMid at hn
  rcases List.mem_append.1 hn with h | h
  · rcases List.mem_append.1 h with h | h
    · exact hF n h
    · rw [(List.mem_replicate.1 h).2]; omega
  · exact hB n h
theorem mid_splice (F B : List Nat) (h : F.length + B.length ≤ 8) :
    splice (splice (List.replicate 8 (u16v 0)) 0 (F.map u16v)) (8 - B.length) (B.map u16v) = (gMid F B).map u16v := by
  unfold splice gMid
  simp only [List.take_zero, List.nil_append, Nat.zero_add, List.length_map, List.drop_replicate, List.map_append, List.map_replicate]
  rw [List.take_append, List.take_of_length_le (by rw [List.length_map]; omega), List.take_replicate, List.length_map, List.drop_of_length_le (by simp; omega), List.append_nil, show min (8 - B.length - F.length) (8 - F.length) = 8 - F.length - B.length by omega]

/-- A machine in which internal/bytealg's greatest length stands. -/
def HasM (w : World) : Prop := ∃ m : Int, w.cell? ⟨0, 0, none⟩ = some (.int .i64 m)
theorem HasM.pos {w : World} (h : HasM w) : 0 < w.heap.size := by
  obtain ⟨m, hm⟩ := h
  rcases Nat.eq_zero_or_pos w.heap.size with h0 | h0
  · unfold World.cell? at hm
    rw [show w.heap[(⟨0, 0, none⟩ : Addr).block]? = none from Array.getElem?_eq_none (by show w.heap.size ≤ 0; omega)] at hm
    cases hm
  · exact h0
theorem HasM.on {w w' : World} {B : Nat} (h : HasM w) (hb : Below B w w') (hB : 0 < B) : HasM w' := by
  obtain ⟨m, hm⟩ := h
  exact ⟨m, (hb.cell (p := ⟨0, 0, none⟩) hB).trans hm⟩
theorem cut_any (l : List UInt8) (hn : l.length ≤ 1000000) (w : World) (hm : HasM w) :
    Calls Tryd.prog 85 #[sv l, .string ⟨#[58, 58]⟩] w fun e w' => e = .returned (.tuple #[sv (Lib.cut l [58, 58]).1, sv (Lib.cut l [58, 58]).2.1, .bool (Lib.cut l [58, 58]).2.2]) ∧ Below w.heap.size w w' := by
  obtain ⟨m, hm⟩ := hm
  exact (Tryd.strings_Cut ⟨⟨l⟩⟩ ⟨#[58, 58]⟩ m w (by show l.length < _; omega) hm).mono fun e w' ⟨h1, n, h2⟩ => ⟨h1, h2 ▸ below_draw (Below.refl _ _) n⟩
theorem cut_len (l : List UInt8) : (Lib.cut l [58, 58]).1.length ≤ l.length ∧ (Lib.cut l [58, 58]).2.1.length ≤ l.length := by
  unfold Lib.cut
  split
  · simp; omega
  · simp

theorem cpy_src {w : World} {A : Option Addr} {n : Nat} {B : List Nat} (h : Sh u16v w w.heap.size A n B) (hn : 0 < n) : ∃ ad, A = some ad ∧ ∀ (j : Nat) v, (B.map u16v)[j]? = some v → w.cell? (ad.add j) = some v := by
  obtain ⟨b, off, rfl, _, hc⟩ := h.2 hn
  refine ⟨_, rfl, fun j v hj => ?_⟩
  rw [List.getElem?_map] at hj
  cases hb : B[j]? with
  | none => rw [hb] at hj; cases hj
  | some x =>
    rw [hb] at hj
    injection hj with hj
    subst hj
    obtain ⟨hl, rfl⟩ := List.getElem?_eq_some_iff.1 hb
    have := hc j hl
    by_cases h0 : j = 0
    · subst h0; exact this
    · rw [show (⟨b, off, none⟩ : Addr).add j = ⟨b, off + j, none⟩ by simp [Addr.add, h0]]; exact this
theorem u16_one (B : List Nat) : ∀ v ∈ B.map u16v, v.oneCell' = true := by
  intro v hv; obtain ⟨x, _, rfl⟩ := List.mem_map.1 hv; rfl
theorem below_less {B B' : Nat} {w w' : World} (h : Below B w w') (hB : B' ≤ B) : Below B' w w' := ⟨h.os, h.tape, h.output, h.size, fun k hk => h.block k (by omega)⟩
theorem slice_at (g M : Nat) (hM : M ≤ 8) (W : World) : (Instr.sliceAt 95 (.pointer (some ⟨g, 0, none⟩)) (some (.int .i64 (M : Int))) none none).run Tryd.prog W = .ok (.slice (some (if 8 = M then (⟨g, 0, none⟩ : Addr) else ⟨g, M, none⟩)) (8 - M) (8 - M)) W := by
  have hl : Tryd.prog.arrayLen 95 = 8 := by kernel_rfl
  have hs : ∀ W, (sizeOf (Tryd.prog.elem 95)).run Tryd.prog W = .ok 1 W := fun W => by kernel_rfl
  rw [run_sliceAt_array_l W 95 ⟨g, 0, none⟩ Tryd.underlying95 .i64 (M : Int) (by omega) (by rw [hl]; omega), hs, hl]
  simp only [Result.andThen, slicedAt, Int.toNat_natCast, Nat.mul_one]
  by_cases h : 8 = M
  · subst h; rfl
  · have h0 : M = 0 ∨ M ≠ 0 := by omega
    rcases h0 with rfl | h0
    · rfl
    · simp [h, Addr.add, h0]
theorem sizeU16 : (Tryd.prog.info? 94).map (·.size) = some 1 := by kernel_rfl

set_option maxHeartbeats 4000000 in
theorem cparse_any (l : List UInt8) (hn : l.length ≤ 1000000) (w : World) (hm : HasM w) :
    Calls Tryd.prog 61 #[sv l] w fun e w' => e = .returned (.tuple #[av (pB l), .int .i64 (pE l : Int)]) ∧ Below w.heap.size w w' := by
  have HC := Lib.hid (fun W hW => cut_any l hn W hW)
  have hcl := cut_len l
  have HPB := Lib.hid (show pB l = match pG l with | some G => bOf G | none => List.replicate 16 0 from rfl)
  have HPE := Lib.hid (show pE l = match pG l with | some _ => 0 | none => 5 from rfl)
  have HPG := Lib.hid (show pG l = match rdS (!(Lib.cut l [58, 58]).2.2) (Lib.cut l [58, 58]).1, rdS true (Lib.cut l [58, 58]).2.1 with
    | some F, some B => if gFits (Lib.cut l [58, 58]).2.2 F B = true then some (gMid F B) else none
    | _, _ => none from rfl)
  have hpos := hm.pos
  generalize pB l = PB at *
  generalize pE l = PE at *
  generalize pG l = PG at *
  generalize (Lib.cut l [58, 58]).1 = H at *
  generalize (Lib.cut l [58, 58]).2.1 = T at *
  generalize (Lib.cut l [58, 58]).2.2 = g at *
  have HR1 := Lib.hid (fun W => readGroups_any H (!g) W (by omega))
  have HR2 := Lib.hid (fun W => readGroups_any T true W (by omega))
  have HN1 := Lib.hid (fun L h => Nat.le_trans (rdS_len (!g) H L h) (Nat.add_le_add_right (Nat.le_trans hcl.1 hn) 2))
  have HN2 := Lib.hid (fun L h => Nat.le_trans (rdS_len true T L h) (Nat.add_le_add_right (Nat.le_trans hcl.2 hn) 2))
  have HL1 := Lib.hid (fun L h => rdS_lt (!g) H L h)
  have HL2 := Lib.hid (fun L h => rdS_lt true T L h)
  clear hcl
  unfold sv at HC HR1 HR2 ⊢
  generalize ByteArray.mk ⟨l⟩ = s at *
  generalize ByteArray.mk ⟨H⟩ = sH at *
  generalize ByteArray.mk ⟨T⟩ = sT at *
  generalize rdS (!g) H = R1 at *
  generalize rdS true T = R2 at *
  have k0 : Arr (w.alloc (.cells ((List.replicate 16 (0 : UInt8)).map bv).toArray 22)) w.heap.size 22 (List.replicate 16 0) := blk_new _ _ _
  have b0 : Below w.heap.size w (w.alloc (.cells ((List.replicate 16 (0 : UInt8)).map bv).toArray 22)) := (Below.refl _ _).alloc (Nat.le_refl _) _
  have m0 := hm.on b0 hpos
  go_enter Tryd.func61, Tryd.ntmps61
  go_wp2_with fail
  refine (HC.out _ (by exact m0)).mono ?_; rintro e w1 ⟨rfl, hb1⟩
  have k1 := k0.on (by exact hb1)
  have b1 := Below.on b0 b0.size (by exact hb1)
  clear hb1 k0 b0 m0
  go_wp2_with fail
  refine (HR1.out _).mono ?_; rintro e w2 ⟨h2, hb2⟩
  have k2 := k1.on hb2
  have b2 := Below.on b1 b1.size hb2
  have hs1 := b1.size
  clear k1
  rcases h2 with ⟨F, v1, hF, rfl, hO1⟩ | ⟨hF, rfl⟩
  · have hO1 := own_base hO1 hs1
    obtain ⟨A1, c1, rfl, hfc, hfm, _⟩ := GOwn.sh hO1
    clear hb2 b1 hs1
    go_wp2_with fail
    refine (HR2.out _).mono ?_; rintro e w3 ⟨h3, hb3⟩
    have k3 := k2.on hb3
    have b3 := Below.on b2 b2.size hb3
    have hs2 := b2.size
    have hO1 := own_keep2 hO1 hb3
    clear k2
    rcases h3 with ⟨B, v2, hB, rfl, hO2⟩ | ⟨hB, rfl⟩
    · have hO2 := own_base hO2 hs2
      obtain ⟨A2, c2, rfl, hbc, hbm, _⟩ := GOwn.sh hO2
      clear hb3 b2 hs2
      have hb3s := b3.size
      have hfI : F.length ≤ 1000002 := HN1.out F hF
      have hbI : B.length ≤ 1000002 := HN2.out B hB
      have v0 : IntKind.i64.wrap (8 - (F.length : Int)) = 8 - (F.length : Int) := IntWalk.i64_in _ (by omega)
      have v1 : IntKind.i64.wrap (8 - (F.length : Int) - (B.length : Int)) = 8 - (F.length : Int) - (B.length : Int) := IntWalk.i64_in _ (by omega)
      have k4 := k3.alloc (.cells (gAt [] 0) 95)
      have b4 := b3.alloc hb3s (.cells (gAt [] 0) 95)
      cases hfit : gFits g F B with
      | false =>
        have HG := Lib.hid (show PG = none by rw [HPG.out, hF, hB]; simp [hfit])
        have Hb4 := Lib.hid b4
        have Hk4 := Lib.hid k4
        have h0z : (Tryd.prog.info? 95).map (fun i => (i.zero, i.size)) = some (some (.agg (gAt [] 0)), 8) := Tryd.zeroGroups
        clear k3 b3 hO1 hO2 hF hB k4 b4
        cases g with
        | true =>
          have hd : (8 : Int) - (F.length : Int) - (B.length : Int) < 1 := by unfold gFits at hfit; simp at hfit; omega
          clear hfit
          generalize F.length = f at *
          generalize B.length = b at *
          have hG : PG = none := HG.out
          have hB0 : PB = List.replicate 16 0 := by rw [HPB.out, hG]
          have hE0 : PE = 5 := by rw [HPE.out, hG]
          subst hB0 hE0
          go_wp2_with (first
            | (refine wpList_storeBlk (g := w.heap.size) (t := 22) (cs := (((List.replicate 16 (0 : UInt8)).map bv).toArray)) ?hw 22 (.tmp 2) (.tmp 57) ?ho ?hx2 ?hy2 (((List.replicate 16 (0 : UInt8)).map bv).toArray) Hk4.out.blk ?hi ?hs ?h1 ?_
               case ho => with_reducible rfl
               case hw => rfl
               case hx2 => rfl
               case hy2 => rfl
               case hi => exact info16
               case hs => rfl
               case h1 => exact one_bytes _
               intro w9 k9 hg9
               have b9 : Below w.heap.size w w9 := (Hb4.out).grown hg9 (Hb4.out).size (fun j hj => by injection hj with hj; omega))
            | fail)
          refine bodyPost_blk2 rfl _ rfl k9 Tryd.underlying22 rfl info16 rfl ⟨rfl, b9⟩
        | false =>
          have hd : ((8 : Int) - (F.length : Int) - (B.length : Int) != 0) = true := by unfold gFits at hfit; simp at hfit; rw [bne_iff_ne]; omega
          clear hfit
          generalize F.length = f at *
          generalize B.length = b at *
          have hG : PG = none := HG.out
          have hB0 : PB = List.replicate 16 0 := by rw [HPB.out, hG]
          have hE0 : PE = 5 := by rw [HPE.out, hG]
          subst hB0 hE0
          go_wp2_with (first
            | (refine wpList_storeBlk (g := w.heap.size) (t := 22) (cs := (((List.replicate 16 (0 : UInt8)).map bv).toArray)) ?hw 22 (.tmp 2) (.tmp 57) ?ho ?hx2 ?hy2 (((List.replicate 16 (0 : UInt8)).map bv).toArray) Hk4.out.blk ?hi ?hs ?h1 ?_
               case ho => with_reducible rfl
               case hw => rfl
               case hx2 => rfl
               case hy2 => rfl
               case hi => exact info16
               case hs => rfl
               case h1 => exact one_bytes _
               intro w9 k9 hg9
               have b9 : Below w.heap.size w w9 := (Hb4.out).grown hg9 (Hb4.out).size (fun j hj => by injection hj with hj; omega))
            | fail)
          refine bodyPost_blk2 rfl _ rfl k9 Tryd.underlying22 rfl info16 rfl ⟨rfl, b9⟩
      | true =>
        have HG := Lib.hid (show PG = some (gMid F B) by rw [HPG.out, hF, hB]; simp [hfit])
        have hle := gFits_le g F B hfit
        have HBt := Lib.hid (fun W => bytesOf_any (gMid F B) (gMid_len F B hle) (gMid_lt F B (HL1.out F hF) (HL2.out B hB)) W)
        have HGl := Lib.hid (gMid_len F B hle)
        have hdd : (g = true ∧ ¬ (8 : Int) - (F.length : Int) - (B.length : Int) < 1) ∨ (g = false ∧ ((8 : Int) - (F.length : Int) - (B.length : Int) != 0) = false) := by
          unfold gFits at hfit
          cases g with
          | true => left; simp at hfit; exact ⟨rfl, by omega⟩
          | false => right; simp at hfit; refine ⟨rfl, ?_⟩; rw [bne_eq_false_iff_eq]; omega
        have o14 := hO1.alloc (.cells (gAt [] 0) 95)
        have o24 := hO2.alloc (.cells (gAt [] 0) 95)
        obtain ⟨_, _, e1, _, _, s14⟩ := GOwn.sh o14
        injection e1 with e1 e2 e3
        subst e1 e3
        obtain ⟨_, _, e1, _, _, s24⟩ := GOwn.sh hO2
        injection e1 with e1 e2 e3
        subst e1 e3
        have s24 := s24.alloc (Nat.le_refl _) (.cells (gAt [] 0) 95)
        clear o14 o24
        have z4 : (w3.alloc (.cells (gAt [] 0) 95)).heap[w3.heap.size]? = some (.cells (List.replicate 8 (u16v 0)).toArray 95 (0, 0)) := blk_new _ _ _
        have hlt0 := k3.lt
        clear hfit k3 b3 hO1 hO2 hF hB
        obtain ⟨M, hM8, hML⟩ : ∃ M : Nat, M ≤ 8 ∧ M + B.length = 8 := ⟨8 - B.length, by omega, by omega⟩
        have hSp := mid_splice F B hle
        rw [show 8 - B.length = M by omega] at hSp
        have HSp := Lib.hid hSp
        clear hSp
        have hB0 : PB = bOf (gMid F B) := by rw [HPB.out, HG.out]
        have hE0 : PE = 0 := by rw [HPE.out, HG.out]
        subst hB0 hE0
        have hv8 : IntKind.i64.wrap (8 - (B.length : Int)) = (M : Int) := by rw [IntWalk.i64_in _ (by omega)]; omega
        have hM8I : (M : Int) ≤ 8 := by omega
        have HLs := Lib.hid (show (splice (List.replicate 8 (u16v 0)) 0 (F.map u16v)).length = 8 by rw [length_splice _ _ _ (by simp; omega)]; simp)
        rcases hdd with ⟨rfl, hd⟩ | ⟨rfl, hd⟩
        all_goals
          go_wp2_with (first
            | (refine wpList_copy_splice rfl (.tmp 58) (.tmp 59) 100 100 ?ho 94 Tryd.underlying100 sizeU16 (some ⟨w3.heap.size, 0, none⟩) A1 8 8 F.length c1 ?e1 ?e2 w3.heap.size 0 (List.replicate 8 (u16v 0)) 95 z4 (F.map u16v) ?q1 ?q2 ?q3 (u16_one F) w3.heap.size _ (Below.refl _ _) (Nat.le_refl _) ?_
               case ho => with_reducible rfl
               case e1 => rfl
               case e2 => rfl
               case q1 => rw [List.length_map]; exact (Nat.min_eq_left (by omega)).symm
               case q2 => exact fun h => ⟨rfl, cpy_src s14 (by simpa using h)⟩
               case q3 => simp; omega
               intro w5 hg5 hb5
               have s25 := (s24.below hb5).up (show w3.heap.size ≤ w5.heap.size by have := hb5.size; simp at this; omega)
               have k5 : Arr w5 w.heap.size 22 (List.replicate 16 0) := (hb5.block _ hlt0).trans k4
               have b5 : Below w.heap.size w w5 := b4.trans (below_less hb5 hb3s)
               clear hb5 b4 k4 z4 s14 s24)
            | (refine wpList_copy_splice ?hg0 (.tmp 64) (.tmp 65) 100 100 ?ho 94 Tryd.underlying100 sizeU16 (some (if 8 = M then (⟨w3.heap.size, 0, none⟩ : Addr) else ⟨w3.heap.size, M, none⟩)) A2 (8 - M) (8 - M) B.length c2 ?e1 ?e2 w3.heap.size M (splice (List.replicate 8 (u16v 0)) 0 (F.map u16v)) 95 hg5.out (B.map u16v) ?q1 ?q2 ?q3 (u16_one B) w3.heap.size w5 (Below.refl _ _) (Nat.le_refl _) ?_
               case hg0 => rfl
               case ho => with_reducible rfl
               case e1 => rfl
               case e2 => rfl
               case q1 => rw [List.length_map]; exact (Nat.min_eq_left (by omega)).symm
               case q2 =>
                 intro h
                 rw [List.length_map] at h
                 exact ⟨congrArg some (if_neg (by omega)), cpy_src s25 h⟩
               case q3 => rw [HLs.out]; simp; omega
               intro w6 hg6 hb6
               have k6 : Arr w6 w.heap.size 22 (List.replicate 16 0) := (hb6.block _ hlt0).trans k5
               have b6 : Below w.heap.size w w6 := b5.trans (below_less hb6 hb3s)
               have z6 : Blk w6 w3.heap.size 95 ((gMid F B).map u16v).toArray := by rw [← HSp.out]; exact hg6.out
               have HZ6 := Lib.hid z6
               clear k5 b5 z6 hg5 hg6)
            | (refine wpList_loadBlk (g := w3.heap.size) (t := 95) (cs := ((gMid F B).map u16v).toArray) rfl 95 (.tmp 10) ?ho ?hx ?hA _ Tryd.underlying95 rfl ?hi ?_
               case ho => with_reducible rfl
               case hx => rfl
               case hA => exact HZ6.out
               case hi => rw [show ((gMid F B).map u16v).toArray.size = 8 by simp [HGl.out]]; exact Tryd.infoGroups)
            | fail)
          all_goals
            refine (HBt.out _).mono ?_; rintro e w7 ⟨rfl, hb7⟩
            have k7 := k6.on hb7
            have b7 := Below.on b6 b6.size hb7
            have hsz : ((bOf (gMid F B)).map bv).toArray.size = 16 := by simp [bOf_len, HGl.out]
            clear hb7 k6 b6
            go_wp2_with (first
              | (refine wpList_storeBlk (g := w.heap.size) (t := 22) (cs := ((bOf (gMid F B)).map bv).toArray) ?hw 22 (.tmp 2) (.tmp 68) ?ho ?hx2 ?hy2 (((List.replicate 16 (0 : UInt8)).map bv).toArray) k7.blk ?hi ?hs ?h1 ?_
                 case ho => with_reducible rfl
                 case hw => rfl
                 case hx2 => rfl
                 case hy2 => rfl
                 case hi => rw [hsz]; exact info16
                 case hs => exact hsz.symm
                 case h1 => exact one_bytes _
                 intro w9 k9 hg9
                 have b9 : Below w.heap.size w w9 := (b7).grown hg9 (b7).size (fun j hj => by injection hj with hj; omega))
              | fail)
            refine bodyPost_blk2 rfl _ rfl k9 Tryd.underlying22 rfl (by rw [hsz]; exact info16) rfl ⟨rfl, b9⟩
    · clear hO1
      have hG : PG = none := by rw [HPG.out, hF, hB]
      have hB0 : PB = List.replicate 16 0 := by rw [HPB.out, hG]
      have hE0 : PE = 5 := by rw [HPE.out, hG]
      subst hB0 hE0
      go_wp2_with (first
        | (refine wpList_storeBlk (g := w.heap.size) (t := 22) (cs := (((List.replicate 16 (0 : UInt8)).map bv).toArray)) ?hw 22 (.tmp 2) (.tmp 36) ?ho ?hx2 ?hy2 (((List.replicate 16 (0 : UInt8)).map bv).toArray) k3.blk ?hi ?hs ?h1 ?_
           case ho => with_reducible rfl
           case hw => rfl
           case hx2 => rfl
           case hy2 => rfl
           case hi => exact info16
           case hs => rfl
           case h1 => exact one_bytes _
           intro w9 k9 hg9
           have b9 : Below w.heap.size w w9 := (b3).grown hg9 (b3).size (fun j hj => by injection hj with hj; omega))
        | fail)
      refine bodyPost_blk2 rfl _ rfl k9 Tryd.underlying22 rfl info16 rfl ⟨rfl, b9⟩
  · clear b1
    have hG : PG = none := by rw [HPG.out, hF]
    have hB0 : PB = List.replicate 16 0 := by rw [HPB.out, hG]
    have hE0 : PE = 5 := by rw [HPE.out, hG]
    subst hB0 hE0
    go_wp2_with (first
      | (refine wpList_storeBlk (g := w.heap.size) (t := 22) (cs := (((List.replicate 16 (0 : UInt8)).map bv).toArray)) ?hw 22 (.tmp 2) (.tmp 27) ?ho ?hx2 ?hy2 (((List.replicate 16 (0 : UInt8)).map bv).toArray) k2.blk ?hi ?hs ?h1 ?_
         case ho => with_reducible rfl
         case hw => rfl
         case hx2 => rfl
         case hy2 => rfl
         case hi => exact info16
         case hs => rfl
         case h1 => exact one_bytes _
         intro w9 k9 hg9
         have b9 : Below w.heap.size w w9 := (b2).grown hg9 (b2).size (fun j hj => by injection hj with hj; omega))
      | fail)
    refine bodyPost_blk2 rfl _ rfl k9 Tryd.underlying22 rfl info16 rfl ⟨rfl, b9⟩
end Go.Proofs.YtccidoigjdbepaaDoor.Cl
