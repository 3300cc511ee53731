
/- Layer 8. Contracts: quad.Parse and its reference. -/
import Derived.Test.YtccidoigjdbepaaDoorQdC
namespace Go.Proofs.YtccidoigjdbepaaDoor.Qd
open Go.RowKit Dec Lin
set_option maxRecDepth 100000

theorem GOwn_elem {α : Type} {f : α → Value} {e : TypeId} {w : World} {base n c : Nat} {A : Option Addr} {l : List α} (h : GOwn f e w base (.slice A n c) n l) {k : Nat} (hk : k < n) :
    ∃ (b off : Nat) (x : α), A = some ⟨b, off, none⟩ ∧ w.cell? ⟨b, off + k, none⟩ = some (f x) ∧ l[k]? = some x := by
  obtain ⟨A2, c2, e1, _, _, hs⟩ := h.sh
  injection e1 with e1
  subst e1
  obtain ⟨b, off, x, e2, _, hc, hx⟩ := hs.elem hk
  exact ⟨b, off, x, e2, hc, hx⟩
theorem parts46 (l : List UInt8) (w : World) (hn : l.length ≤ 1000000) :
    Calls Tryd.prog 88 #[sv l, .int .u8 46] w fun e w' => (∃ v, e = .returned v ∧ OwnS w' w.heap.size v (parts 46 l).length (parts 46 l)) ∧ Below w.heap.size w w' := parts_any l 46 w hn
theorem refParts46 (l : List UInt8) (w : World) (hn : l.length ≤ 1000000) :
    Calls Tryd.prog 63 #[sv l, .int .u8 46] w fun e w' => (∃ v, e = .returned v ∧ OwnS w' w.heap.size v (parts 46 l).length (parts 46 l)) ∧ Below w.heap.size w w' := refParts_any l 46 w hn
/-- Four bytes, the first k of them there. -/
noncomputable def bAt (x y z u : List UInt8) (k : Nat) : Array Value := ([bv (bO x), bv (bO y), bv (bO z), bv (bO u)].take k ++ List.replicate (4 - k) (bv 0)).toArray
theorem infoQ : (Tryd.prog.info? 37).map (·.size) = some 4 := by kernel_rfl
theorem own_over {w : World} {base g : Nat} {e : TypeId} {size : Nat} {v : Value} {n : Nat} {xs : List Value} (h : w.ownsRow base e size v n xs) (hg : g < base) (p q r s : Value) : (set4 w g p q r s).ownsRow base e size v n xs :=
  ownsRow_setCell_below (ownsRow_setCell_below (ownsRow_setCell_below (ownsRow_setCell_below h (a := ⟨g, 0, none⟩) hg p) (a := ⟨g, 1, none⟩) hg q) (a := ⟨g, 2, none⟩) hg r) (a := ⟨g, 3, none⟩) hg s
theorem own_below {w w' : World} {base : Nat} {e : TypeId} {size : Nat} {v : Value} {n : Nat} {xs : List Value} (h : w.ownsRow base e size v n xs) (hb : Below w.heap.size w w') : w'.ownsRow base e size v n xs := by
  have h3 : w.grownBy w' none := ⟨hb.os, hb.tape, hb.output, hb.size, fun k hk _ => hb.block k hk⟩
  exact h.kept h3 (by cases hv : v.ownBlock <;> simp)
theorem part_len (l : List UInt8) (N : Nat) (hn : l.length ≤ N) : ∀ x ∈ parts 46 l, x.length ≤ N := by
  have h : ∀ l : List UInt8, ∀ x ∈ parts 46 l, x.length ≤ l.length := by
    intro l
    induction l with
    | nil => intro x hx; simp [parts] at hx; subst hx; simp
    | cons c t ih =>
      intro x hx
      unfold parts at hx
      split at hx
      · rcases List.mem_cons.1 hx with h | h
        · subst h; simp
        · have := ih x h; simp; omega
      · obtain ⟨a, b, e⟩ := parts_ne 46 t
        rw [e] at hx
        simp only at hx
        rcases List.mem_cons.1 hx with h | h
        · subst h
          have := ih a (by rw [e]; simp)
          simp; omega
        · have := ih x (by rw [e]; simp [h]); simp; omega
  intro x hx
  exact Nat.le_trans (h l x hx) hn
theorem len_four {α : Type} (L : List α) (h : L.length = 4) : ∃ x y z u, L = [x, y, z, u] := by
  match L, h with
  | [x, y, z, u], _ => exact ⟨x, y, z, u, rfl⟩

theorem qparse_not (l : List UInt8) (w : World) (hn : l.length ≤ 1000000) (h4 : (parts 46 l).length ≠ 4) :
    Calls Tryd.prog 62 #[sv l] w fun e w' => e = .returned (.tuple #[av [0, 0, 0, 0], .int .i64 5]) ∧ Below w.heap.size w w' := by
  have HP := Lib.hid (fun W => parts46 l W hn)
  have hne : (((parts 46 l).length : Int) != 4) = true := by rw [bne_iff_ne]; omega
  have k0 : Blk (w.alloc (.cells #[bv 0, bv 0, bv 0, bv 0] 37)) w.heap.size 37 #[bv 0, bv 0, bv 0, bv 0] := blk_new _ _ _
  have k0' := k0.alloc (.cells #[bv 0, bv 0, bv 0, bv 0] 37)
  have b0 : Below w.heap.size w ((w.alloc (.cells #[bv 0, bv 0, bv 0, bv 0] 37)).alloc (.cells #[bv 0, bv 0, bv 0, bv 0] 37)) := ((Below.refl _ _).alloc (Nat.le_refl _) _).alloc (by simp) _
  clear h4
  generalize parts 46 l = P at *
  go_enter Tryd.func62, Tryd.ntmps62
  go_wp2_with fail
  refine (HP.out _).mono ?_; rintro e w1 ⟨⟨v, rfl, ho⟩, hb1⟩
  have k1 := k0'.on (by exact hb1)
  have b1 := Below.on b0 b0.size (by exact hb1)
  obtain ⟨A1, c1, rfl, _, _, _⟩ := GOwn.sh ho
  obtain ⟨p0, p1, p2, p3⟩ := cells_four k1
  obtain ⟨f0, f1, f2, f3⟩ := frozen_four k1
  clear ho
  go_wp2
  refine bodyPost_blk2 rfl _ rfl (blk_four k1) Tryd.underlying37 rfl infoQ rfl ⟨rfl, ?_⟩
  exact below_four b1 _ (Nat.le_refl _) _ _ _ _

set_option maxHeartbeats 4000000 in
theorem qparse_four (l x y z u : List UInt8) (w : World) (hn : l.length ≤ 1000000) (h4 : parts 46 l = [x, y, z, u]) :
    Calls Tryd.prog 62 #[sv l] w fun e w' => e = .returned (.tuple #[av (qB l), .int .i64 (qE l : Int)]) ∧ Below w.heap.size w w' := by
  have HP := Lib.hid (fun W => parts46 l W hn)
  obtain ⟨q1, q2⟩ := q_four l x y z u h4
  have hq3 := q_bad l
  rw [h4] at HP
  have hl := part_len l _ hn
  rw [h4] at hl
  have HX := Lib.hid (fun W => read8 x (hl x (by simp)) W)
  have HY := Lib.hid (fun W => read8 y (hl y (by simp)) W)
  have HZ := Lib.hid (fun W => read8 z (hl z (by simp)) W)
  have HU := Lib.hid (fun W => read8 u (hl u (by simp)) W)
  have vx := dV_le x
  have vy := dV_le y
  have vz := dV_le z
  have vu := dV_le u
  have ox := bO_nat x
  have oy := bO_nat y
  have oz := bO_nat z
  have ou := bO_nat u
  have OX := Lib.hid ox
  have OY := Lib.hid oy
  have OZ := Lib.hid oz
  have OU := Lib.hid ou
  clear ox oy oz ou
  have Q1 := Lib.hid q1
  have Q2 := Lib.hid q2
  have Q3 := Lib.hid hq3
  clear q1 q2 hq3 hl h4
  have BA := Lib.hid (show ∀ k, bAt x y z u k = ([bv (bO x), bv (bO y), bv (bO z), bv (bO u)].take k ++ List.replicate (4 - k) (bv 0)).toArray from fun _ => rfl)
  generalize qE l = E at *
  generalize qB l = B at *
  generalize dE x = ex at *
  generalize dE y = ey at *
  generalize dE z = ez at *
  generalize dE u = eu at *
  generalize dV x = nx at *
  generalize dV y = ny at *
  generalize dV z = nz at *
  generalize dV u = nu at *
  have k0 : Blk (w.alloc (.cells #[bv 0, bv 0, bv 0, bv 0] 37)) w.heap.size 37 #[bv 0, bv 0, bv 0, bv 0] := blk_new _ _ _
  have k0' := k0.alloc (.cells #[bv 0, bv 0, bv 0, bv 0] 37)
  have j0 : Blk ((w.alloc (.cells #[bv 0, bv 0, bv 0, bv 0] 37)).alloc (.cells #[bv 0, bv 0, bv 0, bv 0] 37)) (w.heap.size + 1) 37 #[bv 0, bv 0, bv 0, bv 0] := blk_new' _ _ _ _ (by simp)
  have b0 : Below w.heap.size w ((w.alloc (.cells #[bv 0, bv 0, bv 0, bv 0] 37)).alloc (.cells #[bv 0, bv 0, bv 0, bv 0] 37)) := ((Below.refl _ _).alloc (Nat.le_refl _) _).alloc (by simp) _
  have hsz0 : ((w.alloc (.cells #[bv 0, bv 0, bv 0, bv 0] 37)).alloc (.cells #[bv 0, bv 0, bv 0, bv 0] 37)).heap.size = w.heap.size + 2 := by simp
  go_enter Tryd.func62, Tryd.ntmps62
  go_wp2_with fail
  refine (HP.out _).mono ?_; rintro e w1 ⟨⟨v, rfl, ho⟩, hb1⟩
  have k1 := k0'.on (by exact hb1)
  have j1 := j0.on (by exact hb1)
  have b1 := Below.on b0 b0.size (by exact hb1)
  have ho1 : OwnS w1 (w.heap.size + 2) v 4 [x, y, z, u] := by rw [← hsz0]; exact ho
  obtain ⟨A1, c1, rfl, hc1, _, _⟩ := GOwn.sh ho1
  clear ho hb1 k0 k0' j0 b0
  go_wp2
  go_loopw [18] (fun i wr => ∃ k : Nat, k ≤ 4 ∧ i = .int .i64 k ∧ Hid ((0 < k → ex = 0) ∧ (1 < k → ey = 0) ∧ (2 < k → ez = 0) ∧ (3 < k → eu = 0)) ∧ Blk wr (w.heap.size + 1) 37 (bAt x y z u k) ∧ Blk wr w.heap.size 37 #[bv 0, bv 0, bv 0, bv 0] ∧ OwnS wr (w.heap.size + 2) (.slice A1 4 c1) 4 [x, y, z, u] ∧ Below w.heap.size w wr) (fun i _ => 4 - (intOf i).toNat)
  case atStart => exact ⟨0, Nat.zero_le _, rfl, Lib.hid ⟨fun h => absurd h (by omega), fun h => absurd h (by omega), fun h => absurd h (by omega), fun h => absurd h (by omega)⟩, j1, k1, ho1, b1⟩
  case round =>
    clear j1 k1 ho1 b1
    obtain ⟨k, hk, rfl, hz, hj, hkb, hown, hbel⟩ := hrel
    have hbs := hbel.size
    by_cases h4 : k = 4
    · subst h4
      obtain ⟨z1, z2, z3, z4⟩ := hz.out
      have hE : E = 0 := by rw [Q1.out]; rw [if_neg (by simp; exact z1 (by omega)), if_neg (by simp; exact z2 (by omega)), if_neg (by simp; exact z3 (by omega))]; exact z4 (by omega)
      have hB := Q2.out
      rw [if_pos hE] at hB
      subst hE hB
      clear z1 z2 z3 z4 hz Q1 Q2 Q3
      have hj' : Blk wr (w.heap.size + 1) 37 #[bv (bO x), bv (bO y), bv (bO z), bv (bO u)] := hj
      obtain ⟨j0, j1, j2, j3⟩ := cells_four hj'
      obtain ⟨p0, p1, p2, p3⟩ := cells_four hkb
      obtain ⟨f0, f1, f2, f3⟩ := frozen_four hkb
      go_wp2
      refine bodyPost_blk2 rfl _ rfl (blk_four hkb) Tryd.underlying37 rfl infoQ rfl ⟨rfl, ?_⟩
      exact below_four hbel _ (Nat.le_refl _) _ _ _ _
    · have hc : k = 0 ∨ k = 1 ∨ k = 2 ∨ k = 3 := by omega
      rcases hc with rfl | rfl | rfl | rfl
      · obtain ⟨b, off, xx, rfl, hcell, hxx⟩ := GOwn_elem hown (k := 0) (by omega)
        obtain rfl : x = xx := by simpa using hxx
        clear hxx
        try rw [Nat.add_zero] at hcell
        go_wp2_with fail
        refine (HX.out _).mono ?_; rintro e w2 ⟨rfl, hb2⟩
        have b2 := Below.on hbel hbs hb2
        have k2 := hkb.on hb2
        have j2 := hj.on hb2
        have o2 := own_below hown hb2
        clear hbel hkb hj hown hb2 hcell
        by_cases he : ex = 0
        · have hm : (nx : Int) % 256 = (nx : Int) := by omega
          have hm2 : IntKind.u8.wrap (nx : Int) = (nx : Int) := by show (nx : Int) % 256 = _; omega
          have f2 := Lib.frozen_of_heap j2 0
          have cc2 := Lib.cell_of_heap j2 0
          have HK := Lib.hid (show Blk (w2.setCell ⟨w.heap.size + 1, 0, none⟩ (bv (bO x))) (w.heap.size + 1) 37 (bAt x y z u 1) from j2.setCell 0 _)
          have HB := Lib.hid (b2.setCell (p := ⟨w.heap.size + 1, 0, none⟩) (Nat.le_succ _) (bv (bO x)))
          have HK2 := Lib.hid (k2.other ⟨w.heap.size + 1, 0, none⟩ (bv (bO x)) (Nat.ne_of_lt (Nat.lt_succ_self _)))
          have HO := Lib.hid (ownsRow_setCell_below o2 (a := ⟨w.heap.size + 1, 0, none⟩) (Nat.lt_succ_self _) (bv (bO x)))
          unfold bv at HK HB HK2 HO
          rw [OX.out] at HK HB HK2 HO
          subst he
          clear j2 k2 o2 b2
          go_wp2
          go_roundw
          case rel => exact ⟨1, by omega, rfl, Lib.hid ⟨by simp, fun h => absurd h (by omega), fun h => absurd h (by omega), fun h => absurd h (by omega)⟩, HK.out, HK2.out, HO.out, HB.out⟩
          case measure => simp [intOf]
        · have hne : ((ex : Int) != 0) = true := by rw [bne_iff_ne]; omega
          have hE : E = ex := by rw [Q1.out]; exact if_pos he
          have hB := Q3.out (by rw [hE]; exact he)
          subst hE hB
          obtain ⟨p0, p1, p2, p3⟩ := cells_four k2
          obtain ⟨f0, f1, f2, f3⟩ := frozen_four k2
          clear Q1 Q2 Q3 hz
          go_wp2
          refine bodyPost_blk2 rfl _ rfl (blk_four k2) Tryd.underlying37 rfl infoQ rfl ⟨rfl, ?_⟩
          exact below_four b2 _ (Nat.le_refl _) _ _ _ _
      · obtain ⟨b, off, xx, rfl, hcell, hxx⟩ := GOwn_elem hown (k := 1) (by omega)
        obtain rfl : y = xx := by simpa using hxx
        clear hxx
        try rw [Nat.add_zero] at hcell
        go_wp2_with fail
        refine (HY.out _).mono ?_; rintro e w2 ⟨rfl, hb2⟩
        have b2 := Below.on hbel hbs hb2
        have k2 := hkb.on hb2
        have j2 := hj.on hb2
        have o2 := own_below hown hb2
        clear hbel hkb hj hown hb2 hcell
        by_cases he : ey = 0
        · have hm : (ny : Int) % 256 = (ny : Int) := by omega
          have hm2 : IntKind.u8.wrap (ny : Int) = (ny : Int) := by show (ny : Int) % 256 = _; omega
          have f2 := Lib.frozen_of_heap j2 1
          have cc2 := Lib.cell_of_heap j2 1
          have HK := Lib.hid (show Blk (w2.setCell ⟨w.heap.size + 1, 1, none⟩ (bv (bO y))) (w.heap.size + 1) 37 (bAt x y z u 2) from j2.setCell 1 _)
          have HB := Lib.hid (b2.setCell (p := ⟨w.heap.size + 1, 1, none⟩) (Nat.le_succ _) (bv (bO y)))
          have HK2 := Lib.hid (k2.other ⟨w.heap.size + 1, 1, none⟩ (bv (bO y)) (Nat.ne_of_lt (Nat.lt_succ_self _)))
          have HO := Lib.hid (ownsRow_setCell_below o2 (a := ⟨w.heap.size + 1, 1, none⟩) (Nat.lt_succ_self _) (bv (bO y)))
          unfold bv at HK HB HK2 HO
          rw [OY.out] at HK HB HK2 HO
          subst he
          clear j2 k2 o2 b2
          go_wp2
          go_roundw
          case rel => exact ⟨2, by omega, rfl, Lib.hid ⟨fun _ => hz.out.1 (by omega), by simp, fun h => absurd h (by omega), fun h => absurd h (by omega)⟩, HK.out, HK2.out, HO.out, HB.out⟩
          case measure => simp [intOf]
        · have hne : ((ey : Int) != 0) = true := by rw [bne_iff_ne]; omega
          have hE : E = ey := by rw [Q1.out]; rw [if_neg (by simp; exact hz.out.1 (by omega))]; exact if_pos he
          have hB := Q3.out (by rw [hE]; exact he)
          subst hE hB
          obtain ⟨p0, p1, p2, p3⟩ := cells_four k2
          obtain ⟨f0, f1, f2, f3⟩ := frozen_four k2
          clear Q1 Q2 Q3 hz
          go_wp2
          refine bodyPost_blk2 rfl _ rfl (blk_four k2) Tryd.underlying37 rfl infoQ rfl ⟨rfl, ?_⟩
          exact below_four b2 _ (Nat.le_refl _) _ _ _ _
      · obtain ⟨b, off, xx, rfl, hcell, hxx⟩ := GOwn_elem hown (k := 2) (by omega)
        obtain rfl : z = xx := by simpa using hxx
        clear hxx
        try rw [Nat.add_zero] at hcell
        go_wp2_with fail
        refine (HZ.out _).mono ?_; rintro e w2 ⟨rfl, hb2⟩
        have b2 := Below.on hbel hbs hb2
        have k2 := hkb.on hb2
        have j2 := hj.on hb2
        have o2 := own_below hown hb2
        clear hbel hkb hj hown hb2 hcell
        by_cases he : ez = 0
        · have hm : (nz : Int) % 256 = (nz : Int) := by omega
          have hm2 : IntKind.u8.wrap (nz : Int) = (nz : Int) := by show (nz : Int) % 256 = _; omega
          have f2 := Lib.frozen_of_heap j2 2
          have cc2 := Lib.cell_of_heap j2 2
          have HK := Lib.hid (show Blk (w2.setCell ⟨w.heap.size + 1, 2, none⟩ (bv (bO z))) (w.heap.size + 1) 37 (bAt x y z u 3) from j2.setCell 2 _)
          have HB := Lib.hid (b2.setCell (p := ⟨w.heap.size + 1, 2, none⟩) (Nat.le_succ _) (bv (bO z)))
          have HK2 := Lib.hid (k2.other ⟨w.heap.size + 1, 2, none⟩ (bv (bO z)) (Nat.ne_of_lt (Nat.lt_succ_self _)))
          have HO := Lib.hid (ownsRow_setCell_below o2 (a := ⟨w.heap.size + 1, 2, none⟩) (Nat.lt_succ_self _) (bv (bO z)))
          unfold bv at HK HB HK2 HO
          rw [OZ.out] at HK HB HK2 HO
          subst he
          clear j2 k2 o2 b2
          go_wp2
          go_roundw
          case rel => exact ⟨3, by omega, rfl, Lib.hid ⟨fun _ => hz.out.1 (by omega), fun _ => hz.out.2.1 (by omega), by simp, fun h => absurd h (by omega)⟩, HK.out, HK2.out, HO.out, HB.out⟩
          case measure => simp [intOf]
        · have hne : ((ez : Int) != 0) = true := by rw [bne_iff_ne]; omega
          have hE : E = ez := by rw [Q1.out]; rw [if_neg (by simp; exact hz.out.1 (by omega))]; rw [if_neg (by simp; exact hz.out.2.1 (by omega))]; exact if_pos he
          have hB := Q3.out (by rw [hE]; exact he)
          subst hE hB
          obtain ⟨p0, p1, p2, p3⟩ := cells_four k2
          obtain ⟨f0, f1, f2, f3⟩ := frozen_four k2
          clear Q1 Q2 Q3 hz
          go_wp2
          refine bodyPost_blk2 rfl _ rfl (blk_four k2) Tryd.underlying37 rfl infoQ rfl ⟨rfl, ?_⟩
          exact below_four b2 _ (Nat.le_refl _) _ _ _ _
      · obtain ⟨b, off, xx, rfl, hcell, hxx⟩ := GOwn_elem hown (k := 3) (by omega)
        obtain rfl : u = xx := by simpa using hxx
        clear hxx
        try rw [Nat.add_zero] at hcell
        go_wp2_with fail
        refine (HU.out _).mono ?_; rintro e w2 ⟨rfl, hb2⟩
        have b2 := Below.on hbel hbs hb2
        have k2 := hkb.on hb2
        have j2 := hj.on hb2
        have o2 := own_below hown hb2
        clear hbel hkb hj hown hb2 hcell
        by_cases he : eu = 0
        · have hm : (nu : Int) % 256 = (nu : Int) := by omega
          have hm2 : IntKind.u8.wrap (nu : Int) = (nu : Int) := by show (nu : Int) % 256 = _; omega
          have f2 := Lib.frozen_of_heap j2 3
          have cc2 := Lib.cell_of_heap j2 3
          have HK := Lib.hid (show Blk (w2.setCell ⟨w.heap.size + 1, 3, none⟩ (bv (bO u))) (w.heap.size + 1) 37 (bAt x y z u 4) from j2.setCell 3 _)
          have HB := Lib.hid (b2.setCell (p := ⟨w.heap.size + 1, 3, none⟩) (Nat.le_succ _) (bv (bO u)))
          have HK2 := Lib.hid (k2.other ⟨w.heap.size + 1, 3, none⟩ (bv (bO u)) (Nat.ne_of_lt (Nat.lt_succ_self _)))
          have HO := Lib.hid (ownsRow_setCell_below o2 (a := ⟨w.heap.size + 1, 3, none⟩) (Nat.lt_succ_self _) (bv (bO u)))
          unfold bv at HK HB HK2 HO
          rw [OU.out] at HK HB HK2 HO
          subst he
          clear j2 k2 o2 b2
          go_wp2
          go_roundw
          case rel => exact ⟨4, by omega, rfl, Lib.hid ⟨fun _ => hz.out.1 (by omega), fun _ => hz.out.2.1 (by omega), fun _ => hz.out.2.2.1 (by omega), by simp⟩, HK.out, HK2.out, HO.out, HB.out⟩
          case measure => simp [intOf]
        · have hne : ((eu : Int) != 0) = true := by rw [bne_iff_ne]; omega
          have hE : E = eu := by rw [Q1.out]; rw [if_neg (by simp; exact hz.out.1 (by omega))]; rw [if_neg (by simp; exact hz.out.2.1 (by omega))]; rw [if_neg (by simp; exact hz.out.2.2.1 (by omega))]
          have hB := Q3.out (by rw [hE]; exact he)
          subst hE hB
          obtain ⟨p0, p1, p2, p3⟩ := cells_four k2
          obtain ⟨f0, f1, f2, f3⟩ := frozen_four k2
          clear Q1 Q2 Q3 hz
          go_wp2
          refine bodyPost_blk2 rfl _ rfl (blk_four k2) Tryd.underlying37 rfl infoQ rfl ⟨rfl, ?_⟩
          exact below_four b2 _ (Nat.le_refl _) _ _ _ _

theorem qparse_any (l : List UInt8) (w : World) (hn : l.length ≤ 1000000) :
    Calls Tryd.prog 62 #[sv l] w fun e w' => e = .returned (.tuple #[av (qB l), .int .i64 (qE l : Int)]) ∧ Below w.heap.size w w' := by
  by_cases h4 : (parts 46 l).length = 4
  · obtain ⟨x, y, z, u, h⟩ := len_four _ h4
    exact qparse_four l x y z u w hn h
  · rw [(q_not l h4).1, (q_not l h4).2]
    exact qparse_not l w hn h4

theorem refqparse_not (l : List UInt8) (w : World) (hn : l.length ≤ 1000000) (h4 : (parts 46 l).length ≠ 4) :
    Calls Tryd.prog 65 #[sv l] w fun e w' => e = .returned (.tuple #[av [0, 0, 0, 0], .int .i64 5]) ∧ Below w.heap.size w w' := by
  have HP := Lib.hid (fun W => refParts46 l W hn)
  have hne : (((parts 46 l).length : Int) != 4) = true := by rw [bne_iff_ne]; omega
  have k0 : Blk (w.alloc (.cells #[bv 0, bv 0, bv 0, bv 0] 37)) w.heap.size 37 #[bv 0, bv 0, bv 0, bv 0] := blk_new _ _ _
  have k0' := k0.alloc (.cells #[bv 0, bv 0, bv 0, bv 0] 37)
  have b0 : Below w.heap.size w ((w.alloc (.cells #[bv 0, bv 0, bv 0, bv 0] 37)).alloc (.cells #[bv 0, bv 0, bv 0, bv 0] 37)) := ((Below.refl _ _).alloc (Nat.le_refl _) _).alloc (by simp) _
  clear h4
  generalize parts 46 l = P at *
  go_enter Tryd.func65, Tryd.ntmps65
  go_wp2_with fail
  refine (HP.out _).mono ?_; rintro e w1 ⟨⟨v, rfl, ho⟩, hb1⟩
  have k1 := k0'.on (by exact hb1)
  have b1 := Below.on b0 b0.size (by exact hb1)
  obtain ⟨A1, c1, rfl, _, _, _⟩ := GOwn.sh ho
  obtain ⟨p0, p1, p2, p3⟩ := cells_four k1
  obtain ⟨f0, f1, f2, f3⟩ := frozen_four k1
  clear ho
  go_wp2
  refine bodyPost_blk2 rfl _ rfl (blk_four k1) Tryd.underlying37 rfl infoQ rfl ⟨rfl, ?_⟩
  exact below_four b1 _ (Nat.le_refl _) _ _ _ _

set_option maxHeartbeats 4000000 in
theorem refqparse_four (l x y z u : List UInt8) (w : World) (hn : l.length ≤ 1000000) (h4 : parts 46 l = [x, y, z, u]) :
    Calls Tryd.prog 65 #[sv l] w fun e w' => e = .returned (.tuple #[av (qB l), .int .i64 (qE l : Int)]) ∧ Below w.heap.size w w' := by
  have HP := Lib.hid (fun W => refParts46 l W hn)
  obtain ⟨q1, q2⟩ := q_four l x y z u h4
  have hq3 := q_bad l
  rw [h4] at HP
  have hl := part_len l _ hn
  rw [h4] at hl
  have HX := Lib.hid (fun W => refRead8 x (hl x (by simp)) W)
  have HY := Lib.hid (fun W => refRead8 y (hl y (by simp)) W)
  have HZ := Lib.hid (fun W => refRead8 z (hl z (by simp)) W)
  have HU := Lib.hid (fun W => refRead8 u (hl u (by simp)) W)
  have vx := dV_le x
  have vy := dV_le y
  have vz := dV_le z
  have vu := dV_le u
  have ox := bO_nat x
  have oy := bO_nat y
  have oz := bO_nat z
  have ou := bO_nat u
  have OX := Lib.hid ox
  have OY := Lib.hid oy
  have OZ := Lib.hid oz
  have OU := Lib.hid ou
  clear ox oy oz ou
  have Q1 := Lib.hid q1
  have Q2 := Lib.hid q2
  have Q3 := Lib.hid hq3
  clear q1 q2 hq3 hl h4
  have BA := Lib.hid (show ∀ k, bAt x y z u k = ([bv (bO x), bv (bO y), bv (bO z), bv (bO u)].take k ++ List.replicate (4 - k) (bv 0)).toArray from fun _ => rfl)
  generalize qE l = E at *
  generalize qB l = B at *
  generalize dE x = ex at *
  generalize dE y = ey at *
  generalize dE z = ez at *
  generalize dE u = eu at *
  generalize dV x = nx at *
  generalize dV y = ny at *
  generalize dV z = nz at *
  generalize dV u = nu at *
  have k0 : Blk (w.alloc (.cells #[bv 0, bv 0, bv 0, bv 0] 37)) w.heap.size 37 #[bv 0, bv 0, bv 0, bv 0] := blk_new _ _ _
  have k0' := k0.alloc (.cells #[bv 0, bv 0, bv 0, bv 0] 37)
  have j0 : Blk ((w.alloc (.cells #[bv 0, bv 0, bv 0, bv 0] 37)).alloc (.cells #[bv 0, bv 0, bv 0, bv 0] 37)) (w.heap.size + 1) 37 #[bv 0, bv 0, bv 0, bv 0] := blk_new' _ _ _ _ (by simp)
  have b0 : Below w.heap.size w ((w.alloc (.cells #[bv 0, bv 0, bv 0, bv 0] 37)).alloc (.cells #[bv 0, bv 0, bv 0, bv 0] 37)) := ((Below.refl _ _).alloc (Nat.le_refl _) _).alloc (by simp) _
  have hsz0 : ((w.alloc (.cells #[bv 0, bv 0, bv 0, bv 0] 37)).alloc (.cells #[bv 0, bv 0, bv 0, bv 0] 37)).heap.size = w.heap.size + 2 := by simp
  go_enter Tryd.func65, Tryd.ntmps65
  go_wp2_with fail
  refine (HP.out _).mono ?_; rintro e w1 ⟨⟨v, rfl, ho⟩, hb1⟩
  have k1 := k0'.on (by exact hb1)
  have j1 := j0.on (by exact hb1)
  have b1 := Below.on b0 b0.size (by exact hb1)
  have ho1 : OwnS w1 (w.heap.size + 2) v 4 [x, y, z, u] := by rw [← hsz0]; exact ho
  obtain ⟨A1, c1, rfl, hc1, _, _⟩ := GOwn.sh ho1
  clear ho hb1 k0 k0' j0 b0
  go_wp2
  go_loopw [6] (fun i wr => ∃ k : Nat, k ≤ 4 ∧ i = .int .i64 k ∧ Hid ((0 < k → ex = 0) ∧ (1 < k → ey = 0) ∧ (2 < k → ez = 0) ∧ (3 < k → eu = 0)) ∧ Blk wr (w.heap.size + 1) 37 (bAt x y z u k) ∧ Blk wr w.heap.size 37 #[bv 0, bv 0, bv 0, bv 0] ∧ OwnS wr (w.heap.size + 2) (.slice A1 4 c1) 4 [x, y, z, u] ∧ Below w.heap.size w wr) (fun i _ => 4 - (intOf i).toNat)
  case atStart => exact ⟨0, Nat.zero_le _, rfl, Lib.hid ⟨fun h => absurd h (by omega), fun h => absurd h (by omega), fun h => absurd h (by omega), fun h => absurd h (by omega)⟩, j1, k1, ho1, b1⟩
  case round =>
    clear j1 k1 ho1 b1
    obtain ⟨k, hk, rfl, hz, hj, hkb, hown, hbel⟩ := hrel
    have hbs := hbel.size
    by_cases h4 : k = 4
    · subst h4
      obtain ⟨z1, z2, z3, z4⟩ := hz.out
      have hE : E = 0 := by rw [Q1.out]; rw [if_neg (by simp; exact z1 (by omega)), if_neg (by simp; exact z2 (by omega)), if_neg (by simp; exact z3 (by omega))]; exact z4 (by omega)
      have hB := Q2.out
      rw [if_pos hE] at hB
      subst hE hB
      clear z1 z2 z3 z4 hz Q1 Q2 Q3
      have hj' : Blk wr (w.heap.size + 1) 37 #[bv (bO x), bv (bO y), bv (bO z), bv (bO u)] := hj
      obtain ⟨j0, j1, j2, j3⟩ := cells_four hj'
      obtain ⟨p0, p1, p2, p3⟩ := cells_four hkb
      obtain ⟨f0, f1, f2, f3⟩ := frozen_four hkb
      go_wp2
      refine bodyPost_blk2 rfl _ rfl (blk_four hkb) Tryd.underlying37 rfl infoQ rfl ⟨rfl, ?_⟩
      exact below_four hbel _ (Nat.le_refl _) _ _ _ _
    · have hc : k = 0 ∨ k = 1 ∨ k = 2 ∨ k = 3 := by omega
      rcases hc with rfl | rfl | rfl | rfl
      · obtain ⟨b, off, xx, rfl, hcell, hxx⟩ := GOwn_elem hown (k := 0) (by omega)
        obtain rfl : x = xx := by simpa using hxx
        clear hxx
        try rw [Nat.add_zero] at hcell
        go_wp2_with fail
        refine (HX.out _).mono ?_; rintro e w2 ⟨rfl, hw2⟩
        subst hw2
        have b2 := hbel
        have k2 := hkb
        have j2 := hj
        have o2 := hown
        clear hbel hkb hj hown hcell
        by_cases he : ex = 0
        · have hm : (nx : Int) % 256 = (nx : Int) := by omega
          have hm2 : IntKind.u8.wrap (nx : Int) = (nx : Int) := by show (nx : Int) % 256 = _; omega
          have f2 := Lib.frozen_of_heap j2 0
          have cc2 := Lib.cell_of_heap j2 0
          have HK := Lib.hid (show Blk (wr.setCell ⟨w.heap.size + 1, 0, none⟩ (bv (bO x))) (w.heap.size + 1) 37 (bAt x y z u 1) from j2.setCell 0 _)
          have HB := Lib.hid (b2.setCell (p := ⟨w.heap.size + 1, 0, none⟩) (Nat.le_succ _) (bv (bO x)))
          have HK2 := Lib.hid (k2.other ⟨w.heap.size + 1, 0, none⟩ (bv (bO x)) (Nat.ne_of_lt (Nat.lt_succ_self _)))
          have HO := Lib.hid (ownsRow_setCell_below o2 (a := ⟨w.heap.size + 1, 0, none⟩) (Nat.lt_succ_self _) (bv (bO x)))
          unfold bv at HK HB HK2 HO
          rw [OX.out] at HK HB HK2 HO
          subst he
          clear j2 k2 o2 b2
          go_wp2
          go_roundw
          case rel => exact ⟨1, by omega, rfl, Lib.hid ⟨by simp, fun h => absurd h (by omega), fun h => absurd h (by omega), fun h => absurd h (by omega)⟩, HK.out, HK2.out, HO.out, HB.out⟩
          case measure => simp [intOf]
        · have hne : ((ex : Int) != 0) = true := by rw [bne_iff_ne]; omega
          have hE : E = ex := by rw [Q1.out]; exact if_pos he
          have hB := Q3.out (by rw [hE]; exact he)
          subst hE hB
          obtain ⟨p0, p1, p2, p3⟩ := cells_four k2
          obtain ⟨f0, f1, f2, f3⟩ := frozen_four k2
          clear Q1 Q2 Q3 hz
          go_wp2
          refine bodyPost_blk2 rfl _ rfl (blk_four k2) Tryd.underlying37 rfl infoQ rfl ⟨rfl, ?_⟩
          exact below_four b2 _ (Nat.le_refl _) _ _ _ _
      · obtain ⟨b, off, xx, rfl, hcell, hxx⟩ := GOwn_elem hown (k := 1) (by omega)
        obtain rfl : y = xx := by simpa using hxx
        clear hxx
        try rw [Nat.add_zero] at hcell
        go_wp2_with fail
        refine (HY.out _).mono ?_; rintro e w2 ⟨rfl, hw2⟩
        subst hw2
        have b2 := hbel
        have k2 := hkb
        have j2 := hj
        have o2 := hown
        clear hbel hkb hj hown hcell
        by_cases he : ey = 0
        · have hm : (ny : Int) % 256 = (ny : Int) := by omega
          have hm2 : IntKind.u8.wrap (ny : Int) = (ny : Int) := by show (ny : Int) % 256 = _; omega
          have f2 := Lib.frozen_of_heap j2 1
          have cc2 := Lib.cell_of_heap j2 1
          have HK := Lib.hid (show Blk (wr.setCell ⟨w.heap.size + 1, 1, none⟩ (bv (bO y))) (w.heap.size + 1) 37 (bAt x y z u 2) from j2.setCell 1 _)
          have HB := Lib.hid (b2.setCell (p := ⟨w.heap.size + 1, 1, none⟩) (Nat.le_succ _) (bv (bO y)))
          have HK2 := Lib.hid (k2.other ⟨w.heap.size + 1, 1, none⟩ (bv (bO y)) (Nat.ne_of_lt (Nat.lt_succ_self _)))
          have HO := Lib.hid (ownsRow_setCell_below o2 (a := ⟨w.heap.size + 1, 1, none⟩) (Nat.lt_succ_self _) (bv (bO y)))
          unfold bv at HK HB HK2 HO
          rw [OY.out] at HK HB HK2 HO
          subst he
          clear j2 k2 o2 b2
          go_wp2
          go_roundw
          case rel => exact ⟨2, by omega, rfl, Lib.hid ⟨fun _ => hz.out.1 (by omega), by simp, fun h => absurd h (by omega), fun h => absurd h (by omega)⟩, HK.out, HK2.out, HO.out, HB.out⟩
          case measure => simp [intOf]
        · have hne : ((ey : Int) != 0) = true := by rw [bne_iff_ne]; omega
          have hE : E = ey := by rw [Q1.out]; rw [if_neg (by simp; exact hz.out.1 (by omega))]; exact if_pos he
          have hB := Q3.out (by rw [hE]; exact he)
          subst hE hB
          obtain ⟨p0, p1, p2, p3⟩ := cells_four k2
          obtain ⟨f0, f1, f2, f3⟩ := frozen_four k2
          clear Q1 Q2 Q3 hz
          go_wp2
          refine bodyPost_blk2 rfl _ rfl (blk_four k2) Tryd.underlying37 rfl infoQ rfl ⟨rfl, ?_⟩
          exact below_four b2 _ (Nat.le_refl _) _ _ _ _
      · obtain ⟨b, off, xx, rfl, hcell, hxx⟩ := GOwn_elem hown (k := 2) (by omega)
        obtain rfl : z = xx := by simpa using hxx
        clear hxx
        try rw [Nat.add_zero] at hcell
        go_wp2_with fail
        refine (HZ.out _).mono ?_; rintro e w2 ⟨rfl, hw2⟩
        subst hw2
        have b2 := hbel
        have k2 := hkb
        have j2 := hj
        have o2 := hown
        clear hbel hkb hj hown hcell
        by_cases he : ez = 0
        · have hm : (nz : Int) % 256 = (nz : Int) := by omega
          have hm2 : IntKind.u8.wrap (nz : Int) = (nz : Int) := by show (nz : Int) % 256 = _; omega
          have f2 := Lib.frozen_of_heap j2 2
          have cc2 := Lib.cell_of_heap j2 2
          have HK := Lib.hid (show Blk (wr.setCell ⟨w.heap.size + 1, 2, none⟩ (bv (bO z))) (w.heap.size + 1) 37 (bAt x y z u 3) from j2.setCell 2 _)
          have HB := Lib.hid (b2.setCell (p := ⟨w.heap.size + 1, 2, none⟩) (Nat.le_succ _) (bv (bO z)))
          have HK2 := Lib.hid (k2.other ⟨w.heap.size + 1, 2, none⟩ (bv (bO z)) (Nat.ne_of_lt (Nat.lt_succ_self _)))
          have HO := Lib.hid (ownsRow_setCell_below o2 (a := ⟨w.heap.size + 1, 2, none⟩) (Nat.lt_succ_self _) (bv (bO z)))
          unfold bv at HK HB HK2 HO
          rw [OZ.out] at HK HB HK2 HO
          subst he
          clear j2 k2 o2 b2
          go_wp2
          go_roundw
          case rel => exact ⟨3, by omega, rfl, Lib.hid ⟨fun _ => hz.out.1 (by omega), fun _ => hz.out.2.1 (by omega), by simp, fun h => absurd h (by omega)⟩, HK.out, HK2.out, HO.out, HB.out⟩
          case measure => simp [intOf]
        · have hne : ((ez : Int) != 0) = true := by rw [bne_iff_ne]; omega
          have hE : E = ez := by rw [Q1.out]; rw [if_neg (by simp; exact hz.out.1 (by omega))]; rw [if_neg (by simp; exact hz.out.2.1 (by omega))]; exact if_pos he
          have hB := Q3.out (by rw [hE]; exact he)
          subst hE hB
          obtain ⟨p0, p1, p2, p3⟩ := cells_four k2
          obtain ⟨f0, f1, f2, f3⟩ := frozen_four k2
          clear Q1 Q2 Q3 hz
          go_wp2
          refine bodyPost_blk2 rfl _ rfl (blk_four k2) Tryd.underlying37 rfl infoQ rfl ⟨rfl, ?_⟩
          exact below_four b2 _ (Nat.le_refl _) _ _ _ _
      · obtain ⟨b, off, xx, rfl, hcell, hxx⟩ := GOwn_elem hown (k := 3) (by omega)
        obtain rfl : u = xx := by simpa using hxx
        clear hxx
        try rw [Nat.add_zero] at hcell
        go_wp2_with fail
        refine (HU.out _).mono ?_; rintro e w2 ⟨rfl, hw2⟩
        subst hw2
        have b2 := hbel
        have k2 := hkb
        have j2 := hj
        have o2 := hown
        clear hbel hkb hj hown hcell
        by_cases he : eu = 0
        · have hm : (nu : Int) % 256 = (nu : Int) := by omega
          have hm2 : IntKind.u8.wrap (nu : Int) = (nu : Int) := by show (nu : Int) % 256 = _; omega
          have f2 := Lib.frozen_of_heap j2 3
          have cc2 := Lib.cell_of_heap j2 3
          have HK := Lib.hid (show Blk (wr.setCell ⟨w.heap.size + 1, 3, none⟩ (bv (bO u))) (w.heap.size + 1) 37 (bAt x y z u 4) from j2.setCell 3 _)
          have HB := Lib.hid (b2.setCell (p := ⟨w.heap.size + 1, 3, none⟩) (Nat.le_succ _) (bv (bO u)))
          have HK2 := Lib.hid (k2.other ⟨w.heap.size + 1, 3, none⟩ (bv (bO u)) (Nat.ne_of_lt (Nat.lt_succ_self _)))
          have HO := Lib.hid (ownsRow_setCell_below o2 (a := ⟨w.heap.size + 1, 3, none⟩) (Nat.lt_succ_self _) (bv (bO u)))
          unfold bv at HK HB HK2 HO
          rw [OU.out] at HK HB HK2 HO
          subst he
          clear j2 k2 o2 b2
          go_wp2
          go_roundw
          case rel => exact ⟨4, by omega, rfl, Lib.hid ⟨fun _ => hz.out.1 (by omega), fun _ => hz.out.2.1 (by omega), fun _ => hz.out.2.2.1 (by omega), by simp⟩, HK.out, HK2.out, HO.out, HB.out⟩
          case measure => simp [intOf]
        · have hne : ((eu : Int) != 0) = true := by rw [bne_iff_ne]; omega
          have hE : E = eu := by rw [Q1.out]; rw [if_neg (by simp; exact hz.out.1 (by omega))]; rw [if_neg (by simp; exact hz.out.2.1 (by omega))]; rw [if_neg (by simp; exact hz.out.2.2.1 (by omega))]
          have hB := Q3.out (by rw [hE]; exact he)
          subst hE hB
          obtain ⟨p0, p1, p2, p3⟩ := cells_four k2
          obtain ⟨f0, f1, f2, f3⟩ := frozen_four k2
          clear Q1 Q2 Q3 hz
          go_wp2
          refine bodyPost_blk2 rfl _ rfl (blk_four k2) Tryd.underlying37 rfl infoQ rfl ⟨rfl, ?_⟩
          exact below_four b2 _ (Nat.le_refl _) _ _ _ _

theorem refqparse_any (l : List UInt8) (w : World) (hn : l.length ≤ 1000000) :
    Calls Tryd.prog 65 #[sv l] w fun e w' => e = .returned (.tuple #[av (qB l), .int .i64 (qE l : Int)]) ∧ Below w.heap.size w w' := by
  by_cases h4 : (parts 46 l).length = 4
  · obtain ⟨x, y, z, u, h⟩ := len_four _ h4
    exact refqparse_four l x y z u w hn h
  · rw [(q_not l h4).1, (q_not l h4).2]
    exact refqparse_not l w hn h4

end Go.Proofs.YtccidoigjdbepaaDoor.Qd
