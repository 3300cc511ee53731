
/- Contracts: ref13.Bytes. -/
import Derived.Test.YtlllakjimgomjaaIniB
namespace Go.Proofs.Ytlllakjimgomjaa
open Go.RowKit

theorem ref13Bytes_any (r0 : Nat) (l : List UInt8) (w : World) (hr0 : r0 < 4294967296) (hl : l.length = 140) :
    Calls Try.prog 39 #[.agg (mcs [r0] l)] w fun e w' => ∃ v, e = .returned v ∧ Own w' w.heap.size v 148 (mbs 1 [r0] l) ∧ Below w.heap.size w w' := by
  have hw0 : IntKind.u64.wrap (r0 : Int) = (r0 : Int) := IntWalk.u64_in _ (by omega)
  have hm0 := mcs_num [r0] l 0 r0 rfl
  have k0 := blk_new w 49 (mcs [r0] l)
  have hbw : Below w.heap.size w (w.alloc (.cells (mcs [r0] l) 49)) := (Below.refl _ _).alloc (Nat.le_refl _) _
  have hL0 := own_lit (w.alloc (.cells (mcs [r0] l) 49)) (w.alloc (.cells (mcs [r0] l) 49)).heap.size 4 [1, 0, 0, 0] #[.int .u8 1, .int .u8 0, .int .u8 0, .int .u8 0] rfl (Nat.le_refl _) rfl (by omega)
  have hbl0 : Below (w.alloc (.cells (mcs [r0] l) 49)).heap.size (w.alloc (.cells (mcs [r0] l) 49)) ((w.alloc (.cells (mcs [r0] l) 49)).alloc (.cells #[.int .u8 1, .int .u8 0, .int .u8 0, .int .u8 0] 5)) := (Below.refl _ _).alloc (Nat.le_refl _) _
  go_enter Try.func39, Try.ntmps39
  go_wp2_with fail
  rw [show (w.alloc (.cells (mcs [r0] l) 49)).heap.size = w.heap.size + 1 by simp] at *
  generalize hwA : (w.alloc (.cells (mcs [r0] l) 49)).alloc (.cells #[.int .u8 1, .int .u8 0, .int .u8 0, .int .u8 0] 5) = wA0 at *
  generalize hw0 : w.alloc (.cells (mcs [r0] l) 49) = w0 at *
  have hsz0 : w0.heap.size = w.heap.size + 1 := by rw [← hw0]; simp
  have hk0 : w.heap.size < w.heap.size + 1 := by omega
  clear hw0 hwA hm0
  refine (put_ok r0 4 wA0 (by omega) (by omega) (by omega) (by omega)).mono ?_
  rintro e wB0 ⟨⟨vB0, rfl, hoB0⟩, hbB0⟩
  obtain ⟨aB0, cB0, rfl, _, sB0⟩ := hoB0.at_some (by omega)
  have hbl0' : Below (w.heap.size + 1) w0 wB0 := Below.on hbl0 (by have := hbl0.size; omega) hbB0
  have hL0' := hL0.keep hbB0
  have hq0 : w.heap.size + 1 ≤ wB0.heap.size := by have := hbl0'.size; omega
  clear hL0 hbl0 hoB0 hbB0
  go_wp2_with (at_builtin; refine wpList_appAll _ rfl _ _ rfl (w.heap.size + 1) _ _ _ rfl hL0' aB0 4 cB0 _ (leBytes r0 4) rfl sB0 (by omega) hq0 ?_)
  intro v1 wA1 hL1 hg1
  have hbl1 : Below (w.heap.size + 1) w0 wA1 := hbl0'.grown hg1 hq0 (fun g hg => (hL0'.lt g hg).1)
  clear hL0' hbl0' hg1 sB0
  have hpre : [1, 0, 0, 0] ++ leBytes r0 4 = [1, 0, 0, 0] ++ mnums [r0] := by simp [mnums]
  have hLp : Own wA1 (w.heap.size + 1) v1 8 (([1, 0, 0, 0] ++ mnums [r0]) ++ l.take (0 + 0)) := by
    rw [← hpre]; simpa using hL1
  clear hL1 hpre
  have hmb : ([1, 0, 0, 0] ++ mnums [r0]) ++ l = mbs 1 [r0] l := by simp [mbs]
  generalize [1, 0, 0, 0] ++ mnums [r0] = pre at *
  go_wp2
  go_loopw [3, 6] (fun v i wr => ∃ j : Nat, j ≤ 32 ∧ i = .int .i64 j ∧ Own wr (w.heap.size + 1) v (8 + j) (pre ++ l.take (0 + j)) ∧ Below (w.heap.size + 1) w0 wr) (fun _ i _ => 32 - (intOf i).toNat)
  case atStart => exact ⟨0, Nat.zero_le _, rfl, hLp, hbl1⟩
  case round =>
    clear hLp hbl1
    obtain ⟨j, hj, rfl, hown, hbel⟩ := hrel
    by_cases hlt : j < 32
    · obtain ⟨c, hc⟩ : ∃ c, l[0 + j]? = some c := ⟨l[0 + j]'(by omega), List.getElem?_eq_getElem _⟩
      have hcell := (k0.below hbel hk0).byte (j := 0 + j) hc (1 + j) (by simp <;> omega)
      have HT : Hid (l.take (0 + (j + 1)) = l.take (0 + j) ++ [c]) := by
        obtain ⟨hk, rfl⟩ := List.getElem?_eq_some_iff.1 hc
        rw [← Nat.add_assoc]
        exact List.take_succ_eq_append_getElem hk
      have hsz := hbel.size
      clear hc
      go_wp2_with (at_builtin; refine wpList_app1 _ rfl _ _ rfl (w.heap.size + 1) _ _ _ rfl (hown.alloc _) ⟨wr.heap.size, 0, none⟩ 1 c rfl ?c1 ?c2 ?c3 ?_)
      case c1 => simp
      case c2 => omega
      case c3 => simp; omega
      intro v' w1 hown' hgrow
      have hb1 : Below (w.heap.size + 1) w0 w1 := (hbel.alloc (by omega) _).grown hgrow (by simp; omega) (fun g hg => (hown.lt g hg).1)
      have hown2 : Own w1 (w.heap.size + 1) v' (8 + (j + 1)) (pre ++ l.take (0 + (j + 1))) := by
        rw [HT.out]; first | exact hown' | (rw [← List.append_assoc]; exact hown') | simpa [Nat.add_assoc] using hown'
      clear hown hown' hbel hgrow hcell HT
      go_wp2
      go_roundw
      case rel => first | exact ⟨j + 1, by omega, by go_num, hown2, hb1⟩ | ((repeat apply Exists.intro); exact ⟨⟨j + 1, by omega, by go_num, hown2, hb1⟩, rfl⟩)
      case measure => simp [intOf] <;> omega
    · obtain rfl : j = 32 := by omega
      have hown0 := hown
      have hbel0 := hbel
      clear hown hbel hlt hj
      go_wp2
      go_loopw [3, 7] (fun v i wr => ∃ j : Nat, j ≤ 48 ∧ i = .int .i64 j ∧ Own wr (w.heap.size + 1) v (40 + j) (pre ++ l.take (32 + j)) ∧ Below (w.heap.size + 1) w0 wr) (fun _ i _ => 48 - (intOf i).toNat)
      case atStart => exact ⟨0, Nat.zero_le _, rfl, hown0, hbel0⟩
      case round =>
        clear hown0 hbel0
        obtain ⟨j, hj, rfl, hown, hbel⟩ := hrel
        by_cases hlt : j < 48
        · obtain ⟨c, hc⟩ : ∃ c, l[32 + j]? = some c := ⟨l[32 + j]'(by omega), List.getElem?_eq_getElem _⟩
          have hcell := (k0.below hbel hk0).byte (j := 32 + j) hc (33 + j) (by simp <;> omega)
          have HT : Hid (l.take (32 + (j + 1)) = l.take (32 + j) ++ [c]) := by
            obtain ⟨hk, rfl⟩ := List.getElem?_eq_some_iff.1 hc
            rw [← Nat.add_assoc]
            exact List.take_succ_eq_append_getElem hk
          have hsz := hbel.size
          clear hc
          go_wp2_with (at_builtin; refine wpList_app1 _ rfl _ _ rfl (w.heap.size + 1) _ _ _ rfl (hown.alloc _) ⟨wr.heap.size, 0, none⟩ 1 c rfl ?c1 ?c2 ?c3 ?_)
          case c1 => simp
          case c2 => omega
          case c3 => simp; omega
          intro v' w1 hown' hgrow
          have hb1 : Below (w.heap.size + 1) w0 w1 := (hbel.alloc (by omega) _).grown hgrow (by simp; omega) (fun g hg => (hown.lt g hg).1)
          have hown2 : Own w1 (w.heap.size + 1) v' (40 + (j + 1)) (pre ++ l.take (32 + (j + 1))) := by
            rw [HT.out]; first | exact hown' | (rw [← List.append_assoc]; exact hown') | simpa [Nat.add_assoc] using hown'
          clear hown hown' hbel hgrow hcell HT
          go_wp2
          go_roundw
          case rel => first | exact ⟨j + 1, by omega, by go_num, hown2, hb1⟩ | ((repeat apply Exists.intro); exact ⟨⟨j + 1, by omega, by go_num, hown2, hb1⟩, rfl⟩)
          case measure => simp [intOf] <;> omega
        · obtain rfl : j = 48 := by omega
          have hown1 := hown
          have hbel1 := hbel
          clear hown hbel hlt hj
          go_wp2
          go_loopw [3, 8] (fun v i wr => ∃ j : Nat, j ≤ 28 ∧ i = .int .i64 j ∧ Own wr (w.heap.size + 1) v (88 + j) (pre ++ l.take (80 + j)) ∧ Below (w.heap.size + 1) w0 wr) (fun _ i _ => 28 - (intOf i).toNat)
          case atStart => exact ⟨0, Nat.zero_le _, rfl, hown1, hbel1⟩
          case round =>
            clear hown1 hbel1
            obtain ⟨j, hj, rfl, hown, hbel⟩ := hrel
            by_cases hlt : j < 28
            · obtain ⟨c, hc⟩ : ∃ c, l[80 + j]? = some c := ⟨l[80 + j]'(by omega), List.getElem?_eq_getElem _⟩
              have hcell := (k0.below hbel hk0).byte (j := 80 + j) hc (81 + j) (by simp <;> omega)
              have HT : Hid (l.take (80 + (j + 1)) = l.take (80 + j) ++ [c]) := by
                obtain ⟨hk, rfl⟩ := List.getElem?_eq_some_iff.1 hc
                rw [← Nat.add_assoc]
                exact List.take_succ_eq_append_getElem hk
              have hsz := hbel.size
              clear hc
              go_wp2_with (at_builtin; refine wpList_app1 _ rfl _ _ rfl (w.heap.size + 1) _ _ _ rfl (hown.alloc _) ⟨wr.heap.size, 0, none⟩ 1 c rfl ?c1 ?c2 ?c3 ?_)
              case c1 => simp
              case c2 => omega
              case c3 => simp; omega
              intro v' w1 hown' hgrow
              have hb1 : Below (w.heap.size + 1) w0 w1 := (hbel.alloc (by omega) _).grown hgrow (by simp; omega) (fun g hg => (hown.lt g hg).1)
              have hown2 : Own w1 (w.heap.size + 1) v' (88 + (j + 1)) (pre ++ l.take (80 + (j + 1))) := by
                rw [HT.out]; first | exact hown' | (rw [← List.append_assoc]; exact hown') | simpa [Nat.add_assoc] using hown'
              clear hown hown' hbel hgrow hcell HT
              go_wp2
              go_roundw
              case rel => first | exact ⟨j + 1, by omega, by go_num, hown2, hb1⟩ | ((repeat apply Exists.intro); exact ⟨⟨j + 1, by omega, by go_num, hown2, hb1⟩, rfl⟩)
              case measure => simp [intOf] <;> omega
            · obtain rfl : j = 28 := by omega
              have hown2 := hown
              have hbel2 := hbel
              clear hown hbel hlt hj
              go_wp2
              go_loopw [3, 9] (fun v i wr => ∃ j : Nat, j ≤ 16 ∧ i = .int .i64 j ∧ Own wr (w.heap.size + 1) v (116 + j) (pre ++ l.take (108 + j)) ∧ Below (w.heap.size + 1) w0 wr) (fun _ i _ => 16 - (intOf i).toNat)
              case atStart => exact ⟨0, Nat.zero_le _, rfl, hown2, hbel2⟩
              case round =>
                clear hown2 hbel2
                obtain ⟨j, hj, rfl, hown, hbel⟩ := hrel
                by_cases hlt : j < 16
                · obtain ⟨c, hc⟩ : ∃ c, l[108 + j]? = some c := ⟨l[108 + j]'(by omega), List.getElem?_eq_getElem _⟩
                  have hcell := (k0.below hbel hk0).byte (j := 108 + j) hc (109 + j) (by simp <;> omega)
                  have HT : Hid (l.take (108 + (j + 1)) = l.take (108 + j) ++ [c]) := by
                    obtain ⟨hk, rfl⟩ := List.getElem?_eq_some_iff.1 hc
                    rw [← Nat.add_assoc]
                    exact List.take_succ_eq_append_getElem hk
                  have hsz := hbel.size
                  clear hc
                  go_wp2_with (at_builtin; refine wpList_app1 _ rfl _ _ rfl (w.heap.size + 1) _ _ _ rfl (hown.alloc _) ⟨wr.heap.size, 0, none⟩ 1 c rfl ?c1 ?c2 ?c3 ?_)
                  case c1 => simp
                  case c2 => omega
                  case c3 => simp; omega
                  intro v' w1 hown' hgrow
                  have hb1 : Below (w.heap.size + 1) w0 w1 := (hbel.alloc (by omega) _).grown hgrow (by simp; omega) (fun g hg => (hown.lt g hg).1)
                  have hown2 : Own w1 (w.heap.size + 1) v' (116 + (j + 1)) (pre ++ l.take (108 + (j + 1))) := by
                    rw [HT.out]; first | exact hown' | (rw [← List.append_assoc]; exact hown') | simpa [Nat.add_assoc] using hown'
                  clear hown hown' hbel hgrow hcell HT
                  go_wp2
                  go_roundw
                  case rel => first | exact ⟨j + 1, by omega, by go_num, hown2, hb1⟩ | ((repeat apply Exists.intro); exact ⟨⟨j + 1, by omega, by go_num, hown2, hb1⟩, rfl⟩)
                  case measure => simp [intOf] <;> omega
                · obtain rfl : j = 16 := by omega
                  have hown3 := hown
                  have hbel3 := hbel
                  clear hown hbel hlt hj
                  go_wp2
                  go_loopw [3, 10] (fun v i wr => ∃ j : Nat, j ≤ 16 ∧ i = .int .i64 j ∧ Own wr (w.heap.size + 1) v (132 + j) (pre ++ l.take (124 + j)) ∧ Below (w.heap.size + 1) w0 wr) (fun _ i _ => 16 - (intOf i).toNat)
                  case atStart => exact ⟨0, Nat.zero_le _, rfl, hown3, hbel3⟩
                  case round =>
                    clear hown3 hbel3
                    obtain ⟨j, hj, rfl, hown, hbel⟩ := hrel
                    by_cases hlt : j < 16
                    · obtain ⟨c, hc⟩ : ∃ c, l[124 + j]? = some c := ⟨l[124 + j]'(by omega), List.getElem?_eq_getElem _⟩
                      have hcell := (k0.below hbel hk0).byte (j := 124 + j) hc (125 + j) (by simp <;> omega)
                      have HT : Hid (l.take (124 + (j + 1)) = l.take (124 + j) ++ [c]) := by
                        obtain ⟨hk, rfl⟩ := List.getElem?_eq_some_iff.1 hc
                        rw [← Nat.add_assoc]
                        exact List.take_succ_eq_append_getElem hk
                      have hsz := hbel.size
                      clear hc
                      go_wp2_with (at_builtin; refine wpList_app1 _ rfl _ _ rfl (w.heap.size + 1) _ _ _ rfl (hown.alloc _) ⟨wr.heap.size, 0, none⟩ 1 c rfl ?c1 ?c2 ?c3 ?_)
                      case c1 => simp
                      case c2 => omega
                      case c3 => simp; omega
                      intro v' w1 hown' hgrow
                      have hb1 : Below (w.heap.size + 1) w0 w1 := (hbel.alloc (by omega) _).grown hgrow (by simp; omega) (fun g hg => (hown.lt g hg).1)
                      have hown2 : Own w1 (w.heap.size + 1) v' (132 + (j + 1)) (pre ++ l.take (124 + (j + 1))) := by
                        rw [HT.out]; first | exact hown' | (rw [← List.append_assoc]; exact hown') | simpa [Nat.add_assoc] using hown'
                      clear hown hown' hbel hgrow hcell HT
                      go_wp2
                      go_roundw
                      case rel => first | exact ⟨j + 1, by omega, by go_num, hown2, hb1⟩ | ((repeat apply Exists.intro); exact ⟨⟨j + 1, by omega, by go_num, hown2, hb1⟩, rfl⟩)
                      case measure => simp [intOf] <;> omega
                    · obtain rfl : j = 16 := by omega
                      have hown4 := hown
                      have hbel4 := hbel
                      clear hown hbel hlt hj
                      rw [List.take_of_length_le (show l.length ≤ 124 + 16 by omega), hmb] at hown4
                      have hb9 := Below.trans hbw (hbel4.mono (by omega))
                      have ho9 := hown4.base (show w.heap.size ≤ w.heap.size + 1 by omega)
                      clear hown4 hbel4
                      go_wp2
                      go_ret
                      exact ⟨_, rfl, ho9, hb9⟩

end Go.Proofs.Ytlllakjimgomjaa
