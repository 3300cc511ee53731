
/- Contracts: crawlwayref10.Right, Width, Bytes; crawlwayref19.from, crawlwayref20.from. -/
import Derived.Test.YtccidoigjdbepaaDoorAdrF
namespace Go.Proofs.YtccidoigjdbepaaDoor
open Go.RowKit
set_option maxRecDepth 100000
set_option linter.unusedSimpArgs false
set_option linter.unusedVariables false

theorem okA_nz (v : Int) (l : List UInt8) (k : Nat) (c : UInt8) (h6 : ¬ v = 6) (hk : 4 ≤ k) (h : l[k]? = some c) (hc : ¬ c.toNat = 0) : okA v l = false := by
  unfold okA
  have h6' : (v == 6) = false := by simpa using h6
  rw [h6', Bool.false_or]
  have : ¬ l.drop 4 = zb 12 := by
    intro e
    have e2 : (l.drop 4)[k - 4]? = some c := by rw [List.getElem?_drop, show 4 + (k - 4) = k by omega]; exact h
    rw [e] at e2
    simp only [zb, List.getElem?_replicate] at e2
    split at e2
    · injection e2 with e2
      exact hc (by rw [← e2]; rfl)
    · cases e2
  simp [this]
theorem okA_z (v : Int) (l : List UInt8) (hl : l.length = 16) (h6 : ¬ v = 6) (h : ∀ j, 4 ≤ j → j < 16 → l[j]? = some 0) : okA v l = (v == 4) := by
  have e : l.drop 4 = zb 12 := by
    apply List.ext_getElem?
    intro i
    rw [List.getElem?_drop]
    by_cases hi : i < 12
    · rw [h (4 + i) (by omega) (by omega), zb, List.getElem?_replicate, if_pos hi]
    · rw [List.getElem?_eq_none (by omega), List.getElem?_eq_none (by simp [zb]; omega)]
  unfold okA
  have h6' : (v == 6) = false := by simpa using h6
  rw [h6', e]
  simp

set_option maxHeartbeats 1000000 in
theorem refRight_any (v : Int) (l : List UInt8) (hl : l.length = 16) (w : World) :
    Calls Tryd.prog 12 #[.agg (adv v l)] w fun e w' => e = .returned (.bool (okA v l)) ∧ Below w.heap.size w w' := by
  have k0 : Blk (w.alloc (.cells (adv v l) 24)) w.heap.size 24 (adv v l) := blk_new _ _ _
  have hb0 : Below w.heap.size w (w.alloc (.cells (adv v l) 24)) := (Below.refl _ _).alloc (Nat.le_refl _) _
  have c0 := k0.adv0
  by_cases h6 : v = 6
  · subst h6
    have hO : okA 6 l = true := by simp [okA]
    rw [hO]
    clear hO k0
    generalize adv 6 l = X at *
    go_enter Tryd.func12, Tryd.ntmps12
    go_wp2
    go_ret
    exact ⟨rfl, hb0⟩
  · have h6' : decide (v = 6) = false := decide_eq_false h6
    have h6'' : (v == 6) = false := by simpa using h6
    have HZ := Lib.hid (fun (k : Nat) (h1 : 4 ≤ k) (h2 : k < 16) => show ∃ c : UInt8, l[k]? = some c ∧ (w.alloc (.cells (adv v l) 24)).cell? ⟨w.heap.size, 1 + k, none⟩ = some (.int .u8 (c.toNat : Int)) from
      ⟨l[k], List.getElem?_eq_getElem _, (k0.cellA (1 + k)).trans (adv_b v l k _ (List.getElem?_eq_getElem (by omega)))⟩)
    have HN := Lib.hid (fun (k : Nat) (c : UInt8) => okA_nz v l k c h6)
    have HY := Lib.hid (okA_z v l hl h6)
    clear k0
    generalize hB4 : (v == 4) = B4 at *
    have hD4 : decide (v = 4) = B4 := by rw [← hB4]; rfl
    generalize okA v l = R at *
    generalize adv v l = X at *
    go_enter Tryd.func12, Tryd.ntmps12
    go_wp2
    go_loop [3] (fun i => ∃ k : Nat, 4 ≤ k ∧ k ≤ 16 ∧ (∀ j, 4 ≤ j → j < k → l[j]? = some 0) ∧ i = .int .i64 k) (fun i => 16 - (intOf i).toNat)
    case atStart => exact ⟨4, by omega, by omega, fun j h1 h2 => by omega, rfl⟩
    case round =>
      obtain ⟨k, h1, h2, hz, rfl⟩ := hrel
      have Hz := Lib.hid hz
      clear hz
      by_cases hlt : k < 16
      · obtain ⟨c, hc, hcell⟩ := HZ.out k h1 hlt
        have Hc := Lib.hid hc
        clear hc
        have ki : (k : Int) < 16 := by omega
        by_cases hc0 : c.toNat = 0
        · have hcell0 : (w.alloc (.cells X 24)).cell? ⟨w.heap.size, 1 + k, none⟩ = some (.int .u8 0) := by rw [hcell, hc0]; rfl
          have H0 := Lib.hid (show c = 0 from UInt8.toNat_inj.1 (by simpa using hc0))
          clear hcell
          go_wp2
          go_round
          case rel =>
            refine ⟨k + 1, by omega, by omega, ?_, by go_num⟩
            intro j q1 q2
            by_cases hj : j < k
            · exact Hz.out j q1 hj
            · obtain rfl : j = k := by omega
              rw [Hc.out, H0.out]
          case measure => simp [intOf] <;> omega
        · have HR := Lib.hid (HN.out k c h1 Hc.out hc0)
          have hc0' : ((c.toNat : Int) != 0) = true := by simp; omega
          have hc0'' : ((c.toNat : Int) == 0) = false := by simp; omega
          have hc0''' : decide ((c.toNat : Int) = 0) = false := decide_eq_false (by omega)
          generalize c.toNat = cn at *
          go_wp2
          go_ret
          exact ⟨by rw [HR.out]; rfl, hb0⟩
      · obtain rfl : k = 16 := by omega
        have HR := Lib.hid (HY.out (fun j q1 q2 => Hz.out j q1 q2))
        go_wp2
        go_ret
        exact ⟨by rw [HR.out]; rfl, hb0⟩

set_option maxHeartbeats 1000000 in
theorem refWidth_any (v : Int) (l : List UInt8) (hl : l.length = 16) (w : World) :
    Calls Tryd.prog 20 #[.agg (adv v l)] w fun e w' => e = .returned (.int .i64 ((8 * sizeA v l : Nat) : Int)) ∧ Below w.heap.size w w' := by
  have k0 : Blk (w.alloc (.cells (adv v l) 24)) w.heap.size 24 (adv v l) := blk_new _ _ _
  have hb0 : Below w.heap.size w (w.alloc (.cells (adv v l) 24)) := (Below.refl _ _).alloc (Nat.le_refl _) _
  have hz := Adr_size v l hl
  go_enter Tryd.func20, Tryd.ntmps20
  go_wp2_with (first
    | (refine wpList_loadBlk (g := w.heap.size) (t := 24) (cs := adv v l) rfl 24 (.tmp 1) ?ho ?hx ?hA _ Tryd.underlying24 rfl ?hi ?_
       case ho => with_reducible rfl
       case hx => rfl
       case hA => exact k0
       case hi => exact hz)
    | fail)
  refine (refRight_any v l hl _).mono ?_
  rintro e w1 ⟨rfl, hb1⟩
  have k1 := k0.on hb1
  have c1 := k1.adv0
  have b1 := Below.on hb0 hb0.size hb1
  clear k0 hb0 hb1
  cases hok : okA v l
  · have e0 : ((8 * sizeA v l : Nat) : Int) = 0 := by simp [sizeA, hok]
    go_wp2
    go_ret
    exact ⟨by rw [e0]; rfl, b1⟩
  · by_cases h4 : v = 4
    · subst h4
      have e0 : ((8 * sizeA 4 l : Nat) : Int) = 32 := by simp [sizeA, hok]
      go_wp2
      go_ret
      exact ⟨by rw [e0]; rfl, b1⟩
    · have h4' : decide (v = 4) = false := decide_eq_false h4
      have e0 : ((8 * sizeA v l : Nat) : Int) = 128 := by simp [sizeA, hok, h4]
      go_wp2
      go_ret
      exact ⟨by rw [e0]; rfl, b1⟩

set_option maxHeartbeats 1000000 in
theorem refBytes_any (v : Int) (l : List UInt8) (hl : l.length = 16) (w : World) :
    Calls Tryd.prog 17 #[.agg (adv v l)] w fun e w' => ∃ x, e = .returned x ∧ Own w' w.heap.size x (sizeA v l) (l.take (sizeA v l)) ∧ Below w.heap.size w w' := by
  have k0 : Blk (w.alloc (.cells (adv v l) 24)) w.heap.size 24 (adv v l) := blk_new _ _ _
  have hb0 : Below w.heap.size w (w.alloc (.cells (adv v l) 24)) := (Below.refl _ _).alloc (Nat.le_refl _) _
  have hz := Adr_size v l hl
  have hm := sizeA_le v l
  have HS := Lib.hid (fun W => refWidth_any v l hl W)
  have HC := Lib.hid (fun (k : Nat) (hk : k < 16) (W : World) (hW : Blk W w.heap.size 24 (adv v l)) => show ∃ c : UInt8, l[k]? = some c ∧ W.cell? ⟨w.heap.size, 1 + k, none⟩ = some (.int .u8 (c.toNat : Int)) from
      ⟨l[k], List.getElem?_eq_getElem _, (hW.cellA (1 + k)).trans (adv_b v l k _ (List.getElem?_eq_getElem (by omega)))⟩)
  generalize sizeA v l = m at *
  obtain ⟨D, hD⟩ : ∃ D : Nat, 8 * m = D := ⟨_, rfl⟩
  rw [hD] at HS
  have d1 : (D : Int) / 8 = (m : Int) := by omega
  have d2 : (D : Int).tdiv 8 = (m : Int) := by rw [Int.tdiv_eq_ediv_of_nonneg (by omega)]; exact d1
  have Dle : (D : Int) ≤ 128 := by omega
  have Hl := Lib.hid hl
  clear hD hl
  generalize adv v l = X at *
  go_enter Tryd.func17, Tryd.ntmps17
  go_wp2
  go_loopw [3, 4] (fun x i wr => ∃ k : Nat, k ≤ m ∧ i = .int .i64 k ∧ Own wr (w.heap.size + 1) x k (l.take k) ∧ Below (w.heap.size + 1) (w.alloc (.cells X 24)) wr) (fun _ i _ => m - (intOf i).toNat)
  case atStart => exact ⟨0, Nat.zero_le _, rfl, World.ownsRow_nil _ _ _ _, Below.refl _ _⟩
  case round =>
    obtain ⟨k, hk, rfl, hown, hbel⟩ := hrel
    have k1 := k0.below hbel (Nat.lt_succ_self _)
    go_wp2_with (first
      | (refine wpList_loadBlk (g := w.heap.size) (t := 24) (cs := X) rfl 24 (.tmp 1) ?ho ?hx ?hA _ Tryd.underlying24 rfl ?hi ?_
         case ho => with_reducible rfl
         case hx => rfl
         case hA => exact k1
         case hi => exact hz)
      | fail)
    refine (HS.out _).mono ?_
    rintro e w2 ⟨rfl, hb2⟩
    have hszr := hbel.size
    have o2 := hown.keep hb2
    have b2 : Below (w.heap.size + 1) (w.alloc (.cells X 24)) w2 := Below.on hbel (by simpa using hszr) hb2
    have k2 := k1.on hb2
    have hsz2 : w.heap.size + 1 ≤ w2.heap.size := by simpa using b2.size
    clear hown hbel hb2 k1
    by_cases hlt : k < m
    · obtain ⟨c, hc, hcell⟩ := HC.out k (by omega) _ k2
      have HT := Lib.hid (show l.take (k + 1) = l.take k ++ [c] by rw [List.take_add_one, hc]; rfl)
      clear hc
      have ki : (k : Int) < (m : Int) := by omega
      have ki16 : (k : Int) < 16 := by omega
      have dk : decide ((k : Int) < (m : Int)) = true := decide_eq_true ki
      go_wp2_with (at_builtin; refine wpList_app1 _ rfl _ _ rfl (w.heap.size + 1) _ _ _ rfl (by exact o2.alloc _) ⟨w2.heap.size, 0, none⟩ 1 c rfl ?c1 ?c2 ?c3 ?_)
      case c1 => exact one_new _ _ _ _ rfl
      case c2 => omega
      case c3 => simp; omega
      intro v' w3 hown' hgrow
      have b3 : Below (w.heap.size + 1) (w.alloc (.cells X 24)) w3 := by
        refine Below.grown ?_ hgrow ?_ (fun g hg => (o2.lt g hg).1)
        · exact b2.alloc (by simpa using hsz2) _
        · simp; omega
      clear hgrow o2 b2 k2 hcell
      go_wp2
      go_roundw
      case rel => exact ⟨k + 1, by omega, by go_num, by rw [HT.out]; exact hown', b3⟩
      case measure => simp [intOf] <;> omega
    · obtain rfl : k = m := by omega
      have dk : decide ((k : Int) < (k : Int)) = false := decide_eq_false (by omega)
      go_wp2
      go_ret
      exact ⟨_, rfl, o2.base (by omega), Below.on hb0 hb0.size (by simpa using b2)⟩

end Go.Proofs.YtccidoigjdbepaaDoor
