
/- Contracts: slices.Concat of parts, nil ones among them. -/
import Derived.Test.YtkokgoodpibboaaSumC
import Derived.Test.YtkokgoodpibboaaMsgA
namespace Go.Proofs.Ytkokgoodpibboaa
open Go.RowKit
set_option maxRecDepth 100000

theorem concatP_any (A : Option Addr) (n c : Nat) (L : List Part) (w : World) (hn : n ≤ 100) (h : Parts w w.heap.size A n L) (h0 : 0 < (joinP L).length) (h63 : (joinP L).length ≤ 1000000) :
    Calls Try.prog 71 #[.slice A n c] w fun e w' => ∃ v, e = .returned v ∧ Own w' w.heap.size v (joinP L).length (joinP L) ∧ Below w.heap.size w w' := by
  obtain ⟨hS, hP⟩ := h
  have hl := Lib.hid hS.len
  have HP := Lib.hid hP
  clear hP
  generalize hN : (joinP L).length = N at *
  have HN := Lib.hid hN
  clear hN
  go_enter Try.func71, Try.ntmps71
  go_wp2
  go_loop [3, 11] (fun s i => ∃ k : Nat, k ≤ n ∧ s = .int .i64 (((joinP (L.take k)).length : Nat) : Int) ∧ i = .int .i64 k) (fun _ i => n - (intOf i).toNat)
  case atStart => exact ⟨0, Nat.zero_le _, rfl, rfl⟩
  case round =>
    obtain ⟨k, hk, rfl, rfl⟩ := hrel
    by_cases hlt : k < n
    · obtain ⟨b, off, q, rfl, hb, hc, hq⟩ := hS.elem hlt
      have hql := (HP.out q (List.mem_of_getElem? hq)).len
      have HJ := Lib.hid (joinP_succ L k q hq)
      have hle := joinP_le L (k + 1)
      rw [HN.out, HJ.out, List.length_append, hql] at hle
      obtain ⟨qA, qn, qc, ql⟩ := q
      simp only [pv] at hc
      simp only at hql hle HJ
      have Hsum := Lib.hid (show (joinP (L.take (k + 1))).length = (joinP (L.take k)).length + qn by rw [HJ.out, List.length_append, hql])
      generalize (joinP (L.take k)).length = S at *
      clear hq HJ
      go_wp2
      go_round
      case rel => exact ⟨k + 1, by omega, by rw [Hsum.out]; go_num, by go_num⟩
      case measure => simp [intOf] <;> omega
    · obtain rfl : k = n := by omega
      have hfull : (joinP (L.take k)).length = N := by rw [List.take_of_length_le (by have := hl.out; omega), HN.out]
      rw [hfull]
      go_wp2_with (go_at_call 110; refine (grow_nil N _ h0 h63).mono ?_; rintro e w1 ⟨v, rfl, hown, hb1⟩)
      go_loopw [6, 27] (fun v i wr => ∃ j m : Nat, j ≤ k ∧ i = .int .i64 j ∧ m = (joinP (L.take j)).length ∧ Own wr w.heap.size v m (joinP (L.take j)) ∧ Below w.heap.size w wr) (fun _ i _ => k - (intOf i).toNat)
      case atStart => exact ⟨0, 0, Nat.zero_le _, rfl, rfl, hown, hb1⟩
      case round =>
        clear hown hb1 hfull
        obtain ⟨j, m, hj, rfl, hm, hown, hbel⟩ := hrel
        have Hm := Lib.hid hm
        clear hm
        by_cases hlt2 : j < k
        · obtain ⟨b, off, q, rfl, hb, hc, hq⟩ := (hS.below hbel).elem hlt2
          have hsh := (HP.out q (List.mem_of_getElem? hq)).below hbel
          have hql := hsh.len
          have HJ := Lib.hid (joinP_succ L j q hq)
          have hJle := joinP_le L (j + 1)
          rw [HN.out, HJ.out, List.length_append, hql, ← Hm.out] at hJle
          obtain ⟨qA, qn, qc, ql⟩ := q
          simp only [pv] at hc
          simp only at hsh hql hJle HJ
          have hsz := hbel.size
          have hle' : m + qn ≤ 1000000 := by omega
          clear hq hS HP
          go_wp2_with (at_builtin; refine wpList_appAny _ rfl _ _ rfl w.heap.size _ _ _ rfl hown qA qn qc _ ql rfl hsh hle' hsz ?_)
          intro v' w2 hown' hgrow
          have hb2 : Below w.heap.size w w2 := hbel.grown hgrow hsz (fun g hg => (hown.lt g hg).1)
          clear hown hbel hgrow hsh
          go_wp2
          go_roundw
          case rel => exact ⟨j + 1, m + qn, by omega, by go_num, by rw [HJ.out, List.length_append, hql, ← Hm.out], by rw [HJ.out]; exact hown', hb2⟩
          case measure => simp [intOf] <;> omega
        · obtain rfl : j = k := by omega
          have hfull : L.take j = L := List.take_of_length_le (by have := hl.out; omega)
          rw [hfull] at hown Hm
          obtain rfl : m = N := Hm.out.trans HN.out
          clear hfull
          go_wp2
          go_ret
          exact ⟨_, rfl, hown, hbel⟩

end Go.Proofs.Ytkokgoodpibboaa
