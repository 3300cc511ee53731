
/- Contracts: ref05.Decode; ref05.Value with great letters; hexes.small. -/
import Derived.Test.YtfiagknmieegaaaHexD
namespace Go.Proofs.Ytfiagknmieegaaa.Hex
open Go.RowKit

theorem join_hex2 (x : UInt8) (q r : Nat) (hq : x.toNat / 16 = q) (hr : x.toNat % 16 = r) : 16 * (q : Int) + (r : Int) = (x.toNat : Int) := by
  omega

theorem refDecode_good (L : List UInt8) (w : World) (hn : L.length ≤ 1000000) :
    Calls Try.prog 61 #[.string ⟨⟨hexEnc L⟩⟩] w fun e w' => (∃ v, e = .returned (.tuple #[v, .int .i64 0]) ∧ Own w' w.heap.size v L.length L) ∧ Below w.heap.size w w' := by
  have hget := hexEnc_at L
  have hsz : (ByteArray.mk ⟨hexEnc L⟩).size = 2 * L.length := hexEnc_len L
  have Hget := Lib.hid hget
  clear hget
  generalize hs : ByteArray.mk ⟨hexEnc L⟩ = s at *
  have hg : ∀ (k : Nat) (x : UInt8), L[k]? = some x → s.data.toList[2 * k]? = some (hexd (x.toNat / 16)) ∧ s.data.toList[2 * k + 1]? = some (hexd (x.toNat % 16)) := by rw [← hs]; exact Hget.out
  have Hg := Lib.hid hg
  clear hg Hget hs
  generalize hN : L.length = N at *
  have HN := Lib.hid hN
  clear hN
  have hm0 : ((2 * (N : Int)) % 2 != 0) = false := by rw [bne_eq_false_iff_eq]; omega
  go_enter Try.func61, Try.ntmps61
  go_wp2
  go_loopw [4, 5] (fun v i wr => ∃ k j : Nat, k ≤ N ∧ j = 2 * k ∧ i = .int .i64 (j : Int) ∧ Own wr w.heap.size v k (L.take k) ∧ Below w.heap.size w wr) (fun _ i _ => 2 * N - (intOf i).toNat)
  case atStart => exact ⟨0, 0, Nat.zero_le _, rfl, rfl, World.ownsRow_nil _ _ _ _, Below.refl _ _⟩
  case round =>
    obtain ⟨k, j, hk, hj, rfl, hown, hbel⟩ := hrel
    have Hj := Lib.hid hj
    by_cases hlt : k < N
    · obtain ⟨x, hlx⟩ : ∃ x, L[k]? = some x := ⟨L[k]'(by rw [HN.out]; exact hlt), List.getElem?_eq_getElem _⟩
      have hgk := Hg.out k x hlx
      rw [← hj] at hgk
      have ha := byte_at s _ _ hgk.1
      have hb := byte_at s _ _ hgk.2
      have hjN : (j : Int) < 2 * (N : Int) := by omega
      have hjN1 : (j : Int) + 1 < 2 * (N : Int) := by omega
      have hj2 : j + 1 < 2 * N := by omega
      have hx := x.toNat_lt
      have hjw : IntKind.i64.wrap ((j : Int) + 1) = (j : Int) + 1 := IntWalk.i64_in _ (by omega)
      have hj0 : (0 : Int) ≤ (j : Int) + 1 := by omega
      have hjt : ((j : Int) + 1).toNat = j + 1 := by omega
      clear hj hgk
      have hq16 : x.toNat / 16 < 16 := by omega
      have hr16 : x.toNat % 16 < 16 := by omega
      have Hq := Lib.hid (hv_hexd (x.toNat / 16) hq16)
      have Hr := Lib.hid (hv_hexd (x.toNat % 16) hr16)
      have HS := Lib.hid (show L.take (k + 1) = L.take k ++ [x] by
        obtain ⟨hk', rfl⟩ := List.getElem?_eq_some_iff.1 hlx
        exact List.take_succ_eq_append_getElem hk')
      have HJ := Lib.hid (join_hex2 x _ _ rfl rfl)
      have hsz := hbel.size
      clear hlx
      generalize x.toNat / 16 = q at *
      generalize x.toNat % 16 = r at *
      have d1 : decide ((q : Int) < 0) = false := by simp
      have d2 : decide ((r : Int) < 0) = false := by simp
      have hv1 : hv (hexd q) = (q : Int) := Hq.out
      have hv2 : hv (hexd r) = (r : Int) := Hr.out
      go_wp2
      go_quiet ((go_at_call 83; exact Calls.quiet_of_same ((value_hv _ _).mono fun _ _ hh => ⟨hh.1, hh.2.symm⟩)))
      go_wp2_with (at_builtin; refine wpList_app1 _ rfl _ _ rfl w.heap.size _ _ _ rfl (by exact hown.alloc _) ⟨wr.heap.size, 0, none⟩ 1 x rfl ?c1 ?c2 ?c3 ?_)
      case c1 => rw [HJ.out]; exact one_new _ _ _ _ rfl
      case c2 => omega
      case c3 => simp; omega
      intro v' w2 hown' hgrow
      have hb1 : Below w.heap.size w w2 := by
        refine Below.grown ?_ hgrow ?_ (fun g hg => (hown.lt g hg).1)
        · exact (below_draw hbel _).alloc hsz _
        · simp; omega
      clear hgrow hjw
      go_wp2
      go_roundw
      case rel => exact ⟨k + 1, j + 2, by omega, by have := Hj.out; omega, by go_num, by rw [HS.out]; exact hown', hb1⟩
      case measure => simp [intOf] <;> omega
    · obtain rfl : k = N := by omega
      have hjN : ¬ (j : Int) < 2 * (k : Int) := by omega
      clear hj
      go_wp2
      go_ret2
      exact ⟨⟨_, rfl, by simpa [List.take_of_length_le (Nat.le_of_eq HN.out)] using hown⟩, hbel⟩

theorem refDecode_bad (s : ByteArray) (K : Nat) (w : World) (h : s.size % 2 = 0) (hn : s.size ≤ 1000000) (hB : BadAt s.data.toList K) :
    Calls Try.prog 61 #[.string s] w fun e w' => e = .returned (.tuple #[.slice none 0 0, .int .i64 5]) ∧ Below w.heap.size w w' := by
  obtain ⟨N, hN⟩ : ∃ N, s.size = 2 * N := ⟨s.size / 2, by omega⟩
  obtain ⟨hgood, x, y, hP, hbad⟩ := hB
  have Hgood := Lib.hid hgood
  have HP := Lib.hid hP
  have hKN : K < N := by
    obtain ⟨h1, _⟩ := List.getElem?_eq_some_iff.1 hP.2
    have : s.data.toList.length = s.size := rfl
    omega
  have hm0 : ((2 * (N : Int)) % 2 != 0) = false := by rw [bne_eq_false_iff_eq]; omega
  clear hP h hgood
  go_enter Try.func61, Try.ntmps61
  go_wp2
  go_loopw [4, 5] (fun v i wr => ∃ k j : Nat, k ≤ K ∧ j = 2 * k ∧ i = .int .i64 (j : Int) ∧ (∃ l, Own wr w.heap.size v k l) ∧ Below w.heap.size w wr) (fun _ i _ => 2 * N - (intOf i).toNat)
  case atStart => exact ⟨0, 0, Nat.zero_le _, rfl, rfl, ⟨[], World.ownsRow_nil _ _ _ _⟩, Below.refl _ _⟩
  case round =>
    obtain ⟨k, j, hk, hj, rfl, ⟨l, hown⟩, hbel⟩ := hrel
    have Hj := Lib.hid hj
    have hjN : (j : Int) < 2 * (N : Int) := by omega
    have hjN1 : (j : Int) + 1 < 2 * (N : Int) := by omega
    have hj2 : j + 1 < 2 * N := by omega
    have hjw : IntKind.i64.wrap ((j : Int) + 1) = (j : Int) + 1 := IntWalk.i64_in _ (by omega)
    have hj0 : (0 : Int) ≤ (j : Int) + 1 := by omega
    have hjt : ((j : Int) + 1).toNat = j + 1 := by omega
    clear hj
    by_cases hlt : k < K
    · obtain ⟨a, b, hp, h1, h2⟩ := Hgood.out k hlt
      unfold Pair at hp
      rw [← Hj.out] at hp
      have ha := byte_at s _ _ hp.1
      have hb := byte_at s _ _ hp.2
      have r1 := hv_rng a
      have r2 := hv_rng b
      obtain ⟨z, hz⟩ : ∃ z : UInt8, 16 * hv a + hv b = (z.toNat : Int) := ⟨UInt8.ofNat (16 * hv a + hv b).toNat, by simp; omega⟩
      have HZ := Lib.hid hz
      have hsz := hbel.size
      clear hp hz
      have d1 : decide (hv a < 0) = false := by simp; omega
      have d2 : decide (hv b < 0) = false := by simp; omega
      go_wp2
      go_quiet ((go_at_call 83; exact Calls.quiet_of_same ((value_hv _ _).mono fun _ _ hh => ⟨hh.1, hh.2.symm⟩)))
      go_wp2_with (at_builtin; refine wpList_app1 _ rfl _ _ rfl w.heap.size _ _ _ rfl (by exact hown.alloc _) ⟨wr.heap.size, 0, none⟩ 1 z rfl ?c1 ?c2 ?c3 ?_)
      case c1 => rw [HZ.out]; exact one_new _ _ _ _ rfl
      case c2 => omega
      case c3 => simp; omega
      intro v' w2 hown' hgrow
      have hb1 : Below w.heap.size w w2 := by
        refine Below.grown ?_ hgrow ?_ (fun g hg => (hown.lt g hg).1)
        · exact (below_draw hbel _).alloc hsz _
        · simp; omega
      clear hgrow hjw
      go_wp2
      go_roundw
      case rel => exact ⟨k + 1, j + 2, by omega, by have := Hj.out; omega, by go_num, ⟨_, hown'⟩, hb1⟩
      case measure => simp [intOf] <;> omega
    · obtain rfl : k = K := by omega
      have hp := HP.out
      unfold Pair at hp
      rw [← Hj.out] at hp
      have ha := byte_at s _ _ hp.1
      have hb := byte_at s _ _ hp.2
      clear hp
      have dd : decide (hv x < 0) = true ∨ (decide (hv x < 0) = false ∧ decide (hv y < 0) = true) := by
        rcases hbad with hx | ⟨hx, hy⟩
        · exact .inl (by simp; omega)
        · exact .inr ⟨by simp; omega, by simp; omega⟩
      clear hbad
      rcases dd with d1 | ⟨d1, d2⟩
      all_goals
        go_wp2
        go_quiet ((go_at_call 83; exact Calls.quiet_of_same ((value_hv _ _).mono fun _ _ hh => ⟨hh.1, hh.2.symm⟩)))
        go_wp2
        go_ret2
        exact ⟨rfl, below_draw hbel _⟩

end Go.Proofs.Ytfiagknmieegaaa.Hex
