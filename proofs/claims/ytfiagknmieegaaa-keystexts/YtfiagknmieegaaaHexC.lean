
/- Contracts: hexes.Decode. -/
import Derived.Test.YtfiagknmieegaaaHexB
namespace Go.Proofs.Ytfiagknmieegaaa.Hex
open Go.RowKit

theorem hexEnc_at (L : List UInt8) : ∀ (k : Nat) (x : UInt8), L[k]? = some x → (hexEnc L)[2 * k]? = some (hexd (x.toNat / 16)) ∧ (hexEnc L)[2 * k + 1]? = some (hexd (x.toNat % 16)) := by
  induction L with
  | nil => intro k x h; simp at h
  | cons c t ih =>
    intro k x h
    have e : hexEnc (c :: t) = hexd (c.toNat / 16) :: hexd (c.toNat % 16) :: hexEnc t := rfl
    rw [e]
    cases k with
    | zero => simp at h; subst h; exact ⟨rfl, rfl⟩
    | succ k =>
      have := ih k x (by simpa using h)
      rw [show 2 * (k + 1) = 2 * k + 1 + 1 by omega]
      simpa using this

theorem join_hex (x : UInt8) : bits BinOp.or IntKind.i64 (((x.toNat / 16 : Nat) : Int) * 16) ((x.toNat % 16 : Nat) : Int) % 256 = (x.toNat : Int) := by
  have : ∀ x : Fin 256, bits BinOp.or IntKind.i64 (((x.val / 16 : Nat) : Int) * 16) ((x.val % 16 : Nat) : Int) % 256 = (x.val : Int) := by decide +kernel
  exact this ⟨x.toNat, x.toNat_lt⟩

theorem fill_next (L : List UInt8) (size k : Nat) (x : UInt8) (hL : L.length = size) (h : L[k]? = some x) :
    (L.take k ++ List.replicate (size - k) 0).set k x = L.take (k + 1) ++ List.replicate (size - (k + 1)) 0 := by
  obtain ⟨hk, rfl⟩ := List.getElem?_eq_some_iff.1 h
  have hl : (L.take k).length = k := by simp; omega
  rw [show size - k = size - (k + 1) + 1 by omega, List.take_succ_eq_append_getElem hk]
  have := set_next (L.take k) (size - (k + 1)) L[k]
  rw [hl] at this
  exact this

theorem decode_good (L : List UInt8) (w : World) (hn : L.length ≤ 1000000) :
    Calls Try.prog 55 #[.string ⟨⟨hexEnc L⟩⟩] w fun e w' =>
      e = .returned (.tuple #[.slice (some ⟨w.heap.size, 0, none⟩) L.length L.length, .int .i64 0]) ∧ Own w' w.heap.size (.slice (some ⟨w.heap.size, 0, none⟩) L.length L.length) L.length L ∧ Below w.heap.size w w' := by
  have hget := hexEnc_at L
  have hsz : (ByteArray.mk ⟨hexEnc L⟩).size = 2 * L.length := hexEnc_len L
  have Hget := Lib.hid hget
  clear hget
  generalize hs : ByteArray.mk ⟨hexEnc L⟩ = s at *
  have hg : ∀ (k : Nat) (x : UInt8), L[k]? = some x → s.data.toList[2 * k]? = some (hexd (x.toNat / 16)) ∧ s.data.toList[2 * k + 1]? = some (hexd (x.toNat % 16)) := by rw [← hs]; exact Hget.out
  have Hg := Lib.hid hg
  clear hg Hget hs
  generalize hN : L.length = N at *
  have HN := Lib.hid hN
  have HZ := Lib.hid hsz
  clear hN
  have hm0 : ((2 * (N : Int)) % 2 != 0) = false := by rw [bne_eq_false_iff_eq]; omega
  have hq0 : (2 * (N : Int)) / 2 = (N : Int) := by omega
  go_enter Try.func55, Try.ntmps55
  go_wp2_with (at_make; refine wpList_mk _ rfl _ _ rfl w.heap.size N _ _ rfl rfl (by omega) (by omega) (by omega) (Nat.le_refl _) ?_; intro w1 hown hgrow)
  go_loopw [18] (fun i wr => ∃ k : Nat, k ≤ N ∧ i = .int .i64 k ∧ Own wr w.heap.size (.slice (some ⟨w.heap.size, 0, none⟩) N N) N (L.take k ++ List.replicate (N - k) 0) ∧ Below w.heap.size w wr) (fun i _ => N - (intOf i).toNat)
  case atStart => exact ⟨0, Nat.zero_le _, rfl, hown, (Below.refl _ _).grown hgrow (Nat.le_refl _) (fun k hk => by cases hk)⟩
  case round =>
    clear hown hgrow
    obtain ⟨k, hk, rfl, hown, hbel⟩ := hrel
    by_cases hlt : k < N
    · obtain ⟨x, hlx⟩ : ∃ x, L[k]? = some x := ⟨L[k]'(by rw [HN.out]; exact hlt), List.getElem?_eq_getElem _⟩
      have ha := byte_at s _ _ (Hg.out k x hlx).1
      have hb := byte_at s _ _ (Hg.out k x hlx).2
      obtain ⟨old, hc, _⟩ := hown.at hlt
      have hf := World.ownsRow.frozenAt hown k
      have hput := hown.put k x
      rw [fill_next _ N k _ HN.out hlx] at hput
      unfold bv at hput
      rw [← join_hex x] at hput
      have Hp := Lib.hid hput
      have hx := x.toNat_lt
      have Hq := Lib.hid (hv_hexd (x.toNat / 16) (by omega))
      have Hr := Lib.hid (hv_hexd (x.toNat % 16) (by omega))
      have hq16 : x.toNat / 16 < 16 := by omega
      have hr16 : x.toNat % 16 < 16 := by omega
      clear hput hown hlx
      generalize x.toNat / 16 = q at *
      generalize x.toNat % 16 = r at *
      have d1 : decide ((q : Int) < 0) = false := by simp
      have d2 : decide ((r : Int) < 0) = false := by simp
      go_wp2_with fail
      refine (index_hv _ _).mono ?_; rintro e w2 ⟨rfl, rfl⟩; rw [Hq.out]
      go_wp2_with fail
      refine (index_hv _ _).mono ?_; rintro e w2 ⟨rfl, rfl⟩; rw [Hr.out]
      go_wp2
      go_roundw
      case rel => exact ⟨k + 1, by omega, by go_num, Hp.out.1, hbel.grown Hp.out.2 hbel.size (fun g hg => by injection hg with hg; omega)⟩
      case measure => simp [intOf] <;> omega
    · obtain rfl : k = N := by omega
      go_wp2
      go_ret2
      exact ⟨rfl, by simpa [List.take_of_length_le (Nat.le_of_eq HN.out)] using hown, hbel⟩

end Go.Proofs.Ytfiagknmieegaaa.Hex
