
/- Contracts: lines.Fold. -/
import Derived.Test.YtglghfbdchcihaaDoorTrmA
import Derived.Laws.IdiomStrings
namespace Go.Proofs.YtglghfbdchcihaaDoor.Lin
open Go.RowKit
set_option maxRecDepth 100000

/-- The bytes of a text, in a block of their own. -/
def Buf (w : World) (g : Nat) (l : List UInt8) : Prop :=
  ∃ cur : Array Value, w.heap[g]? = some (.cells cur 5 (cur.size, cur.size + 1)) ∧ l.length ≤ cur.size ∧ cur.toList.take l.length = l.map bv

theorem Buf.cell {w : World} {g : Nat} {l : List UInt8} (h : Buf w g l) (j : Nat) (hj : j < l.length) : w.cell? ⟨g, j, none⟩ = some (.int .u8 (l[j].toNat : Int)) := by
  obtain ⟨cur, hg, hs, ht⟩ := h
  unfold World.cell?
  rw [hg]
  simp only [Option.isSome_none, Bool.false_eq_true, ↓reduceIte]
  have : (cur.toList.take l.length)[j]? = (l.map bv)[j]? := by rw [ht]
  rw [List.getElem?_take, if_pos hj] at this
  rw [← Array.getElem?_toList, this]
  simp [hj]
theorem Buf.froz {w : World} {g : Nat} {l : List UInt8} (h : Buf w g l) (j : Nat) (hj : j < l.length) : w.frozen? ⟨g, j, none⟩ = false := by
  obtain ⟨cur, hg, hs, ht⟩ := h
  unfold World.frozen?
  rw [hg]
  simp
  omega
theorem Buf.put {w : World} {g : Nat} {l : List UInt8} (h : Buf w g l) (j : Nat) (x : UInt8) : Buf (w.setCell ⟨g, j, none⟩ (bv x)) g (l.set j x) := by
  obtain ⟨cur, hg, hs, ht⟩ := h
  refine ⟨cur.setIfInBounds j (bv x), ?_, by simpa using hs, ?_⟩
  · simp only [World.setCell, Array.getElem?_modify, hg]
    simp
  · rw [List.length_set, Array.toList_setIfInBounds, List.take_set, ht, List.map_set]
theorem Buf.shows {w : World} {g : Nat} {l : List UInt8} (h : Buf w g l) : Shows w w.heap.size (some ⟨g, 0, none⟩) l.length l := by
  obtain ⟨cur, hg, _, _⟩ := id h
  have hlt : g < w.heap.size := (Array.getElem?_eq_some_iff.1 hg).1
  exact ⟨rfl, fun _ => ⟨g, 0, rfl, hlt, fun j hj => by rw [Nat.zero_add]; exact h.cell j hj⟩⟩
theorem below_put {B : Nat} {a w : World} (h : Below B a w) (g j : Nat) (v : Value) (hg : B ≤ g) : Below B a (w.setCell ⟨g, j, none⟩ v) := by
  refine ⟨h.os, h.tape, h.output, by simpa [World.setCell] using h.size, fun i hi => ?_⟩
  rw [← h.block i hi]
  simp only [World.setCell, Array.getElem?_modify]
  rw [if_neg (by omega)]

theorem conv_any (l : List UInt8) (w : World) : ∃ (cap : Nat) (W : World), (convert 9 34 (.string ⟨⟨l⟩⟩)).run Tryd.prog w = .ok (.slice (some ⟨w.heap.size, 0, none⟩) l.length cap) W ∧ Buf W w.heap.size l ∧ Below w.heap.size w W := by
  refine ⟨_, _, run_bytes_of_string (P := Tryd.prog) w 9 34 5 ⟨⟨l⟩⟩ Tryd.underlying9 Tryd.underlying34 Tryd.underlying5, ?_, ?_⟩
  · generalize grownCap w (ByteArray.mk ⟨l⟩).size 0 5 = c
    refine ⟨bytesRow ⟨⟨l⟩⟩ c, ?_, ?_, ?_⟩
    · show (w.heap.push _)[w.heap.size]? = _
      simp
    · simp [bytesRow]
    · have : (bytesRow ⟨⟨l⟩⟩ c).toList = l.map bv ++ List.replicate (c - l.length) (.int .u8 0) := by
        unfold bytesRow
        simp
        rfl
      rw [this]
      exact List.take_left' (by simp)
  · exact (below_draw (Below.refl _ _) 1).alloc (Nat.le_refl _) _

theorem fold_any (l : List UInt8) (w : World) (hn : l.length ≤ 1000000) :
    Calls Tryd.prog 37 #[sv l] w fun e w' => e = .returned (sv (fold l)) ∧ Below w.heap.size w w' := by
  obtain ⟨cap, W, hconv, hbuf, hbel⟩ := conv_any l w
  unfold sv
  generalize hs : ByteArray.mk ⟨l⟩ = s at hconv ⊢
  go_enter Tryd.func37, Tryd.ntmps37
  go_wp2
  go_loopw [10] (fun i wr => ∃ k : Nat, k ≤ l.length ∧ i = .int .i64 k ∧ Buf wr w.heap.size (fold (l.take k) ++ l.drop k) ∧ Below w.heap.size w wr) (fun i _ => l.length - (intOf i).toNat)
  case atStart => exact ⟨0, Nat.zero_le _, rfl, hbuf, hbel⟩
  case round =>
    clear hbuf hbel hconv
    obtain ⟨k, hk, rfl, hbuf, hbel⟩ := hrel
    have hlf : (fold (l.take k)).length = k := by unfold fold; simp; omega
    by_cases hlt : k < l.length
    · have hd : l.drop k = l[k] :: l.drop (k + 1) := List.drop_eq_getElem_cons hlt
      have hS : fold (l.take (k + 1)) = fold (l.take k) ++ [fo l[k]] := by unfold fold; rw [List.take_succ_eq_append_getElem hlt, List.map_append]; rfl
      rw [hd] at hbuf
      have hL : (fold (l.take k) ++ l[k] :: l.drop (k + 1)).length = l.length := by simp [hlf]; omega
      have hc := hbuf.cell k (by rw [hL]; exact hlt)
      have hf := hbuf.froz k (by rw [hL]; exact hlt)
      have hc' : wr.cell? ⟨w.heap.size, k, none⟩ = some (.int .u8 (l[k].toNat : Int)) := by
        rw [hc]
        rw [List.getElem_append_right (by omega)]
        simp [hlf]
      have hput : ∀ x, Buf (wr.setCell ⟨w.heap.size, k, none⟩ (bv x)) w.heap.size (fold (l.take k) ++ x :: l.drop (k + 1)) := fun x => by
        have := hbuf.put k x
        rw [List.set_append_right _ _ (by omega), hlf, Nat.sub_self, List.set_cons_zero] at this
        exact this
      have Hput := Lib.hid hput
      have HS := Lib.hid (show fold (l.take (k + 1)) ++ l.drop (k + 1) = fold (l.take k) ++ fo l[k] :: l.drop (k + 1) by rw [hS]; simp)
      have Hbuf := Lib.hid hbuf
      clear hput hbuf hc hd hS hL hlf
      generalize l[k] = c at *
      have hcl := c.toNat_lt
      by_cases hup : 65 ≤ c.toNat ∧ c.toNat ≤ 90
      · have HU := Lib.hid (fo_up c hup)
        have d1 : decide ((65 : Int) ≤ (c.toNat : Int)) = true := by simp; omega
        have d2 : decide ((c.toNat : Int) ≤ 90) = true := by simp; omega
        have hw1 : IntKind.u8.wrap ((c.toNat : Int) - 65) = (c.toNat : Int) - 65 := IntWalk.u8_in _ (by omega)
        have hw2 : IntKind.u8.wrap ((c.toNat : Int) - 65 + 97) = ((fo c).toNat : Int) := by rw [← HU.out]; rw [IntWalk.u8_in _ (by omega)]; omega
        go_wp2
        go_roundw
        case rel => exact ⟨k + 1, by omega, by go_num, by rw [HS.out]; exact Hput.out _, below_put hbel _ _ _ (Nat.le_refl _)⟩
        case measure => simp [intOf] <;> omega
      · have HU := Lib.hid (fo_stay c hup)
        by_cases h65 : 65 ≤ c.toNat
        · have d1 : decide ((65 : Int) ≤ (c.toNat : Int)) = true := by simp; omega
          have d2 : decide ((c.toNat : Int) ≤ 90) = false := by simp; omega
          go_wp2
          go_roundw
          case rel => exact ⟨k + 1, by omega, by go_num, by rw [HS.out, HU.out]; exact Hbuf.out, hbel⟩
          case measure => simp [intOf] <;> omega
        · have d1 : decide ((65 : Int) ≤ (c.toNat : Int)) = false := by simp; omega
          go_wp2
          go_roundw
          case rel => exact ⟨k + 1, by omega, by go_num, by rw [HS.out, HU.out]; exact Hbuf.out, hbel⟩
          case measure => simp [intOf] <;> omega
    · obtain rfl : k = l.length := by omega
      rw [List.take_of_length_le (Nat.le_refl _), List.drop_of_length_le (Nat.le_refl _), List.append_nil] at hbuf
      have hfl : (fold l).length = l.length := by unfold fold; simp
      have ht := run_text wr (some ⟨w.heap.size, 0, none⟩) (fold l).length cap (fold l) hbuf.shows
      rw [hfl] at ht
      clear hlf hbuf hfl
      go_wp2
      go_ret
      exact ⟨rfl, hbel⟩

theorem fold_len (l : List UInt8) : (fold l).length = l.length := by unfold fold; simp

end Go.Proofs.YtglghfbdchcihaaDoor.Lin
