
/- More words for messages of one length: what stays where blocks behind are written. -/
import Derived.Test.YtlllakjimgomjaaMsgC
namespace Go.Proofs.Ytlllakjimgomjaa
open Go.RowKit

theorem ones_32 : ones (8 * ((4 : Nat) : Int)) = 4294967295 := by rw [ones_256 4 (by omega)]
theorem ones_64 : ones (8 * ((8 : Nat) : Int)) = 18446744073709551615 := by rw [ones_256 8 (by omega)]
theorem Tk.grown {w w' : World} {g g2 n c : Nat} {A : Option Addr} {f : Int} {l : List UInt8} (h : Tk w g A n c f l) (hg : w.grownBy w' (some g2)) (hne : g < g2) : Tk w' g A n c f l :=
  ⟨(hg.block g h.lt (fun e => by injection e with e; omega)).trans h.1, h.2.1, h.2.2.1, h.2.2.2.keep fun p hp => World.cell?_of_block (hg.block p.block (by have := h.lt; omega) (fun e => by injection e with e; omega))⟩
/-- A heading of three bytes that are not all 0: the first that is not. -/
theorem head_bad (x y z : UInt8) (l : List UInt8) (h : ¬ (x = 0 ∧ y = 0 ∧ z = 0)) : ∃ (K : Nat) (u : UInt8), K < 3 ∧ (∀ j, j < K → (x :: y :: z :: l)[j]? = some 0) ∧ (x :: y :: z :: l)[K]? = some u ∧ u ≠ 0 := by
  by_cases h1 : x = 0
  · by_cases h2 : y = 0
    · exact ⟨2, z, by omega, fun j hj => match j, hj with | 0, _ => by simp [h1] | 1, _ => by simp [h2], rfl, fun h3 => h ⟨h1, h2, h3⟩⟩
    · exact ⟨1, y, by omega, fun j hj => match j, hj with | 0, _ => by simp [h1], rfl, h2⟩
  · exact ⟨0, x, by omega, fun j hj => absurd hj (by omega), rfl, h1⟩
theorem mcs_setNum (rs : List Nat) (l : List UInt8) (j r : Nat) (hj : j < rs.length) : (mcs rs l).setIfInBounds j (.int .u32 (r : Int)) = mcs (rs.set j r) l := by
  apply Array.ext'
  simp [mcs, hj]
theorem Tk.below {w w' : World} {B g n c : Nat} {A : Option Addr} {f : Int} {l : List UInt8} (h : Tk w g A n c f l) (hb : Below B w w') (hlt : g < B) : Tk w' g A n c f l :=
  ⟨(hb.block g hlt).trans h.1, h.2.1, h.2.2.1, h.2.2.2.keep fun p hp => hb.cell (by omega)⟩
theorem step_copyMsg {ops : Array Oper} {o : Oper} {a : Act} {w : World} {K : Act → World → Prop} {Q : Exit → Act → World → Prop} {E : Prop} (hgd : o.guard = none) (d s : Operand)
    (ho : o.op = .call { callee := .builtin .copy, args := #[d, s], argTypes := #[22, 22] })
    (g i m dc sc : Nat) (ad : Addr) (hd : a.eval d = .slice (some ⟨g, i, none⟩) m dc) (hs : a.eval s = .slice (some ad) m sc)
    (t : TypeId) (rs : List Nat) (L : List UInt8) (N j : Nat) (hB : Blk w g t (mcs rs (part0 L N j))) (hL : L.length = N) (hj : j + m ≤ N) (hi : i = rs.length + j) (hsh : Shows w w.heap.size (some ad) m ((L.drop j).take m))
    (h : ∀ w', Blk w' g t (mcs rs (part0 L N (j + m))) → Below g w w' → K (a.put o.dst (goInt m)) w') :
    if Region.wanted o (yielded ops a.tmps) = true then Oper.wp Try.prog o a w K Q else E := by
  have hl : ((L.drop j).take m).length = m := by simp; omega
  refine step_copy_splice hgd d s 22 22 ho 5 Try.underlying22 Try.sizeU8 (some ⟨g, i, none⟩) (some ad) m dc m sc hd hs g i (mcs rs (part0 L N j)).toList t hB (((L.drop j).take m).map bv) ?_ ?_ ?_ ?_ g w (Below.refl _ _) (Nat.le_refl _) ?_
  · simp only [List.length_map, hl, Nat.min_def]; simp
  · exact fun _ => ⟨rfl, ad, rfl, copy_src hsh⟩
  · simp only [List.length_map, hl, Array.length_toList, mcs_size, part0_len L N j hL (by omega)]; omega
  · intro v hv; obtain ⟨x, _, rfl⟩ := List.mem_map.1 hv; rfl
  · intro w' hh hb
    have h2 := hh.out
    rw [mcs_splice rs L N j m i hL hj hi] at h2
    simp only [List.length_map, hl]
    exact h w' h2 hb
theorem wpList_copyMsg {ops : Array Oper} {rest : List Oper} {o : Oper} {a : Act} {w : World} {Q : Exit → Act → World → Prop} (hgd : o.guard = none) (d s : Operand)
    (ho : o.op = .call { callee := .builtin .copy, args := #[d, s], argTypes := #[22, 22] })
    (g i m dc sc : Nat) (ad : Addr) (hd : a.eval d = .slice (some ⟨g, i, none⟩) m dc) (hs : a.eval s = .slice (some ad) m sc)
    (t : TypeId) (rs : List Nat) (L : List UInt8) (N j : Nat) (hB : Blk w g t (mcs rs (part0 L N j))) (hL : L.length = N) (hj : j + m ≤ N) (hi : i = rs.length + j) (hsh : Shows w w.heap.size (some ad) m ((L.drop j).take m))
    (h : ∀ w', Blk w' g t (mcs rs (part0 L N (j + m))) → Below g w w' → wpList Try.prog ops Q rest (a.put o.dst (goInt m)) w') : wpList Try.prog ops Q (o :: rest) a w := by
  have hl : ((L.drop j).take m).length = m := by simp; omega
  refine wpList_copy_splice hgd d s 22 22 ho 5 Try.underlying22 Try.sizeU8 (some ⟨g, i, none⟩) (some ad) m dc m sc hd hs g i (mcs rs (part0 L N j)).toList t hB (((L.drop j).take m).map bv) ?_ ?_ ?_ ?_ g w (Below.refl _ _) (Nat.le_refl _) ?_
  · simp only [List.length_map, hl, Nat.min_def]; simp
  · exact fun _ => ⟨rfl, ad, rfl, copy_src hsh⟩
  · simp only [List.length_map, hl, Array.length_toList, mcs_size, part0_len L N j hL (by omega)]; omega
  · intro v hv; obtain ⟨x, _, rfl⟩ := List.mem_map.1 hv; rfl
  · intro w' hh hb
    have h2 := hh.out
    rw [mcs_splice rs L N j m i hL hj hi] at h2
    simp only [List.length_map, hl]
    exact h w' h2 hb

end Go.Proofs.Ytlllakjimgomjaa
