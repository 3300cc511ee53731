
/- Bytes copied into a message, told by what else stays. -/
import Derived.Test.YtlllakjimgomjaaMsgD
namespace Go.Proofs.Ytlllakjimgomjaa
open Go.RowKit

theorem Sh.grown {α : Type} {f : α → Value} {w w' : World} {B g n : Nat} {A : Option Addr} {l : List α} (h : Sh f w B A n l) (hB : B ≤ w.heap.size) (hg : w.grownBy w' (some g)) (hne : 0 < n → ∀ a, A = some a → a.block ≠ g) : Sh f w' B A n l :=
  ⟨h.1, fun hn => by
    obtain ⟨b, off, e, hb, hc⟩ := h.2 hn
    refine ⟨b, off, e, hb, fun j hj => ?_⟩
    rw [← hc j hj]
    exact World.cell?_of_block (hg.block b (by omega) (fun x => by injection x with x; exact hne hn _ e x))⟩
/-- The same, told by what else stays. -/
theorem wpList_copyMsgG {ops : Array Oper} {rest : List Oper} {o : Oper} {a : Act} {w : World} {Q : Exit → Act → World → Prop} (hgd : o.guard = none) (d s : Operand)
    (ho : o.op = .call { callee := .builtin .copy, args := #[d, s], argTypes := #[22, 22] })
    (g i m dc sc : Nat) (ad : Addr) (hd : a.eval d = .slice (some ⟨g, i, none⟩) m dc) (hs : a.eval s = .slice (some ad) m sc)
    (t : TypeId) (rs : List Nat) (L : List UInt8) (N j : Nat) (hB : Blk w g t (mcs rs (part0 L N j))) (hL : L.length = N) (hj : j + m ≤ N) (hi : i = rs.length + j) (hsh : Shows w w.heap.size (some ad) m ((L.drop j).take m))
    (h : ∀ w', Blk w' g t (mcs rs (part0 L N (j + m))) → w.grownBy w' (some g) → wpList Try.prog ops Q rest (a.put o.dst (goInt m)) w') : wpList Try.prog ops Q (o :: rest) a w := by
  have hl : ((L.drop j).take m).length = m := by simp; omega
  refine wpList_copy_own hgd d s 22 22 ho 5 Try.underlying22 Try.sizeU8 g i m dc ad m sc hd hs (mcs rs (part0 L N j)) t hB (((L.drop j).take m).map bv) ?_ (copy_src hsh) ?_ ?_ ?_
  · simp only [List.length_map, hl, Nat.min_def]; simp
  · simp only [List.length_map, hl, mcs_size, part0_len L N j hL (by omega)]; omega
  · intro v hv; obtain ⟨x, _, rfl⟩ := List.mem_map.1 hv; rfl
  · simp only [List.length_map, hl]
    obtain ⟨h1, h2⟩ := setRow_grown w g t _ (mcs rs (part0 L N (j + m))) hB
    have e : w.setRow g (mcs rs (part0 L N (j + m))) = w.setRow g (((mcs rs (part0 L N j)).toList.take i ++ ((L.drop j).take m).map bv ++ (mcs rs (part0 L N j)).toList.drop (i + m)).toArray) := by
      rw [← mcs_splice rs L N j m i hL hj hi, splice]
      simp only [List.length_map, hl, List.append_assoc]
    rw [e] at h1 h2
    first | exact h _ h1 h2 | (simpa using h _ h1 h2)

end Go.Proofs.Ytlllakjimgomjaa
