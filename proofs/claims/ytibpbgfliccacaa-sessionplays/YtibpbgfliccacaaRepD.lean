
/- Words of layers 28 to 30: what grows; law28.alive; a number appended. -/
import Derived.Test.YtibpbgfliccacaaRepC
namespace Go.Proofs.Ytibpbgfliccacaa
open Go.RowKit

section
variable {w w' a : World} {B g : Nat} {r : Option Nat} {ty : TypeId} {pre : List Value} {l : List Nat}
theorem below_gr (h : Below B a w) (hg : w.grownBy w' r) (hB : B ≤ w.heap.size) (hr : ∀ k, r = some k → B ≤ k) : Below B a w' := Below.grown h hg hB hr
theorem below_gr1 (h : Below B a w) (hg : w.grownBy w' (some g)) (hB : B ≤ g) (hgl : g < w.heap.size) : Below B a w' := Below.grown h hg (by omega) (fun k hk => by injection hk with hk; omega)
theorem WinL.lt (h : WinL w g ty pre l) : g < w.heap.size := by obtain ⟨ws, _, h2⟩ := h; exact h2.lt
theorem WinL.lim (h : WinL w g ty pre l) : topOf l < 18446744073709543423 := by obtain ⟨ws, h1, _⟩ := h; exact h1.top
theorem WinL.gr (h : WinL w g ty pre l) (hg : w.grownBy w' r) (hne : r ≠ some g) : WinL w' g ty pre l := by
  obtain ⟨ws, h1, h2, h3⟩ := h
  exact ⟨ws, h1, (hg.block g (by exact h2.lt) (fun e => hne e.symm)).trans h2, h3⟩
theorem WinL.alloc (h : WinL w g ty pre l) (o : Obj) : WinL (w.alloc o) g ty pre l := by
  obtain ⟨ws, h1, h2, h3⟩ := h
  exact ⟨ws, h1, h2.alloc o, h3⟩
end

/-- Numbers in a row of the call's own. -/
abbrev Own6 (w : World) (base : Nat) (v : Value) (n : Nat) (l : List Nat) : Prop := GOwn u6 23 w base v n l
theorem Try.infoU64 : (Try.prog.info? 23).map (fun i => (i.zero, i.size, i.bytes)) = some (some (.int .u64 0), 1, 8) := by kernel_rfl
theorem own6_nil (w : World) (base : Nat) : Own6 w base (.slice none 0 0) 0 [] := World.ownsRow_nil w base _ _

theorem wpList_app6 {ops : Array Oper} {rest : List Oper} {o : Oper} {a : Act} {Q : Exit → Act → World → Prop} (w : World) (hgd : o.guard = none) (s x : Operand)
    (ho : o.op = .call { callee := .builtin .append, args := #[s, x], argTypes := #[22, 22] })
    (base : Nat) (v : Value) (n : Nat) (l : List Nat) (hs : a.eval s = v) (hown : Own6 w base v n l)
    (ad : Addr) (c' : Nat) (c : Nat) (hx : a.eval x = .slice (some ad) 1 c') (hc : w.cell? ad = some (u6 c))
    (h63 : n + 1 ≤ 1000000000) (hbase : base ≤ w.heap.size)
    (h : ∀ v' w', Own6 w' base v' (n + 1) (l ++ [c]) → w.grownBy w' v.ownBlock → wpList Try.prog ops Q rest (a.put o.dst v') w') : wpList Try.prog ops Q (o :: rest) a w :=
  wpList_gapp1 u6 w hgd s x 22 23 (.int .u64 0) 8 ho Try.underlying22 Try.infoU64 rfl base v n l hs hown ad c' c hx hc rfl (by omega) (by omega) hbase h

theorem own6_gr {w w' : World} {base n : Nat} {v : Value} {l : List Nat} {g : Nat} (h : Own6 w base v n l) (hg : w.grownBy w' (some g)) (hgb : g < base) : Own6 w' base v n l := by
  refine World.ownsRow.kept h hg ?_
  cases hv : v.ownBlock with
  | none => exact .inl rfl
  | some k => exact .inr (fun e => by injection e with e; have := h.lt k hv; omega)

theorem winL_33 (w : World) (ty : TypeId) : WinL (w.alloc (.cells #[.int .u64 0, .int .u64 0, .int .u64 0, .int .u64 0, .int .u64 0, .int .u64 0, .int .u64 0, .int .u64 0, .int .u64 0, .int .u64 0, .int .u64 0, .int .u64 0, .int .u64 0, .int .u64 0, .int .u64 0, .int .u64 0, .int .u64 0, .int .u64 0, .int .u64 0, .int .u64 0, .int .u64 0, .int .u64 0, .int .u64 0, .int .u64 0, .int .u64 0, .int .u64 0, .int .u64 0, .int .u64 0, .int .u64 0, .int .u64 0, .int .u64 0, .int .u64 0, .int .u64 0] ty)) w.heap.size ty [] [] ∧ Below w.heap.size w (w.alloc (.cells #[.int .u64 0, .int .u64 0, .int .u64 0, .int .u64 0, .int .u64 0, .int .u64 0, .int .u64 0, .int .u64 0, .int .u64 0, .int .u64 0, .int .u64 0, .int .u64 0, .int .u64 0, .int .u64 0, .int .u64 0, .int .u64 0, .int .u64 0, .int .u64 0, .int .u64 0, .int .u64 0, .int .u64 0, .int .u64 0, .int .u64 0, .int .u64 0, .int .u64 0, .int .u64 0, .int .u64 0, .int .u64 0, .int .u64 0, .int .u64 0, .int .u64 0, .int .u64 0, .int .u64 0] ty)) :=
  ⟨winL_new w ty, (Below.refl _ _).alloc (Nat.le_refl _) _⟩

set_option maxHeartbeats 400000 in
set_option maxRecDepth 100000 in
theorem alive28 (w : World) : Calls Try.prog 13 #[] w fun e w' => e = .returned (.bool true) ∧ Below w.heap.size w w' := by
  have h0 := winL_33 w 27
  obtain ⟨hW0, b0⟩ := h0
  have hgl := hW0.lt
  generalize hw : w.alloc (.cells #[.int .u64 0, .int .u64 0, .int .u64 0, .int .u64 0, .int .u64 0, .int .u64 0, .int .u64 0, .int .u64 0, .int .u64 0, .int .u64 0, .int .u64 0, .int .u64 0, .int .u64 0, .int .u64 0, .int .u64 0, .int .u64 0, .int .u64 0, .int .u64 0, .int .u64 0, .int .u64 0, .int .u64 0, .int .u64 0, .int .u64 0, .int .u64 0, .int .u64 0, .int .u64 0, .int .u64 0, .int .u64 0, .int .u64 0, .int .u64 0, .int .u64 0, .int .u64 0, .int .u64 0] 27) = w1 at *
  have HE := Lib.hid hw
  clear hw
  go_enter Try.func13, Try.ntmps13
  go_wp2_with fail
  rw [HE.out]
  clear HE
  generalize hg : w.heap.size = g at *
  have HG := Lib.hid hg
  clear hg
  refine (take_yes g 0 _ [] [] 5 _ hW0 rfl (by decide +kernel) (by decide +kernel)).mono ?_
  rintro e w2 ⟨rfl, hW, hg2⟩
  have b2 := below_gr1 b0 hg2 (Nat.le_refl _) hgl
  clear hW0 b0 hg2 hgl
  have hgl := hW.lt
  go_wp2_with fail
  refine (take_yes g 0 _ [] [5] 3 _ hW rfl (by decide +kernel) (by decide +kernel)).mono ?_
  rintro e w3 ⟨rfl, hW3, hg3⟩
  have b3 := below_gr1 b2 hg3 (Nat.le_refl _) hgl
  clear hW b2 hg3 hgl
  have hgl := hW3.lt
  go_wp2_with fail
  refine (take_no g 0 _ [] [5, 3] 3 _ hW3 rfl (by decide +kernel) (by decide +kernel)).mono ?_
  rintro e w' ⟨rfl, rfl⟩
  go_wp2_with fail
  refine (take_yes g 0 _ [] [5, 3] 2000 _ hW3 rfl (by decide +kernel) (by decide +kernel)).mono ?_
  rintro e w4 ⟨rfl, hW, hg4⟩
  have b4 := below_gr1 b3 hg4 (Nat.le_refl _) hgl
  clear hW3 b3 hg4 hgl
  go_wp2_with fail
  refine (wcan_any g 0 _ [] [5, 3, 2000] 15 _ hW rfl (by decide +kernel)).mono ?_
  rintro e w' ⟨rfl, rfl⟩
  rw [show canB [5, 3, 2000] 15 = false from by decide +kernel]
  go_wp2_with fail
  refine (wcan_any g 0 _ [] [5, 3, 2000] 16 _ hW rfl (by decide +kernel)).mono ?_
  rintro e w' ⟨rfl, rfl⟩
  rw [show canB [5, 3, 2000] 16 = true from by decide +kernel]
  go_wp2_with fail
  refine (wtop_any g 0 _ [] [5, 3, 2000] _ hW rfl).mono ?_
  rintro e w' ⟨rfl, rfl⟩
  rw [show topOf [5, 3, 2000] = 2000 from by decide +kernel]
  go_wp2
  go_ret
  exact ⟨rfl, by rw [HG.out]; exact b4⟩

end Go.Proofs.Ytibpbgfliccacaa
