
/- Contracts: taker.clone, New, Left, Fail. -/
import Derived.Test.YtlppjndkflfgaaaSame
import Derived.Test.YtlppjndkflfgaaaGen
import Derived.Laws.CopyOwn
namespace Go.Proofs.Ytlppjndkflfgaaa
open Go.RowKit

theorem clone_any (A : Option Addr) (n c : Nat) (l : List UInt8) (w : World) (hn : n ≤ 1000000) (h : Shows w w.heap.size A n l) :
    Calls Try.prog 14 #[.slice A n c] w fun e w' => e = .returned (.slice (some ⟨w.heap.size, 0, none⟩) n n) ∧ Own w' w.heap.size (.slice (some ⟨w.heap.size, 0, none⟩) n n) n l ∧ Below w.heap.size w w' := by
  have hlen := h.len
  go_enter Try.func14, Try.ntmps14
  go_wp2_with (at_make; refine wpList_mk _ rfl _ _ rfl w.heap.size n _ _ rfl rfl rfl rfl (by omega) (Nat.le_refl _) ?_)
  intro w1 hown hgrow
  have hb0 : Below w.heap.size w w1 := (Below.refl _ _).grown hgrow (Nat.le_refl _) (fun k hk => by cases hk)
  have hs1 := h.below hb0
  obtain ⟨cur, hcur, hcs, hct⟩ : ∃ cur : Array Value, w1.heap[w.heap.size]? = some (.cells cur 5 (0, 0)) ∧ cur.size = n ∧ True := by
    rcases hown.2 with ⟨e, _⟩ | ⟨g, cap, cur, e, _, hg, _, _, hsz, _⟩
    · cases e
    · injection e with e1 e2 e3
      injection e1 with e1
      injection e1 with e1
      subst e1
      subst e3
      exact ⟨cur, hg, by simpa using hsz, trivial⟩
  clear hct hgrow hown
  obtain ⟨cl⟩ := cur
  have hcl : cl.length = n := hcs
  go_wp2_with (refine wpList_copy_splice rfl _ _ 22 22 rfl 5 Try.underlying22 Try.sizeU8 (some ⟨w.heap.size, 0, none⟩) A n n n c ?e1 ?e2 w.heap.size 0 cl 5 hcur (l.map bv) ?d1 ?d2 ?d3 ?d4 w.heap.size w hb0 (Nat.le_refl _) ?_)
  case e1 => rfl
  case e2 => rfl
  case d1 => simp [hlen]
  case d2 =>
    intro hp
    try refine ⟨rfl, ?_⟩
    have hn0 : 0 < n := by simpa [hlen] using hp
    obtain ⟨b, off, rfl, hb, hc⟩ := hs1.2 hn0
    refine ⟨_, rfl, fun j x hx => ?_⟩
    rw [Go.WideShapes.add_plain]
    obtain ⟨hjl, rfl⟩ := List.getElem?_eq_some_iff.1 hx
    exact hc j hjl
  case d3 => simp [hlen, hcl]
  case d4 => intro v hv; simp at hv; obtain ⟨x, _, rfl⟩ := hv; rfl
  intro w2 hh hb2
  have hspl : splice cl 0 (l.map bv) = l.map bv := by simp [splice, hcl, hlen]
  have hg2 : w2.heap[w.heap.size]? = some (.cells (l.map bv).toArray 5 (0, 0)) := by rw [← hspl]; exact hh.out
  have hO : Own w2 w.heap.size (.slice (some ⟨w.heap.size, 0, none⟩) n n) n l := by
    refine ⟨by simp [hlen], .inr ⟨w.heap.size, n, (l.map bv).toArray, rfl, Nat.le_refl _, hg2, Nat.le_refl _, by simp [maxLen]; omega, by simp [hlen], ?_⟩⟩
    rw [List.take_of_length_le (by simp [hlen])]
  clear hh hg2 hspl hcur hs1 hb0
  go_wp2
  go_ret
  exact ⟨rfl, hO, hb2⟩

/-- A taker behind a pointer: what is left, and what failed first. -/
def Tk (w : World) (g : Nat) (A : Option Addr) (n c : Nat) (f : Int) (l : List UInt8) : Prop :=
  w.heap[g]? = some (.cells #[.slice A n c, .int .i64 f] 33 (0, 0)) ∧ n ≤ c ∧ c ≤ maxLen ∧ Shows w g A n l

theorem Tk.c0 {w : World} {g n c : Nat} {A : Option Addr} {f : Int} {l : List UInt8} (h : Tk w g A n c f l) : w.cell? ⟨g, 0, none⟩ = some (.slice A n c) := by
  unfold World.cell?; rw [h.1]; rfl
theorem Tk.c1 {w : World} {g n c : Nat} {A : Option Addr} {f : Int} {l : List UInt8} (h : Tk w g A n c f l) : w.cell? ⟨g, 1, none⟩ = some (.int .i64 f) := by
  unfold World.cell?; rw [h.1]; rfl

theorem left_any (g : Nat) (A : Option Addr) (n c : Nat) (f : Int) (l : List UInt8) (w : World) (h : Tk w g A n c f l) :
    Calls Try.prog 7 #[.pointer (some ⟨g, 0, none⟩)] w fun e w' => e = .returned (.int .i64 (n : Int)) ∧ w = w' := by
  have h0 := h.c0
  clear h
  go_enter Try.func7, Try.ntmps7
  go_wp2
  go_ret
  exact ⟨rfl, rfl⟩
theorem fail_any (g : Nat) (A : Option Addr) (n c : Nat) (f : Int) (l : List UInt8) (w : World) (h : Tk w g A n c f l) :
    Calls Try.prog 8 #[.pointer (some ⟨g, 0, none⟩)] w fun e w' => e = .returned (.int .i64 f) ∧ w = w' := by
  have h1 := h.c1
  clear h
  go_enter Try.func8, Try.ntmps8
  go_wp2
  go_ret
  exact ⟨rfl, rfl⟩
theorem new_any (A : Option Addr) (n c : Nat) (l : List UInt8) (w : World) (hn : n ≤ 1000000) (h : Shows w w.heap.size A n l) :
    Calls Try.prog 6 #[.slice A n c] w fun e w' => ∃ g, e = .returned (.pointer (some ⟨g, 0, none⟩)) ∧ w.heap.size ≤ g ∧ Tk w' g (some ⟨w.heap.size, 0, none⟩) n n 0 l ∧ Below w.heap.size w w' := by
  have HC := Lib.hid (clone_any A n c l w hn h)
  clear h
  go_enter Try.func6, Try.ntmps6
  go_wp2_with fail
  refine HC.out.mono ?_; rintro e w1 ⟨rfl, ho, hb1⟩
  have hg : (w.heap.size) < w1.heap.size := (ho.lt w.heap.size rfl).2
  have hs := ho.shown
  clear HC ho
  go_wp2
  go_ret
  refine ⟨w1.heap.size, rfl, hb1.size, ⟨?_, Nat.le_refl _, by simp [maxLen]; omega, ?_⟩, hb1.alloc hb1.size _⟩
  · show (w1.heap.push _)[w1.heap.size]? = _
    simp
  · exact hs.alloc (Nat.le_refl _) _

/-- The taker's block, written anew. -/
theorem tk_put0 {w : World} {g n c : Nat} {A : Option Addr} {f : Int} {l : List UInt8} (h : Tk w g A n c f l) (A' : Option Addr) (n' c' : Nat) (l' : List UInt8) (h1 : n' ≤ c') (h2 : c' ≤ maxLen) (hs : Shows w g A' n' l') :
    Tk (w.setCell ⟨g, 0, none⟩ (.slice A' n' c')) g A' n' c' f l' ∧ w.grownBy (w.setCell ⟨g, 0, none⟩ (.slice A' n' c')) (some g) := by
  have hk : ∀ p : Addr, p.block < g → (w.setCell ⟨g, 0, none⟩ (.slice A' n' c')).cell? p = w.cell? p := fun p hp => by
    unfold World.cell? World.setCell
    rw [Array.getElem?_modify, if_neg (by show ¬ g = p.block; omega)]
  refine ⟨⟨?_, h1, h2, hs.keep hk⟩, rfl, rfl, rfl, by simp [World.setCell], fun k hk hne => ?_⟩
  · simp only [World.setCell, Array.getElem?_modify, h.1]
    simp
  · simp only [World.setCell, Array.getElem?_modify]
    rw [if_neg (fun e => hne (by rw [e]))]
theorem tk_put1 {w : World} {g n c : Nat} {A : Option Addr} {f : Int} {l : List UInt8} (h : Tk w g A n c f l) (f' : Int) :
    Tk (w.setCell ⟨g, 1, none⟩ (.int .i64 f')) g A n c f' l ∧ w.grownBy (w.setCell ⟨g, 1, none⟩ (.int .i64 f')) (some g) := by
  have hk : ∀ p : Addr, p.block < g → (w.setCell ⟨g, 1, none⟩ (.int .i64 f')).cell? p = w.cell? p := fun p hp => by
    unfold World.cell? World.setCell
    rw [Array.getElem?_modify, if_neg (by show ¬ g = p.block; omega)]
  refine ⟨⟨?_, h.2.1, h.2.2.1, h.2.2.2.keep hk⟩, rfl, rfl, rfl, by simp [World.setCell], fun k hk hne => ?_⟩
  · simp only [World.setCell, Array.getElem?_modify, h.1]
    simp
  · simp only [World.setCell, Array.getElem?_modify]
    rw [if_neg (fun e => hne (by rw [e]))]
theorem Tk.f0 {w : World} {g n c : Nat} {A : Option Addr} {f : Int} {l : List UInt8} (h : Tk w g A n c f l) (j : Nat) : w.frozen? ⟨g, j, none⟩ = false := by
  unfold World.frozen?; rw [h.1]; simp

/-- What may answers, and what is behind it. -/
theorem may_ok (g : Nat) (A : Option Addr) (n c m : Nat) (l : List UInt8) (w : World) (h : Tk w g A n c 0 l) (hm : m ≤ n) :
    Calls Try.prog 19 #[.pointer (some ⟨g, 0, none⟩), .bool true, .int .i64 (m : Int)] w fun e w' => e = .returned (.bool true) ∧ w = w' := by
  have h0 := h.c0
  have h1 := h.c1
  clear h
  go_enter Try.func19, Try.ntmps19
  go_wp2
  go_ret
  exact ⟨rfl, rfl⟩
theorem may_failed (g : Nat) (A : Option Addr) (n c : Nat) (f m : Int) (b : Bool) (l : List UInt8) (w : World) (h : Tk w g A n c f l) (hf : (f != 0) = true) :
    Calls Try.prog 19 #[.pointer (some ⟨g, 0, none⟩), .bool b, .int .i64 m] w fun e w' => e = .returned (.bool false) ∧ w = w' := by
  have h1 := h.c1
  clear h
  go_enter Try.func19, Try.ntmps19
  go_wp2
  go_ret
  exact ⟨rfl, rfl⟩

end Go.Proofs.Ytlppjndkflfgaaa
