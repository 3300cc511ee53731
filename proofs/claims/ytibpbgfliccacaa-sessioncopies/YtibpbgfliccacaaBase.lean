
/- My own words for memory and numbers, for all walks of this seat. -/
import Derived.Test.YtibpbgfliccacaaChecked
import Derived.WalkKit
import Derived.ProofKit
import Derived.Below
import Derived.Laws.OwnMore
import Derived.Lib.Hide
import Derived.Deep.Draws
import Derived.OpenShut
import Derived.Laws.BytesString
namespace Go.Proofs.Ytibpbgfliccacaa
open Go.RowKit

/-- A byte as a cell. -/
abbrev bv (c : UInt8) : Value := .int .u8 (c.toNat : Int)

/-- The bytes that a slice value shows: 'l' stands in the cells from its address on, below block B. -/
def Shows (w : World) (B : Nat) (A : Option Addr) (n : Nat) (l : List UInt8) : Prop :=
  l.length = n ∧ (0 < n → ∃ b off, A = some ⟨b, off, none⟩ ∧ b < B ∧ ∀ j (h : j < l.length), w.cell? ⟨b, off + j, none⟩ = some (bv (l[j]'h)))

section
variable {w w' : World} {B B' n : Nat} {A : Option Addr} {l : List UInt8}
theorem Shows.len (h : Shows w B A n l) : l.length = n := h.1
theorem Shows.keep (h : Shows w B A n l) (hk : ∀ p : Addr, p.block < B → w'.cell? p = w.cell? p) : Shows w' B A n l :=
  ⟨h.1, fun hn => by
    obtain ⟨b, off, e, hb, hc⟩ := h.2 hn
    exact ⟨b, off, e, hb, fun j hj => (hk _ hb).trans (hc j hj)⟩⟩
theorem Shows.up (h : Shows w B A n l) (hB : B ≤ B') : Shows w B' A n l :=
  ⟨h.1, fun hn => by
    obtain ⟨b, off, e, hb, hc⟩ := h.2 hn
    exact ⟨b, off, e, by omega, hc⟩⟩
theorem Shows.below (h : Shows w B A n l) (hb : Below B w w') : Shows w' B A n l := h.keep fun _ hp => hb.cell hp
/-- One byte, with a name of its own. -/
theorem Shows.byte (h : Shows w B A n l) {k : Nat} (hk : k < n) :
    ∃ (b off : Nat) (c : UInt8), A = some ⟨b, off, none⟩ ∧ b < B ∧ w.cell? ⟨b, off + k, none⟩ = some (.int .u8 (c.toNat : Int)) ∧ c.toNat < 256 ∧ l[k]? = some c := by
  obtain ⟨b, off, e, hb, hc⟩ := h.2 (by omega)
  have hl : k < l.length := by have := h.1; omega
  exact ⟨b, off, l[k], e, hb, hc k hl, l[k].toNat_lt, List.getElem?_eq_getElem hl⟩
end

/-- A row of bytes of the call's own. -/
abbrev Own (w : World) (base : Nat) (v : Value) (n : Nat) (l : List UInt8) : Prop := w.ownsRow base 5 1 v n (l.map bv)

theorem Own.len {w : World} {base n : Nat} {v : Value} {l : List UInt8} (h : Own w base v n l) : l.length = n := by simpa using h.1

theorem Own.base {w : World} {b b' n : Nat} {v : Value} {l : List UInt8} (h : Own w b v n l) (hb : b' ≤ b) : Own w b' v n l := by
  refine ⟨h.1, ?_⟩
  rcases h.2 with h2 | ⟨g, cap, cur, h3, h4, h5⟩
  · exact .inl h2
  · exact .inr ⟨g, cap, cur, h3, Nat.le_trans hb h4, h5⟩

/-- What is owned is a slice, and shows its bytes. -/
theorem Own.shows {w : World} {base n : Nat} {v : Value} {l : List UInt8} (h : Own w base v n l) : ∃ A c, v = .slice A n c ∧ n ≤ c ∧ c ≤ maxLen ∧ Shows w w.heap.size A n l := by
  have hl := h.len
  rcases h.2 with ⟨rfl, rfl⟩ | ⟨g, cap, cur, rfl, hb, hg, hnc, hcm, hcs, ht⟩
  · exact ⟨none, 0, rfl, by omega, by simp [maxLen], hl, fun h => absurd h (by omega)⟩
  · have hlt : g < w.heap.size := (Array.getElem?_eq_some_iff.1 hg).1
    refine ⟨_, _, rfl, hnc, hcm, hl, fun _ => ⟨g, 0, rfl, hlt, fun j hj => ?_⟩⟩
    rw [Nat.zero_add, World.ownsRow.cellAt h j (by omega)]
    simp [hj]

theorem Own.shown {w : World} {base n c : Nat} {A : Option Addr} {l : List UInt8} (h : Own w base (.slice A n c) n l) : Shows w w.heap.size A n l := by
  obtain ⟨A', c', hv, _, _, hs⟩ := h.shows
  injection hv with h1 _ _
  subst h1
  exact hs

/-- A literal's block shows its bytes. -/
theorem shows_new (w : World) (cs : Array Value) (l : List UInt8) (h : cs.toList = l.map bv) : Shows (w.alloc (.cells cs 5)) (w.alloc (.cells cs 5)).heap.size (some ⟨w.heap.size, 0, none⟩) l.length l := by
  have hs : cs.size = l.length := by rw [← Array.length_toList, h, List.length_map]
  refine ⟨rfl, fun _ => ⟨_, 0, rfl, by simp, fun j hj => ?_⟩⟩
  rw [Nat.zero_add, World.cell?_alloc_at (hn := rfl), ← Array.getElem?_toList, h]
  simp [hj]
theorem Shows.alloc {w : World} {B n : Nat} {A : Option Addr} {l : List UInt8} (h : Shows w B A n l) (hB : B ≤ w.heap.size) (o : Obj) : Shows (w.alloc o) B A n l :=
  h.keep fun p hp => World.cell?_alloc_lt w o p (by omega)
theorem Shows.draw {w : World} {B n : Nat} {A : Option Addr} {l : List UInt8} (h : Shows w B A n l) (k : Nat) : Shows (w.drewN k) B A n l := h
theorem below_draw {B : Nat} {a w : World} (h : Below B a w) (n : Nat) : Below B a (w.drewN n) := ⟨h.os, h.tape, h.output, h.size, h.block⟩

/-- A step from behind a new block. -/
theorem Below.step {B : Nat} {a w w' : World} {o : Obj} (h : Below B a w) (hB : B ≤ w.heap.size) (k : Below (w.alloc o).heap.size (w.alloc o) w') : Below B a w' :=
  (h.alloc hB o).trans (k.mono (by simp; omega))
theorem Below.on {B : Nat} {a w w' : World} (h : Below B a w) (hB : B ≤ w.heap.size) (k : Below w.heap.size w w') : Below B a w' :=
  h.trans (k.mono hB)

/-- A slice of bytes that came in shows some bytes. -/
theorem shows_of_row {w : World} {a : Option Addr} {len cap : Nat} {zs : List Int}
    (h : (a = none ∧ len = 0 ∧ cap = 0 ∧ zs = []) ∨
      ∃ x, a = some x ∧ len ≤ cap ∧ cap ≤ maxLen ∧ zs.length = cap ∧ (∀ i, i < zs.length → w.cell? (x.add i) = some (.int .u8 (zs.getD i 0))) ∧ ∀ n ∈ zs, (Lit.int .u8 n).wf = true) :
    ∃ l, (len ≤ cap ∧ cap ≤ maxLen) ∧ Shows w w.heap.size a len l := by
  rcases h with ⟨rfl, rfl, rfl, rfl⟩ | ⟨x, rfl, hlc, hcm, hz, hcell, hwf⟩
  · exact ⟨[], ⟨Nat.le_refl _, by simp [maxLen]⟩, rfl, fun h => absurd h (by omega)⟩
  · refine ⟨(zs.take len).map (fun z => UInt8.ofNat z.toNat), ⟨hlc, hcm⟩, by simp; omega, fun hn => ?_⟩
    obtain ⟨b, off, rfl, hc⟩ := ints_at hcell (by omega)
    refine ⟨b, off, rfl, World.block_lt_of_cell? w _ (hc 0 (by omega)), fun j hj => ?_⟩
    have hj' : j < zs.length := by simp at hj; omega
    rw [hc j hj']
    have hb := bounds_u8 (hwf zs[j] (List.getElem_mem hj'))
    simp [bv, hj']
    omega

theorem Try.infoU8 : (Try.prog.info? 5).map (fun i => (i.zero, i.size, i.bytes)) = some (some (.int .u8 0), 1, 1) := by kernel_rfl

section
variable {P : Program} (w : World)
end

/-- A byte stored into a row of the call's own. -/
theorem Own.put {w : World} {base g n cap : Nat} {l : List UInt8} (h : Own w base (.slice (some ⟨g, 0, none⟩) n cap) n l) (j : Nat) (x : UInt8) :
    Own (w.setCell ⟨g, j, none⟩ (bv x)) base (.slice (some ⟨g, 0, none⟩) n cap) n (l.set j x) ∧ w.grownBy (w.setCell ⟨g, j, none⟩ (bv x)) (some g) := by
  have := World.ownsRow.stored h j (bv x)
  unfold Own
  rw [List.map_set]
  exact this
theorem Own.at {w : World} {base g n cap : Nat} {l : List UInt8} (h : Own w base (.slice (some ⟨g, 0, none⟩) n cap) n l) {j : Nat} (hj : j < n) :
    ∃ x : UInt8, w.cell? ⟨g, j, none⟩ = some (.int .u8 (x.toNat : Int)) ∧ l[j]? = some x := by
  have hl := h.len
  rw [World.ownsRow.cellAt h j (by omega)]
  exact ⟨l[j], by simp [show j < l.length by omega], by simp [show j < l.length by omega]⟩

theorem set_next (a : List UInt8) (m : Nat) (x : UInt8) : (a ++ List.replicate (m + 1) 0).set a.length x = (a ++ [x]) ++ List.replicate m 0 := by
  rw [List.set_append_right _ _ (Nat.le_refl _), Nat.sub_self, List.replicate_succ, List.set_cons_zero]
  simp

/-- The one cell of a new block. -/
theorem one_new (w : World) (v : Value) (t : TypeId) (g : Nat) (hg : g = w.heap.size) : (w.alloc (.cells #[v] t)).cell? ⟨g, 0, none⟩ = some v := by
  rw [World.cell?_alloc_at (hn := hg)]; rfl

theorem push_all (l : List UInt8) : ∀ (s : ByteArray), (l.map fun c => (c.toNat : Int)).foldl (fun r n => r.push (UInt8.ofNat n.toNat)) s = ⟨⟨s.data.toList ++ l⟩⟩ := by
  induction l with
  | nil => intro s; simp
  | cons c t ih =>
    intro s
    rw [List.map_cons, List.foldl_cons, ih]
    simp [ByteArray.push]

end Go.Proofs.Ytibpbgfliccacaa
