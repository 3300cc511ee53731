
/- Contracts: keys.Of, ref07.Of. -/
import Derived.Test.YtfiagknmieegaaaKeyC
import Derived.Laws.CopyOwn
namespace Go.Proofs.Ytfiagknmieegaaa
open Go.RowKit

/-- The key of no bytes. -/
def key0 : List UInt8 := List.replicate 32 0
theorem key0_len : key0.length = 32 := rfl
theorem key0_cells : (key0.map bv).toArray = (List.replicate 32 (Value.int .u8 0)).toArray := rfl

/-- What keys.Of answers: a key, and a number. -/
def ofKey (l : List UInt8) : List UInt8 := if l.length = 32 then l else key0
def ofErr (l : List UInt8) : Int := if l.length < 32 then 3 else if 32 < l.length then 4 else 0
theorem ofKey_len (l : List UInt8) : (ofKey l).length = 32 := by unfold ofKey; split <;> simp_all [key0]

theorem keysOf_bad (A : Option Addr) (n c : Nat) (E : Int) (w : World) (hE : (n < 32 ∧ E = 3) ∨ (32 < n ∧ E = 4)) (hn : n ≤ 1000000) :
    Calls Try.prog 54 #[.slice A n c] w fun e w' => e = .returned (.tuple #[av key0, .int .i64 E]) ∧ Below w.heap.size w w' := by
  rcases hE with ⟨h1, rfl⟩ | ⟨h1, rfl⟩
  all_goals
    go_enter Try.func54, Try.ntmps54
    go_wp2_with (
      refine wpList_storeBlk (g := w.heap.size) (t := 44) (cs := (key0.map bv).toArray) rfl 44 _ _ rfl ?hx2 ?hy2 (List.replicate 32 (.int .u8 0)).toArray ?hA2 ?hi ?hs ?h1 ?_
      case hx2 => rfl
      case hy2 => rfl
      case hA2 => exact (blk_new _ _ _).alloc _
      case hi => exact Try.infoKey
      case hs => rfl
      case h1 => exact one_bytes key0
      intro w2 hB hg)
    refine bodyPost_blk2 rfl _ rfl hB Try.underlying44 rfl Try.infoKey rfl ⟨rfl, ?_⟩
    exact (((Below.refl w.heap.size w).alloc (Nat.le_refl _) _).alloc (by simp) _).grown hg (by simp; omega) (fun k hk => by injection hk with hk; omega)

theorem keysOf_ok (A : Option Addr) (c : Nat) (l : List UInt8) (w : World) (hl : l.length = 32) (h : Shows w w.heap.size A 32 l) :
    Calls Try.prog 54 #[.slice A 32 c] w fun e w' => e = .returned (.tuple #[av l, .int .i64 0]) ∧ Below w.heap.size w w' := by
  obtain ⟨Z, hZ⟩ : ∃ Z, Z = (List.replicate 32 (Value.int .u8 0)).toArray := ⟨_, rfl⟩
  obtain ⟨W, hW⟩ : ∃ W, W = (w.alloc (.cells Z 44)).alloc (.cells Z 44) := ⟨_, rfl⟩
  have hb0 : Below w.heap.size w W := hW ▸ ((Below.refl w.heap.size w).alloc (Nat.le_refl _) _).alloc (by simp) _
  have hs1 := h.below hb0
  have k0 : Blk W w.heap.size 44 Z := hW ▸ (blk_new _ _ _).alloc _
  have k1 : Blk W (w.heap.size + 1) 44 Z := hW ▸ blk_new' _ _ _ _ (by simp)
  have hsz : W.heap.size = w.heap.size + 2 := by rw [hW]; simp
  subst hZ
  have HW := Lib.hid hW
  clear hW
  go_enter Try.func54, Try.ntmps54
  go_wp2_with (refine wpList_copy_splice rfl _ _ 22 22 rfl 5 Try.underlying22 Try.sizeU8 (some ⟨w.heap.size + 1, 0, none⟩) A 32 32 32 c ?e1 ?e2 (w.heap.size + 1) 0 (List.replicate 32 (Value.int .u8 0)) 44 ?hg (l.map bv) ?d1 ?d2 ?d3 ?d4 (w.heap.size + 1) W ?hb (Nat.le_refl _) ?_)
  case e1 => rfl
  case e2 => rfl
  case hg => exact HW.out ▸ k1
  case hb => exact HW.out ▸ Below.refl _ _
  case d1 => simp [hl]
  case d2 =>
    obtain ⟨b, off, rfl, hb, hc⟩ := hs1.2 (by omega)
    refine ⟨_, rfl, fun j y hx => ?_⟩
    obtain ⟨hjl, rfl⟩ := List.getElem?_eq_some_iff.1 hx
    have := hc j hjl
    rw [HW.out] at this
    rw [Go.WideShapes.add_plain]
    exact this
  case d3 => simp [hl]
  case d4 => intro v hv; simp at hv; obtain ⟨x, _, rfl⟩ := hv; rfl
  intro w2 hh hb2
  have hspl : splice (List.replicate 32 (Value.int .u8 0)) 0 (l.map bv) = l.map bv := by
    unfold splice
    rw [List.take_zero, List.nil_append, List.drop_of_length_le (by simp [hl]), List.append_nil]
  have k1' : Arr w2 (w.heap.size + 1) 44 l := by unfold Arr; rw [← hspl]; exact hh.out
  have k0' : Blk w2 w.heap.size 44 (List.replicate 32 (Value.int .u8 0)).toArray := (hb2.block _ (Nat.lt_succ_self _)).trans k0
  have hbw : Below w.heap.size w w2 := hb0.trans (hb2.mono (Nat.le_succ _))
  have hs2 := hb2.size
  clear hh hb2 k0 k1 hs1 h hspl HW hb0
  go_wp2_with (
    refine wpList_loadArr (g := w.heap.size + 1) (t := 44) rfl 44 5 _ rfl ?hx k1' hl Try.underlying44 Try.infoKey ?_
    case hx => rfl
    refine wpList_storeBlk (g := w.heap.size) (t := 44) (cs := (l.map bv).toArray) rfl 44 _ _ rfl ?hx2 ?hy2 (List.replicate 32 (.int .u8 0)).toArray k0' ?hi ?hs ?h1 ?_
    case hx2 => rfl
    case hy2 => rfl
    case hi => (rw [Try.infoKey]; simp [hl])
    case hs => simp [hl]
    case h1 => exact one_bytes l
    intro w3 hB hg)
  refine bodyPost_blk2 rfl _ rfl hB Try.underlying44 rfl (by rw [Try.infoKey]; simp [hl]) rfl ⟨rfl, ?_⟩
  exact hbw.grown hg (by omega) (fun k hk => by injection hk with hk; omega)

end Go.Proofs.Ytfiagknmieegaaa
