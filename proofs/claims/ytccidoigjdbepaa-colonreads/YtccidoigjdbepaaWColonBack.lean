
/- The walk of law09.ColonBack. -/
import Derived.Test.YtccidoigjdbepaaClR
namespace Go.Proofs.Ytccidoigjdbepaa
open Go.RowKit Lin Cl
set_option maxRecDepth 100000
set_option linter.unusedVariables false

theorem hasM_of {W : World} (h : W.ShapedOpen Try.prog) : HasM W := by
  obtain ⟨m, hm⟩ := Try.laysM145.s1_3 W h
  exact ⟨m, hm⟩

set_option maxHeartbeats 1000000 in
theorem walk_ColonBack (l : List UInt8) (hl : l.length = 16) (w : World) (hm : HasM w) :
    Calls Try.prog 3 #[av l] w fun e w' => e = .returned (.bool true) ∧ Below w.heap.size w w' := by
  have HM := Lib.hid hm
  have hpos := hm.pos
  obtain ⟨hT, h1, h3⟩ := ctext l hl
  have h2 := fun W h => cparse_any (cT l) (by omega) W h
  rw [(pB_cT l hl).1, (pB_cT l hl).2] at h2
  have H1 := Lib.hid h1
  have H2 := Lib.hid h2
  have H3 := Lib.hid h3
  clear hm h1 h2 h3 hT
  generalize cT l = T at *
  have k0 := arr_new w 22 l
  have b0 := (Below.refl w.heap.size w).alloc (Nat.le_refl _) (.cells (l.map bv).toArray 22)
  generalize hW : w.alloc (.cells (l.map bv).toArray 22) = W at *
  have HW := Lib.hid hW
  clear hW
  go_enter Try.func3, Try.ntmps3
  go_wp2_with (
    rw [HW.out]
    refine wpList_loadArr (g := w.heap.size) (t := 22) rfl 22 5 _ rfl ?hx k0 hl Try.underlying22 Try.infoB16 ?_
    case hx => rfl)
  refine (H1.out _).mono ?_; rintro e w1 ⟨rfl, hb1⟩
  have k1 := k0.on hb1
  have b1 := Below.on b0 b0.size hb1
  clear hb1 HW k0 b0
  go_wp2_with fail
  refine (H2.out _ (HM.out.on b1 hpos)).mono ?_; rintro e w2 ⟨rfl, hb2⟩
  have k2 := (k1.on hb2).alloc (.cells (l.map bv).toArray 22)
  have b2 := Below.on b1 b1.size hb2
  have b2 := b2.alloc b2.size (.cells (l.map bv).toArray 22)
  have j2 := arr_new w2 22 l
  clear hb2 k1 b1
  go_wp2_with (first
    | (refine wpList_allocStore (cs := (l.map bv).toArray) rfl rfl 22 rfl (.tmp 4) (.tmp 11) ?ho2 Try.zero16 rfl ?hx ?hy ?hn ?h1 ?_
       case ho2 => rfl
       case hx => rfl
       case hy => rfl
       case hn => simp [hl]
       case h1 => exact one_bytes l)
    | (refine wpList_loadArr (g := w.heap.size) (t := 22) rfl 22 5 _ rfl ?hx k2 hl Try.underlying22 Try.infoB16 ?_
       case hx => rfl))
  generalize w2.heap.size = g2 at *
  generalize w2.alloc (.cells (l.map bv).toArray 22) = w3 at *
  refine (H3.out _).mono ?_; rintro e w4 ⟨rfl, hb4⟩
  have k4 := k2.on hb4
  have j4 := j2.on hb4
  have b4 := Below.on b2 b2.size hb4
  clear hb4 k2 j2 b2
  go_wp2_with (first
    | (refine wpList_loadArr (g := w.heap.size) (t := 22) rfl 22 5 _ rfl ?hx k4 hl Try.underlying22 Try.infoB16 ?_
       case hx => rfl)
    | (refine wpList_loadArr (g := g2) (t := 22) rfl 22 5 _ rfl ?hx j4 hl Try.underlying22 Try.infoB16 ?_
       case hx => rfl)
    | refine wpList_eqlArr (l := l) (l' := l) rfl 22 5 _ _ _ rfl _ rfl rfl rfl hl hl Try.underlying22 Try.underlying5 Try.sizeU8 Try.plain16 ?_)
  refine (alive9 _ (HM.out.on b4 hpos)).mono ?_; rintro e w5 ⟨rfl, hb5⟩
  have b5 := Below.on b4 b4.size hb5
  go_wp2
  go_ret
  exact ⟨rfl, b5⟩
end Go.Proofs.Ytccidoigjdbepaa
