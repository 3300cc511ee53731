
/- The walk of law09.ColonReads. -/
import Derived.Test.YtccidoigjdbepaaWColonBack
import Derived.Test.YtccidoigjdbepaaClS
namespace Go.Proofs.Ytccidoigjdbepaa
open Go.RowKit Lin Cl
set_option maxRecDepth 100000
set_option linter.unusedVariables false

/-- What a text gives: bytes, and whether there are any. -/
theorem p_two (l : List UInt8) : (pE l = 0 ∧ pS l = true) ∨ (pE l = 5 ∧ pS l = false) := by
  unfold pE pS
  cases pG l with
  | none => exact .inr ⟨rfl, rfl⟩
  | some G => exact .inl ⟨rfl, rfl⟩

set_option maxHeartbeats 2000000 in
theorem walk_ColonReads (s : ByteArray) (hs : s.size ≤ maxLen) (w : World) (hm : HasM w) :
    Calls Try.prog 4 #[.string s] w fun e w' => e = .returned (.bool true) ∧ Below w.heap.size w w' := by
  have HM := Lib.hid hm
  have hpos := hm.pos
  unfold maxLen at hs
  clear hm
  by_cases hlen : 100 < s.size
  · go_enter Try.func4, Try.ntmps4
    go_wp2_with fail
    refine (alive9 _ HM.out).mono ?_; rintro e w3 ⟨rfl, hb3⟩
    go_wp2
    go_ret
    exact ⟨rfl, hb3⟩
  obtain ⟨l, rfl⟩ : ∃ l, s = ⟨⟨l⟩⟩ := ⟨s.data.toList, rfl⟩
  have hsz : (ByteArray.mk ⟨l⟩).size = l.length := rfl
  have h1 := fun W h => cparse_any l (by omega) W h
  have h2 := fun W => refcparse_any l (by omega) W
  have hl := pB_len l
  have h3 := (ctext (pB l) hl).2.1
  have h4 := fun W h => cparse_any (cT (pB l)) (by have := (ctext (pB l) hl).1; omega) W h
  rw [(pB_cT (pB l) hl).1, (pB_cT (pB l) hl).2] at h4
  unfold sv at h1 h2
  generalize cT (pB l) = T at *
  have hps := p_two l
  generalize ByteArray.mk ⟨l⟩ = s at *
  generalize pB l = B at *
  generalize pE l = E at *
  generalize pS l = S at *
  generalize l.length = N at *
  have hn : ¬ (N : Int) > 100 := by omega
  have H1 := Lib.hid h1
  have H2 := Lib.hid h2
  have H3 := Lib.hid h3
  have H4 := Lib.hid h4
  clear h1 h2 h3 h4
  rcases hps with ⟨rfl, rfl⟩ | ⟨rfl, rfl⟩
  all_goals
    go_enter Try.func4, Try.ntmps4
    go_wp2_with fail
    refine (H1.out _ HM.out).mono ?_; rintro e w1 ⟨rfl, hb1⟩
    have k1 := arr_new w1 22 B
    have b1 := hb1.alloc hb1.size (.cells (B.map bv).toArray 22)
    go_wp2_with (first
    | (refine wpList_allocStore (cs := (B.map bv).toArray) rfl rfl 22 rfl (.tmp 3) (.tmp 16) ?ho2 Try.zero16 rfl ?hx ?hy ?hn ?h1 ?_
       case ho2 => rfl
       case hx => rfl
       case hy => rfl
       case hn => simp [hl]
       case h1 => exact one_bytes B))
    generalize w1.heap.size = g1 at *
    generalize w1.alloc (.cells (B.map bv).toArray 22) = w2 at *
    refine (H2.out _).mono ?_; rintro e w3 ⟨rfl, hb3⟩
    have k3 := (k1.on hb3).alloc (.cells (B.map bv).toArray 22)
    have j3 := arr_new w3 22 B
    have b3 := Below.on b1 b1.size hb3
    have b3 := b3.alloc b3.size (.cells (B.map bv).toArray 22)
    clear hb3 k1 b1
    go_wp2_with (first
    | (refine wpList_allocStore (cs := (B.map bv).toArray) rfl rfl 22 rfl (.tmp 5) (.tmp 21) ?ho2 Try.zero16 rfl ?hx ?hy ?hn ?h1 ?_
       case ho2 => rfl
       case hx => rfl
       case hy => rfl
       case hn => simp [hl]
       case h1 => exact one_bytes B)
    | (refine wpList_loadArr (g := g1) (t := 22) rfl 22 5 _ rfl ?hx k3 hl Try.underlying22 Try.infoB16 ?_
       case hx => rfl)
    | (refine wpList_loadArr (g := w3.heap.size) (t := 22) rfl 22 5 _ rfl ?hx j3 hl Try.underlying22 Try.infoB16 ?_
       case hx => rfl)
    | refine wpList_neqArr (l := B) (l' := B) rfl 22 5 _ _ _ rfl _ rfl rfl rfl hl hl Try.underlying22 Try.underlying5 Try.sizeU8 Try.plain16 ?_)
    generalize w3.heap.size = g3 at *
    generalize w3.alloc (.cells (B.map bv).toArray 22) = w4 at *
    refine (H3.out _).mono ?_; rintro e w5 ⟨rfl, hb5⟩
    have k5 := k3.on hb5
    have b5 := Below.on b3 b3.size hb5
    clear hb5 k3 b3 j3
    go_wp2_with fail
    refine (H4.out _ (HM.out.on b5 hpos)).mono ?_; rintro e w6 ⟨rfl, hb6⟩
    have k6 := (k5.on hb6).alloc (.cells (B.map bv).toArray 22)
    have j6 := arr_new w6 22 B
    have b6 := Below.on b5 b5.size hb6
    have b6 := b6.alloc b6.size (.cells (B.map bv).toArray 22)
    clear hb6 k5 b5
    go_wp2_with (first
    | (refine wpList_allocStore (cs := (B.map bv).toArray) rfl rfl 22 rfl (.tmp 7) (.tmp 36) ?ho2 Try.zero16 rfl ?hx ?hy ?hn ?h1 ?_
       case ho2 => rfl
       case hx => rfl
       case hy => rfl
       case hn => simp [hl]
       case h1 => exact one_bytes B)
    | (refine wpList_loadArr (g := w6.heap.size) (t := 22) rfl 22 5 _ rfl ?hx j6 hl Try.underlying22 Try.infoB16 ?_
       case hx => rfl)
    | (refine wpList_loadArr (g := g1) (t := 22) rfl 22 5 _ rfl ?hx k6 hl Try.underlying22 Try.infoB16 ?_
       case hx => rfl)
    | refine wpList_eqlArr (l := B) (l' := B) rfl 22 5 _ _ _ rfl _ rfl rfl rfl hl hl Try.underlying22 Try.underlying5 Try.sizeU8 Try.plain16 ?_)
    refine (alive9 _ (HM.out.on b6 hpos)).mono ?_; rintro e w7 ⟨rfl, hb7⟩
    have b7 := Below.on b6 b6.size (by exact hb7)
    go_wp2
    go_ret
    exact ⟨rfl, b7⟩
end Go.Proofs.Ytccidoigjdbepaa
