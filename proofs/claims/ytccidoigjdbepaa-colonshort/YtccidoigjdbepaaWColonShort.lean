
/- The walk of law09.ColonShort. -/
import Derived.Test.YtccidoigjdbepaaWColonBack
import Derived.Test.YtccidoigjdbepaaClS
namespace Go.Proofs.Ytccidoigjdbepaa
open Go.RowKit Lin Cl
set_option maxRecDepth 100000
set_option linter.unusedVariables false

theorem p_few (l : List UInt8) (h46 : (46 : UInt8) ∉ l) : (pE l = 0 ∧ (cT (pB l)).length ≤ l.length + 1) ∨ pE l = 5 := by
  unfold pE pB
  cases h : pG l with
  | none => exact .inr rfl
  | some G => exact .inl ⟨rfl, short l G h46 h⟩

set_option maxHeartbeats 2000000 in
theorem walk_ColonShort (s : ByteArray) (hs : s.size ≤ maxLen) (w : World) (hm : HasM w) :
    Calls Try.prog 5 #[.string s] w fun e w' => e = .returned (.bool true) ∧ Below w.heap.size w w' := by
  have HM := Lib.hid hm
  have hpos := hm.pos
  unfold maxLen at hs
  clear hm
  by_cases hlen : 100 < s.size
  · go_enter Try.func5, Try.ntmps5
    go_wp2_with fail
    refine (alive9 _ HM.out).mono ?_; rintro e w3 ⟨rfl, hb3⟩
    go_wp2
    go_ret
    exact ⟨rfl, hb3⟩
  obtain ⟨l, rfl⟩ : ∃ l, s = ⟨⟨l⟩⟩ := ⟨s.data.toList, rfl⟩
  have hsz : (ByteArray.mk ⟨l⟩).size = l.length := rfl
  have H0 := Lib.hid (fun W => refParts_any l 46 W (by omega))
  have H1 := Lib.hid (fun W h => cparse_any l (by omega) W h)
  have hl := pB_len l
  have H3 := Lib.hid (ctext (pB l) hl).2.1
  have hcl := (ctext (pB l) hl).1
  have HF := Lib.hid (fun h => p_few l h)
  have HN := Lib.hid (fun h => no_dot 46 l h)
  have Hpl := parts_len 46 l
  unfold sv at H0 H1
  generalize parts 46 l = P at *
  generalize cT (pB l) = T at *
  generalize ByteArray.mk ⟨l⟩ = s at *
  generalize pB l = B at *
  generalize pE l = E at *
  generalize hN : l.length = N at *
  have HNN := Lib.hid hN
  clear hN
  have hn : ¬ (N : Int) > 100 := by omega
  go_enter Try.func5, Try.ntmps5
  go_wp2_with fail
  refine (H0.out _).mono ?_; rintro e w0 ⟨⟨v, rfl, ho⟩, hb0⟩
  obtain ⟨A0, c0, rfl, _, _, _⟩ := GOwn.sh ho
  clear ho H0
  by_cases hP : 1 < P.length
  · have hPI : (1 : Int) < (P.length : Int) := by omega
    go_wp2_with fail
    refine (alive9 _ (HM.out.on hb0 hpos)).mono ?_; rintro e w3 ⟨rfl, hb3⟩
    have b3 := Below.on hb0 hb0.size hb3
    go_wp2
    go_ret
    exact ⟨rfl, b3⟩
  · have hPI : ¬ (1 : Int) < (P.length : Int) := by omega
    have h46 := HN.out (by omega)
    have hF := HF.out h46
    clear HN HF h46
    go_wp2_with fail
    refine (H1.out _ (HM.out.on hb0 hpos)).mono ?_; rintro e w1 ⟨rfl, hb1⟩
    have k1 := arr_new w1 22 B
    have b1 := Below.on hb0 hb0.size hb1
    have b1 := b1.alloc b1.size (.cells (B.map bv).toArray 22)
    clear hb1 hb0 H1
    rcases hF with ⟨rfl, hT⟩ | rfl
    · go_wp2_with (first
    | (refine wpList_allocStore (cs := (B.map bv).toArray) rfl rfl 22 rfl (.tmp 3) (.tmp 18) ?ho2 Try.zero16 rfl ?hx ?hy ?hn ?h1 ?_
       case ho2 => rfl
       case hx => rfl
       case hy => rfl
       case hn => simp [hl]
       case h1 => exact one_bytes B)
    | (refine wpList_loadArr (g := w1.heap.size) (t := 22) rfl 22 5 _ rfl ?hx k1 hl Try.underlying22 Try.infoB16 ?_
       case hx => rfl))
      refine (H3.out _).mono ?_; rintro e w5 ⟨rfl, hb5⟩
      have b5 := Below.on b1 b1.size (by exact hb5)
      have hts : (ByteArray.mk ⟨T⟩).size = T.length := rfl
      have v1 : IntKind.i64.wrap ((N : Int) + 1) = (N : Int) + 1 := IntWalk.i64_in _ (by omega)
      have hle : (T.length : Int) ≤ (N : Int) + 1 := by omega
      unfold sv
      generalize ByteArray.mk ⟨T⟩ = ts at *
      generalize T.length = M at *
      go_wp2_with fail
      refine (alive9 _ (HM.out.on b5 hpos)).mono ?_; rintro e w7 ⟨rfl, hb7⟩
      have b7 := Below.on b5 b5.size (by exact hb7)
      go_wp2
      go_ret
      exact ⟨rfl, b7⟩
    · go_wp2_with (first
    | (refine wpList_allocStore (cs := (B.map bv).toArray) rfl rfl 22 rfl (.tmp 3) (.tmp 18) ?ho2 Try.zero16 rfl ?hx ?hy ?hn ?h1 ?_
       case ho2 => rfl
       case hx => rfl
       case hy => rfl
       case hn => simp [hl]
       case h1 => exact one_bytes B))
      refine (alive9 _ (HM.out.on b1 hpos)).mono ?_; rintro e w7 ⟨rfl, hb7⟩
      have b7 := Below.on b1 b1.size (by exact hb7)
      go_wp2
      go_ret
      exact ⟨rfl, b7⟩
end Go.Proofs.Ytccidoigjdbepaa
