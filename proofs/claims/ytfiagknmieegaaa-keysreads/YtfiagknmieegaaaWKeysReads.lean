
/- The walk of law07.KeysReads. -/
import Derived.Test.YtfiagknmieegaaaKeyG
namespace Go.Proofs.Ytfiagknmieegaaa
open Go.RowKit

set_option maxHeartbeats 4000000 in
theorem keysReads_short (l : List UInt8) (hn : l.length ≤ 200) (w : World) :
    Calls Try.prog 7 #[sv l] w fun e w' => e = .returned (.bool true) ∧ Below w.heap.size w w' := by
  have hsz : (ByteArray.mk ⟨l⟩).size = l.length := rfl
  obtain ⟨k, E, hk, hp, hr, he⟩ := parse_both l hn
  obtain ⟨j, F, hj, hq, ht, hf⟩ := parseHex_both l hn
  have HP := Lib.hid hp
  have HR := Lib.hid hr
  have HQ := Lib.hid hq
  have HT := Lib.hid ht
  have hE : (E != 0) = true ∨ E = 0 := by by_cases h : E = 0 <;> simp [h]
  have hF : (F != 0) = true ∨ F = 0 := by by_cases h : F = 0 <;> simp [h]
  have He := Lib.hid he
  have Hf := Lib.hid hf
  clear hp hr hq ht he hf
  have HX : Hid (∀ W, E = 0 → Calls Try.prog 22 #[av k] W fun e w' => e = .returned (sv l) ∧ Below W.heap.size W w') := fun W h => by
    have := keyText_any k hk W
    rw [He.out h] at this
    exact this
  have HY : Hid (∀ W, F = 0 → Calls Try.prog 23 #[av j] W fun e w' => e = .returned (sv l) ∧ Below W.heap.size W w') := fun W h => by
    have := keyHex_any j hj W
    rw [Hf.out h] at this
    exact this
  clear He Hf
  go_enter Try.func7, Try.ntmps7
  go_wp2_with fail
  refine (HP.out _).mono ?_; rintro e w1 ⟨rfl, b1⟩
  have b1 := b1.alloc b1.size (.cells (k.map bv).toArray 44)
  have k1 := arr_new w1 44 k
  go_wp2_with (first
    | (refine wpList_allocStore (cs := (k.map bv).toArray) rfl rfl 44 rfl (.tmp 3) (.tmp 18) ?ho2 Try.zeroKey rfl ?hx ?hy ?hn ?h1 ?_
       case ho2 => rfl
       case hx => rfl
       case hy => rfl
       case hn => simp [hk]
       case h1 => exact one_bytes k))
  generalize w1.heap.size = g1 at *
  generalize w1.alloc (.cells (k.map bv).toArray 44) = w2 at *
  refine (HQ.out _).mono ?_; rintro e w3 ⟨rfl, hb3⟩
  have b3 := Below.on b1 b1.size hb3
  have b3 := b3.alloc b3.size (.cells (j.map bv).toArray 44)
  have k1 := (k1.on hb3).alloc (.cells (j.map bv).toArray 44)
  have k2 := arr_new w3 44 j
  clear b1 hb3
  go_wp2_with (first
    | (refine wpList_allocStore (cs := (j.map bv).toArray) rfl rfl 44 rfl (.tmp 5) (.tmp 23) ?ho2 Try.zeroKey rfl ?hx ?hy ?hn ?h1 ?_
       case ho2 => rfl
       case hx => rfl
       case hy => rfl
       case hn => simp [hj]
       case h1 => exact one_bytes j))
  generalize w3.heap.size = g2 at *
  generalize w3.alloc (.cells (j.map bv).toArray 44) = w4 at *
  refine (HR.out _).mono ?_; rintro e w5 ⟨rfl, hb5⟩
  have b5 := Below.on b3 b3.size hb5
  have b5 := b5.alloc b5.size (.cells (k.map bv).toArray 44)
  have k1 := (k1.on hb5).alloc (.cells (k.map bv).toArray 44)
  have k2 := (k2.on hb5).alloc (.cells (k.map bv).toArray 44)
  have k3 := arr_new w5 44 k
  clear b3 hb5
  go_wp2_with (first
    | (refine wpList_allocStore (cs := (k.map bv).toArray) rfl rfl 44 rfl (.tmp 7) (.tmp 28) ?ho2 Try.zeroKey rfl ?hx ?hy ?hn ?h1 ?_
       case ho2 => rfl
       case hx => rfl
       case hy => rfl
       case hn => simp [hk]
       case h1 => exact one_bytes k))
  generalize w5.heap.size = g3 at *
  generalize w5.alloc (.cells (k.map bv).toArray 44) = w6 at *
  refine (HT.out _).mono ?_; rintro e w7 ⟨rfl, hb7⟩
  have b7 := Below.on b5 b5.size hb7
  have b7 := b7.alloc b7.size (.cells (j.map bv).toArray 44)
  have k1 := (k1.on hb7).alloc (.cells (j.map bv).toArray 44)
  have k2 := (k2.on hb7).alloc (.cells (j.map bv).toArray 44)
  have k3 := (k3.on hb7).alloc (.cells (j.map bv).toArray 44)
  have k4 := arr_new w7 44 j
  clear b5 hb7 HP HR HQ HT
  generalize hg4 : w7.heap.size = g4 at *
  generalize hw8 : w7.alloc (.cells (j.map bv).toArray 44) = w8 at *
  have Hg4 := Lib.hid hg4
  have Hw8 := Lib.hid hw8
  clear hg4 hw8
  have EE : (E != E) = false := by simp
  have FF : (F != F) = false := by simp
  rcases hE with hE | rfl
  · rcases hF with hF | rfl
    · go_wp2_with (first
        | (refine wpList_allocStore (cs := (j.map bv).toArray) rfl rfl 44 rfl (.tmp 9) (.tmp 33) ?ho2 Try.zeroKey rfl ?hx ?hy ?hn ?h1 ?_
           case ho2 => rfl
           case hx => rfl
           case hy => rfl
           case hn => simp [hj]
           case h1 => exact one_bytes j
           rw [Hw8.out, Hg4.out])
        | (refine wpList_loadArr (g := g1) (t := 44) rfl 44 5 _ rfl ?hx k1 hk Try.underlying44 Try.infoKey ?_
           case hx => rfl)
        | (refine wpList_loadArr (g := g2) (t := 44) rfl 44 5 _ rfl ?hx k2 hj Try.underlying44 Try.infoKey ?_
           case hx => rfl)
        | (refine wpList_loadArr (g := g3) (t := 44) rfl 44 5 _ rfl ?hx k3 hk Try.underlying44 Try.infoKey ?_
           case hx => rfl)
        | (refine wpList_loadArr (g := g4) (t := 44) rfl 44 5 _ rfl ?hx k4 hj Try.underlying44 Try.infoKey ?_
           case hx => rfl)
        | (refine wpList_neqArr (l := k) (l' := k) rfl 44 5 _ _ _ rfl _ rfl rfl rfl hk hk Try.underlying44 Try.underlying5 Try.sizeU8 Try.plainKey ?_
           rw [beq_self_eq_true, Bool.not_true])
        | (refine wpList_neqArr (l := j) (l' := j) rfl 44 5 _ _ _ rfl _ rfl rfl rfl hj hj Try.underlying44 Try.underlying5 Try.sizeU8 Try.plainKey ?_
           rw [beq_self_eq_true, Bool.not_true]))
      refine (alive7 _).mono ?_; rintro e w20 ⟨rfl, hb20⟩
      have b20 := Below.on b7 b7.size hb20
      go_wp2
      go_ret
      exact ⟨rfl, b20⟩
    · go_wp2_with (first
        | (refine wpList_allocStore (cs := (j.map bv).toArray) rfl rfl 44 rfl (.tmp 9) (.tmp 33) ?ho2 Try.zeroKey rfl ?hx ?hy ?hn ?h1 ?_
           case ho2 => rfl
           case hx => rfl
           case hy => rfl
           case hn => simp [hj]
           case h1 => exact one_bytes j
           rw [Hw8.out, Hg4.out])
        | (refine wpList_loadArr (g := g1) (t := 44) rfl 44 5 _ rfl ?hx k1 hk Try.underlying44 Try.infoKey ?_
           case hx => rfl)
        | (refine wpList_loadArr (g := g2) (t := 44) rfl 44 5 _ rfl ?hx k2 hj Try.underlying44 Try.infoKey ?_
           case hx => rfl)
        | (refine wpList_loadArr (g := g3) (t := 44) rfl 44 5 _ rfl ?hx k3 hk Try.underlying44 Try.infoKey ?_
           case hx => rfl)
        | (refine wpList_loadArr (g := g4) (t := 44) rfl 44 5 _ rfl ?hx k4 hj Try.underlying44 Try.infoKey ?_
           case hx => rfl)
        | (refine wpList_neqArr (l := k) (l' := k) rfl 44 5 _ _ _ rfl _ rfl rfl rfl hk hk Try.underlying44 Try.underlying5 Try.sizeU8 Try.plainKey ?_
           rw [beq_self_eq_true, Bool.not_true])
        | (refine wpList_neqArr (l := j) (l' := j) rfl 44 5 _ _ _ rfl _ rfl rfl rfl hj hj Try.underlying44 Try.underlying5 Try.sizeU8 Try.plainKey ?_
           rw [beq_self_eq_true, Bool.not_true]))
      refine (HY.out _ (by trivial)).mono ?_; rintro e w9 ⟨rfl, hb9⟩
      have b7 := Below.on b7 b7.size hb9
      have k2 := k2.on hb9
      clear hb9
      go_wp2_with fail
      refine (alive7 _).mono ?_; rintro e w20 ⟨rfl, hb20⟩
      have b20 := Below.on b7 b7.size hb20
      go_wp2
      go_ret
      exact ⟨rfl, b20⟩
  · rcases hF with hF | rfl
    · go_wp2_with (first
        | (refine wpList_allocStore (cs := (j.map bv).toArray) rfl rfl 44 rfl (.tmp 9) (.tmp 33) ?ho2 Try.zeroKey rfl ?hx ?hy ?hn ?h1 ?_
           case ho2 => rfl
           case hx => rfl
           case hy => rfl
           case hn => simp [hj]
           case h1 => exact one_bytes j
           rw [Hw8.out, Hg4.out])
        | (refine wpList_loadArr (g := g1) (t := 44) rfl 44 5 _ rfl ?hx k1 hk Try.underlying44 Try.infoKey ?_
           case hx => rfl)
        | (refine wpList_loadArr (g := g2) (t := 44) rfl 44 5 _ rfl ?hx k2 hj Try.underlying44 Try.infoKey ?_
           case hx => rfl)
        | (refine wpList_loadArr (g := g3) (t := 44) rfl 44 5 _ rfl ?hx k3 hk Try.underlying44 Try.infoKey ?_
           case hx => rfl)
        | (refine wpList_loadArr (g := g4) (t := 44) rfl 44 5 _ rfl ?hx k4 hj Try.underlying44 Try.infoKey ?_
           case hx => rfl)
        | (refine wpList_neqArr (l := k) (l' := k) rfl 44 5 _ _ _ rfl _ rfl rfl rfl hk hk Try.underlying44 Try.underlying5 Try.sizeU8 Try.plainKey ?_
           rw [beq_self_eq_true, Bool.not_true])
        | (refine wpList_neqArr (l := j) (l' := j) rfl 44 5 _ _ _ rfl _ rfl rfl rfl hj hj Try.underlying44 Try.underlying5 Try.sizeU8 Try.plainKey ?_
           rw [beq_self_eq_true, Bool.not_true]))
      refine (HX.out _ (by trivial)).mono ?_; rintro e w9 ⟨rfl, hb9⟩
      have b7 := Below.on b7 b7.size hb9
      have k2 := k2.on hb9
      clear hb9
      go_wp2_with fail
      refine (alive7 _).mono ?_; rintro e w20 ⟨rfl, hb20⟩
      have b20 := Below.on b7 b7.size hb20
      go_wp2
      go_ret
      exact ⟨rfl, b20⟩
    · go_wp2_with (first
        | (refine wpList_allocStore (cs := (j.map bv).toArray) rfl rfl 44 rfl (.tmp 9) (.tmp 33) ?ho2 Try.zeroKey rfl ?hx ?hy ?hn ?h1 ?_
           case ho2 => rfl
           case hx => rfl
           case hy => rfl
           case hn => simp [hj]
           case h1 => exact one_bytes j
           rw [Hw8.out, Hg4.out])
        | (refine wpList_loadArr (g := g1) (t := 44) rfl 44 5 _ rfl ?hx k1 hk Try.underlying44 Try.infoKey ?_
           case hx => rfl)
        | (refine wpList_loadArr (g := g2) (t := 44) rfl 44 5 _ rfl ?hx k2 hj Try.underlying44 Try.infoKey ?_
           case hx => rfl)
        | (refine wpList_loadArr (g := g3) (t := 44) rfl 44 5 _ rfl ?hx k3 hk Try.underlying44 Try.infoKey ?_
           case hx => rfl)
        | (refine wpList_loadArr (g := g4) (t := 44) rfl 44 5 _ rfl ?hx k4 hj Try.underlying44 Try.infoKey ?_
           case hx => rfl)
        | (refine wpList_neqArr (l := k) (l' := k) rfl 44 5 _ _ _ rfl _ rfl rfl rfl hk hk Try.underlying44 Try.underlying5 Try.sizeU8 Try.plainKey ?_
           rw [beq_self_eq_true, Bool.not_true])
        | (refine wpList_neqArr (l := j) (l' := j) rfl 44 5 _ _ _ rfl _ rfl rfl rfl hj hj Try.underlying44 Try.underlying5 Try.sizeU8 Try.plainKey ?_
           rw [beq_self_eq_true, Bool.not_true]))
      refine (HX.out _ (by trivial)).mono ?_; rintro e w9 ⟨rfl, hb9⟩
      have b7 := Below.on b7 b7.size hb9
      have k2 := k2.on hb9
      clear hb9
      go_wp2_with (first
        | (refine wpList_loadArr (g := g2) (t := 44) rfl 44 5 _ rfl ?hx k2 hj Try.underlying44 Try.infoKey ?_
           case hx => rfl))
      refine (HY.out _ (by trivial)).mono ?_; rintro e w9 ⟨rfl, hb9⟩
      have b7 := Below.on b7 b7.size hb9
      have k2 := k2.on hb9
      clear hb9
      go_wp2_with fail
      refine (alive7 _).mono ?_; rintro e w20 ⟨rfl, hb20⟩
      have b20 := Below.on b7 b7.size hb20
      go_wp2
      go_ret
      exact ⟨rfl, b20⟩

theorem walk_KeysReads (s : ByteArray) (hs : s.size ≤ maxLen) (w : World) :
    Calls Try.prog 7 #[.string s] w fun e w' => e = .returned (.bool true) ∧ Below w.heap.size w w' := by
  unfold maxLen at hs
  obtain ⟨l, rfl⟩ : ∃ l, s = ⟨⟨l⟩⟩ := ⟨s.data.toList, by cases s with | mk d => cases d with | mk t => rfl⟩
  have hs' : l.length ≤ 9223372036854775807 := hs
  have hsz : (ByteArray.mk ⟨l⟩).size = l.length := rfl
  by_cases hlen : 200 < l.length
  · clear hs
    go_enter Try.func7, Try.ntmps7
    go_wp2_with fail
    refine (alive7 _).mono ?_; rintro e w3 ⟨rfl, hb3⟩
    go_wp2
    go_ret
    exact ⟨rfl, hb3⟩
  · exact keysReads_short l (by omega) w

end Go.Proofs.Ytfiagknmieegaaa
