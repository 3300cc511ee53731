
/- Contract: ref04.Decode of good texts. -/
import Derived.Test.YtfiagknmieegaaaSixJ
namespace Go.Proofs.Ytfiagknmieegaaa.Six
open Go.RowKit


theorem own_on {w w' : World} {b n : Nat} {v : Value} {l : List UInt8} (h : Own w b v n l) (hb : Below w.heap.size w w') : Own w' b v n l := by
  refine ⟨h.1, ?_⟩
  rcases h.2 with h2 | ⟨g, cap, cur, h3, h4, h5, h6⟩
  · exact .inl h2
  · have hlt : g < w.heap.size := (Array.getElem?_eq_some_iff.1 h5).1
    exact .inr ⟨g, cap, cur, h3, h4, by rw [hb.block g hlt]; exact h5, h6⟩

theorem six_take (v t : Nat) (ht : t < 6) : (six v).take (t + 1) = (six v).take t ++ [v / (32 / 2 ^ t) % 2] := by
  have hc : t = 0 ∨ t = 1 ∨ t = 2 ∨ t = 3 ∨ t = 4 ∨ t = 5 := by omega
  rcases hc with rfl | rfl | rfl | rfl | rfl | rfl <;> simp [six]

theorem half (x t : Nat) (ht : t < 8) : x / 2 ^ (7 - t) = 2 * (x / 2 ^ (8 - t)) + x / 2 ^ (7 - t) % 2 := by
  rw [show 8 - t = (7 - t) + 1 by omega, Nat.pow_succ, ← Nat.div_div_eq_div_mul]
  omega

/-- What ref04.Decode answers to a text that says something. -/
def RDec (z : Nat) (L : List UInt8) (w : World) (e : Ending) (w' : World) : Prop :=
  (z = 0 → ∃ v', e = .returned (.tuple #[v', .int .i64 0]) ∧ Own w' w.heap.size v' L.length L) ∧ (z ≠ 0 → e = .returned (.tuple #[.slice none 0 0, .int .i64 10])) ∧ Below w.heap.size w w'

set_option maxHeartbeats 4000000 in
theorem refDecode_txt (S L : List UInt8) (z : Nat) (vs left : List Nat) (w : World) (hR : Reads S L z vs left) (h4 : S.length % 4 = 0) (hn : S.length ≤ 100000) :
    Calls Try.prog 59 #[sv S] w (RDec z L w) := by
  obtain ⟨hS, hvs, hbits, hleft, hz, _⟩ := hR
  have Hat := Lib.hid (fun k v (hk : vs[k]? = some v) => byte_at4 (ByteArray.mk ⟨S⟩) k (sg v) (hvs k v hk).2)
  have H64 := Lib.hid (fun k v (hk : vs[k]? = some v) => (hvs k v hk).1)
  have HatS := Lib.hid (fun i x (hx : S[i]? = some x) => byte_at4 (ByteArray.mk ⟨S⟩) i x hx)
  have hbl : 6 * vs.length = 8 * L.length + left.length := by rw [← six_len, hbits, List.length_append, bits_len]
  have HB := Lib.hid hbits
  have HBat := Lib.hid (bits_at L left)
  have Hz := Lib.hid hz
  clear hbits hvs hz
  obtain ⟨N, hN⟩ : ∃ N, S.length = N := ⟨_, rfl⟩
  have hsz : (ByteArray.mk ⟨S⟩).size = N := hN
  rw [hN] at h4 hn
  obtain ⟨m, hm⟩ : ∃ m, vs.length = m := ⟨_, rfl⟩
  rw [hm] at hS hbl
  have Hm := Lib.hid hm
  have hmN : m ≤ N := by rcases strip_nums hS with h | ⟨M, c, h⟩ | ⟨M, c, h⟩ | ⟨M, h⟩ <;> omega
  have d0 : ((N : Int) % 4 != 0) = false := by rw [bne_eq_false_iff_eq]; omega
  obtain ⟨nl, hnl⟩ : ∃ nl, L.length = nl := ⟨_, rfl⟩
  rw [hnl] at hbl
  have Hnl := Lib.hid hnl
  obtain ⟨nr, hnr⟩ : ∃ nr, left.length = nr := ⟨_, rfl⟩
  rw [hnr] at hbl hleft
  have Hnr := Lib.hid hnr
  clear hm hnl hnr
  rcases strip_nums hS with ⟨h1, h2⟩ | ⟨M, x, h1, h2, h3, h3n⟩ | ⟨M, x, h1, h2, h3, h5, h5n⟩ | ⟨M, h1, h2, h3, h5⟩
  · obtain rfl : N = 0 := by omega
    obtain rfl : m = 0 := h2
    unfold sv
    generalize ByteArray.mk ⟨S⟩ = s at *
    clear h1 hS h4 hN hmN
    go_enter Try.func59, Try.ntmps59
    go_wp2
    have Hbl := Lib.hid hbl
    go_loopw [5, 6] (fun v i wr => ∃ k : Nat, k ≤ 0 ∧ i = .int .i64 k ∧ OwnI wr w.heap.size v (6 * k) ((vs.take k).flatMap six) ∧ Below w.heap.size w wr) (fun _ i _ => 200000 - (intOf i).toNat)
    case atStart => exact ⟨0, Nat.zero_le _, rfl, World.ownsRow_nil _ _ _ _, Below.refl _ _⟩
    case round =>
      obtain ⟨k, hk, rfl, hown, hbel⟩ := hrel
      have hsw := hbel.size
      by_cases hlt : k < 0
      · exact absurd hlt (by omega)
      · obtain rfl : k = 0 := by omega
        rw [List.take_of_length_le (by rw [Hm.out]; exact Nat.le_refl _), HB.out] at hown
        obtain ⟨A2, c2, rfl, h21, h22, s2⟩ := hown.sh
        have dk : decide ((0 : Int) < (0 : Int)) = false := decide_eq_false (by omega)
        obtain ⟨nb, hnb⟩ : ∃ nb, nb = 6 * (0) := ⟨_, rfl⟩
        rw [← hnb] at s2 h21 hbl ⊢
        have Hnb := Lib.hid hnb
        have hnb2 : nb ≤ 1000000 := by omega
        have Hbl2 := Lib.hid hbl
        have hnl2 : nl ≤ 1000000 := by omega
        obtain ⟨B, hBB⟩ : ∃ B, B = L.flatMap bits8 ++ left := ⟨_, rfl⟩
        have HL2 := Lib.hid hBB
        rw [← hBB] at s2 hown
        have HBat2 := Lib.hid (show ∀ j t x, L[j]? = some x → t < 8 → B[8 * j + t]? = some (x.toNat / 2 ^ (7 - t) % 2) by rw [hBB]; exact HBat.out)
        clear hBB
        obtain ⟨WA, hWA⟩ : ∃ WA, WA = wr := ⟨_, rfl⟩
        subst hWA
        have hb0 := hbel
        clear hown hnb hbl hk hlt
        go_wp2
        go_loopw [9, 10] (fun v i wr' => ∃ j : Nat, j ≤ nl ∧ i = .int .i64 ((8 * j : Nat) : Int) ∧ Own wr' WA.heap.size v j (L.take j) ∧ Below WA.heap.size WA wr') (fun _ i _ => 2000000 - (intOf i).toNat)
        case atStart => exact ⟨0, Nat.zero_le _, rfl, World.ownsRow_nil _ _ _ _, Below.refl _ _⟩
        case round =>
          obtain ⟨j, hj, rfl, hown, hbel2⟩ := hrel
          have hsw2 := hbel2.size
          obtain ⟨i, hi⟩ : ∃ i, i = 8 * j := ⟨_, rfl⟩
          rw [← hi]
          have Hi := Lib.hid hi
          have hi2 : i ≤ 1000000 := by have := Hbl2.out; omega
          by_cases hlt : j < nl
          · exact absurd hlt (by have := Hbl.out; omega)
          · obtain rfl : j = nl := by omega
            have dk : decide ((i : Int) + 8 ≤ (nb : Int)) = false := decide_eq_false (by have := Hbl2.out; omega)
            rw [List.take_of_length_le (by rw [Hnl.out]; exact Nat.le_refl _)] at hown
            obtain ⟨A3, c3, rfl, h31, h32, s3⟩ := hown.shows
            have hb3 := Below.on hb0 hb0.size hbel2
            obtain ⟨WB, hWB⟩ : ∃ WB, WB = wr := ⟨_, rfl⟩
            subst hWB
            have hF0 : Own WB w.heap.size (.slice A3 j c3) j L := hown.base hb0.size
            have HF5 : ∀ W', Below WB.heap.size WB W' → Own W' w.heap.size (.slice A3 j c3) j L := fun W' hb => own_on hF0 hb
            have sB := s2.below hbel2
            have hHF := Lib.hid HF5
            clear hown hi hF0 HF5
            go_wp2
            go_loopw [13] (fun y wr'' => ∃ t : Nat, t ≤ nr ∧ y = .int .i64 ((i + t : Nat) : Int) ∧ (∀ q, q < t → left[q]? = some 0) ∧ Below WB.heap.size WB wr'') (fun y _ => i + 8 - (intOf y).toNat)
            case atStart => exact ⟨0, Nat.zero_le _, congrArg (Value.int .i64) (by have := Hi.out; omega), fun q hq => absurd hq (by omega), Below.refl _ _⟩
            case round =>
              obtain ⟨t, ht, rfl, hzs, hbel5⟩ := hrel
              obtain ⟨k, hk⟩ : ∃ k, k = i + t := ⟨_, rfl⟩
              rw [← hk]
              have Hk := Lib.hid hk
              have Hzs := Lib.hid hzs
              clear hzs
              by_cases htr : t < nr
              · exact absurd htr (by have := Hbl.out; omega)
              · obtain rfl : t = nr := by omega
                have hkn : ¬ k < nb := by have := Hbl2.out; have := Hi.out; omega
                have HZ := Lib.hid (show z = 0 from Hz.out.2 (fun x hx => by
                  obtain ⟨q, hq, rfl⟩ := List.getElem_of_mem hx
                  have := Hzs.out q (by rw [← Hnr.out]; exact hq)
                  rw [List.getElem?_eq_getElem hq] at this
                  exact Option.some.inj this))
                clear hk
                go_wp2
                go_ret2
                exact ⟨fun _ => ⟨_, rfl, by rw [Hnl.out]; exact hHF.out _ hbel5⟩, fun e => absurd HZ.out e, Below.on hb3 hb3.size hbel5⟩
  · have a1 := HatS.out M x h3
    have e1 : ((x.toNat : Int) == 61) = false := byte_ne4 h3n
    obtain rfl : N = M + 1 := by omega
    have d1 : (((M : Int) + 1) % 4 != 0) = false := by rw [bne_eq_false_iff_eq]; omega
    clear d0
    obtain rfl : m = M + 1 := h2
    unfold sv
    generalize ByteArray.mk ⟨S⟩ = s at *
    clear h1 h3 hS h4 hN hmN
    go_enter Try.func59, Try.ntmps59
    go_wp2
    have Hbl := Lib.hid hbl
    go_loopw [5, 6] (fun v i wr => ∃ k : Nat, k ≤ M + 1 ∧ i = .int .i64 k ∧ OwnI wr w.heap.size v (6 * k) ((vs.take k).flatMap six) ∧ Below w.heap.size w wr) (fun _ i _ => 200000 - (intOf i).toNat)
    case atStart => exact ⟨0, Nat.zero_le _, rfl, World.ownsRow_nil _ _ _ _, Below.refl _ _⟩
    case round =>
      obtain ⟨k, hk, rfl, hown, hbel⟩ := hrel
      have hsw := hbel.size
      by_cases hlt : k < M + 1
      · have hvk := List.getElem?_eq_getElem (l := vs) (i := k) (by rw [Hm.out]; exact hlt)
        have HS := Lib.hid (show (vs.take (k + 1)).flatMap six = (vs.take k).flatMap six ++ six (vs[k]'(by rw [Hm.out]; exact hlt)) by rw [List.take_succ_eq_append_getElem (by rw [Hm.out]; exact hlt), List.flatMap_append]; simp)
        generalize vs[k]'(by rw [Hm.out]; exact hlt) = v at *
        have ha := Hat.out k _ hvk
        have hv := H64.out k _ hvk
        have HG := Lib.hid (fun W => value_good v hv W)
        have dk : decide ((k : Int) < (M : Int) + 1) = true := decide_eq_true (by omega)
        have dv : decide ((v : Int) < 0) = false := decide_eq_false (by omega)
        generalize (vs.take k).flatMap six = B at *
        clear hvk hbl
        go_wp2_with fail
        refine (HG.out _).mono ?_; rintro e w1 ⟨rfl, rfl⟩
        go_wp2
        go_loopw [5, 8] (fun u d wr => ∃ t : Nat, t ≤ 6 ∧ d = .int .i64 ((32 / 2 ^ t : Nat) : Int) ∧ OwnI wr w.heap.size u (6 * k + t) (B ++ (six v).take t) ∧ Below w.heap.size w wr) (fun _ d _ => (intOf d).toNat)
        case atStart => exact ⟨0, by omega, rfl, by simpa using hown, hbel⟩
        case round =>
          clear hown hbel hsw
          obtain ⟨t, ht, rfl, hown, hbel⟩ := hrel
          have hsw := hbel.size
          by_cases ht6 : t < 6
          · have HT := Lib.hid (six_take v t ht6)
            obtain ⟨d, hd⟩ : ∃ d, d = 32 / 2 ^ t := ⟨_, rfl⟩
            have hd2 : 32 / 2 ^ (t + 1) = d / 2 ∧ 1 ≤ d ∧ d ≤ 32 := by
              have hc : t = 0 ∨ t = 1 ∨ t = 2 ∨ t = 3 ∨ t = 4 ∨ t = 5 := by omega
              rcases hc with rfl | rfl | rfl | rfl | rfl | rfl <;> (rw [hd]; decide)
            rw [← hd] at HT ⊢
            have HD := Lib.hid hd2.1
            have hd1 := hd2.2.1
            have hd3 := hd2.2.2
            have dd : decide ((0 : Int) < (d : Int)) = true := decide_eq_true (by omega)
            have hdz : ((d : Int) == 0) = false := by rw [beq_eq_false_iff_ne]; omega
            clear hd hd2
            generalize (six v).take t = T at *
            go_wp2_with (at_builtin; refine wpList_appi _ rfl _ _ rfl w.heap.size _ _ _ rfl (by exact hown.alloc _) ⟨wr.heap.size, 0, none⟩ 1 (v / d % 2) rfl ?c1 ?c2 ?c3 ?_)
            case c1 => exact (one_new _ _ _ _ rfl).trans (congrArg (fun i => some (Value.int .i64 i)) (vd_num v d hv))
            case c2 => omega
            case c3 => simp; omega
            intro v' w2 hown' hgrow
            have hb1 : Below w.heap.size w w2 := by
              refine Below.grown ?_ hgrow ?_ (fun g hg => (hown.lt g hg).1)
              · exact hbel.alloc (by omega) _
              · simp; omega
            clear hgrow
            have hown2 : OwnI w2 w.heap.size v' (6 * k + (t + 1)) (B ++ (T ++ [v / d % 2])) := hown'
            clear hown'
            go_wp2
            go_roundw
            case rel => exact ⟨t + 1, by omega, congrArg (Value.int .i64) (by rw [HD.out]; go_num), by rw [HT.out]; exact hown2, hb1⟩
            case measure => simp [intOf] <;> omega
          · obtain rfl : t = 6 := by omega
            have hown2 : OwnI wr w.heap.size _ (6 * (k + 1)) (B ++ six v) := hown
            clear hown
            go_wp2
            go_roundw
            case rel => exact ⟨k + 1, by omega, by go_num, by rw [HS.out]; exact hown2, hbel⟩
            case measure => simp [intOf] <;> omega
      · obtain rfl : k = M + 1 := by omega
        rw [List.take_of_length_le (by rw [Hm.out]; exact Nat.le_refl _), HB.out] at hown
        obtain ⟨A2, c2, rfl, h21, h22, s2⟩ := hown.sh
        have dk : decide (((M : Int) + 1 : Int) < (M : Int) + 1) = false := decide_eq_false (by omega)
        obtain ⟨nb, hnb⟩ : ∃ nb, nb = 6 * (M + 1) := ⟨_, rfl⟩
        rw [← hnb] at s2 h21 hbl ⊢
        have Hnb := Lib.hid hnb
        have hnb2 : nb ≤ 1000000 := by omega
        have Hbl2 := Lib.hid hbl
        have hnl2 : nl ≤ 1000000 := by omega
        obtain ⟨B, hBB⟩ : ∃ B, B = L.flatMap bits8 ++ left := ⟨_, rfl⟩
        have HL2 := Lib.hid hBB
        rw [← hBB] at s2 hown
        have HBat2 := Lib.hid (show ∀ j t x, L[j]? = some x → t < 8 → B[8 * j + t]? = some (x.toNat / 2 ^ (7 - t) % 2) by rw [hBB]; exact HBat.out)
        clear hBB
        obtain ⟨WA, hWA⟩ : ∃ WA, WA = wr := ⟨_, rfl⟩
        subst hWA
        have hb0 := hbel
        clear hown hnb hbl hk hlt
        go_wp2
        go_loopw [9, 10] (fun v i wr' => ∃ j : Nat, j ≤ nl ∧ i = .int .i64 ((8 * j : Nat) : Int) ∧ Own wr' WA.heap.size v j (L.take j) ∧ Below WA.heap.size WA wr') (fun _ i _ => 2000000 - (intOf i).toNat)
        case atStart => exact ⟨0, Nat.zero_le _, rfl, World.ownsRow_nil _ _ _ _, Below.refl _ _⟩
        case round =>
          obtain ⟨j, hj, rfl, hown, hbel2⟩ := hrel
          have hsw2 := hbel2.size
          obtain ⟨i, hi⟩ : ∃ i, i = 8 * j := ⟨_, rfl⟩
          rw [← hi]
          have Hi := Lib.hid hi
          have hi2 : i ≤ 1000000 := by have := Hbl2.out; omega
          by_cases hlt : j < nl
          · have dk : decide ((i : Int) + 8 ≤ (nb : Int)) = true := decide_eq_true (by have := Hbl2.out; omega)
            have hxj := List.getElem?_eq_getElem (l := L) (i := j) (by rw [Hnl.out]; exact hlt)
            generalize L[j]'(by rw [Hnl.out]; exact hlt) = x at *
            have HX := Lib.hid hxj
            have HTk := Lib.hid (take_next L j x hxj)
            have hxl := x.toNat_lt
            clear hi hxj
            go_wp2
            go_loopw [11, 12] (fun y k wr'' => ∃ t : Nat, t ≤ 8 ∧ k = .int .i64 ((i + t : Nat) : Int) ∧ y = .int .i64 ((x.toNat / 2 ^ (8 - t) : Nat) : Int) ∧ Own wr'' WA.heap.size u9 j (L.take j) ∧ Below WA.heap.size WA wr'') (fun _ k _ => i + 8 - (intOf k).toNat)
            case atStart => exact ⟨0, by omega, rfl, by rw [Nat.div_eq_of_lt (by omega)]; rfl, hown, hbel2⟩
            case round =>
              clear hown hbel2 hsw2
              obtain ⟨t, ht, rfl, rfl, hown, hbel2⟩ := hrel
              have hsw2 := hbel2.size
              obtain ⟨k, hk⟩ : ∃ k, k = i + t := ⟨_, rfl⟩
              rw [← hk]
              have Hk := Lib.hid hk
              by_cases ht8 : t < 8
              · have dk2 : decide ((k : Int) < (i : Int) + 8) = true := decide_eq_true (by omega)
                have hkn : k < nb := by have := Hbl2.out; have := Hi.out; omega
                obtain ⟨b, off, y, rfl, hb, hc, hy⟩ := (s2.below hbel2).elem (k := k) hkn
                have hy2 := HBat2.out j t x HX.out ht8
                rw [← Hi.out, ← hk, hy] at hy2
                obtain rfl : y = x.toNat / 2 ^ (7 - t) % 2 := by injection hy2
                have HH := Lib.hid (half x.toNat t ht8)
                have HE := Lib.hid (show 8 - (t + 1) = 7 - t by omega)
                have hq1 : x.toNat / 2 ^ (8 - t) ≤ x.toNat := Nat.div_le_self _ _
                have hq2 : x.toNat / 2 ^ (7 - t) % 2 ≤ 1 := by omega
                generalize x.toNat / 2 ^ (8 - t) = q at *
                generalize hr7 : x.toNat / 2 ^ (7 - t) % 2 = r7 at *
                have Hr7 := Lib.hid hr7
                unfold iv at hc
                clear hy hy2 hk hr7 dk
                go_wp2
                go_roundw
                case rel => exact ⟨t + 1, by omega, congrArg (Value.int .i64) (by have := Hk.out; omega), congrArg (Value.int .i64) (by rw [HE.out, HH.out]; omega), hown, hbel2⟩
                case measure => have := Hk.out; simp [intOf] <;> omega
              · obtain rfl : t = 8 := by omega
                have dk2 : decide ((k : Int) < (i : Int) + 8) = false := decide_eq_false (by omega)
                have hx1 : x.toNat / 2 ^ (8 - 8) = x.toNat := by simp
                rw [hx1]
                clear hk hx1 dk
                go_wp2_with (at_builtin; refine wpList_app1 _ rfl _ _ rfl WA.heap.size _ _ _ rfl (by exact hown.alloc _) ⟨_, 0, none⟩ 1 x rfl ?c1 ?c2 ?c3 ?_)
                case c1 => exact one_new _ _ _ _ rfl
                case c2 => omega
                case c3 => simp; omega
                intro v' w2 hown' hgrow
                have hb1 : Below WA.heap.size WA w2 := by
                  refine Below.grown ?_ hgrow ?_ (fun g hg => (hown.lt g hg).1)
                  · exact hbel2.alloc hsw2 _
                  · simp; omega
                clear hgrow
                go_wp2
                go_roundw
                case rel => (repeat apply Exists.intro); exact ⟨⟨j + 1, by omega, congrArg (Value.int .i64) (by have := Hi.out; omega), by rw [HTk.out]; exact hown', hb1⟩, rfl⟩
                case measure => simp [intOf] <;> omega
          · obtain rfl : j = nl := by omega
            have dk : decide ((i : Int) + 8 ≤ (nb : Int)) = false := decide_eq_false (by have := Hbl2.out; omega)
            rw [List.take_of_length_le (by rw [Hnl.out]; exact Nat.le_refl _)] at hown
            obtain ⟨A3, c3, rfl, h31, h32, s3⟩ := hown.shows
            have hb3 := Below.on hb0 hb0.size hbel2
            obtain ⟨WB, hWB⟩ : ∃ WB, WB = wr := ⟨_, rfl⟩
            subst hWB
            have hF0 : Own WB w.heap.size (.slice A3 j c3) j L := hown.base hb0.size
            have HF5 : ∀ W', Below WB.heap.size WB W' → Own W' w.heap.size (.slice A3 j c3) j L := fun W' hb => own_on hF0 hb
            have sB := s2.below hbel2
            have hHF := Lib.hid HF5
            clear hown hi hF0 HF5
            go_wp2
            go_loopw [13] (fun y wr'' => ∃ t : Nat, t ≤ nr ∧ y = .int .i64 ((i + t : Nat) : Int) ∧ (∀ q, q < t → left[q]? = some 0) ∧ Below WB.heap.size WB wr'') (fun y _ => i + 8 - (intOf y).toNat)
            case atStart => exact ⟨0, Nat.zero_le _, congrArg (Value.int .i64) (by have := Hi.out; omega), fun q hq => absurd hq (by omega), Below.refl _ _⟩
            case round =>
              obtain ⟨t, ht, rfl, hzs, hbel5⟩ := hrel
              obtain ⟨k, hk⟩ : ∃ k, k = i + t := ⟨_, rfl⟩
              rw [← hk]
              have Hk := Lib.hid hk
              have Hzs := Lib.hid hzs
              clear hzs
              by_cases htr : t < nr
              · have hkn : k < nb := by have := Hbl2.out; have := Hi.out; omega
                have dk5 : decide ((k : Int) < (nb : Int)) = true := decide_eq_true (by omega)
                obtain ⟨b, off, y, rfl, hb, hc, hy⟩ := ((sB.up hbel2.size).below hbel5).elem (k := k) hkn
                have hly : left[t]? = some y := by
                  rw [HL2.out, List.getElem?_append_right (by rw [bits_len, Hnl.out]; have := Hi.out; omega)] at hy
                  rw [← hy]
                  congr 1
                  rw [bits_len, Hnl.out]
                  have := Hi.out
                  omega
                unfold iv at hc
                have Hly := Lib.hid hly
                by_cases hy0 : y = 0
                · subst hy0
                  clear hy hly hk
                  go_wp2
                  go_roundw
                  case rel => exact ⟨t + 1, by omega, congrArg (Value.int .i64) (by have := Hk.out; omega), (fun q hq => by
                    by_cases e : q = t
                    · rw [e]; exact Hly.out
                    · exact Hzs.out q (by omega)), hbel5⟩
                  case measure => have := Hk.out; simp [intOf] <;> omega
                · have hne : ((y : Int) != 0) = true := by simp [hy0]
                  have HZ := Lib.hid (show z ≠ 0 from fun e => hy0 ((Hz.out.1 e) y (List.mem_of_getElem? hly)))
                  clear hy hly hk
                  go_wp2
                  go_ret2
                  exact ⟨fun e => absurd e HZ.out, fun _ => rfl, Below.on hb3 hb3.size hbel5⟩
              · obtain rfl : t = nr := by omega
                have hkn : ¬ k < nb := by have := Hbl2.out; have := Hi.out; omega
                have HZ := Lib.hid (show z = 0 from Hz.out.2 (fun x hx => by
                  obtain ⟨q, hq, rfl⟩ := List.getElem_of_mem hx
                  have := Hzs.out q (by rw [← Hnr.out]; exact hq)
                  rw [List.getElem?_eq_getElem hq] at this
                  exact Option.some.inj this))
                clear hk
                go_wp2
                go_ret2
                exact ⟨fun _ => ⟨_, rfl, by rw [Hnl.out]; exact hHF.out _ hbel5⟩, fun e => absurd HZ.out e, Below.on hb3 hb3.size hbel5⟩
  · have a1 := HatS.out (M + 1) 61 h3
    have a2 := HatS.out M x h5
    have e1 : ((x.toNat : Int) == 61) = false := byte_ne4 h5n
    obtain rfl : N = M + 2 := by omega
    have d1 : (((M : Int) + 2) % 4 != 0) = false := by rw [bne_eq_false_iff_eq]; omega
    clear d0
    obtain rfl : m = M + 1 := h2
    unfold sv
    generalize ByteArray.mk ⟨S⟩ = s at *
    clear h1 h3 h5 hS h4 hN hmN
    go_enter Try.func59, Try.ntmps59
    go_wp2
    have Hbl := Lib.hid hbl
    go_loopw [5, 6] (fun v i wr => ∃ k : Nat, k ≤ M + 1 ∧ i = .int .i64 k ∧ OwnI wr w.heap.size v (6 * k) ((vs.take k).flatMap six) ∧ Below w.heap.size w wr) (fun _ i _ => 200000 - (intOf i).toNat)
    case atStart => exact ⟨0, Nat.zero_le _, rfl, World.ownsRow_nil _ _ _ _, Below.refl _ _⟩
    case round =>
      obtain ⟨k, hk, rfl, hown, hbel⟩ := hrel
      have hsw := hbel.size
      by_cases hlt : k < M + 1
      · have hvk := List.getElem?_eq_getElem (l := vs) (i := k) (by rw [Hm.out]; exact hlt)
        have HS := Lib.hid (show (vs.take (k + 1)).flatMap six = (vs.take k).flatMap six ++ six (vs[k]'(by rw [Hm.out]; exact hlt)) by rw [List.take_succ_eq_append_getElem (by rw [Hm.out]; exact hlt), List.flatMap_append]; simp)
        generalize vs[k]'(by rw [Hm.out]; exact hlt) = v at *
        have ha := Hat.out k _ hvk
        have hv := H64.out k _ hvk
        have HG := Lib.hid (fun W => value_good v hv W)
        have dk : decide ((k : Int) < (M : Int) + 1) = true := decide_eq_true (by omega)
        have dv : decide ((v : Int) < 0) = false := decide_eq_false (by omega)
        generalize (vs.take k).flatMap six = B at *
        clear hvk hbl
        go_wp2_with fail
        refine (HG.out _).mono ?_; rintro e w1 ⟨rfl, rfl⟩
        go_wp2
        go_loopw [5, 8] (fun u d wr => ∃ t : Nat, t ≤ 6 ∧ d = .int .i64 ((32 / 2 ^ t : Nat) : Int) ∧ OwnI wr w.heap.size u (6 * k + t) (B ++ (six v).take t) ∧ Below w.heap.size w wr) (fun _ d _ => (intOf d).toNat)
        case atStart => exact ⟨0, by omega, rfl, by simpa using hown, hbel⟩
        case round =>
          clear hown hbel hsw
          obtain ⟨t, ht, rfl, hown, hbel⟩ := hrel
          have hsw := hbel.size
          by_cases ht6 : t < 6
          · have HT := Lib.hid (six_take v t ht6)
            obtain ⟨d, hd⟩ : ∃ d, d = 32 / 2 ^ t := ⟨_, rfl⟩
            have hd2 : 32 / 2 ^ (t + 1) = d / 2 ∧ 1 ≤ d ∧ d ≤ 32 := by
              have hc : t = 0 ∨ t = 1 ∨ t = 2 ∨ t = 3 ∨ t = 4 ∨ t = 5 := by omega
              rcases hc with rfl | rfl | rfl | rfl | rfl | rfl <;> (rw [hd]; decide)
            rw [← hd] at HT ⊢
            have HD := Lib.hid hd2.1
            have hd1 := hd2.2.1
            have hd3 := hd2.2.2
            have dd : decide ((0 : Int) < (d : Int)) = true := decide_eq_true (by omega)
            have hdz : ((d : Int) == 0) = false := by rw [beq_eq_false_iff_ne]; omega
            clear hd hd2
            generalize (six v).take t = T at *
            go_wp2_with (at_builtin; refine wpList_appi _ rfl _ _ rfl w.heap.size _ _ _ rfl (by exact hown.alloc _) ⟨wr.heap.size, 0, none⟩ 1 (v / d % 2) rfl ?c1 ?c2 ?c3 ?_)
            case c1 => exact (one_new _ _ _ _ rfl).trans (congrArg (fun i => some (Value.int .i64 i)) (vd_num v d hv))
            case c2 => omega
            case c3 => simp; omega
            intro v' w2 hown' hgrow
            have hb1 : Below w.heap.size w w2 := by
              refine Below.grown ?_ hgrow ?_ (fun g hg => (hown.lt g hg).1)
              · exact hbel.alloc (by omega) _
              · simp; omega
            clear hgrow
            have hown2 : OwnI w2 w.heap.size v' (6 * k + (t + 1)) (B ++ (T ++ [v / d % 2])) := hown'
            clear hown'
            go_wp2
            go_roundw
            case rel => exact ⟨t + 1, by omega, congrArg (Value.int .i64) (by rw [HD.out]; go_num), by rw [HT.out]; exact hown2, hb1⟩
            case measure => simp [intOf] <;> omega
          · obtain rfl : t = 6 := by omega
            have hown2 : OwnI wr w.heap.size _ (6 * (k + 1)) (B ++ six v) := hown
            clear hown
            go_wp2
            go_roundw
            case rel => exact ⟨k + 1, by omega, by go_num, by rw [HS.out]; exact hown2, hbel⟩
            case measure => simp [intOf] <;> omega
      · obtain rfl : k = M + 1 := by omega
        rw [List.take_of_length_le (by rw [Hm.out]; exact Nat.le_refl _), HB.out] at hown
        obtain ⟨A2, c2, rfl, h21, h22, s2⟩ := hown.sh
        have dk : decide (((M : Int) + 1 : Int) < (M : Int) + 1) = false := decide_eq_false (by omega)
        obtain ⟨nb, hnb⟩ : ∃ nb, nb = 6 * (M + 1) := ⟨_, rfl⟩
        rw [← hnb] at s2 h21 hbl ⊢
        have Hnb := Lib.hid hnb
        have hnb2 : nb ≤ 1000000 := by omega
        have Hbl2 := Lib.hid hbl
        have hnl2 : nl ≤ 1000000 := by omega
        obtain ⟨B, hBB⟩ : ∃ B, B = L.flatMap bits8 ++ left := ⟨_, rfl⟩
        have HL2 := Lib.hid hBB
        rw [← hBB] at s2 hown
        have HBat2 := Lib.hid (show ∀ j t x, L[j]? = some x → t < 8 → B[8 * j + t]? = some (x.toNat / 2 ^ (7 - t) % 2) by rw [hBB]; exact HBat.out)
        clear hBB
        obtain ⟨WA, hWA⟩ : ∃ WA, WA = wr := ⟨_, rfl⟩
        subst hWA
        have hb0 := hbel
        clear hown hnb hbl hk hlt
        go_wp2
        go_loopw [9, 10] (fun v i wr' => ∃ j : Nat, j ≤ nl ∧ i = .int .i64 ((8 * j : Nat) : Int) ∧ Own wr' WA.heap.size v j (L.take j) ∧ Below WA.heap.size WA wr') (fun _ i _ => 2000000 - (intOf i).toNat)
        case atStart => exact ⟨0, Nat.zero_le _, rfl, World.ownsRow_nil _ _ _ _, Below.refl _ _⟩
        case round =>
          obtain ⟨j, hj, rfl, hown, hbel2⟩ := hrel
          have hsw2 := hbel2.size
          obtain ⟨i, hi⟩ : ∃ i, i = 8 * j := ⟨_, rfl⟩
          rw [← hi]
          have Hi := Lib.hid hi
          have hi2 : i ≤ 1000000 := by have := Hbl2.out; omega
          by_cases hlt : j < nl
          · have dk : decide ((i : Int) + 8 ≤ (nb : Int)) = true := decide_eq_true (by have := Hbl2.out; omega)
            have hxj := List.getElem?_eq_getElem (l := L) (i := j) (by rw [Hnl.out]; exact hlt)
            generalize L[j]'(by rw [Hnl.out]; exact hlt) = x at *
            have HX := Lib.hid hxj
            have HTk := Lib.hid (take_next L j x hxj)
            have hxl := x.toNat_lt
            clear hi hxj
            go_wp2
            go_loopw [11, 12] (fun y k wr'' => ∃ t : Nat, t ≤ 8 ∧ k = .int .i64 ((i + t : Nat) : Int) ∧ y = .int .i64 ((x.toNat / 2 ^ (8 - t) : Nat) : Int) ∧ Own wr'' WA.heap.size u9 j (L.take j) ∧ Below WA.heap.size WA wr'') (fun _ k _ => i + 8 - (intOf k).toNat)
            case atStart => exact ⟨0, by omega, rfl, by rw [Nat.div_eq_of_lt (by omega)]; rfl, hown, hbel2⟩
            case round =>
              clear hown hbel2 hsw2
              obtain ⟨t, ht, rfl, rfl, hown, hbel2⟩ := hrel
              have hsw2 := hbel2.size
              obtain ⟨k, hk⟩ : ∃ k, k = i + t := ⟨_, rfl⟩
              rw [← hk]
              have Hk := Lib.hid hk
              by_cases ht8 : t < 8
              · have dk2 : decide ((k : Int) < (i : Int) + 8) = true := decide_eq_true (by omega)
                have hkn : k < nb := by have := Hbl2.out; have := Hi.out; omega
                obtain ⟨b, off, y, rfl, hb, hc, hy⟩ := (s2.below hbel2).elem (k := k) hkn
                have hy2 := HBat2.out j t x HX.out ht8
                rw [← Hi.out, ← hk, hy] at hy2
                obtain rfl : y = x.toNat / 2 ^ (7 - t) % 2 := by injection hy2
                have HH := Lib.hid (half x.toNat t ht8)
                have HE := Lib.hid (show 8 - (t + 1) = 7 - t by omega)
                have hq1 : x.toNat / 2 ^ (8 - t) ≤ x.toNat := Nat.div_le_self _ _
                have hq2 : x.toNat / 2 ^ (7 - t) % 2 ≤ 1 := by omega
                generalize x.toNat / 2 ^ (8 - t) = q at *
                generalize hr7 : x.toNat / 2 ^ (7 - t) % 2 = r7 at *
                have Hr7 := Lib.hid hr7
                unfold iv at hc
                clear hy hy2 hk hr7 dk
                go_wp2
                go_roundw
                case rel => exact ⟨t + 1, by omega, congrArg (Value.int .i64) (by have := Hk.out; omega), congrArg (Value.int .i64) (by rw [HE.out, HH.out]; omega), hown, hbel2⟩
                case measure => have := Hk.out; simp [intOf] <;> omega
              · obtain rfl : t = 8 := by omega
                have dk2 : decide ((k : Int) < (i : Int) + 8) = false := decide_eq_false (by omega)
                have hx1 : x.toNat / 2 ^ (8 - 8) = x.toNat := by simp
                rw [hx1]
                clear hk hx1 dk
                go_wp2_with (at_builtin; refine wpList_app1 _ rfl _ _ rfl WA.heap.size _ _ _ rfl (by exact hown.alloc _) ⟨_, 0, none⟩ 1 x rfl ?c1 ?c2 ?c3 ?_)
                case c1 => exact one_new _ _ _ _ rfl
                case c2 => omega
                case c3 => simp; omega
                intro v' w2 hown' hgrow
                have hb1 : Below WA.heap.size WA w2 := by
                  refine Below.grown ?_ hgrow ?_ (fun g hg => (hown.lt g hg).1)
                  · exact hbel2.alloc hsw2 _
                  · simp; omega
                clear hgrow
                go_wp2
                go_roundw
                case rel => (repeat apply Exists.intro); exact ⟨⟨j + 1, by omega, congrArg (Value.int .i64) (by have := Hi.out; omega), by rw [HTk.out]; exact hown', hb1⟩, rfl⟩
                case measure => simp [intOf] <;> omega
          · obtain rfl : j = nl := by omega
            have dk : decide ((i : Int) + 8 ≤ (nb : Int)) = false := decide_eq_false (by have := Hbl2.out; omega)
            rw [List.take_of_length_le (by rw [Hnl.out]; exact Nat.le_refl _)] at hown
            obtain ⟨A3, c3, rfl, h31, h32, s3⟩ := hown.shows
            have hb3 := Below.on hb0 hb0.size hbel2
            obtain ⟨WB, hWB⟩ : ∃ WB, WB = wr := ⟨_, rfl⟩
            subst hWB
            have hF0 : Own WB w.heap.size (.slice A3 j c3) j L := hown.base hb0.size
            have HF5 : ∀ W', Below WB.heap.size WB W' → Own W' w.heap.size (.slice A3 j c3) j L := fun W' hb => own_on hF0 hb
            have sB := s2.below hbel2
            have hHF := Lib.hid HF5
            clear hown hi hF0 HF5
            go_wp2
            go_loopw [13] (fun y wr'' => ∃ t : Nat, t ≤ nr ∧ y = .int .i64 ((i + t : Nat) : Int) ∧ (∀ q, q < t → left[q]? = some 0) ∧ Below WB.heap.size WB wr'') (fun y _ => i + 8 - (intOf y).toNat)
            case atStart => exact ⟨0, Nat.zero_le _, congrArg (Value.int .i64) (by have := Hi.out; omega), fun q hq => absurd hq (by omega), Below.refl _ _⟩
            case round =>
              obtain ⟨t, ht, rfl, hzs, hbel5⟩ := hrel
              obtain ⟨k, hk⟩ : ∃ k, k = i + t := ⟨_, rfl⟩
              rw [← hk]
              have Hk := Lib.hid hk
              have Hzs := Lib.hid hzs
              clear hzs
              by_cases htr : t < nr
              · have hkn : k < nb := by have := Hbl2.out; have := Hi.out; omega
                have dk5 : decide ((k : Int) < (nb : Int)) = true := decide_eq_true (by omega)
                obtain ⟨b, off, y, rfl, hb, hc, hy⟩ := ((sB.up hbel2.size).below hbel5).elem (k := k) hkn
                have hly : left[t]? = some y := by
                  rw [HL2.out, List.getElem?_append_right (by rw [bits_len, Hnl.out]; have := Hi.out; omega)] at hy
                  rw [← hy]
                  congr 1
                  rw [bits_len, Hnl.out]
                  have := Hi.out
                  omega
                unfold iv at hc
                have Hly := Lib.hid hly
                by_cases hy0 : y = 0
                · subst hy0
                  clear hy hly hk
                  go_wp2
                  go_roundw
                  case rel => exact ⟨t + 1, by omega, congrArg (Value.int .i64) (by have := Hk.out; omega), (fun q hq => by
                    by_cases e : q = t
                    · rw [e]; exact Hly.out
                    · exact Hzs.out q (by omega)), hbel5⟩
                  case measure => have := Hk.out; simp [intOf] <;> omega
                · have hne : ((y : Int) != 0) = true := by simp [hy0]
                  have HZ := Lib.hid (show z ≠ 0 from fun e => hy0 ((Hz.out.1 e) y (List.mem_of_getElem? hly)))
                  clear hy hly hk
                  go_wp2
                  go_ret2
                  exact ⟨fun e => absurd e HZ.out, fun _ => rfl, Below.on hb3 hb3.size hbel5⟩
              · obtain rfl : t = nr := by omega
                have hkn : ¬ k < nb := by have := Hbl2.out; have := Hi.out; omega
                have HZ := Lib.hid (show z = 0 from Hz.out.2 (fun x hx => by
                  obtain ⟨q, hq, rfl⟩ := List.getElem_of_mem hx
                  have := Hzs.out q (by rw [← Hnr.out]; exact hq)
                  rw [List.getElem?_eq_getElem hq] at this
                  exact Option.some.inj this))
                clear hk
                go_wp2
                go_ret2
                exact ⟨fun _ => ⟨_, rfl, by rw [Hnl.out]; exact hHF.out _ hbel5⟩, fun e => absurd HZ.out e, Below.on hb3 hb3.size hbel5⟩
  · by_cases hM0 : M = 0
    · exfalso; omega
    obtain ⟨M0, rfl⟩ : ∃ M0, M = M0 + 1 := ⟨M - 1, by omega⟩
    have a1 := HatS.out (M0 + 1 + 1) 61 h3
    have a2 := HatS.out (M0 + 1) 61 h5
    obtain rfl : N = M0 + 3 := by omega
    have d1 : (((M0 : Int) + 3) % 4 != 0) = false := by rw [bne_eq_false_iff_eq]; omega
    clear d0
    obtain rfl : m = M0 + 1 := h2
    unfold sv
    generalize ByteArray.mk ⟨S⟩ = s at *
    clear h1 h3 h5 hS h4 hN hmN hM0
    generalize M0 = M at *
    go_enter Try.func59, Try.ntmps59
    go_wp2
    have Hbl := Lib.hid hbl
    go_loopw [5, 6] (fun v i wr => ∃ k : Nat, k ≤ M + 1 ∧ i = .int .i64 k ∧ OwnI wr w.heap.size v (6 * k) ((vs.take k).flatMap six) ∧ Below w.heap.size w wr) (fun _ i _ => 200000 - (intOf i).toNat)
    case atStart => exact ⟨0, Nat.zero_le _, rfl, World.ownsRow_nil _ _ _ _, Below.refl _ _⟩
    case round =>
      obtain ⟨k, hk, rfl, hown, hbel⟩ := hrel
      have hsw := hbel.size
      by_cases hlt : k < M + 1
      · have hvk := List.getElem?_eq_getElem (l := vs) (i := k) (by rw [Hm.out]; exact hlt)
        have HS := Lib.hid (show (vs.take (k + 1)).flatMap six = (vs.take k).flatMap six ++ six (vs[k]'(by rw [Hm.out]; exact hlt)) by rw [List.take_succ_eq_append_getElem (by rw [Hm.out]; exact hlt), List.flatMap_append]; simp)
        generalize vs[k]'(by rw [Hm.out]; exact hlt) = v at *
        have ha := Hat.out k _ hvk
        have hv := H64.out k _ hvk
        have HG := Lib.hid (fun W => value_good v hv W)
        have dk : decide ((k : Int) < (M : Int) + 1) = true := decide_eq_true (by omega)
        have dv : decide ((v : Int) < 0) = false := decide_eq_false (by omega)
        generalize (vs.take k).flatMap six = B at *
        clear hvk hbl
        go_wp2_with fail
        refine (HG.out _).mono ?_; rintro e w1 ⟨rfl, rfl⟩
        go_wp2
        go_loopw [5, 8] (fun u d wr => ∃ t : Nat, t ≤ 6 ∧ d = .int .i64 ((32 / 2 ^ t : Nat) : Int) ∧ OwnI wr w.heap.size u (6 * k + t) (B ++ (six v).take t) ∧ Below w.heap.size w wr) (fun _ d _ => (intOf d).toNat)
        case atStart => exact ⟨0, by omega, rfl, by simpa using hown, hbel⟩
        case round =>
          clear hown hbel hsw
          obtain ⟨t, ht, rfl, hown, hbel⟩ := hrel
          have hsw := hbel.size
          by_cases ht6 : t < 6
          · have HT := Lib.hid (six_take v t ht6)
            obtain ⟨d, hd⟩ : ∃ d, d = 32 / 2 ^ t := ⟨_, rfl⟩
            have hd2 : 32 / 2 ^ (t + 1) = d / 2 ∧ 1 ≤ d ∧ d ≤ 32 := by
              have hc : t = 0 ∨ t = 1 ∨ t = 2 ∨ t = 3 ∨ t = 4 ∨ t = 5 := by omega
              rcases hc with rfl | rfl | rfl | rfl | rfl | rfl <;> (rw [hd]; decide)
            rw [← hd] at HT ⊢
            have HD := Lib.hid hd2.1
            have hd1 := hd2.2.1
            have hd3 := hd2.2.2
            have dd : decide ((0 : Int) < (d : Int)) = true := decide_eq_true (by omega)
            have hdz : ((d : Int) == 0) = false := by rw [beq_eq_false_iff_ne]; omega
            clear hd hd2
            generalize (six v).take t = T at *
            go_wp2_with (at_builtin; refine wpList_appi _ rfl _ _ rfl w.heap.size _ _ _ rfl (by exact hown.alloc _) ⟨wr.heap.size, 0, none⟩ 1 (v / d % 2) rfl ?c1 ?c2 ?c3 ?_)
            case c1 => exact (one_new _ _ _ _ rfl).trans (congrArg (fun i => some (Value.int .i64 i)) (vd_num v d hv))
            case c2 => omega
            case c3 => simp; omega
            intro v' w2 hown' hgrow
            have hb1 : Below w.heap.size w w2 := by
              refine Below.grown ?_ hgrow ?_ (fun g hg => (hown.lt g hg).1)
              · exact hbel.alloc (by omega) _
              · simp; omega
            clear hgrow
            have hown2 : OwnI w2 w.heap.size v' (6 * k + (t + 1)) (B ++ (T ++ [v / d % 2])) := hown'
            clear hown'
            go_wp2
            go_roundw
            case rel => exact ⟨t + 1, by omega, congrArg (Value.int .i64) (by rw [HD.out]; go_num), by rw [HT.out]; exact hown2, hb1⟩
            case measure => simp [intOf] <;> omega
          · obtain rfl : t = 6 := by omega
            have hown2 : OwnI wr w.heap.size _ (6 * (k + 1)) (B ++ six v) := hown
            clear hown
            go_wp2
            go_roundw
            case rel => exact ⟨k + 1, by omega, by go_num, by rw [HS.out]; exact hown2, hbel⟩
            case measure => simp [intOf] <;> omega
      · obtain rfl : k = M + 1 := by omega
        rw [List.take_of_length_le (by rw [Hm.out]; exact Nat.le_refl _), HB.out] at hown
        obtain ⟨A2, c2, rfl, h21, h22, s2⟩ := hown.sh
        have dk : decide (((M : Int) + 1 : Int) < (M : Int) + 1) = false := decide_eq_false (by omega)
        obtain ⟨nb, hnb⟩ : ∃ nb, nb = 6 * (M + 1) := ⟨_, rfl⟩
        rw [← hnb] at s2 h21 hbl ⊢
        have Hnb := Lib.hid hnb
        have hnb2 : nb ≤ 1000000 := by omega
        have Hbl2 := Lib.hid hbl
        have hnl2 : nl ≤ 1000000 := by omega
        obtain ⟨B, hBB⟩ : ∃ B, B = L.flatMap bits8 ++ left := ⟨_, rfl⟩
        have HL2 := Lib.hid hBB
        rw [← hBB] at s2 hown
        have HBat2 := Lib.hid (show ∀ j t x, L[j]? = some x → t < 8 → B[8 * j + t]? = some (x.toNat / 2 ^ (7 - t) % 2) by rw [hBB]; exact HBat.out)
        clear hBB
        obtain ⟨WA, hWA⟩ : ∃ WA, WA = wr := ⟨_, rfl⟩
        subst hWA
        have hb0 := hbel
        clear hown hnb hbl hk hlt
        go_wp2
        go_loopw [9, 10] (fun v i wr' => ∃ j : Nat, j ≤ nl ∧ i = .int .i64 ((8 * j : Nat) : Int) ∧ Own wr' WA.heap.size v j (L.take j) ∧ Below WA.heap.size WA wr') (fun _ i _ => 2000000 - (intOf i).toNat)
        case atStart => exact ⟨0, Nat.zero_le _, rfl, World.ownsRow_nil _ _ _ _, Below.refl _ _⟩
        case round =>
          obtain ⟨j, hj, rfl, hown, hbel2⟩ := hrel
          have hsw2 := hbel2.size
          obtain ⟨i, hi⟩ : ∃ i, i = 8 * j := ⟨_, rfl⟩
          rw [← hi]
          have Hi := Lib.hid hi
          have hi2 : i ≤ 1000000 := by have := Hbl2.out; omega
          by_cases hlt : j < nl
          · have dk : decide ((i : Int) + 8 ≤ (nb : Int)) = true := decide_eq_true (by have := Hbl2.out; omega)
            have hxj := List.getElem?_eq_getElem (l := L) (i := j) (by rw [Hnl.out]; exact hlt)
            generalize L[j]'(by rw [Hnl.out]; exact hlt) = x at *
            have HX := Lib.hid hxj
            have HTk := Lib.hid (take_next L j x hxj)
            have hxl := x.toNat_lt
            clear hi hxj
            go_wp2
            go_loopw [11, 12] (fun y k wr'' => ∃ t : Nat, t ≤ 8 ∧ k = .int .i64 ((i + t : Nat) : Int) ∧ y = .int .i64 ((x.toNat / 2 ^ (8 - t) : Nat) : Int) ∧ Own wr'' WA.heap.size u9 j (L.take j) ∧ Below WA.heap.size WA wr'') (fun _ k _ => i + 8 - (intOf k).toNat)
            case atStart => exact ⟨0, by omega, rfl, by rw [Nat.div_eq_of_lt (by omega)]; rfl, hown, hbel2⟩
            case round =>
              clear hown hbel2 hsw2
              obtain ⟨t, ht, rfl, rfl, hown, hbel2⟩ := hrel
              have hsw2 := hbel2.size
              obtain ⟨k, hk⟩ : ∃ k, k = i + t := ⟨_, rfl⟩
              rw [← hk]
              have Hk := Lib.hid hk
              by_cases ht8 : t < 8
              · have dk2 : decide ((k : Int) < (i : Int) + 8) = true := decide_eq_true (by omega)
                have hkn : k < nb := by have := Hbl2.out; have := Hi.out; omega
                obtain ⟨b, off, y, rfl, hb, hc, hy⟩ := (s2.below hbel2).elem (k := k) hkn
                have hy2 := HBat2.out j t x HX.out ht8
                rw [← Hi.out, ← hk, hy] at hy2
                obtain rfl : y = x.toNat / 2 ^ (7 - t) % 2 := by injection hy2
                have HH := Lib.hid (half x.toNat t ht8)
                have HE := Lib.hid (show 8 - (t + 1) = 7 - t by omega)
                have hq1 : x.toNat / 2 ^ (8 - t) ≤ x.toNat := Nat.div_le_self _ _
                have hq2 : x.toNat / 2 ^ (7 - t) % 2 ≤ 1 := by omega
                generalize x.toNat / 2 ^ (8 - t) = q at *
                generalize hr7 : x.toNat / 2 ^ (7 - t) % 2 = r7 at *
                have Hr7 := Lib.hid hr7
                unfold iv at hc
                clear hy hy2 hk hr7 dk
                go_wp2
                go_roundw
                case rel => exact ⟨t + 1, by omega, congrArg (Value.int .i64) (by have := Hk.out; omega), congrArg (Value.int .i64) (by rw [HE.out, HH.out]; omega), hown, hbel2⟩
                case measure => have := Hk.out; simp [intOf] <;> omega
              · obtain rfl : t = 8 := by omega
                have dk2 : decide ((k : Int) < (i : Int) + 8) = false := decide_eq_false (by omega)
                have hx1 : x.toNat / 2 ^ (8 - 8) = x.toNat := by simp
                rw [hx1]
                clear hk hx1 dk
                go_wp2_with (at_builtin; refine wpList_app1 _ rfl _ _ rfl WA.heap.size _ _ _ rfl (by exact hown.alloc _) ⟨_, 0, none⟩ 1 x rfl ?c1 ?c2 ?c3 ?_)
                case c1 => exact one_new _ _ _ _ rfl
                case c2 => omega
                case c3 => simp; omega
                intro v' w2 hown' hgrow
                have hb1 : Below WA.heap.size WA w2 := by
                  refine Below.grown ?_ hgrow ?_ (fun g hg => (hown.lt g hg).1)
                  · exact hbel2.alloc hsw2 _
                  · simp; omega
                clear hgrow
                go_wp2
                go_roundw
                case rel => (repeat apply Exists.intro); exact ⟨⟨j + 1, by omega, congrArg (Value.int .i64) (by have := Hi.out; omega), by rw [HTk.out]; exact hown', hb1⟩, rfl⟩
                case measure => simp [intOf] <;> omega
          · obtain rfl : j = nl := by omega
            have dk : decide ((i : Int) + 8 ≤ (nb : Int)) = false := decide_eq_false (by have := Hbl2.out; omega)
            rw [List.take_of_length_le (by rw [Hnl.out]; exact Nat.le_refl _)] at hown
            obtain ⟨A3, c3, rfl, h31, h32, s3⟩ := hown.shows
            have hb3 := Below.on hb0 hb0.size hbel2
            obtain ⟨WB, hWB⟩ : ∃ WB, WB = wr := ⟨_, rfl⟩
            subst hWB
            have hF0 : Own WB w.heap.size (.slice A3 j c3) j L := hown.base hb0.size
            have HF5 : ∀ W', Below WB.heap.size WB W' → Own W' w.heap.size (.slice A3 j c3) j L := fun W' hb => own_on hF0 hb
            have sB := s2.below hbel2
            have hHF := Lib.hid HF5
            clear hown hi hF0 HF5
            go_wp2
            go_loopw [13] (fun y wr'' => ∃ t : Nat, t ≤ nr ∧ y = .int .i64 ((i + t : Nat) : Int) ∧ (∀ q, q < t → left[q]? = some 0) ∧ Below WB.heap.size WB wr'') (fun y _ => i + 8 - (intOf y).toNat)
            case atStart => exact ⟨0, Nat.zero_le _, congrArg (Value.int .i64) (by have := Hi.out; omega), fun q hq => absurd hq (by omega), Below.refl _ _⟩
            case round =>
              obtain ⟨t, ht, rfl, hzs, hbel5⟩ := hrel
              obtain ⟨k, hk⟩ : ∃ k, k = i + t := ⟨_, rfl⟩
              rw [← hk]
              have Hk := Lib.hid hk
              have Hzs := Lib.hid hzs
              clear hzs
              by_cases htr : t < nr
              · have hkn : k < nb := by have := Hbl2.out; have := Hi.out; omega
                have dk5 : decide ((k : Int) < (nb : Int)) = true := decide_eq_true (by omega)
                obtain ⟨b, off, y, rfl, hb, hc, hy⟩ := ((sB.up hbel2.size).below hbel5).elem (k := k) hkn
                have hly : left[t]? = some y := by
                  rw [HL2.out, List.getElem?_append_right (by rw [bits_len, Hnl.out]; have := Hi.out; omega)] at hy
                  rw [← hy]
                  congr 1
                  rw [bits_len, Hnl.out]
                  have := Hi.out
                  omega
                unfold iv at hc
                have Hly := Lib.hid hly
                by_cases hy0 : y = 0
                · subst hy0
                  clear hy hly hk
                  go_wp2
                  go_roundw
                  case rel => exact ⟨t + 1, by omega, congrArg (Value.int .i64) (by have := Hk.out; omega), (fun q hq => by
                    by_cases e : q = t
                    · rw [e]; exact Hly.out
                    · exact Hzs.out q (by omega)), hbel5⟩
                  case measure => have := Hk.out; simp [intOf] <;> omega
                · have hne : ((y : Int) != 0) = true := by simp [hy0]
                  have HZ := Lib.hid (show z ≠ 0 from fun e => hy0 ((Hz.out.1 e) y (List.mem_of_getElem? hly)))
                  clear hy hly hk
                  go_wp2
                  go_ret2
                  exact ⟨fun e => absurd e HZ.out, fun _ => rfl, Below.on hb3 hb3.size hbel5⟩
              · obtain rfl : t = nr := by omega
                have hkn : ¬ k < nb := by have := Hbl2.out; have := Hi.out; omega
                have HZ := Lib.hid (show z = 0 from Hz.out.2 (fun x hx => by
                  obtain ⟨q, hq, rfl⟩ := List.getElem_of_mem hx
                  have := Hzs.out q (by rw [← Hnr.out]; exact hq)
                  rw [List.getElem?_eq_getElem hq] at this
                  exact Option.some.inj this))
                clear hk
                go_wp2
                go_ret2
                exact ⟨fun _ => ⟨_, rfl, by rw [Hnl.out]; exact hHF.out _ hbel5⟩, fun e => absurd HZ.out e, Below.on hb3 hb3.size hbel5⟩

end Go.Proofs.Ytfiagknmieegaaa.Six
