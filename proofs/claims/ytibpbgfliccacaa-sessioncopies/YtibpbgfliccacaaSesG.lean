
/- The walks of law30. -/
import Derived.Test.YtibpbgfliccacaaSesF
namespace Go.Proofs.Ytibpbgfliccacaa
open Go.RowKit
set_option linter.unusedSimpArgs false

theorem ShD.on {w w' : World} {B n : Nat} {A : Option Addr} {l : List (Bool × Nat)} (h : ShD w B A n l) (hb : Below B w w') : ShD w' B A n l :=
  ⟨h.1, fun hn => by
    obtain ⟨b, off, e, hlt, hc⟩ := h.2 hn
    exact ⟨b, off, e, hlt, fun j hj => ⟨(hb.cell (p := ⟨b, off + j * 2, none⟩) hlt).trans (hc j hj).1, (hb.cell (p := ⟨b, off + j * 2 + 1, none⟩) hlt).trans (hc j hj).2⟩⟩⟩

set_option maxRecDepth 100000 in
set_option maxHeartbeats 1000000 in
theorem walk_SessionPlays (a0 a1 : Int) (dA : Option Addr) (dn dc : Nat) (D : List (Bool × Nat)) (w : World) (w0 : (Lit.int .u64 a0).wf = true) (_ : (Lit.int .u32 a1).wf = true) (hc : dn ≤ dc ∧ dc ≤ maxLen) (hD : ShD w w.heap.size dA dn D) (hD64 : ∀ d ∈ D, d.2 < 18446744073709551616) :
    Calls Try.prog 10 #[.int .u64 a0, .int .u32 a1, .slice dA dn dc] w fun e w' => e = .returned (.bool true) ∧ Below w.heap.size w w' := by
  obtain ⟨h0, h1⟩ := bounds_u64 w0
  obtain ⟨nx, rfl⟩ := Int.eq_ofNat_of_zero_le h0
  have HN : Hid (nx < 18446744073709551616) := Lib.hid (by omega)
  have hm : dn ≤ 9223372036854775807 := by have := Nat.le_trans hc.1 hc.2; unfold maxLen at this; omega
  clear w0 h0 h1 hc
  by_cases hbig : 60 < dn
  · clear hD hD64
    go_enter Try.func10, Try.ntmps10
    go_wp2_with (go_at_call 28; refine (alive30 _).mono ?_; rintro e w' ⟨rfl, hb⟩)
    go_ret
    exact ⟨rfl, hb⟩
  have HNew := snew_any (keyN 3) rfl a1 9 nx w
  rw [av_key3] at HNew
  have HNew' := Lib.hid HNew
  have HD := Lib.hid hD
  have HD64 := Lib.hid hD64
  have hKS : (Try.prog.info? 54).map (·.size) = some (keyN 3 |>.map bv).toArray.size := by kernel_rfl
  have HKS := Lib.hid hKS
  clear HNew hD hD64 hKS
  go_enter Try.func10, Try.ntmps10
  go_wp2_with fail
  refine HNew'.out.mono ?_
  rintro e w1 ⟨g, rfl, hge, hS, b1⟩
  obtain ⟨c1, c2⟩ := ses_lo hS rfl
  have hkr := ses_key hS
  have HSes := Lib.hid hS
  have Hb1 := Lib.hid b1
  clear hS b1 HNew'
  go_wp2_with (first
  | (refine wpList_loadRange g rfl 54 (.tmp 38) ?ho 0 ?hx (keyN 3 |>.map bv).toArray _ ?hc Try.underlying54 rfl ?hi ?_
     case ho => with_reducible rfl
     case hx => rfl
     case hc => exact hkr
     case hi => exact HKS.out)
  | (refine wpList_neqArr (l := keyN 3) (l' := keyN 3) rfl 54 5 _ _ _ rfl _ rfl rfl rfl (keyN_len 3) (keyN_len 3) Try.underlying54 Try.underlying5 Try.sizeU8 Try.plainKey30 ?_)
  | (refine wpList_build rfl 58 ?fs ?ho (.agg (rsC preZ nx (.slice none 0 0))) ?hr ?_
     case ho => with_reducible rfl
     case hr => intro W; change _ = _; kernel_rfl))
  have hL0 : Sh6 w1 w1.heap.size none 0 [] := ⟨rfl, fun h => absurd h (by omega)⟩
  have HPl := Lib.hid (plays_any g _ preZ nx [] none 0 dA dn dc D w.heap.size w1 HSes.out rfl preZ_one HN.out hL0 (fun _ => rfl) (fun _ h => by cases h) (HD.out.on Hb1.out) hge HD64.out (by simp; omega))
  clear hL0 c1 c2 hkr
  refine HPl.out.mono ?_
  rintro e w2 ⟨nx2, L2, A2, c2, rfl, hn2, hS2, hL2, hA2, hA2g, hlen2, hg2⟩
  have b2 : Below w.heap.size w w2 := Below.grown Hb1.out hg2 Hb1.out.size (fun k hk => by injection hk with hk; omega)
  have HZ2 : Hid ((rsC preZ nx2 (.slice A2 L2.length c2)).size = 36) := Lib.hid (rsC_size _ _ _ rfl)
  have HO2 := Lib.hid (rsC_one preZ nx2 A2 L2.length c2 preZ_one)
  generalize rsC preZ nx2 (.slice A2 L2.length c2) = M2 at *
  have b3 := b2.alloc b2.size (.cells M2 58)
  have Hb3 := Lib.hid b3
  clear hS2 hL2 hA2 hA2g hlen2 hg2 b2 b3 HPl hn2
  have hz := (zero_of_info Try.zeroRs).1
  go_wp2_with (first
  | (refine wpList_allocStore (cs := M2) rfl rfl 58 ?ho (.tmp 8) (.tmp 49) ?ho2 Try.zeroRs ?hz ?hx ?hy ?hn ?h1 ?_
     case ho => with_reducible rfl
     case ho2 => rfl
     case hz => rfl
     case hx => rfl
     case hy => rfl
     case hn => exact HZ2.out
     case h1 => exact HO2.out)
  | (go_at_call 28; refine (alive30 _).mono ?_; rintro e w' ⟨rfl, hb⟩))
  go_ret
  exact ⟨rfl, Below.on Hb3.out Hb3.out.size hb⟩

set_option maxRecDepth 100000 in
set_option maxHeartbeats 1000000 in
theorem walk_SessionCopies (a0 : Int) (dA : Option Addr) (dn dc : Nat) (D : List (Bool × Nat)) (eA : Option Addr) (en ec : Nat) (E : List (Bool × Nat)) (w : World) (w0 : (Lit.int .u64 a0).wf = true) (hc : dn ≤ dc ∧ dc ≤ maxLen) (hD : ShD w w.heap.size dA dn D) (hD64 : ∀ d ∈ D, d.2 < 18446744073709551616)
    (hce : en ≤ ec ∧ ec ≤ maxLen) (hE : ShD w w.heap.size eA en E) (hE64 : ∀ d ∈ E, d.2 < 18446744073709551616) :
    Calls Try.prog 11 #[.int .u64 a0, .slice dA dn dc, .slice eA en ec] w fun e w' => e = .returned (.bool true) ∧ Below w.heap.size w w' := by
  obtain ⟨h0, h1⟩ := bounds_u64 w0
  obtain ⟨nx, rfl⟩ := Int.eq_ofNat_of_zero_le h0
  have HN : Hid (nx < 18446744073709551616) := Lib.hid (by omega)
  have hm : dn ≤ 9223372036854775807 := by have := Nat.le_trans hc.1 hc.2; unfold maxLen at this; omega
  have hme : en ≤ 9223372036854775807 := by have := Nat.le_trans hce.1 hce.2; unfold maxLen at this; omega
  clear w0 h0 h1 hc hce
  by_cases hbig : 60 < dn
  · clear hD hD64 hE hE64
    go_enter Try.func11, Try.ntmps11
    go_wp2_with (go_at_call 28; refine (alive30 _).mono ?_; rintro e w' ⟨rfl, hb⟩)
    go_ret
    exact ⟨rfl, hb⟩
  by_cases hbig2 : 60 < en
  · clear hD hD64 hE hE64
    go_enter Try.func11, Try.ntmps11
    go_wp2_with (go_at_call 28; refine (alive30 _).mono ?_; rintro e w' ⟨rfl, hb⟩)
    go_ret
    exact ⟨rfl, hb⟩
  have HNew := snew_any (keyN 3) rfl 1 9 nx w
  rw [av_key3] at HNew
  have HNew' := Lib.hid HNew
  have HD := Lib.hid hD
  have HD64 := Lib.hid hD64
  have HE := Lib.hid hE
  have HE64 := Lib.hid hE64
  have hKS : (Try.prog.info? 54).map (·.size) = some (keyN 3 |>.map bv).toArray.size := by kernel_rfl
  have HKS := Lib.hid hKS
  have hz := (zero_of_info Try.zeroRs).1
  clear HNew hD hD64 hKS hE hE64
  go_enter Try.func11, Try.ntmps11
  go_wp2_with fail
  refine HNew'.out.mono ?_
  rintro e w1 ⟨s, rfl, hge, hS, b1⟩
  have HSes := Lib.hid hS
  have Hb1 := Lib.hid b1
  clear hS b1 HNew'
  go_wp2_with (first
  | (refine wpList_build rfl 58 ?fs ?ho (.agg (rsC preZ nx (.slice none 0 0))) ?hr ?_
     case ho => with_reducible rfl
     case hr => intro W; change _ = _; kernel_rfl))
  have hL0 : Sh6 w1 w1.heap.size none 0 [] := ⟨rfl, fun h => absurd h (by omega)⟩
  have HPl := Lib.hid (plays_any s _ preZ nx [] none 0 dA dn dc D w.heap.size w1 HSes.out rfl preZ_one HN.out hL0 (fun _ => rfl) (fun _ h => by cases h) (HD.out.on Hb1.out) hge HD64.out (by simp; omega))
  clear hL0
  refine HPl.out.mono ?_
  rintro e w2 ⟨nx2, L2, A2, c2, rfl, hn2, hS2, hL2, hA2, hA2g, hlen2, hg2⟩
  have b2 : Below w.heap.size w w2 := Below.grown Hb1.out hg2 Hb1.out.size (fun k hk => by injection hk with hk; omega)
  have HZ2 : Hid ((rsC preZ nx2 (.slice A2 L2.length c2)).size = 36) := Lib.hid (rsC_size _ _ _ rfl)
  have HO2 := Lib.hid (rsC_one preZ nx2 A2 L2.length c2 preZ_one)
  have HI2 : Hid ((Try.prog.info? 58).map (·.size) = some (rsC preZ nx2 (.slice A2 L2.length c2)).size) := Lib.hid (by rw [HZ2.out]; kernel_rfl)
  have HP := Lib.hid (fun (g B : Nat) (W : World) (pre : List Value) (hs : Ses W g pre nx2 L2) (hL : Sh6 W W.heap.size A2 L2.length L2) (hAg : ∀ a, A2 = some a → a.block ≠ g ∧ a.block < W.heap.size) (hE : ShD W B eA en E) (hBg : B ≤ g) => plays_any g pre preZ nx2 L2 A2 c2 eA en ec E B W hs rfl preZ_one hn2 hL hA2 hAg hE hBg HE64.out (by simp at hlen2; omega))
  generalize rsC preZ nx2 (.slice A2 L2.length c2) = M2 at *
  have hlw := hS2.lt
  have a3 : Below w2.heap.size w2 (w2.alloc (.cells M2 58)) := (Below.refl _ _).alloc (Nat.le_refl _) _
  have b3 := b2.alloc b2.size (.cells M2 58)
  have s3 := hS2.on a3
  have l3 := sh6_gr hL2 (grownBy_of_below a3 none) (Nat.le_refl _) (fun _ _ e => by cases e)
  have m3 : Blk (w2.alloc (.cells M2 58)) w2.heap.size 58 M2 := blk_new _ _ _
  have HK3 := Lib.hid (And.intro b3 (And.intro s3 (And.intro l3 m3)))
  have HA2 := Lib.hid hA2g
  clear hS2 hL2 hA2 hA2g hlen2 hg2 b2 b3 HPl hn2 s3 l3 m3 a3
  go_wp2_with (first
  | (refine wpList_allocStore (cs := M2) rfl rfl 58 ?ho (.tmp 8) (.tmp 35) ?ho2 Try.zeroRs ?hz ?hx ?hy ?hn ?h1 ?_
     case ho => with_reducible rfl
     case ho2 => rfl
     case hz => rfl
     case hx => rfl
     case hy => rfl
     case hn => exact HZ2.out
     case h1 => exact HO2.out))
  have hw3 : w2.heap.size < (w2.alloc (.cells M2 58)).heap.size := by simp
  generalize w2.alloc (.cells M2 58) = w3 at *
  generalize hgm : w2.heap.size = gm at *
  clear hgm
  refine (copy_any s _ nx2 L2 w3 HK3.out.2.1 (preK_one _ _ _)).mono ?_
  rintro e w4 ⟨g, rfl, hge4, hS4, b4⟩
  obtain ⟨c1, c2'⟩ := ses_lo hS4 rfl
  have hkr := ses_key hS4
  have s4 := HK3.out.2.1.on b4
  have l4 := sh6_gr HK3.out.2.2.1 (grownBy_of_below b4 none) (Nat.le_refl _) (fun _ _ e => by cases e)
  have m4 := HK3.out.2.2.2.on b4
  have bb4 := Below.on HK3.out.1 HK3.out.1.size b4
  have HK4 := Lib.hid (And.intro bb4 (And.intro s4 (And.intro l4 (And.intro m4 hS4))))
  have hsz4 := b4.size
  clear s4 l4 bb4 hS4 b4
  go_wp2_with (first
  | (refine wpList_loadRange g rfl 54 (.tmp 55) ?ho 0 ?hx (keyN 3 |>.map bv).toArray _ ?hc Try.underlying54 rfl ?hi ?_
     case ho => with_reducible rfl
     case hx => rfl
     case hc => exact hkr
     case hi => exact HKS.out)
  | (refine wpList_neqArr (l := keyN 3) (l' := keyN 3) rfl 54 5 _ _ _ rfl _ rfl rfl rfl (keyN_len 3) (keyN_len 3) Try.underlying54 Try.underlying5 Try.sizeU8 Try.plainKey30 ?_)
  | (refine wpList_loadBlk (g := gm) (t := 58) (cs := M2) rfl 58 (.tmp 8) ?ho ?hx ?hA _ Try.underlying58 rfl ?hi ?_
     case ho => with_reducible rfl
     case hx => rfl
     case hA => exact m4
     case hi => exact HI2.out))
  have hgA : ∀ a, A2 = some a → a.block ≠ g ∧ a.block < w4.heap.size := fun a ha => by have := HA2.out a ha; omega
  refine (HP.out g w.heap.size w4 _ HK4.out.2.2.2.2 HK4.out.2.2.1 hgA (HE.out.on HK4.out.1) (by have := HK3.out.1.size; omega)).mono ?_
  rintro e w5 ⟨nx5, L5, A5, c5, rfl, _, hS5, _, _, _, _, hg5⟩
  have hws : w.heap.size ≤ g := by have := HK3.out.1.size; omega
  have b5 : Below w.heap.size w w5 := Below.grown HK4.out.1 hg5 HK4.out.1.size (fun k hk => by injection hk with hk; omega)
  have s5 := HK4.out.2.1.gr hg5 (fun e => by injection e with e; omega)
  have l5 := sh6_gr HK4.out.2.2.1 hg5 (Nat.le_refl _) (fun a ha e => by injection e with e; exact (hgA a ha).1 e.symm)
  have m5 := blk_gr m4 hg5 (fun e => by injection e with e; omega)
  have hsz5 := hg5.size
  have HM5 : Hid ((rsC preZ nx5 (.slice A5 L5.length c5)).size = 36) := Lib.hid (rsC_size _ _ _ rfl)
  have HO5 := Lib.hid (rsC_one preZ nx5 A5 L5.length c5 preZ_one)
  generalize rsC preZ nx5 (.slice A5 L5.length c5) = M5 at *
  have a6 : Below w5.heap.size w5 (w5.alloc (.cells M5 58)) := (Below.refl _ _).alloc (Nat.le_refl _) _
  have HK6 := Lib.hid (And.intro (b5.alloc b5.size (.cells M5 58)) (And.intro (s5.on a6) (sh6_gr l5 (grownBy_of_below a6 none) (Nat.le_refl _) (fun _ _ e => by cases e))))
  have m6 := m5.on a6
  clear hS5 hg5 b5 s5 l5 m5 a6 c1 c2' hkr
  go_wp2_with (first
  | (refine wpList_allocStore (cs := M5) rfl rfl 58 ?ho (.tmp 11) (.tmp 65) ?ho2 Try.zeroRs ?hz ?hx ?hy ?hn ?h1 ?_
     case ho => with_reducible rfl
     case ho2 => rfl
     case hz => rfl
     case hx => rfl
     case hy => rfl
     case hn => exact HM5.out
     case h1 => exact HO5.out)
  | (refine wpList_loadBlk (g := gm) (t := 58) (cs := M2) rfl 58 (.tmp 8) ?ho ?hx ?hA _ Try.underlying58 rfl ?hi ?_
     case ho => with_reducible rfl
     case hx => rfl
     case hA => exact m6
     case hi => exact HI2.out))
  have hw6 : w5.heap.size < (w5.alloc (.cells M5 58)).heap.size := by simp
  generalize w5.alloc (.cells M5 58) = w6 at *
  refine (HP.out s w.heap.size w6 _ HK6.out.2.1 HK6.out.2.2 (fun a ha => by have := HA2.out a ha; omega) (HE.out.on HK6.out.1) hge).mono ?_
  rintro e w7 ⟨nx7, L7, A7, c7, rfl, _, _, _, _, _, _, hg7⟩
  have b7 : Below w.heap.size w w7 := Below.grown HK6.out.1 hg7 HK6.out.1.size (fun k hk => by injection hk with hk; omega)
  have HM7 : Hid ((rsC preZ nx7 (.slice A7 L7.length c7)).size = 36) := Lib.hid (rsC_size _ _ _ rfl)
  have HO7 := Lib.hid (rsC_one preZ nx7 A7 L7.length c7 preZ_one)
  generalize rsC preZ nx7 (.slice A7 L7.length c7) = M7 at *
  have Hb8 := Lib.hid (b7.alloc b7.size (.cells M7 58))
  clear b7 hg7
  go_wp2_with (first
  | (refine wpList_allocStore (cs := M7) rfl rfl 58 ?ho (.tmp 13) (.tmp 72) ?ho2 Try.zeroRs ?hz ?hx ?hy ?hn ?h1 ?_
     case ho => with_reducible rfl
     case ho2 => rfl
     case hz => rfl
     case hx => rfl
     case hy => rfl
     case hn => exact HM7.out
     case h1 => exact HO7.out)
  | (go_at_call 28; refine (alive30 _).mono ?_; rintro e w' ⟨rfl, hb⟩))
  go_ret
  exact ⟨rfl, Below.on Hb8.out Hb8.out.size hb⟩

theorem ses_zero (w : World) : Ses (w.alloc (.cells zSes 56)) w.heap.size preZ 0 [] := ⟨rfl, _, rings_nil, blk_new w _ _, rfl⟩

set_option maxRecDepth 100000 in
set_option maxHeartbeats 1000000 in
theorem walk_SessionNobody (dA : Option Addr) (dn dc : Nat) (D : List (Bool × Nat)) (a1 : Int) (w : World) (hc : dn ≤ dc ∧ dc ≤ maxLen) (hD : ShD w w.heap.size dA dn D) (hD64 : ∀ d ∈ D, d.2 < 18446744073709551616) (_ : (Lit.int .u64 a1).wf = true) :
    Calls Try.prog 12 #[.slice dA dn dc, .int .u64 a1] w fun e w' => e = .returned (.bool true) ∧ Below w.heap.size w w' := by
  have hm : dn ≤ 9223372036854775807 := by have := Nat.le_trans hc.1 hc.2; unfold maxLen at this; omega
  clear hc
  by_cases hbig : 60 < dn
  · clear hD hD64
    go_enter Try.func12, Try.ntmps12
    go_wp2_with (go_at_call 28; refine (alive30 _).mono ?_; rintro e w' ⟨rfl, hb⟩)
    go_ret
    exact ⟨rfl, hb⟩
  have HS0 := Lib.hid (ses_zero w)
  have Hb0 : Hid (Below w.heap.size w (w.alloc (.cells zSes 56))) := Lib.hid ((Below.refl _ _).alloc (Nat.le_refl _) _)
  have HD := Lib.hid hD
  have HD64 := Lib.hid hD64
  have hz := (zero_of_info Try.zeroRs).1
  have hzs := (zero_of_info Try.zeroSes).1
  have hnes : ¬ zSes = #[] := by unfold zSes; simp
  clear hD hD64
  go_enter Try.func12, Try.ntmps12
  go_wp2_with (first
  | (refine wpList_build rfl 58 ?fs ?ho (.agg (rsC preZ 0 (.slice none 0 0))) ?hr ?_
     case ho => with_reducible rfl
     case hr => intro W; change _ = _; kernel_rfl))
  generalize w.alloc (.cells zSes 56) = w1 at *
  have hL0 : Sh6 w1 w1.heap.size none 0 [] := ⟨rfl, fun h => absurd h (by omega)⟩
  have HPl := Lib.hid (plays_any w.heap.size _ preZ 0 [] none 0 dA dn dc D w.heap.size w1 HS0.out rfl preZ_one (by decide +kernel) hL0 (fun _ => rfl) (fun _ h => by cases h) (HD.out.on Hb0.out) (Nat.le_refl _) HD64.out (by simp; omega))
  clear hL0
  refine HPl.out.mono ?_
  rintro e w2 ⟨nx2, L2, A2, c2, rfl, hn2, hS2, hL2, hA2, hA2g, hlen2, hg2⟩
  have b2 : Below w.heap.size w w2 := Below.grown Hb0.out hg2 Hb0.out.size (fun k hk => by injection hk with hk; omega)
  have HZ2 : Hid ((rsC preZ nx2 (.slice A2 L2.length c2)).size = 36) := Lib.hid (rsC_size _ _ _ rfl)
  have HO2 := Lib.hid (rsC_one preZ nx2 A2 L2.length c2 preZ_one)
  generalize rsC preZ nx2 (.slice A2 L2.length c2) = M2 at *
  have Hb3 := Lib.hid (b2.alloc b2.size (.cells M2 58))
  clear hS2 hL2 hA2 hA2g hlen2 hg2 b2 HPl hn2
  go_wp2_with (first
  | (refine wpList_allocStore (cs := M2) rfl rfl 58 ?ho (.tmp 7) (.tmp 19) ?ho2 Try.zeroRs ?hz ?hx ?hy ?hn ?h1 ?_
     case ho => with_reducible rfl
     case ho2 => rfl
     case hz => rfl
     case hx => rfl
     case hy => rfl
     case hn => exact HZ2.out
     case h1 => exact HO2.out)
  | (go_at_call 32; (with_reducible refine (send_nil _).mono ?_); rintro e w' ⟨rfl, rfl⟩)
  | (go_at_call 33; (with_reducible refine (scan_nil _ _).mono ?_); rintro e w' ⟨rfl, rfl⟩)
  | (go_at_call 34; (with_reducible refine (stake_nil _ _).mono ?_); rintro e w' ⟨rfl, rfl⟩)
  | (go_at_call 35; (with_reducible refine (spent_nil _).mono ?_); rintro e w' ⟨rfl, rfl⟩)
  | (go_at_call 31; (with_reducible refine (copy_nil _).mono ?_); rintro e w' ⟨rfl, rfl⟩)
  | (go_at_call 28; refine (alive30 _).mono ?_; rintro e w' ⟨rfl, hb⟩))
  go_ret
  exact ⟨rfl, Below.on Hb3.out Hb3.out.size hb⟩

end Go.Proofs.Ytibpbgfliccacaa
