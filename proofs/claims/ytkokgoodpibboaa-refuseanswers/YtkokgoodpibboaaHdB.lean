
/- Contracts: ipfour.wrong, Parse; crawlwayref19.two. -/
import Derived.Test.YtkokgoodpibboaaHdA
namespace Go.Proofs.Ytkokgoodpibboaa
open Go.RowKit
set_option maxRecDepth 100000
set_option linter.unusedSimpArgs false
set_option linter.unusedVariables false

/-- What is wrong with a head. -/
def wE (V S T n : Nat) (l : List UInt8) : Nat := if V = 4 then (if S < 20 then 5 else if n < S then 3 else if T < S then 5 else if n < T then 3 else if osum (l.take S) = 65535 then 0 else 11) else 9
theorem wE_le (V S T n : Nat) (l : List UInt8) : wE V S T n l ≤ 11 := by unfold wE; (repeat' split) <;> omega

set_option maxHeartbeats 2000000 in
theorem wrong_any (V S T : Nat) (M : Array Value) (b off n c : Nat) (l : List UInt8) (w : World) (hn : n ≤ 1000000) (hc : n ≤ c) (hs : Shows w w.heap.size (some ⟨b, off, none⟩) n l)
    (m0 : M[0]? = some (.int .i64 (V : Int))) (m1 : M[1]? = some (.int .i64 (S : Int))) (m2 : M[2]? = some (.int .i64 (T : Int))) :
    Calls Try.prog 77 #[.agg M, .slice (some ⟨b, off, none⟩) n c] w fun e w' => e = .returned (.int .i64 (wE V S T n l : Int)) ∧ Below w.heap.size w w' := by
  have k0 : Blk (w.alloc (.cells M 42)) w.heap.size 42 M := blk_new _ _ _
  have hb0 : Below w.heap.size w (w.alloc (.cells M 42)) := (Below.refl _ _).alloc (Nat.le_refl _) _
  have c0 := (k0.cellA 0).trans m0
  have c1 := (k0.cellA 1).trans m1
  have c2 := (k0.cellA 2).trans m2
  have s0 := (hs.below hb0).up hb0.size
  have hsz : (w.alloc (.cells M 42)).heap.size = w.heap.size + 1 := by simp
  clear m0 m1 m2 k0 hs
  by_cases q0 : ¬ V = 4
  · have E : wE V S T n l = 9 := by simp [wE, q0]
    have d0 : decide ((V : Int) = 4) = false := decide_eq_false (by omega)
    have d0' : (((V : Int)) == 4) = false := by simp; omega
    go_enter Try.func77, Try.ntmps77
    go_wp2
    go_ret
    exact ⟨by rw [E]; rfl, hb0⟩
  have d0 : decide ((V : Int) = 4) = true := decide_eq_true (by omega)
  have d0' : (((V : Int)) == 4) = true := by simp; omega
  by_cases q1 : S < 20
  · have E : wE V S T n l = 5 := by simp [wE, q0, q1]
    have d1 : decide ((S : Int) < 20) = true := decide_eq_true (by omega)
    go_enter Try.func77, Try.ntmps77
    go_wp2
    go_ret
    exact ⟨by rw [E]; rfl, hb0⟩
  have d1 : decide ((S : Int) < 20) = false := decide_eq_false (by omega)
  by_cases q2 : n < S
  · have E : wE V S T n l = 3 := by simp [wE, q0, q1, q2]
    have d2 : decide ((n : Int) < (S : Int)) = true := decide_eq_true (by omega)
    go_enter Try.func77, Try.ntmps77
    go_wp2
    go_ret
    exact ⟨by rw [E]; rfl, hb0⟩
  have d2 : decide ((n : Int) < (S : Int)) = false := decide_eq_false (by omega)
  by_cases q3 : T < S
  · have E : wE V S T n l = 5 := by simp [wE, q0, q1, q2, q3]
    have d3 : decide ((T : Int) < (S : Int)) = true := decide_eq_true (by omega)
    go_enter Try.func77, Try.ntmps77
    go_wp2
    go_ret
    exact ⟨by rw [E]; rfl, hb0⟩
  have d3 : decide ((T : Int) < (S : Int)) = false := decide_eq_false (by omega)
  by_cases q4 : n < T
  · have E : wE V S T n l = 3 := by simp [wE, q0, q1, q2, q3, q4]
    have d4 : decide ((n : Int) < (T : Int)) = true := decide_eq_true (by omega)
    go_enter Try.func77, Try.ntmps77
    go_wp2
    go_ret
    exact ⟨by rw [E]; rfl, hb0⟩
  have d4 : decide ((n : Int) < (T : Int)) = false := decide_eq_false (by omega)
  have HG := Lib.hid (sum1_good (w.alloc (.cells M 42)) (w.heap.size + 1) hsz (some ⟨b, off, none⟩) S c (l.take S) (by omega) (by simpa using s0.piece 0 S (by omega)))
  have hb1 : Below w.heap.size w ((w.alloc (.cells M 42)).alloc (.cells #[.slice (some ⟨b, off, none⟩) S c] 43)) := hb0.alloc hb0.size _
  have hSc : (S : Int) ≤ (c : Int) := by omega
  by_cases q5 : osum (l.take S) = 65535
  · have E : wE V S T n l = 0 := by simp [wE, q0, q1, q2, q3, q4, q5]
    rw [decide_eq_true q5] at HG
    go_enter Try.func77, Try.ntmps77
    go_wp2_with fail
    refine HG.out.mono ?_
    rintro e w' ⟨rfl, rfl⟩
    go_wp2
    go_ret
    exact ⟨by rw [E]; rfl, hb1⟩
  · have E : wE V S T n l = 11 := by simp [wE, q0, q1, q2, q3, q4, q5]
    rw [decide_eq_false q5] at HG
    go_enter Try.func77, Try.ntmps77
    go_wp2_with fail
    refine HG.out.mono ?_
    rintro e w' ⟨rfl, rfl⟩
    go_wp2
    go_ret
    exact ⟨by rw [E]; rfl, hb1⟩

/-- Why bytes are no packet of family 4; their head. -/
def pE (l : List UInt8) : Nat := if l.length < 20 then 3 else wE (n1 l / 1152921504606846976) (n1 l / 72057594037927936 % 16 * 4) (n1 l / 4294967296 % 65536) l.length l
def pH (l : List UInt8) : Array Value := if pE l = 0 then hdL l else zH
theorem pE_le (l : List UInt8) : pE l ≤ 11 := by unfold pE; split; omega; exact wE_le _ _ _ _ _

theorem hdL_size (l : List UInt8) (h : 20 ≤ l.length) : (hdL l).size = 43 := by
  unfold hdL hdN
  exact hdv_size _ _ _ rfl (adv_size _ _ (by simp [srcL, zb]; omega)) (adv_size _ _ (by simp [dstL, zb]; omega))

set_option maxHeartbeats 2000000 in
theorem parse4_any (A : Option Addr) (n c : Nat) (l : List UInt8) (w : World) (hn : n ≤ 1000000) (hc : n ≤ c) (hcm : c ≤ maxLen) (hs : Shows w w.heap.size A n l) :
    Calls Try.prog 27 #[.slice A n c] w fun e w' => e = .returned (.tuple #[.agg (pH l), .int .i64 (pE l : Int)]) ∧ Below w.heap.size w w' := by
  have hz := (zero_of_info Try.zeroHead).1
  have hne : ¬ zH = #[] := by intro h; have := zH_size; rw [h] at this; cases this
  have zs : (Try.prog.info? 42).map (·.size) = some zH.size := by rw [zH_size]; exact Try.infoHead
  have k0 : Blk (w.alloc (.cells zH 42)) w.heap.size 42 zH := blk_new _ _ _
  have hb0 : Below w.heap.size w (w.alloc (.cells zH 42)) := (Below.refl _ _).alloc (Nat.le_refl _) _
  have hl := hs.len
  have s0 := (hs.below hb0).up hb0.size
  by_cases q : n < 20
  · have E : pE l = 3 := by unfold pE; rw [hl, if_pos q]
    have EH : pH l = zH := by unfold pH; rw [E]; rfl
    have d : decide ((n : Int) < 20) = true := decide_eq_true (by omega)
    go_enter Try.func27, Try.ntmps27
    go_wp2_with (first
      | (refine wpList_storeBlk (g := w.heap.size) (t := 42) (cs := zH) rfl 42 (.tmp 2) (.tmp 9) ?ho ?hx2 ?hy2 zH k0 ?hi ?hs ?h1 ?_
         case ho => with_reducible rfl
         case hx2 => rfl
         case hy2 => rfl
         case hi => exact zs
         case hs => rfl
         case h1 => exact zH_one
         intro w2 kb hg2
         have b2 : Below w.heap.size w w2 := hb0.grown hg2 hb0.size (fun k hk => by injection hk with hk; omega)
         clear k0 hb0 hg2 s0))
    refine bodyPost_blk2 rfl _ rfl kb Try.underlying42 rfl zs rfl ?_
    exact ⟨by rw [EH, E]; rfl, b2⟩
  · have d : decide ((n : Int) < 20) = false := decide_eq_false (by omega)
    obtain ⟨b, off, rfl, hbb, _⟩ := hs.2 (by omega)
    have E : pE l = wE (n1 l / 1152921504606846976) (n1 l / 72057594037927936 % 16 * 4) (n1 l / 4294967296 % 65536) n l := by unfold pE; rw [hl, if_neg q]
    have HH := Lib.hid (head_any b off n c l _ (by omega) hc hcm s0)
    have HW := Lib.hid (fun (W : World) (hW : Shows W W.heap.size (some ⟨b, off, none⟩) n l) => wrong_any (n1 l / 1152921504606846976) (n1 l / 72057594037927936 % 16 * 4) (n1 l / 4294967296 % 65536) (hdL l) b off n c l W hn hc hW
      (by unfold hdL hdN; exact hdv_num _ _ _ 0 _ rfl) (by unfold hdL hdN; exact hdv_num _ _ _ 1 _ rfl) (by unfold hdL hdN; exact hdv_num _ _ _ 2 _ rfl))
    rw [← E] at HW
    have hsz := hdL_size l (by omega)
    have o1 : ((hdL l).all fun x => x.oneCell') = true := by unfold hdL hdN; exact hdv_one _ _ _ _ _
    have ms : (Try.prog.info? 42).map (·.size) = some (hdL l).size := by rw [hsz]; exact Try.infoHead
    have EH : pH l = if pE l = 0 then hdL l else zH := rfl
    clear E
    have HEH := Lib.hid EH
    clear EH
    generalize hdL l = M at *
    generalize pE l = E at *
    generalize hP : pH l = PH at *
    clear hP
    by_cases q0 : E = 0
    · subst q0
      obtain rfl : PH = M := HEH.out
      go_enter Try.func27, Try.ntmps27
      go_wp2_with fail
      refine HH.out.mono ?_
      rintro e w1 ⟨rfl, hb1⟩
      have k1 := k0.on hb1
      have b1 := Below.on hb0 hb0.size hb1
      have s1 := (s0.below hb1).up hb1.size
      clear k0 hb0 s0 hb1 HH
      generalize hW1 : w1.heap.size = g1 at *
      have k2 : Blk (w1.alloc (.cells PH 42)) w.heap.size 42 zH := k1.alloc _
      have k3 : Blk (w1.alloc (.cells PH 42)) g1 42 PH := by rw [← hW1]; exact blk_new _ _ _
      have b2 : Below w.heap.size w (w1.alloc (.cells PH 42)) := b1.alloc b1.size _
      have s2 := (s1.alloc (by omega) (.cells PH 42)).up (B' := (w1.alloc (.cells PH 42)).heap.size) (by simp; omega)
      go_wp2_with (first
        | (refine wpList_allocStore (cs := PH) rfl rfl 42 ?ho (.tmp 4) (.tmp 11) ?ho2 Try.zeroHead ?hz ?hx ?hy ?hn ?h1 ?_
           case ho => with_reducible rfl
           case ho2 => rfl
           case hz => exact zH_size
           case hx => rfl
           case hy => rfl
           case hn => exact hsz
           case h1 => exact o1
           rw [hW1])
        | (refine wpList_loadBlk (g := g1) (t := 42) (cs := PH) rfl 42 (.tmp 4) ?ho ?hx ?hA _ Try.underlying42 rfl ?hi ?_
           case ho => with_reducible rfl
           case hx => rfl
           case hA => exact k3
           case hi => exact ms)
        | fail)
      refine (HW.out _ s2).mono ?_
      rintro e w3 ⟨rfl, hb3⟩
      have k4 := k2.on hb3
      have k5 := k3.on hb3
      have b3 := Below.on b2 b2.size hb3
      clear k1 k2 k3 b1 b2 s1 s2 hb3 HW
      go_wp2_with (first
        | (refine wpList_loadBlk (g := g1) (t := 42) (cs := PH) rfl 42 (.tmp 4) ?ho ?hx ?hA _ Try.underlying42 rfl ?hi ?_
           case ho => with_reducible rfl
           case hx => rfl
           case hA => exact k5
           case hi => exact ms)
        | (refine wpList_storeBlk (g := w.heap.size) (t := 42) (cs := PH) rfl 42 (.tmp 2) (.tmp 19) ?ho ?hx2 ?hy2 zH k4 ?hi ?hs ?h1 ?_
           case ho => with_reducible rfl
           case hx2 => rfl
           case hy2 => rfl
           case hi => exact ms
           case hs => rw [hsz]; exact zH_size
           case h1 => exact o1
           intro w5 kb hg5
           have b5 : Below w.heap.size w w5 := b3.grown hg5 b3.size (fun k hk => by injection hk with hk; omega)
           clear b3 k4 k5 hg5))
      refine bodyPost_blk2 rfl _ rfl kb Try.underlying42 rfl ms rfl ?_
      exact ⟨rfl, b5⟩
    · have q0' : ¬ (E : Int) = 0 := by omega
      have q0'' : ((E : Int) == 0) = false := by simpa using q0
      have d0 : decide ((E : Int) = 0) = false := decide_eq_false q0'
      obtain rfl : PH = zH := by have := HEH.out; rw [if_neg q0] at this; exact this
      go_enter Try.func27, Try.ntmps27
      go_wp2_with fail
      refine HH.out.mono ?_
      rintro e w1 ⟨rfl, hb1⟩
      have k1 := k0.on hb1
      have b1 := Below.on hb0 hb0.size hb1
      have s1 := (s0.below hb1).up hb1.size
      clear k0 hb0 s0 hb1 HH
      generalize hW1 : w1.heap.size = g1 at *
      have k2 : Blk (w1.alloc (.cells M 42)) w.heap.size 42 zH := k1.alloc _
      have k3 : Blk (w1.alloc (.cells M 42)) g1 42 M := by rw [← hW1]; exact blk_new _ _ _
      have b2 : Below w.heap.size w (w1.alloc (.cells M 42)) := b1.alloc b1.size _
      have s2 := (s1.alloc (by omega) (.cells M 42)).up (B' := (w1.alloc (.cells M 42)).heap.size) (by simp; omega)
      go_wp2_with (first
        | (refine wpList_allocStore (cs := M) rfl rfl 42 ?ho (.tmp 4) (.tmp 11) ?ho2 Try.zeroHead ?hz ?hx ?hy ?hn ?h1 ?_
           case ho => with_reducible rfl
           case ho2 => rfl
           case hz => exact zH_size
           case hx => rfl
           case hy => rfl
           case hn => exact hsz
           case h1 => exact o1
           rw [hW1])
        | (refine wpList_loadBlk (g := g1) (t := 42) (cs := M) rfl 42 (.tmp 4) ?ho ?hx ?hA _ Try.underlying42 rfl ?hi ?_
           case ho => with_reducible rfl
           case hx => rfl
           case hA => exact k3
           case hi => exact ms)
        | fail)
      refine (HW.out _ s2).mono ?_
      rintro e w3 ⟨rfl, hb3⟩
      have k4 := k2.on hb3
      have b3 := Below.on b2 b2.size hb3
      clear k1 k2 k3 b1 b2 s1 s2 hb3 HW
      go_wp2_with (first
        | (refine wpList_storeBlk (g := w.heap.size) (t := 42) (cs := zH) rfl 42 (.tmp 2) (.tmp 17) ?ho ?hx2 ?hy2 zH k4 ?hi ?hs ?h1 ?_
           case ho => with_reducible rfl
           case hx2 => rfl
           case hy2 => rfl
           case hi => exact zs
           case hs => rfl
           case h1 => exact zH_one
           intro w5 kb hg5
           have b5 : Below w.heap.size w w5 := b3.grown hg5 b3.size (fun k hk => by injection hk with hk; omega)
           clear b3 k4 hg5))
      refine bodyPost_blk2 rfl _ rfl kb Try.underlying42 rfl zs rfl ?_
      exact ⟨rfl, b5⟩

set_option maxHeartbeats 1000000 in
theorem two_any (b off n c i : Nat) (l : List UInt8) (w : World) (hi : i + 1 < n) (hn : n ≤ 1000000) (hs : Shows w w.heap.size (some ⟨b, off, none⟩) n l) (x y : UInt8) (hx : l[i]? = some x) (hy : l[i + 1]? = some y) :
    Calls Try.prog 121 #[.slice (some ⟨b, off, none⟩) n c, .int .i64 (i : Int)] w fun e w' => e = .returned (.int .i64 ((256 * x.toNat + y.toNat : Nat) : Int)) ∧ Below w.heap.size w w' := by
  obtain ⟨b', off', e, hb, hc⟩ := hs.2 (by omega)
  injection e with e
  injection e with e1 e2
  subst e1
  subst e2
  obtain ⟨h1, rfl⟩ := List.getElem?_eq_some_iff.1 hx
  obtain ⟨h2, rfl⟩ := List.getElem?_eq_some_iff.1 hy
  have c1 : w.cell? ⟨b, off + i, none⟩ = some (.int .u8 (l[i].toNat : Int)) := hc i h1
  have c2 : w.cell? ⟨b, off + (i + 1), none⟩ = some (.int .u8 (l[i + 1].toNat : Int)) := hc (i + 1) h2
  have l1 := l[i].toNat_lt
  have l2 := l[i + 1].toNat_lt
  clear hc hx hy hs
  generalize l[i].toNat = X at *
  generalize l[i + 1].toNat = Y at *
  have i1 : (X : Int) < 256 := by omega
  have i2 : (Y : Int) < 256 := by omega
  go_enter Try.func121, Try.ntmps121
  go_wp2_with fail
  go_region
  go_wp2
  go_ret
  exact ⟨by simp, (Below.refl _ _).drew⟩

end Go.Proofs.Ytkokgoodpibboaa
