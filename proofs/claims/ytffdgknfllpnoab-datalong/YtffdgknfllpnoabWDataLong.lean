
/- The walk of law16.DataLong. -/
import Derived.Test.YtffdgknfllpnoabWDataReads
namespace Go.Proofs.Ytffdgknfllpnoab
open Go.RowKit

def zeros16 : List UInt8 := [4, 0, 0, 0, 0, 0, 0, 0, 0, 0, 0, 0, 0, 0, 0, 0]

theorem dataLong_main (m : Nat) (a0 : Int) (w : World) (hm : (65551 : Int) + a0 = (m : Int)) (h1 : -3 ≤ a0) (h2 : a0 ≤ 3) :
    Calls Try.prog 5 #[.int .i64 a0] w fun e w' => e = .returned (.bool true) ∧ Below w.heap.size w w' := by
  have hmn : 65548 ≤ m ∧ m ≤ 65554 := by omega
  have hw : IntKind.i64.wrap (65551 + a0) = (m : Int) := by rw [hm]; exact IntWalk.i64_in _ (by omega)
  go_enter Try.func5, Try.ntmps5
  go_wp2_with (at_make; refine wpList_mk _ rfl _ _ rfl w.heap.size m _ _ rfl rfl ?e1 ?e2 (by omega) (Nat.le_refl _) ?_)
  case e1 => first | rfl | exact hw | omega
  case e2 => first | rfl | exact hw | omega
  intro w1 ho1 hg1
  have hb1 : Below w.heap.size w w1 := (Below.refl _ _).grown hg1 (Nat.le_refl _) (fun k hk => by cases hk)
  have s1 := ho1.shown
  have hlen : (List.replicate m (0 : UInt8)).length = m := by simp
  generalize List.replicate m (0 : UInt8) = z at *
  clear ho1 hg1
  have hgw : w.heap.size < w1.heap.size := by
    obtain ⟨b, off, e, hb, _⟩ := s1.2 (by omega)
    injection e with e
    injection e with e
    omega
  have hmx : m ≤ 9223372036854775807 := by omega
  by_cases hpos : 0 < a0
  · have hd : decide (0 < a0) = true := decide_eq_true hpos
    go_wp2_with fail
    refine (dataBytes_long 0 0 _ m m w1 (by omega) hmx).mono ?_
    rintro e w2 ⟨rfl, hb2⟩
    have hb02 := Below.on hb1 hb1.size hb2
    have s2 := Sh.on (f := bv) s1 hb2
    have hL0 := own_lit w2 w2.heap.size 16 zeros16 _ rfl (Nat.le_refl _) rfl (by omega)
    have hb3 : Below w2.heap.size w2 (w2.alloc (.cells (zeros16.map bv).toArray 5)) := (Below.refl _ _).alloc (Nat.le_refl _) _
    have hsz3 : w2.heap.size ≤ (w2.alloc (.cells (zeros16.map bv).toArray 5)).heap.size := hb3.size
    clear hb1 s1 hb2
    go_wp2_with (at_builtin; refine wpList_appAll _ rfl _ _ rfl w2.heap.size _ _ _ rfl hL0 ⟨w.heap.size, 0, none⟩ m m _ z rfl (Sh.below (f := bv) s2 hb3) (by omega) hsz3 ?_)
    intro v3 w3 ho3 hg3
    have hb03 := Below.on hb02 hb02.size (hb3.grown hg3 hsz3 (fun g hg => (hL0.lt g hg).1))
    obtain ⟨a3, c3, rfl, _, s3⟩ := ho3.at_some (by omega)
    clear hL0 hb3 hg3 hsz3 hb02 s2 ho3
    go_wp2_with fail
    refine (dataParse_err _ (16 + m) c3 4 w3 rfl (fun W _ => same_world (take_long _ (16 + m) c3 4 32 65567 W (by omega) (by omega) (by omega)))).mono ?_
    rintro e w4 ⟨rfl, hb4⟩
    have hb04 := Below.on hb03 hb03.size hb4
    have hb05 := hb04.alloc hb04.size (.cells (trv 0 0 none 0 0) 26)
    clear hb03 hb4 s3
    go_wp2_with (first
      | (refine wpList_allocStore (cs := trv 0 0 none 0 0) rfl rfl 26 ?ho (.tmp 7) (.tmp 31) ?ho2 Try.zeroTr rfl ?hx ?hy ?hn ?h1 ?_
         case ho => with_reducible rfl
         case ho2 => rfl
         case hx => rfl
         case hy => rfl
         case hn => rfl
         case h1 => exact one_trv 0 0 none 0 0)
      | (go_at_call 7; refine (alive16 _).mono ?_; rintro e w6 ⟨rfl, hb6⟩; have hb06 := Below.on hb05 hb05.size hb6))
    go_ret
    exact ⟨rfl, hb06⟩
  · have hd : decide (0 < a0) = false := decide_eq_false hpos
    go_wp2_with fail
    refine (dataBytes_ok 0 0 _ m m z w1 (by omega) (by omega) (by omega) (by omega) s1).mono ?_
    rintro e w2 ⟨v2, rfl, ho2, hb2⟩
    obtain ⟨a2, c2, rfl, _, _⟩ := ho2.at_some (by omega)
    have hb02 := Below.on hb1 hb1.size hb2
    have s2 := Sh.on (f := bv) s1 hb2
    have hL0 := own_lit w2 w2.heap.size 16 zeros16 _ rfl (Nat.le_refl _) rfl (by omega)
    have hb3 : Below w2.heap.size w2 (w2.alloc (.cells (zeros16.map bv).toArray 5)) := (Below.refl _ _).alloc (Nat.le_refl _) _
    have hsz3 : w2.heap.size ≤ (w2.alloc (.cells (zeros16.map bv).toArray 5)).heap.size := hb3.size
    clear hb1 s1 hb2 ho2
    go_wp2_with (at_builtin; refine wpList_appAll _ rfl _ _ rfl w2.heap.size _ _ _ rfl hL0 ⟨w.heap.size, 0, none⟩ m m _ z rfl (Sh.below (f := bv) s2 hb3) (by omega) hsz3 ?_)
    intro v3 w3 ho3 hg3
    have hb03 := Below.on hb02 hb02.size (hb3.grown hg3 hsz3 (fun g hg => (hL0.lt g hg).1))
    obtain ⟨a3, c3, rfl, _, s3⟩ := ho3.at_some (by omega)
    have s3' : Shows w3 w3.heap.size (some a3) (16 + m) (4 :: 0 :: 0 :: 0 :: ([0, 0, 0, 0, 0, 0, 0, 0, 0, 0, 0, 0] ++ z)) := s3
    clear hL0 hb3 hg3 hsz3 hb02 s2 ho3 s3
    go_wp2_with fail
    refine (dataParse_ok _ (16 + m) c3 _ w3 (by omega) (by omega) s3').mono ?_
    rintro e w4 ⟨b, rfl, hbw, s4, hb4⟩
    rw [show 16 + m - 16 = m by omega]
    have hb04 := Below.on hb03 hb03.size hb4
    clear hb03 hb4 s3' s4
    generalize leNat (List.take 4 ([0, 0, 0, 0, 0, 0, 0, 0, 0, 0, 0, 0] ++ z)) = r at *
    generalize leNat (List.take 8 (List.drop 4 ([0, 0, 0, 0, 0, 0, 0, 0, 0, 0, 0, 0] ++ z))) = k at *
    have hb05 := hb04.alloc hb04.size (.cells (trv r k (some ⟨b, 0, none⟩) m m) 26)
    go_wp2_with (first
      | (refine wpList_allocStore (cs := trv r k (some ⟨b, 0, none⟩) m m) rfl rfl 26 ?ho (.tmp 7) (.tmp 31) ?ho2 Try.zeroTr rfl ?hx ?hy ?hn ?h1 ?_
         case ho => with_reducible rfl
         case ho2 => rfl
         case hx => rfl
         case hy => rfl
         case hn => rfl
         case h1 => exact one_trv _ _ _ _ _)
      | (go_at_call 7; refine (alive16 _).mono ?_; rintro e w6 ⟨rfl, hb6⟩; have hb06 := Below.on hb05 hb05.size hb6))
    go_ret
    exact ⟨rfl, hb06⟩

theorem walk_DataLong (a0 : Int) (_w0 : (Lit.int .i64 a0).wf = true) (w : World) :
    Calls Try.prog 5 #[.int .i64 a0] w fun e w' => e = .returned (.bool true) ∧ Below w.heap.size w w' := by
  by_cases h : -3 ≤ a0 ∧ a0 ≤ 3
  · obtain ⟨m, hm⟩ := Int.eq_ofNat_of_zero_le (show 0 ≤ 65551 + a0 by omega)
    exact dataLong_main m a0 w hm h.1 h.2
  · by_cases h1 : a0 < -3
    · have hd : decide (a0 < -3) = true := decide_eq_true h1
      go_enter Try.func5, Try.ntmps5
      go_wp2_with fail
      refine (alive16 w).mono ?_
      rintro e w1 ⟨rfl, hb1⟩
      go_wp2
      go_ret
      exact ⟨rfl, hb1⟩
    · have hd : decide (a0 < -3) = false := decide_eq_false h1
      have h3 : 3 < a0 := by omega
      clear h
      go_enter Try.func5, Try.ntmps5
      go_wp2_with fail
      refine (alive16 w).mono ?_
      rintro e w1 ⟨rfl, hb1⟩
      go_wp2
      go_ret
      exact ⟨rfl, hb1⟩

end Go.Proofs.Ytffdgknfllpnoab
