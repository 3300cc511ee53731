
/- The walk of law21.PacketTells. -/
import Derived.Test.YtblfllidejdehaaPkE
import Derived.Test.YtblfllidejdehaaPkF
import Derived.Test.YtblfllidejdehaaPkG
namespace Go.Proofs.Ytblfllidejdehaa
open Go.RowKit
set_option linter.unusedSimpArgs false
set_option linter.unusedVariables false

set_option maxRecDepth 100000 in
set_option maxHeartbeats 2000000 in
theorem walk_PacketTells (A : Option Addr) (n c : Nat) (l : List UInt8) {w : World} (hc : n ≤ c ∧ c ≤ maxLen) (hs : Shows w w.heap.size A n l) :
    Calls Try.prog 6 #[.slice A n c] w fun e w' => e = .returned (.bool true) ∧ Below w.heap.size w w' := by
  obtain ⟨hc1, hc2⟩ := hc
  by_cases hn : 300 < n
  · have hni : (300 : Int) < (n : Int) := by omega
    have d : decide ((300 : Int) < (n : Int)) = true := decide_eq_true hni
    go_enter Try.func6, Try.ntmps6
    go_wp2_with fail
    refine (alive21 w).mono ?_
    rintro e w1 ⟨rfl, hb1⟩
    go_wp2
    go_ret
    exact ⟨rfl, hb1⟩
  · have d : decide ((300 : Int) < (n : Int)) = false := decide_eq_false (by omega)
    have H1 := Lib.hid (fun (W : World) (hW : Below w.heap.size w W) => isErr_any A n c l W (by omega) hc1 hc2 ((hs.below hW).up hW.size))
    have H2 := Lib.hid (fun (W : World) (hW : Below w.heap.size w W) => refIsErr_any A n c l W (by omega) hc1 hc2 ((hs.below hW).up hW.size))
    have H3 := Lib.hid (fun (W : World) (hW : Below w.heap.size w W) => later_any A n c l W (by omega) hc1 hc2 ((hs.below hW).up hW.size))
    have H4 := Lib.hid (fun (W : World) (hW : Below w.heap.size w W) => refLater_any A n c l W (by omega) hc1 hc2 ((hs.below hW).up hW.size))
    generalize kI l = B1 at *
    generalize kL l = B2 at *
    clear hs
    cases B1 <;> cases B2
    all_goals
      go_enter Try.func6, Try.ntmps6
      go_wp2_with fail
      refine (H1.out _ (Below.refl _ _)).mono ?_
      rintro e w1 ⟨rfl, b1⟩
      go_wp2_with fail
      refine (H2.out _ b1).mono ?_
      rintro e w2 ⟨rfl, hb2⟩
      have b2 := Below.on b1 b1.size hb2
      clear b1 hb2
      go_wp2_with fail
      refine (H3.out _ b2).mono ?_
      rintro e w3 ⟨rfl, hb3⟩
      have b3 := Below.on b2 b2.size hb3
      clear b2 hb3
      go_wp2_with fail
      refine (H4.out _ b3).mono ?_
      rintro e w4 ⟨rfl, hb4⟩
      have b4 := Below.on b3 b3.size hb4
      clear b3 hb4
      go_wp2_with fail
      refine (alive21 _).mono ?_
      rintro e w5 ⟨rfl, hb5⟩
      have b5 := Below.on b4 b4.size hb5
      clear b4 hb5
      go_wp2
      go_ret
      exact ⟨rfl, b5⟩

end Go.Proofs.Ytblfllidejdehaa
