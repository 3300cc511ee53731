
/- The walk of law20.IpsixReads. -/
import Derived.Test.YtblfllidejdehaaSxD
namespace Go.Proofs.Ytblfllidejdehaa
open Go.RowKit
set_option linter.unusedSimpArgs false
set_option linter.unusedVariables false

set_option maxRecDepth 100000 in
set_option maxHeartbeats 2000000 in
theorem walk_IpsixReads (A : Option Addr) (n c : Nat) (l : List UInt8) {w : World} (hc : n ≤ c ∧ c ≤ maxLen) (hs : Shows w w.heap.size A n l) :
    Calls Try.prog 3 #[.slice A n c] w fun e w' => e = .returned (.bool true) ∧ Below w.heap.size w w' := by
  obtain ⟨hc1, hc2⟩ := hc
  by_cases hn : 300 < n
  · have hni : (300 : Int) < (n : Int) := by omega
    have d : decide ((300 : Int) < (n : Int)) = true := decide_eq_true hni
    go_enter Try.func3, Try.ntmps3
    go_wp2_with fail
    refine (alive20 w).mono ?_
    rintro e w1 ⟨rfl, hb1⟩
    go_wp2
    go_ret
    exact ⟨rfl, hb1⟩
  · have d : decide ((300 : Int) < (n : Int)) = false := decide_eq_false (by omega)
    have HP := Lib.hid (parse6_any A n c l w (by omega) hc1 hc2 hs)
    have HR := Lib.hid (fun (W : World) (hW : Below w.heap.size w W) => show Calls Try.prog 15 #[.slice A n c] W fun e w' => e = .returned (.tuple #[.agg (pH6 l), .int .i64 (pE6 l : Int)]) ∧ Below W.heap.size W w' by
      have hs' := (hs.below hW).up hW.size
      by_cases h20 : n < 40
      · exact refParse6_short A n c l W hs.len h20
      · obtain ⟨b, off, rfl, hbb, _⟩ := hs'.2 (by omega)
        exact refParse6_any b off n c l W (by omega) (by omega) hc1 hc2 hs' hbb)
    have hz := (zero_of_info Try.zeroHead).1
    have hne : ¬ zH = #[] := by intro h; have := zH_size; rw [h] at this; cases this
    have hsz := pH6_size l
    have h1c := pH6_one l
    have hsf := Lib.hid (pH6_self l)
    have ms : (Try.prog.info? 28).map (·.size) = some (pH6 l).size := by rw [hsz]; exact Try.infoHead
    generalize pH6 l = M at *
    generalize pE6 l = E at *
    clear hs
    go_enter Try.func3, Try.ntmps3
    go_wp2_with fail
    refine HP.out.mono ?_
    rintro e w1 ⟨rfl, hb1⟩
    have b2 : Below w.heap.size w (w1.alloc (.cells M 28)) := hb1.alloc hb1.size _
    have k2 : Blk (w1.alloc (.cells M 28)) w1.heap.size 28 M := blk_new _ _ _
    generalize hg1 : w1.heap.size = g1 at *
    go_wp2_with (first
      | (refine wpList_allocStore (cs := M) rfl rfl 28 ?ho (.tmp 3) (.tmp 14) ?ho2 Try.zeroHead ?hz ?hx ?hy ?hn ?h1 ?_
         case ho => with_reducible rfl
         case ho2 => rfl
         case hz => exact zH_size
         case hx => rfl
         case hy => rfl
         case hn => exact hsz
         case h1 => exact h1c
         rw [hg1])
      | fail)
    refine (HR.out _ b2).mono ?_
    rintro e w3 ⟨rfl, hb3⟩
    have k3 := k2.on hb3
    have b3 := Below.on b2 b2.size hb3
    clear k2 b2 hb3 HP HR
    have b4 : Below w.heap.size w (w3.alloc (.cells M 28)) := b3.alloc b3.size _
    have k4 : Blk (w3.alloc (.cells M 28)) g1 28 M := k3.alloc _
    have k5 : Blk (w3.alloc (.cells M 28)) w3.heap.size 28 M := blk_new _ _ _
    generalize hg3 : w3.heap.size = g3 at *
    go_wp2_with (first
      | (refine wpList_allocStore (cs := M) rfl rfl 28 ?ho (.tmp 5) (.tmp 19) ?ho2 Try.zeroHead ?hz ?hx ?hy ?hn ?h1 ?_
         case ho => with_reducible rfl
         case ho2 => rfl
         case hz => exact zH_size
         case hx => rfl
         case hy => rfl
         case hn => exact hsz
         case h1 => exact h1c
         rw [hg3])
      | (refine wpList_loadBlk (g := g1) (t := 28) (cs := M) rfl 28 (.tmp 3) ?ho ?hx ?hA _ Try.underlying28 rfl ?hi ?_
         case ho => with_reducible rfl
         case hx => rfl
         case hA => exact k4
         case hi => exact ms)
      | (refine wpList_loadBlk (g := g3) (t := 28) (cs := M) rfl 28 (.tmp 5) ?ho ?hx ?hA _ Try.underlying28 rfl ?hi ?_
         case ho => with_reducible rfl
         case hx => rfl
         case hA => exact k5
         case hi => exact ms)
      | (refine wpList_eqS (cs := M) rfl 28 28 (.tmp 21) (.tmp 22) ?ho ?hx ?hy Try.plainHead ?he ?_
         case ho => with_reducible rfl
         case hx => rfl
         case hy => rfl
         case he => exact hsf.out)
      | fail)
    refine (alive20 _).mono ?_
    rintro e w6 ⟨rfl, hb6⟩
    have b6 := Below.on b4 b4.size hb6
    clear k4 k5 k3 b3 b4 hb6
    go_wp2
    go_ret
    exact ⟨rfl, b6⟩

end Go.Proofs.Ytblfllidejdehaa
