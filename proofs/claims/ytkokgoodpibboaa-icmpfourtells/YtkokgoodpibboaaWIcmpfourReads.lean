
/- law22's alive; the walk of law22.IcmpfourReads. -/
import Derived.Test.YtkokgoodpibboaaNtE
import Derived.Test.YtkokgoodpibboaaNtF
import Derived.Test.YtkokgoodpibboaaNtG
namespace Go.Proofs.Ytkokgoodpibboaa
open Go.RowKit
set_option maxRecDepth 100000
set_option linter.unusedSimpArgs false
set_option linter.unusedVariables false

set_option maxHeartbeats 2000000 in
set_option maxRecDepth 100000 in
theorem alive22 (w : World) : Calls Try.prog 32 #[] w fun e w' => e = .returned (.bool true) ∧ Below w.heap.size w w' := by
  have hza := (zero_of_info Try.zeroAddr).1
  have zne : ¬ adv 0 (zb 16) = #[] := by simp [adv]
  have HQ := Lib.hid (fun (g : Nat) (W : World) (hW : Shows W W.heap.size (some ⟨g, 0, none⟩) 1 [9]) => put_in 0 0 0 0 0 0 0 0 0 (zb 16) (zb 16) rfl rfl (some ⟨g, 0, none⟩) 1 1 [9] W (by omega) hW (by omega) (by omega) (by omega) (by omega) (by omega) (by omega) (by decide +kernel) (by decide +kernel))
  rw [show pkt 0 0 0 0 0 0 ((zb 16).take 4) ((zb 16).take 4) [9] = exQ from rfl] at HQ
  have z6 : (adv 4 (zb 16)).size = 17 := rfl
  have o6 : ((adv 4 (zb 16)).all fun x => x.oneCell') = true := adv_one _ _
  have zi6 : (Try.prog.info? 32).map (·.size) = some (adv 4 (zb 16)).size := by kernel_rfl
  have b2 : Below w.heap.size w (w.alloc (.cells (adv 4 (zb 16)) 32)) := (Below.refl _ _).alloc (Nat.le_refl _) _
  have k2 : Blk (w.alloc (.cells (adv 4 (zb 16)) 32)) w.heap.size 32 (adv 4 (zb 16)) := blk_new _ _ _
  go_enter Try.func32, Try.ntmps32
  go_wp2_with (first
    | (refine wpList_allocStore (cs := adv 4 (zb 16)) rfl rfl 32 ?ho (.tmp 1) (.tmp 6) ?ho2 Try.zeroAddr ?hz ?hx ?hy ?hn ?h1 ?_
       case ho => with_reducible rfl
       case ho2 => rfl
       case hz => rfl
       case hx => rfl
       case hy => rfl
       case hn => exact z6
       case h1 => exact o6
       generalize (w.alloc (.cells (adv 4 (zb 16)) 32)) = W2 at *)
    | (refine wpList_loadBlk (g := w.heap.size) (t := 32) (cs := adv 4 (zb 16)) rfl 32 (.tmp 1) ?ho ?hx ?hA _ Try.underlying32 rfl ?hi ?_
       case ho => with_reducible rfl
       case hx => rfl
       case hA => exact k2
       case hi => exact zi6)
    | (refine wpList_build rfl 42 ?fs ?ho (.agg (hdv [0, 0, 0, ((0 : Nat) : Int), ((0 : Nat) : Int), ((0 : Nat) : Int), ((0 : Nat) : Int), ((0 : Nat) : Int), ((0 : Nat) : Int)] (adv 4 (zb 16)) (adv 4 (zb 16)))) ?hr ?_
       case ho => with_reducible rfl
       case hr =>
         intro W
         change _ = _
         kernel_rfl)
    | fail)
  have hs9 : Shows (W2.alloc (.cells #[.int .u8 9] 5)) (W2.alloc (.cells #[.int .u8 9] 5)).heap.size (some ⟨W2.heap.size, 0, none⟩) 1 [9] := shows_new W2 #[.int .u8 9] [9] rfl
  have b3 : Below w.heap.size w (W2.alloc (.cells #[.int .u8 9] 5)) := b2.alloc b2.size _
  refine (HQ.out _ _ hs9).mono ?_
  rintro e w3 ⟨x, rfl, ho3, hb3⟩
  have b4 := Below.on b3 b3.size hb3
  have o3 : Own w3 w.heap.size x 21 exQ := ho3.base (b' := w.heap.size) b3.size
  clear k2 b2 b3 hb3 ho3 HQ hs9
  obtain ⟨A', c', rfl, h1, h2, s3⟩ := o3.shows
  have HU := Lib.hid (unreach4_ok A' 21 c' exQ w3 (by omega) h1 h2 s3 exQ_E exQ_W)
  rw [show 20 + (8 + min 21 548) = 49 from rfl] at HU
  clear s3 o3
  go_wp2_with fail
  refine HU.out.mono ?_
  rintro e w5 ⟨v5, rfl, ho5, hb5⟩
  have b5 := Below.on b4 b4.size hb5
  obtain ⟨A5, c5, rfl, _, _, s5⟩ := ho5.shows
  clear ho5 s5 hb5 b4 HU
  go_wp2
  go_ret
  exact ⟨rfl, b5⟩

end Go.Proofs.Ytkokgoodpibboaa
