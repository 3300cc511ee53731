
/- Contracts: cookie.Parse. -/
import Derived.Test.YtlllakjimgomjaaCokA
import Derived.Test.YtlllakjimgomjaaMsgD
namespace Go.Proofs.Ytlllakjimgomjaa
open Go.RowKit

theorem Try.zeroCok : (Try.prog.info? 54).map (fun i => (i.zero, i.size)) = some (some (.agg (mcs [0] (zer 56))), 57) := by kernel_rfl

theorem cookieParse_err (A : Option Addr) (n c : Nat) (E : Int) (w : World) (hE : (E != 0) = true)
    (hT : ∀ W : World, Below w.heap.size w W → Calls Try.prog 61 #[.slice A n c, bv 3, .int .i64 64, .int .i64 64] W fun e w' => e = .returned (.tuple #[.pointer none, .int .i64 E]) ∧ Below W.heap.size W w') :
    Calls Try.prog 45 #[.slice A n c] w fun e w' => e = .returned (.tuple #[.agg (mcs [0] (zer 56)), .int .i64 E]) ∧ Below w.heap.size w w' := by
  have HT := Lib.hid hT
  clear hT
  have hz := (zero_of_info Try.zeroCok).1
  go_enter Try.func45, Try.ntmps45
  go_wp2_with fail
  refine (HT.out _ ((Below.refl _ _).alloc (Nat.le_refl _) _)).mono ?_
  rintro e w1 ⟨rfl, hb1⟩
  have k0 := (blk_new w 54 (mcs [0] (zer 56))).on hb1
  have hbw := Below.step (Below.refl w.heap.size w) (Nat.le_refl _) hb1
  clear hb1 HT
  go_wp2_with (
    refine wpList_storeBlk (g := w.heap.size) (t := 54) (cs := mcs [0] (zer 56)) rfl 54 (.tmp 2) (.tmp 14) ?ho ?hx2 ?hy2 (mcs [0] (zer 56)) k0 ?hi ?hs ?h1 ?_
    case ho => with_reducible rfl
    case hx2 => rfl
    case hy2 => rfl
    case hi => exact Try.infoCok
    case hs => rfl
    case h1 => exact mcs_one _ _
    intro w2 hB hg)
  refine bodyPost_blk2 rfl _ rfl hB Try.underlying54 rfl Try.infoCok rfl ⟨rfl, ?_⟩
  exact hbw.grown hg hbw.size (fun k hk => by injection hk with hk; omega)

end Go.Proofs.Ytlllakjimgomjaa
