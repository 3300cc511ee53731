
/- The walk of law10.AddrKinds. -/
import Derived.Test.YtkhlalodcgbciaaDoorMkZ
import Derived.Test.YtkhlalodcgbciaaDoorOpnA
namespace Go.Proofs.YtkhlalodcgbciaaDoor
open Go.RowKit Dec Qd
set_option maxRecDepth 100000
set_option linter.unusedSimpArgs false
set_option linter.unusedVariables false

set_option maxHeartbeats 1000000 in
theorem walk_AddrKinds (v : Int) (l : List UInt8) (w : World) (hv : in64 v) (hl : l.length = 16) (htab : Tab w) :
    Calls Tryd.prog 9 #[.agg (adv v l)] w fun e w' => e = .returned (.bool true) ∧ Below w.heap.size w w' := by
  obtain ⟨U, M, h1, h2, h3, h4⟩ := kinds_any v l hl
  have H1 := Lib.hid h1
  have H2 := Lib.hid h2
  have H3 := Lib.hid h3
  have H4 := Lib.hid h4
  have Htab := Lib.hid htab
  have k0 : Blk (w.alloc (.cells (adv v l) 34)) w.heap.size 34 (adv v l) := blk_new _ _ _
  have hb0 : Below w.heap.size w (w.alloc (.cells (adv v l) 34)) := (Below.refl _ _).alloc (Nat.le_refl _) _
  have hz := Adr_size v l hl
  clear h1 h2 h3 h4 htab hv hl
  generalize adv v l = X at *
  go_enter Tryd.func9, Tryd.ntmps9
  go_wp2_with fail
  have hup : ∀ W : World, Below (w.alloc (.cells X 34)).heap.size (w.alloc (.cells X 34)) W → Below w.heap.size w W := fun W hW => Below.on hb0 hb0.size hW
  have hT : ∀ W : World, Below (w.alloc (.cells X 34)).heap.size (w.alloc (.cells X 34)) W → Tab W := fun W hW => Htab.out.on (hup W hW)
  generalize w.alloc (.cells X 34) = w2 at *
  generalize hg1 : w.heap.size = g1 at *
  refine wp_region_below w2.heap.size (by kernel_rfl) (by kernel_rfl) ?_
  repeat (first
    | go_big_quiet_skip
    | (go_big_quiet_want
       first
         | (refine qb_load (g := g1) (t := 34) (cs := X) 34 (.tmp 1) ?ho ?hx ?hA _ Tryd.underlying34 rfl hz ?_
            case ho => with_reducible rfl
            case hx => rfl
            case hA => exact fun w' hw' => k0.on hw'
            go_big_quiet_on
            simp only [Act.put, List.setIfInBounds_toArray, List.set_cons_succ, List.set_cons_zero])
         | (go_big_quiet_op
            first
              | go_big_quiet_on
              | (with_reducible refine ⟨_, fun _ _ => rfl, ?_⟩; go_big_quiet_on)
              | (apply Exists.intro
                 refine ⟨fun w' hw' => ?_, ?_⟩
                 · (go_at_call 39; with_reducible refine (H1.out _).mono ?_; exact fun _ _ h => ⟨h.1, Below.on hw' hw'.size h.2⟩)
                 go_big_quiet_on)
              | (apply Exists.intro
                 refine ⟨fun w' hw' => ?_, ?_⟩
                 · (go_at_call 40; with_reducible refine (H2.out _).mono ?_; exact fun _ _ h => ⟨h.1, Below.on hw' hw'.size h.2⟩)
                 go_big_quiet_on)
              | (apply Exists.intro
                 refine ⟨fun w' hw' => ?_, ?_⟩
                 · (go_at_call 41; with_reducible refine (H3.out _).mono ?_; exact fun _ _ h => ⟨h.1, Below.on hw' hw'.size h.2⟩)
                 go_big_quiet_on)
              | (apply Exists.intro
                 refine ⟨fun w' hw' => ?_, ?_⟩
                 · (go_at_call 42; with_reducible refine (H4.out _).mono ?_; exact fun _ _ h => ⟨h.1, Below.on hw' hw'.size h.2⟩)
                 go_big_quiet_on)
              | (apply Exists.intro
                 refine ⟨fun w' hw' => ?_, ?_⟩
                 · (go_at_call 24; with_reducible refine (alive10 _ (hT _ hw')).mono ?_; exact fun _ _ h => ⟨h.1, Below.on hw' hw'.size h.2⟩)
                 go_big_quiet_on))))
  refine wpQuiet_nil ?_
  intro w3 hw3
  go_wp2
  go_ret
  exact ⟨rfl, by rw [hg1]; exact hup _ hw3⟩

end Go.Proofs.YtkhlalodcgbciaaDoor
