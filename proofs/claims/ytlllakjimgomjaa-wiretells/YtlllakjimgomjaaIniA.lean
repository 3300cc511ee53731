
/- Contracts: initial.Bytes. -/
import Derived.Test.YtlllakjimgomjaaMsgC
namespace Go.Proofs.Ytlllakjimgomjaa
open Go.RowKit
set_option linter.unusedSimpArgs false

theorem Try.infoIni : (Try.prog.info? 49).map (·.size) = some 141 := by kernel_rfl
theorem Ini_size (r0 : Nat) (l : List UInt8) (hl : l.length = 140) : (Try.prog.info? 49).map (·.size) = some (mcs [r0] l).size := by rw [Try.infoIni, mcs_size, hl]; rfl

theorem initialBytes_any (r0 : Nat) (l : List UInt8) (w : World) (hr0 : r0 < 4294967296) (hl : l.length = 140) :
    Calls Try.prog 35 #[.agg (mcs [r0] l)] w fun e w' => ∃ v, e = .returned v ∧ Own w' w.heap.size v 148 (mbs 1 [r0] l) ∧ Below w.heap.size w w' := by
  have hw0 : IntKind.u64.wrap (r0 : Int) = (r0 : Int) := IntWalk.u64_in _ (by omega)
  have hm0 := mcs_num [r0] l 0 r0 rfl
  have hB0 := blk_new w 49 (mcs [r0] l)
  have hb0 : Below w.heap.size w (w.alloc (.cells (mcs [r0] l) 49)) := (Below.refl _ _).alloc (Nat.le_refl _) _
  go_enter Try.func35, Try.ntmps35
  go_wp2_with fail
  generalize hw0 : w.alloc (.cells (mcs [r0] l) 49) = w0 at *
  clear hw0 hm0
  refine (little_ok r0 4 w0 (by omega) (by omega) (by rw [show ones (8 * ((4 : Nat) : Int)) = 4294967295 by rw [ones_256 4 (by omega)]]; omega)).mono ?_
  rintro e w1 ⟨rfl, ho1, hb1'⟩
  have hB1 := hB0.on hb1'
  have hb1 := Below.on hb0 hb0.size hb1'
  have s1_1 := ho1.shown
  clear hB0 hb0 hb1' ho1
  generalize hg1 : w0.heap.size = g1 at *
  have hfl : [leBytes r0 4, (l.drop 0).take 32, (l.drop 32).take 48, (l.drop 80).take 28, (l.drop 108).take 16, (l.drop 124).take 16].flatten = mnums [r0] ++ l := by
    simp only [List.flatten_cons, List.flatten_nil, List.append_nil, mnums]
    have hd : l = (l.drop 0).take 32 ++ ((l.drop 32).take 48 ++ ((l.drop 80).take 28 ++ ((l.drop 108).take 16 ++ ((l.drop 124).take 16)))) := by
      have e0 := cut_list l 0 32 32 rfl
      have e1 := cut_list l 32 48 80 rfl
      have e2 := cut_list l 80 28 108 rfl
      have e3 := cut_list l 108 16 124 rfl
      have e4 := cut_list l 124 16 140 rfl
      rw [List.drop_eq_nil_of_le (show l.length ≤ 140 by omega), List.append_nil] at e4
      exact (List.drop_zero (l := l)).symm.trans (e0.trans (congrArg (fun z => (l.drop 0).take 32 ++ z) (e1.trans (congrArg (fun z => (l.drop 32).take 48 ++ z) (e2.trans (congrArg (fun z => (l.drop 80).take 28 ++ z) (e3.trans (congrArg (fun z => (l.drop 108).take 16 ++ z) (e4)))))))))
    rw [← hd]
  have HC := Lib.hid (concat_msg 1 7 [(⟨g1, 0, none⟩, 4, 4), (⟨w.heap.size, 1, none⟩, 32, 32), (⟨w.heap.size, 33, none⟩, 48, 48), (⟨w.heap.size, 81, none⟩, 28, 28), (⟨w.heap.size, 109, none⟩, 16, 16), (⟨w.heap.size, 125, none⟩, 16, 16)] [leBytes r0 4, (l.drop 0).take 32, (l.drop 32).take 48, (l.drop 80).take 28, (l.drop 108).take 16, (l.drop 124).take 16] w1 _ rfl rfl rfl (by omega) (fun j p x h1 h2 => by
    match j, h1, h2 with
    | 0, h1, h2 => simp only [List.getElem?_cons_zero, List.getElem?_cons_succ, Option.some.injEq] at h1 h2; subst h1; subst h2; exact s1_1
    | 1, h1, h2 => simp only [List.getElem?_cons_zero, List.getElem?_cons_succ, Option.some.injEq] at h1 h2; subst h1; subst h2; exact hB1.shows 0 32 _ (by omega) rfl
    | 2, h1, h2 => simp only [List.getElem?_cons_zero, List.getElem?_cons_succ, Option.some.injEq] at h1 h2; subst h1; subst h2; exact hB1.shows 32 48 _ (by omega) rfl
    | 3, h1, h2 => simp only [List.getElem?_cons_zero, List.getElem?_cons_succ, Option.some.injEq] at h1 h2; subst h1; subst h2; exact hB1.shows 80 28 _ (by omega) rfl
    | 4, h1, h2 => simp only [List.getElem?_cons_zero, List.getElem?_cons_succ, Option.some.injEq] at h1 h2; subst h1; subst h2; exact hB1.shows 108 16 _ (by omega) rfl
    | 5, h1, h2 => simp only [List.getElem?_cons_zero, List.getElem?_cons_succ, Option.some.injEq] at h1 h2; subst h1; subst h2; exact hB1.shows 124 16 _ (by omega) rfl
    | _ + 6, h1, _ => simp at h1) (by rw [hfl, List.length_append, mnums_len, hl]; simp))
  have hlt := hB1.lt
  clear s1_1 hB1
  go_wp2_with fail
  go_region_with (first
    | (go_at_call 59; refine (headBytes_any 1 _).mono ?_; rintro e w8 ⟨rfl, rfl⟩)
    | (go_at_call 58; refine HC.out.mono ?_; rintro e w9 ⟨v, rfl, ho9, hb9⟩))
  all_goals
    have ho5 : Own w9 w.heap.size v 148 (mbs 1 [r0] l) := by
      have := ho9.base hb1.size
      rw [hfl, List.length_append, mnums_len, hl] at this
      exact this
    have hb5 := Below.on hb1 hb1.size hb9
    clear ho9 hb9 HC
    go_wp2
    go_ret
    exact ⟨v, rfl, ho5, hb5⟩

end Go.Proofs.Ytlllakjimgomjaa
