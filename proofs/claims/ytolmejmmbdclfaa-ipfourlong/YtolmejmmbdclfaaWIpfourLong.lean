
/- The walk of law19.IpfourLong. -/
import Derived.Test.YtolmejmmbdclfaaAdrF
namespace Go.Proofs.Ytolmejmmbdclfaa
open Go.RowKit
set_option linter.unusedSimpArgs false
set_option linter.unusedVariables false

set_option maxHeartbeats 4000000 in
set_option maxRecDepth 100000 in
theorem ipfourLong_main (n : Nat) (a0 : Int) (w : World) (hm : 65515 + a0 = (n : Int)) (h1 : -3 ≤ a0) (h3 : a0 ≤ 3) :
    Calls Try.prog 9 #[.int .i64 a0] w fun e w' => e = .returned (.bool true) ∧ Below w.heap.size w w' := by
  have hd : decide (a0 < -3) = false := decide_eq_false (by omega)
  have hd2 : decide (3 < a0) = false := decide_eq_false (by omega)
  have hwr : IntKind.i64.wrap (65515 + a0) = 65515 + a0 := by rw [IntKind.wrap_i64]; omega
  have HM := Lib.hid hm
  clear hm
  by_cases hp : 0 < a0
  · have hdp : decide (0 < a0) = true := decide_eq_true hp
    have z0 := (zero_of_info Try.zeroAddr).1
    go_enter Try.func9, Try.ntmps9
    go_wp2_with (first
      | (refine wpList_allocStore (cs := adv 4 (zb 16)) rfl rfl 37 ?ho (.tmp 3) (.tmp 13) ?ho2 Try.zeroAddr ?hz ?hx ?hy ?hn ?h1 ?_
         case ho => with_reducible rfl
         case ho2 => rfl
         case hz => rfl
         case hx => rfl
         case hy => rfl
         case hn => rfl
         case h1 => exact adv_one _ _)
      | fail)
    have k0 : Blk (w.alloc (.cells (adv 4 (zb 16)) 37)) w.heap.size 37 (adv 4 (zb 16)) := blk_new _ _ _
    have b0 : Below w.heap.size w (w.alloc (.cells (adv 4 (zb 16)) 37)) := (Below.refl _ _).alloc (Nat.le_refl _) _
    generalize w.alloc (.cells (adv 4 (zb 16)) 37) = W1 at *
    have k1 : Blk W1.drew w.heap.size 37 (adv 4 (zb 16)) := k0
    have b1 : Below w.heap.size w W1.drew := b0.drew
    clear k0 b0
    refine wp_region_held_drew (S := fun W => Blk W w.heap.size 37 (adv 4 (zb 16))) (by kernel_rfl) k1 ?_
    intro hS
    refine wpAnyH_take (i := 0) (oi := ?o101) (v := .agg (adv 4 (zb 16))) ?hio101 (by kernel_rfl) (by kernel_rfl) (by kernel_rfl) ?hQo101 ?hyo101 hS ?_
    case hio101 => (simp only [List.getElem?_toArray, List.getElem?_cons_succ, List.getElem?_cons_zero]; rfl)
    case hQo101 => exact fun _ _ _ h => h
    case hyo101 => exact yieldsIf_load_mid (by rfl) 37 (.tmp 3) rfl w.heap.size 0 rfl (adv 4 (zb 16)).toList _ (fun W hW => Blk.range0 hW) Try.underlying37 rfl (by kernel_rfl)
    try simp only [Act.put, List.setIfInBounds_toArray, List.set_cons_zero, List.set_cons_succ]
    refine wpAnyH_take (i := 1) (oi := ?o102) (v := .agg (adv 4 (zb 16))) ?hio102 (by kernel_rfl) (by kernel_rfl) (by kernel_rfl) ?hQo102 ?hyo102 hS ?_
    case hio102 => (simp only [List.getElem?_toArray, List.getElem?_cons_succ, List.getElem?_cons_zero]; rfl)
    case hQo102 => exact fun _ _ _ h => h
    case hyo102 => exact yieldsIf_load_mid (by rfl) 37 (.tmp 3) rfl w.heap.size 0 rfl (adv 4 (zb 16)).toList _ (fun W hW => Blk.range0 hW) Try.underlying37 rfl (by kernel_rfl)
    try simp only [Act.put, List.setIfInBounds_toArray, List.set_cons_zero, List.set_cons_succ]
    refine wpAnyH_take (i := 2) (oi := ?o103) (v := .agg (hdv [0, 0, 0, ((0 : Nat) : Int), ((0 : Nat) : Int), ((0 : Nat) : Int), ((0 : Nat) : Int), ((0 : Nat) : Int), ((0 : Nat) : Int)] (adv 4 (zb 16)) (adv 4 (zb 16)))) ?hio103 (by kernel_rfl) (by kernel_rfl) (by kernel_rfl) ?hQo103 ?hyo103 hS ?_
    case hio103 => (simp only [List.getElem?_toArray, List.getElem?_cons_succ, List.getElem?_cons_zero]; rfl)
    case hQo103 => exact fun _ _ _ h => h
    case hyo103 => exact Or.inl ⟨by rfl, fun W hW => by kernel_rfl⟩
    try simp only [Act.put, List.setIfInBounds_toArray, List.set_cons_zero, List.set_cons_succ]
    refine wpAnyH_take (i := 3) (oi := ?o104) (v := .int .i64 a0) ?hio104 (by kernel_rfl) (by kernel_rfl) (by kernel_rfl) ?hQo104 ?hyo104 hS ?_
    case hio104 => (simp only [List.getElem?_toArray, List.getElem?_cons_succ, List.getElem?_cons_zero]; rfl)
    case hQo104 => exact fun _ _ _ h => h
    case hyo104 => exact Or.inl ⟨by rfl, fun W hW => by go_simp⟩
    try simp only [Act.put, List.setIfInBounds_toArray, List.set_cons_zero, List.set_cons_succ]
    refine wpAnyH_take (i := 4) (oi := ?o105) (v := .int .i64 (65515 + a0)) ?hio105 (by kernel_rfl) (by kernel_rfl) (by kernel_rfl) ?hQo105 ?hyo105 hS ?_
    case hio105 => (simp only [List.getElem?_toArray, List.getElem?_cons_succ, List.getElem?_cons_zero]; rfl)
    case hQo105 => exact fun _ _ _ h => h
    case hyo105 => exact Or.inl ⟨by rfl, fun W hW => by go_simp⟩
    try simp only [Act.put, List.setIfInBounds_toArray, List.set_cons_zero, List.set_cons_succ]
    refine wpAnyH_ready (rs := [5]) (by kernel_rfl) (by simp) ?_
    refine AllReadyH.cons (o := ?o112) ?hoo112 (fun K hK => ?ho112) AllReadyH.nil
    case hoo112 => (simp only [List.getElem?_toArray, List.getElem?_cons_succ, List.getElem?_cons_zero]; rfl)
    case ho112 =>
      refine step_mk rfl (.tmp 19) (.tmp 19) rfl n _ _ rfl rfl HM.out HM.out (by have := HM.out; omega) ?_
      intro w2 ho2 hb2
      have k2 := hS.on hb2
      have b2 := Below.on b1 b1.size hb2
      have s2 := ho2.shown
      refine hK.out _ _ k2 (fun hS2 => ?_)
      clear hK K hS2
      try simp only [Act.put, List.setIfInBounds_toArray, List.set_cons_zero, List.set_cons_succ]
      refine wpAnyH_ready (rs := [6]) (by kernel_rfl) (by simp) ?_
      refine AllReadyH.cons (o := ?o111) ?hoo111 (fun K hK => ?ho111) AllReadyH.nil
      case hoo111 => (simp only [List.getElem?_toArray, List.getElem?_cons_succ, List.getElem?_cons_zero]; rfl)
      case ho111 =>
        go_simp
        go_at_call 23
        refine (put_long 0 0 0 0 0 0 0 0 0 (zb 16) (zb 16) rfl rfl _ n n _ (by have := HM.out; omega) (by omega) (by omega) (by omega) (by omega) (by omega) (by omega) (by decide +kernel) (by decide +kernel)).mono ?_
        rintro e w3 ⟨rfl, hb3⟩
        have k3 := k2.on hb3
        have b3 := Below.on b2 b2.size hb3
        refine hK.out _ _ k3 (fun hS3 => ?_)
        clear hK K hS3
        try simp only [Act.put, List.setIfInBounds_toArray, List.set_cons_zero, List.set_cons_succ]
        refine wpAnyH_take (i := 7) (oi := ?o106) (v := .tuple #[.slice none 0 0, .int .i64 4]) ?hio106 (by kernel_rfl) (by kernel_rfl) (by kernel_rfl) ?hQo106 ?hyo106 k3 ?_
        case hio106 => (simp only [List.getElem?_toArray, List.getElem?_cons_succ, List.getElem?_cons_zero]; rfl)
        case hQo106 => exact fun _ _ _ h => h
        case hyo106 => exact Or.inl ⟨by rfl, fun W hW => by go_simp⟩
        try simp only [Act.put, List.setIfInBounds_toArray, List.set_cons_zero, List.set_cons_succ]
        refine wpAnyH_take (i := 8) (oi := ?o107) (v := .slice none 0 0) ?hio107 (by kernel_rfl) (by kernel_rfl) (by kernel_rfl) ?hQo107 ?hyo107 k3 ?_
        case hio107 => (simp only [List.getElem?_toArray, List.getElem?_cons_succ, List.getElem?_cons_zero]; rfl)
        case hQo107 => exact fun _ _ _ h => h
        case hyo107 => exact Or.inl ⟨by rfl, fun W hW => by go_simp⟩
        try simp only [Act.put, List.setIfInBounds_toArray, List.set_cons_zero, List.set_cons_succ]
        refine wpAnyH_take (i := 9) (oi := ?o108) (v := .int .i64 4) ?hio108 (by kernel_rfl) (by kernel_rfl) (by kernel_rfl) ?hQo108 ?hyo108 k3 ?_
        case hio108 => (simp only [List.getElem?_toArray, List.getElem?_cons_succ, List.getElem?_cons_zero]; rfl)
        case hQo108 => exact fun _ _ _ h => h
        case hyo108 => exact Or.inl ⟨by rfl, fun W hW => by go_simp⟩
        try simp only [Act.put, List.setIfInBounds_toArray, List.set_cons_zero, List.set_cons_succ]
        refine wpAnyH_take (i := 10) (oi := ?o109) (v := .slice none 0 0) ?hio109 (by kernel_rfl) (by kernel_rfl) (by kernel_rfl) ?hQo109 ?hyo109 k3 ?_
        case hio109 => (simp only [List.getElem?_toArray, List.getElem?_cons_succ, List.getElem?_cons_zero]; rfl)
        case hQo109 => exact fun _ _ _ h => h
        case hyo109 => exact Or.inl ⟨by rfl, fun W hW => by go_simp⟩
        try simp only [Act.put, List.setIfInBounds_toArray, List.set_cons_zero, List.set_cons_succ]
        refine wpAnyH_take (i := 11) (oi := ?o110) (v := .int .i64 4) ?hio110 (by kernel_rfl) (by kernel_rfl) (by kernel_rfl) ?hQo110 ?hyo110 k3 ?_
        case hio110 => (simp only [List.getElem?_toArray, List.getElem?_cons_succ, List.getElem?_cons_zero]; rfl)
        case hQo110 => exact fun _ _ _ h => h
        case hyo110 => exact Or.inl ⟨by rfl, fun W hW => by go_simp⟩
        try simp only [Act.put, List.setIfInBounds_toArray, List.set_cons_zero, List.set_cons_succ]
        refine wpAnyH_done (by kernel_rfl) ?_ _
        clear k1 k2 k3 b1 b2 hb2 hb3 ho2 s2 hS
        go_wp2_with fail
        refine (alive19 _).mono ?_
        rintro e w4 ⟨rfl, hb4⟩
        have b4 := Below.on b3 b3.size hb4
        clear b3 hb4
        go_wp2
        go_ret
        exact ⟨rfl, b4⟩
  · have hdp : decide (0 < a0) = false := decide_eq_false hp
    have z0 := (zero_of_info Try.zeroAddr).1
    go_enter Try.func9, Try.ntmps9
    go_wp2_with (first
      | (refine wpList_allocStore (cs := adv 4 (zb 16)) rfl rfl 37 ?ho (.tmp 3) (.tmp 13) ?ho2 Try.zeroAddr ?hz ?hx ?hy ?hn ?h1 ?_
         case ho => with_reducible rfl
         case ho2 => rfl
         case hz => rfl
         case hx => rfl
         case hy => rfl
         case hn => rfl
         case h1 => exact adv_one _ _)
      | fail)
    have k0 : Blk (w.alloc (.cells (adv 4 (zb 16)) 37)) w.heap.size 37 (adv 4 (zb 16)) := blk_new _ _ _
    have b0 : Below w.heap.size w (w.alloc (.cells (adv 4 (zb 16)) 37)) := (Below.refl _ _).alloc (Nat.le_refl _) _
    generalize w.alloc (.cells (adv 4 (zb 16)) 37) = W1 at *
    have k1 : Blk W1.drew w.heap.size 37 (adv 4 (zb 16)) := k0
    have b1 : Below w.heap.size w W1.drew := b0.drew
    clear k0 b0
    refine wp_region_held_drew (S := fun W => Blk W w.heap.size 37 (adv 4 (zb 16))) (by kernel_rfl) k1 ?_
    intro hS
    refine wpAnyH_take (i := 0) (oi := ?o113) (v := .agg (adv 4 (zb 16))) ?hio113 (by kernel_rfl) (by kernel_rfl) (by kernel_rfl) ?hQo113 ?hyo113 hS ?_
    case hio113 => (simp only [List.getElem?_toArray, List.getElem?_cons_succ, List.getElem?_cons_zero]; rfl)
    case hQo113 => exact fun _ _ _ h => h
    case hyo113 => exact yieldsIf_load_mid (by rfl) 37 (.tmp 3) rfl w.heap.size 0 rfl (adv 4 (zb 16)).toList _ (fun W hW => Blk.range0 hW) Try.underlying37 rfl (by kernel_rfl)
    try simp only [Act.put, List.setIfInBounds_toArray, List.set_cons_zero, List.set_cons_succ]
    refine wpAnyH_take (i := 1) (oi := ?o114) (v := .agg (adv 4 (zb 16))) ?hio114 (by kernel_rfl) (by kernel_rfl) (by kernel_rfl) ?hQo114 ?hyo114 hS ?_
    case hio114 => (simp only [List.getElem?_toArray, List.getElem?_cons_succ, List.getElem?_cons_zero]; rfl)
    case hQo114 => exact fun _ _ _ h => h
    case hyo114 => exact yieldsIf_load_mid (by rfl) 37 (.tmp 3) rfl w.heap.size 0 rfl (adv 4 (zb 16)).toList _ (fun W hW => Blk.range0 hW) Try.underlying37 rfl (by kernel_rfl)
    try simp only [Act.put, List.setIfInBounds_toArray, List.set_cons_zero, List.set_cons_succ]
    refine wpAnyH_take (i := 2) (oi := ?o115) (v := .agg (hdv [0, 0, 0, ((0 : Nat) : Int), ((0 : Nat) : Int), ((0 : Nat) : Int), ((0 : Nat) : Int), ((0 : Nat) : Int), ((0 : Nat) : Int)] (adv 4 (zb 16)) (adv 4 (zb 16)))) ?hio115 (by kernel_rfl) (by kernel_rfl) (by kernel_rfl) ?hQo115 ?hyo115 hS ?_
    case hio115 => (simp only [List.getElem?_toArray, List.getElem?_cons_succ, List.getElem?_cons_zero]; rfl)
    case hQo115 => exact fun _ _ _ h => h
    case hyo115 => exact Or.inl ⟨by rfl, fun W hW => by kernel_rfl⟩
    try simp only [Act.put, List.setIfInBounds_toArray, List.set_cons_zero, List.set_cons_succ]
    refine wpAnyH_take (i := 3) (oi := ?o116) (v := .int .i64 a0) ?hio116 (by kernel_rfl) (by kernel_rfl) (by kernel_rfl) ?hQo116 ?hyo116 hS ?_
    case hio116 => (simp only [List.getElem?_toArray, List.getElem?_cons_succ, List.getElem?_cons_zero]; rfl)
    case hQo116 => exact fun _ _ _ h => h
    case hyo116 => exact Or.inl ⟨by rfl, fun W hW => by go_simp⟩
    try simp only [Act.put, List.setIfInBounds_toArray, List.set_cons_zero, List.set_cons_succ]
    refine wpAnyH_take (i := 4) (oi := ?o117) (v := .int .i64 (65515 + a0)) ?hio117 (by kernel_rfl) (by kernel_rfl) (by kernel_rfl) ?hQo117 ?hyo117 hS ?_
    case hio117 => (simp only [List.getElem?_toArray, List.getElem?_cons_succ, List.getElem?_cons_zero]; rfl)
    case hQo117 => exact fun _ _ _ h => h
    case hyo117 => exact Or.inl ⟨by rfl, fun W hW => by go_simp⟩
    try simp only [Act.put, List.setIfInBounds_toArray, List.set_cons_zero, List.set_cons_succ]
    refine wpAnyH_ready (rs := [5]) (by kernel_rfl) (by simp) ?_
    refine AllReadyH.cons (o := ?o124) ?hoo124 (fun K hK => ?ho124) AllReadyH.nil
    case hoo124 => (simp only [List.getElem?_toArray, List.getElem?_cons_succ, List.getElem?_cons_zero]; rfl)
    case ho124 =>
      refine step_mk rfl (.tmp 19) (.tmp 19) rfl n _ _ rfl rfl HM.out HM.out (by have := HM.out; omega) ?_
      intro w2 ho2 hb2
      have k2 := hS.on hb2
      have b2 := Below.on b1 b1.size hb2
      have s2 := ho2.shown
      refine hK.out _ _ k2 (fun hS2 => ?_)
      clear hK K hS2
      try simp only [Act.put, List.setIfInBounds_toArray, List.set_cons_zero, List.set_cons_succ]
      refine wpAnyH_ready (rs := [6]) (by kernel_rfl) (by simp) ?_
      refine AllReadyH.cons (o := ?o123) ?hoo123 (fun K hK => ?ho123) AllReadyH.nil
      case hoo123 => (simp only [List.getElem?_toArray, List.getElem?_cons_succ, List.getElem?_cons_zero]; rfl)
      case ho123 =>
        go_simp
        go_at_call 23
        refine (put_in 0 0 0 0 0 0 0 0 0 (zb 16) (zb 16) rfl rfl _ n n _ _ (by have := HM.out; omega) s2 (by omega) (by omega) (by omega) (by omega) (by omega) (by omega) (by decide +kernel) (by decide +kernel)).mono ?_
        rintro e w3 ⟨x, rfl, ho3, hb3⟩
        obtain ⟨g3, c3, rfl, hg3⟩ := ho3.blk (by omega)
        have k3 := k2.on hb3
        have b3 := Below.on b2 b2.size hb3
        refine hK.out _ _ k3 (fun hS3 => ?_)
        clear hK K hS3
        try simp only [Act.put, List.setIfInBounds_toArray, List.set_cons_zero, List.set_cons_succ]
        refine wpAnyH_take (i := 7) (oi := ?o118) (v := .tuple #[.slice (some ⟨g3, 0, none⟩) (20 + n) c3, .int .i64 0]) ?hio118 (by kernel_rfl) (by kernel_rfl) (by kernel_rfl) ?hQo118 ?hyo118 k3 ?_
        case hio118 => (simp only [List.getElem?_toArray, List.getElem?_cons_succ, List.getElem?_cons_zero]; rfl)
        case hQo118 => exact fun _ _ _ h => h
        case hyo118 => exact Or.inl ⟨by rfl, fun W hW => by go_simp⟩
        try simp only [Act.put, List.setIfInBounds_toArray, List.set_cons_zero, List.set_cons_succ]
        refine wpAnyH_take (i := 8) (oi := ?o119) (v := .slice (some ⟨g3, 0, none⟩) (20 + n) c3) ?hio119 (by kernel_rfl) (by kernel_rfl) (by kernel_rfl) ?hQo119 ?hyo119 k3 ?_
        case hio119 => (simp only [List.getElem?_toArray, List.getElem?_cons_succ, List.getElem?_cons_zero]; rfl)
        case hQo119 => exact fun _ _ _ h => h
        case hyo119 => exact Or.inl ⟨by rfl, fun W hW => by go_simp⟩
        try simp only [Act.put, List.setIfInBounds_toArray, List.set_cons_zero, List.set_cons_succ]
        refine wpAnyH_take (i := 9) (oi := ?o120) (v := .int .i64 0) ?hio120 (by kernel_rfl) (by kernel_rfl) (by kernel_rfl) ?hQo120 ?hyo120 k3 ?_
        case hio120 => (simp only [List.getElem?_toArray, List.getElem?_cons_succ, List.getElem?_cons_zero]; rfl)
        case hQo120 => exact fun _ _ _ h => h
        case hyo120 => exact Or.inl ⟨by rfl, fun W hW => by go_simp⟩
        try simp only [Act.put, List.setIfInBounds_toArray, List.set_cons_zero, List.set_cons_succ]
        refine wpAnyH_take (i := 10) (oi := ?o121) (v := .slice (some ⟨g3, 0, none⟩) (20 + n) c3) ?hio121 (by kernel_rfl) (by kernel_rfl) (by kernel_rfl) ?hQo121 ?hyo121 k3 ?_
        case hio121 => (simp only [List.getElem?_toArray, List.getElem?_cons_succ, List.getElem?_cons_zero]; rfl)
        case hQo121 => exact fun _ _ _ h => h
        case hyo121 => exact Or.inl ⟨by rfl, fun W hW => by go_simp⟩
        try simp only [Act.put, List.setIfInBounds_toArray, List.set_cons_zero, List.set_cons_succ]
        refine wpAnyH_take (i := 11) (oi := ?o122) (v := .int .i64 0) ?hio122 (by kernel_rfl) (by kernel_rfl) (by kernel_rfl) ?hQo122 ?hyo122 k3 ?_
        case hio122 => (simp only [List.getElem?_toArray, List.getElem?_cons_succ, List.getElem?_cons_zero]; rfl)
        case hQo122 => exact fun _ _ _ h => h
        case hyo122 => exact Or.inl ⟨by rfl, fun W hW => by go_simp⟩
        try simp only [Act.put, List.setIfInBounds_toArray, List.set_cons_zero, List.set_cons_succ]
        refine wpAnyH_done (by kernel_rfl) ?_ _
        clear k1 k2 k3 b1 b2 hb2 hb3 ho2 s2 hS ho3
        have e1 : (20 + (n : Int)) = 65535 + a0 := by have := HM.out; omega
        go_wp2_with fail
        refine (alive19 _).mono ?_
        rintro e w4 ⟨rfl, hb4⟩
        have b4 := Below.on b3 b3.size hb4
        clear b3 hb4
        go_wp2
        go_ret
        exact ⟨rfl, b4⟩

theorem walk_IpfourLong (a0 : Int) (_w0 : (Lit.int .i64 a0).wf = true) (w : World) :
    Calls Try.prog 9 #[.int .i64 a0] w fun e w' => e = .returned (.bool true) ∧ Below w.heap.size w w' := by
  by_cases h : -3 ≤ a0 ∧ a0 ≤ 3
  · obtain ⟨m, hm⟩ := Int.eq_ofNat_of_zero_le (show 0 ≤ 65515 + a0 by omega)
    exact ipfourLong_main m a0 w hm h.1 h.2
  · by_cases h1 : a0 < -3
    · have hd : decide (a0 < -3) = true := decide_eq_true h1
      go_enter Try.func9, Try.ntmps9
      go_wp2_with fail
      refine (alive19 w).mono ?_
      rintro e w1 ⟨rfl, hb1⟩
      go_wp2
      go_ret
      exact ⟨rfl, hb1⟩
    · have hd : decide (a0 < -3) = false := decide_eq_false h1
      have h3 : 3 < a0 := by omega
      clear h
      go_enter Try.func9, Try.ntmps9
      go_wp2_with fail
      refine (alive19 w).mono ?_
      rintro e w1 ⟨rfl, hb1⟩
      go_wp2
      go_ret
      exact ⟨rfl, hb1⟩

end Go.Proofs.Ytolmejmmbdclfaa
