
/- Contract: icmpfour.Unreachable of a whole packet of family 4; law22's alive. -/
import Derived.Test.YtkokgoodpibboaaNtC
namespace Go.Proofs.Ytkokgoodpibboaa
open Go.RowKit
set_option maxRecDepth 100000
set_option linter.unusedSimpArgs false
set_option linter.unusedVariables false

/-- The message that a packet did not arrive. -/
def msg4 (l : List UInt8) : List UInt8 := pkt 192 0 0 0 64 1 (dstL l) (srcL l) (noteL 3 1 (65535 - osum (noteL 3 1 0 (l.take (min l.length 548)))) (l.take (min l.length 548)))

set_option maxRecDepth 100000 in
set_option maxHeartbeats 2000000 in
theorem unreach4_ok (A : Option Addr) (n c : Nat) (l : List UInt8) (w : World) (hn : n ≤ 60000) (hc : n ≤ c) (hcm : c ≤ maxLen) (hs : Shows w w.heap.size A n l) (hE : pE l = 0) (hW : kW l = true) :
    Calls Try.prog 33 #[.slice A n c] w fun e w' => ∃ v, e = .returned (.tuple #[v, .int .i64 0]) ∧ Own w' w.heap.size v (20 + (8 + min n 548)) (msg4 l) ∧ Below w.heap.size w w' := by
  have hz := (zero_of_info Try.zeroHead).1
  have hne : ¬ zH = #[] := by intro h; have := zH_size; rw [h] at this; cases this
  have hl := hs.len
  obtain ⟨f1, f2, f3, f4⟩ := pE_facts hE
  obtain ⟨b, off, rfl, hbb, _⟩ := hs.2 (by omega)
  have HP := Lib.hid (parse4_any (some ⟨b, off, none⟩) n c l w (by omega) hc hcm hs)
  have HWh := Lib.hid (fun (W : World) (hW' : Below w.heap.size w W) => whole_any (some ⟨b, off, none⟩) n c l W (by omega) hc hcm ((hs.below hW').up hW'.size))
  rw [hE] at HP
  rw [hW] at HWh
  have e : pH l = hdL l := by unfold pH; rw [if_pos hE]
  rw [e] at HP
  have hsz := hdL_size l (by omega)
  have o1 : ((hdL l).all fun x => x.oneCell') = true := by unfold hdL hdN; exact hdv_one _ _ _ _ _
  have ls : (srcL l).length = 4 := by simp [srcL]; omega
  have ld : (dstL l).length = 4 := by simp [dstL]; omega
  have zl1 : (srcL l ++ zb 12).length = 16 := by simp [zb, ls]
  have zl2 : (dstL l ++ zb 12).length = 16 := by simp [zb, ld]
  have R1 := fun (W : World) (g : Nat) (h : Blk W g 42 (hdL l)) => show W.rangeAt g 9 (adv 4 (srcL l ++ zb 12)).toList from by unfold hdL hdN at h; exact hdv_src (by rfl) h
  have R2 := fun (W : World) (g : Nat) (h : Blk W g 42 (hdL l)) => show W.rangeAt g 26 (adv 4 (dstL l ++ zb 12)).toList from by unfold hdL hdN at h; exact hdv_dst (by rfl) (adv_size _ _ zl1) h
  have z1 := Adr_size 4 _ zl1
  have z2 := Adr_size 4 _ zl2
  have hm : min n 548 ≤ n := Nat.min_le_left _ _
  have hm2 : min n 548 ≤ 548 := Nat.min_le_right _ _
  have emin : (if (548 : Int) < (n : Int) then (548 : Int) else (n : Int)) = ((min n 548 : Nat) : Int) := by split <;> omega
  have HM := Lib.hid (show msg4 l = pkt 192 0 0 0 64 1 (dstL l) (srcL l) (noteL 3 1 (65535 - osum (noteL 3 1 0 (l.take (min n 548)))) (l.take (min n 548))) by unfold msg4; rw [hl])
  have HN := Lib.hid (fun (W : World) (hW' : Below w.heap.size w W) => nbytes_any 3 1 (some ⟨b, off, none⟩) (min n 548) c (l.take (min n 548)) none 0 0 [] W (by omega) (by omega) (by simp [joinP]) (by simpa using ((hs.below hW').up hW'.size).piece 0 (min n 548) (by omega)) (parts_none _ _))
  rw [show joinP [] = [] from rfl, List.nil_append] at HN
  have HPut := Lib.hid (fun (A2 : Option Addr) (n2 c2 : Nat) (bl : List UInt8) (W : World) (h1 : n2 ≤ 65515) (h2 : Shows W W.heap.size A2 n2 bl) => put_in 0 0 0 192 0 0 0 64 1 (dstL l ++ zb 12) (srcL l ++ zb 12) zl2 zl1 A2 n2 c2 bl W h1 h2 (by omega) (by omega) (by omega) (by omega) (by omega) (by omega) (by simp [okA, ld]) (by simp [okA, ls]))
  rw [show (dstL l ++ zb 12).take 4 = dstL l by rw [List.take_append_of_le_length (by omega), List.take_of_length_le (by omega)], show (srcL l ++ zb 12).take 4 = srcL l by rw [List.take_append_of_le_length (by omega), List.take_of_length_le (by omega)]] at HPut
  obtain ⟨s0, s1, s2, s3, es⟩ := list_four _ ls
  obtain ⟨t0, t1, t2, t3, et⟩ := list_four _ ld
  have HX := Lib.hid (show adv 4 ([s0, s1, s2, s3] ++ zb 12) = adv 4 (srcL l ++ zb 12) by rw [es])
  have HY := Lib.hid (show adv 4 ([t0, t1, t2, t3] ++ zb 12) = adv 4 (dstL l ++ zb 12) by rw [et])
  have oB := hdv_one [0, 0, 0, ((192 : Nat) : Int), ((0 : Nat) : Int), ((0 : Nat) : Int), ((0 : Nat) : Int), ((64 : Nat) : Int), ((1 : Nat) : Int)] 4 4 (dstL l ++ zb 12) (srcL l ++ zb 12)
  have zB := hdv_size [0, 0, 0, ((192 : Nat) : Int), ((0 : Nat) : Int), ((0 : Nat) : Int), ((0 : Nat) : Int), ((64 : Nat) : Int), ((1 : Nat) : Int)] (adv 4 (dstL l ++ zb 12)) (adv 4 (srcL l ++ zb 12)) rfl (adv_size _ _ zl2) (adv_size _ _ zl1)
  have msB : (Try.prog.info? 42).map (·.size) = some (hdv [0, 0, 0, ((192 : Nat) : Int), ((0 : Nat) : Int), ((0 : Nat) : Int), ((0 : Nat) : Int), ((64 : Nat) : Int), ((1 : Nat) : Int)] (adv 4 (dstL l ++ zb 12)) (adv 4 (srcL l ++ zb 12))).size := by rw [zB]; exact Try.infoHead
  clear es et ls ld zl1 zl2 hs hE hW e f1 f2 f3 f4
  have HBK := Lib.hid (show hdv [0, 0, 0, ((192 : Nat) : Int), ((0 : Nat) : Int), ((0 : Nat) : Int), ((0 : Nat) : Int), ((64 : Nat) : Int), ((1 : Nat) : Int)] (adv 4 (dstL l ++ zb 12)) (adv 4 (srcL l ++ zb 12)) = hdv [0, 0, 0, ((192 : Nat) : Int), ((0 : Nat) : Int), ((0 : Nat) : Int), ((0 : Nat) : Int), ((64 : Nat) : Int), ((1 : Nat) : Int)] (adv 4 (dstL l ++ zb 12)) (adv 4 (srcL l ++ zb 12)) from rfl)
  generalize hBKe : hdv [0, 0, 0, ((192 : Nat) : Int), ((0 : Nat) : Int), ((0 : Nat) : Int), ((0 : Nat) : Int), ((64 : Nat) : Int), ((1 : Nat) : Int)] (adv 4 (dstL l ++ zb 12)) (adv 4 (srcL l ++ zb 12)) = BK at *
  have HBE := Lib.hid hBKe
  clear hBKe HBK
  generalize hdL l = M at *
  generalize adv 4 (srcL l ++ zb 12) = XS at *
  generalize adv 4 (dstL l ++ zb 12) = XD at *
  generalize l.take (min n 548) = F at *
  generalize min n 548 = m at *
  have hmi : (m : Int) ≤ (n : Int) := by omega
  have hmc : (m : Int) ≤ (c : Int) := by omega
  have hm0 : (0 : Int) ≤ (m : Int) := by omega
  go_enter Try.func33, Try.ntmps33
  go_wp2_with fail
  refine HP.out.mono ?_
  rintro e w1 ⟨rfl, hb1⟩
  have b2 : Below w.heap.size w (w1.alloc (.cells M 42)) := hb1.alloc hb1.size _
  have k2 : Blk (w1.alloc (.cells M 42)) w1.heap.size 42 M := blk_new _ _ _
  generalize hg1 : w1.heap.size = g1 at *
  go_wp2_with (first
    | (refine wpList_allocStore (cs := M) rfl rfl 42 ?ho (.tmp 4) (.tmp 10) ?ho2 Try.zeroHead ?hz ?hx ?hy ?hn ?h1 ?_
       case ho => with_reducible rfl
       case ho2 => rfl
       case hz => exact zH_size
       case hx => rfl
       case hy => rfl
       case hn => exact hsz
       case h1 => exact o1
       rw [hg1])
    | fail)
  refine (HWh.out _ b2).mono ?_
  rintro e w3 ⟨rfl, hb3⟩
  have b3 := Below.on b2 b2.size hb3
  have k3 := k2.on hb3
  clear b2 k2 hb1 hb3 HP HWh
  have b4 : Below w.heap.size w (w3.alloc (.cells BK 42)) := b3.alloc b3.size _
  have k4 : Blk (w3.alloc (.cells BK 42)) w3.heap.size 42 BK := blk_new _ _ _
  generalize hg3 : w3.heap.size = g3 at *
  go_wp2_with (first
    | (refine wpList_loadPart (g := g1) rfl 32 (.tmp 19) ?ho 26 ?hx XD _ (R2 _ _ k3) Try.underlying32 rfl ?hi ?_
       case ho => with_reducible rfl
       case hx => rfl
       case hi => exact z2)
    | (refine wpList_loadPart (g := g1) rfl 32 (.tmp 21) ?ho 9 ?hx XS _ (R1 _ _ k3) Try.underlying32 rfl ?hi ?_
       case ho => with_reducible rfl
       case hx => rfl
       case hi => exact z1)
    | (refine wpList_build rfl 42 ?fs ?ho (.agg BK) ?hr ?_
       case ho => with_reducible rfl
       case hr =>
         intro W
         have e1 := HX.out
         have e2 := HY.out
         have e3 := HBE.out
         rw [← e3, ← e1, ← e2]
         change _ = _
         kernel_rfl)
    | (refine wpList_allocStore (cs := BK) rfl rfl 42 ?ho (.tmp 6) (.tmp 23) ?ho2 Try.zeroHead ?hz ?hx ?hy ?hn ?h1 ?_
       case ho => with_reducible rfl
       case ho2 => rfl
       case hz => exact zH_size
       case hx => rfl
       case hy => rfl
       case hn => exact zB
       case h1 => exact oB
       rw [hg3])
    | fail)
  generalize w3.alloc (.cells BK 42) = W4 at *
  have qk : Below w.heap.size w W4.drew ∧ Blk W4.drew g3 42 BK := ⟨b4.drew, k4⟩
  clear b4 k4 k3 R1 R2 z1 z2 b3
  refine wp_region_held_drew (S := fun W => Below w.heap.size w W ∧ Blk W g3 42 BK) (by kernel_rfl) qk ?_
  intro hS
  refine wpAnyH_take (i := 0) (oi := ?o4001) (v := .agg BK) ?hio4001 (by kernel_rfl) (by kernel_rfl) (by kernel_rfl) ?hQo4001 ?hyo4001 hS ?_
  case hio4001 => (simp only [List.getElem?_toArray, List.getElem?_cons_succ, List.getElem?_cons_zero]; rfl)
  case hQo4001 => exact fun _ _ _ h => h
  case hyo4001 => exact yieldsIf_load_mid (by rfl) 42 (.tmp 6) rfl g3 0 rfl BK.toList _ (fun W hW => Blk.range0 hW.2) Try.underlying42 rfl (by simpa using msB)
  try simp only [Act.put, List.setIfInBounds_toArray, List.set_cons_zero, List.set_cons_succ]
  refine wpAnyH_take (i := 1) (oi := ?o4002) (v := ?vo4002) ?hio4002 (by kernel_rfl) (by kernel_rfl) (by kernel_rfl) ?hQo4002 ?hyo4002 hS ?_
  case hio4002 => (simp only [List.getElem?_toArray, List.getElem?_cons_succ, List.getElem?_cons_zero]; rfl)
  case hQo4002 => exact fun _ _ _ h => h
  case hyo4002 =>
    refine Or.inl ⟨by rfl, ?_⟩
    intro W hW
    go_simp
    first | done | with_reducible rfl
  try simp only [Act.put, List.setIfInBounds_toArray, List.set_cons_zero, List.set_cons_succ]
  refine wpAnyH_take (i := 2) (oi := ?o4003) (v := ?vo4003) ?hio4003 (by kernel_rfl) (by kernel_rfl) (by kernel_rfl) ?hQo4003 ?hyo4003 hS ?_
  case hio4003 => (simp only [List.getElem?_toArray, List.getElem?_cons_succ, List.getElem?_cons_zero]; rfl)
  case hQo4003 => exact fun _ _ _ h => h
  case hyo4003 =>
    refine Or.inl ⟨by rfl, ?_⟩
    intro W hW
    go_simp
    first | done | with_reducible rfl
  try simp only [Act.put, List.setIfInBounds_toArray, List.set_cons_zero, List.set_cons_succ]
  refine wpAnyH_take (i := 3) (oi := ?o4004) (v := ?vo4004) ?hio4004 (by kernel_rfl) (by kernel_rfl) (by kernel_rfl) ?hQo4004 ?hyo4004 hS ?_
  case hio4004 => (simp only [List.getElem?_toArray, List.getElem?_cons_succ, List.getElem?_cons_zero]; rfl)
  case hQo4004 => exact fun _ _ _ h => h
  case hyo4004 =>
    refine Or.inl ⟨by rfl, ?_⟩
    intro W hW
    go_simp
    first | done | with_reducible rfl
  try simp only [Act.put, List.setIfInBounds_toArray, List.set_cons_zero, List.set_cons_succ]
  refine wpAnyH_take (i := 4) (oi := ?o4005) (v := ?vo4005) ?hio4005 (by kernel_rfl) (by kernel_rfl) (by kernel_rfl) ?hQo4005 ?hyo4005 hS ?_
  case hio4005 => (simp only [List.getElem?_toArray, List.getElem?_cons_succ, List.getElem?_cons_zero]; rfl)
  case hQo4005 => exact fun _ _ _ h => h
  case hyo4005 =>
    refine Or.inl ⟨by rfl, ?_⟩
    intro W hW
    go_simp
    first | done | with_reducible rfl
  try simp only [Act.put, List.setIfInBounds_toArray, List.set_cons_zero, List.set_cons_succ]
  refine wpAnyH_take (i := 5) (oi := ?o4006) (v := ?vo4006) ?hio4006 (by kernel_rfl) (by kernel_rfl) (by kernel_rfl) ?hQo4006 ?hyo4006 hS ?_
  case hio4006 => (simp only [List.getElem?_toArray, List.getElem?_cons_succ, List.getElem?_cons_zero]; rfl)
  case hQo4006 => exact fun _ _ _ h => h
  case hyo4006 =>
    refine Or.inl ⟨by rfl, ?_⟩
    intro W hW
    go_simp
    first | done | with_reducible rfl
  try simp only [Act.put, List.setIfInBounds_toArray, List.set_cons_zero, List.set_cons_succ]
  refine wpAnyH_ready (rs := [6]) (by kernel_rfl) (by simp) ?_
  refine AllReadyH.cons (o := ?o4012) ?hoo4012 (fun K hK => ?ho4012) AllReadyH.nil
  case hoo4012 => (simp only [List.getElem?_toArray, List.getElem?_cons_succ, List.getElem?_cons_zero]; rfl)
  case ho4012 =>
    go_simp
    go_at_call 82
    refine (HN.out _ qk.1).mono ?_
    rintro e w5 ⟨v5, rfl, ho5, hb5⟩
    obtain ⟨A5, c5, rfl, _, _, s5⟩ := ho5.shows
    have b5 := Below.on qk.1 qk.1.size hb5
    have k5 := qk.2.on hb5
    refine hK.out _ _ ⟨b5, k5⟩ (fun _ => ?_)
    clear hK K hb5 ho5
    try simp only [Act.put, List.setIfInBounds_toArray, List.set_cons_zero, List.set_cons_succ]
    refine wpAnyH_ready (rs := [7]) (by kernel_rfl) (by simp) ?_
    refine AllReadyH.cons (o := ?o4011) ?hoo4011 (fun K hK => ?ho4011) AllReadyH.nil
    case hoo4011 => (simp only [List.getElem?_toArray, List.getElem?_cons_succ, List.getElem?_cons_zero]; rfl)
    case ho4011 =>
      go_simp
      go_at_call 24
      refine (HPut.out A5 (8 + m) c5 _ _ (by omega) s5).mono ?_
      rintro e w6 ⟨v6, rfl, ho6, hb6⟩
      have b6 := Below.on b5 b5.size hb6
      have o6 := ho6.base (b' := w.heap.size) b5.size
      have q6 : Below w.heap.size w w6 ∧ Blk w6 g3 42 BK := ⟨b6, k5.on hb6⟩
      refine hK.out _ _ q6 (fun _ => ?_)
      clear hK K hb6 ho6
      try simp only [Act.put, List.setIfInBounds_toArray, List.set_cons_zero, List.set_cons_succ]
      refine wpAnyH_take (i := 8) (oi := ?o4007) (v := v6) ?hio4007 (by kernel_rfl) (by kernel_rfl) (by kernel_rfl) ?hQo4007 ?hyo4007 q6 ?_
      case hio4007 => (simp only [List.getElem?_toArray, List.getElem?_cons_succ, List.getElem?_cons_zero]; rfl)
      case hQo4007 => exact fun _ _ _ h => h
      case hyo4007 => exact Or.inl ⟨by rfl, fun W hW => by go_simp⟩
      try simp only [Act.put, List.setIfInBounds_toArray, List.set_cons_zero, List.set_cons_succ]
      refine wpAnyH_take (i := 9) (oi := ?o4008) (v := .int .i64 0) ?hio4008 (by kernel_rfl) (by kernel_rfl) (by kernel_rfl) ?hQo4008 ?hyo4008 q6 ?_
      case hio4008 => (simp only [List.getElem?_toArray, List.getElem?_cons_succ, List.getElem?_cons_zero]; rfl)
      case hQo4008 => exact fun _ _ _ h => h
      case hyo4008 => exact Or.inl ⟨by rfl, fun W hW => by go_simp⟩
      try simp only [Act.put, List.setIfInBounds_toArray, List.set_cons_zero, List.set_cons_succ]
      refine wpAnyH_take (i := 10) (oi := ?o4009) (v := v6) ?hio4009 (by kernel_rfl) (by kernel_rfl) (by kernel_rfl) ?hQo4009 ?hyo4009 q6 ?_
      case hio4009 => (simp only [List.getElem?_toArray, List.getElem?_cons_succ, List.getElem?_cons_zero]; rfl)
      case hQo4009 => exact fun _ _ _ h => h
      case hyo4009 => exact Or.inl ⟨by rfl, fun W hW => by go_simp⟩
      try simp only [Act.put, List.setIfInBounds_toArray, List.set_cons_zero, List.set_cons_succ]
      refine wpAnyH_take (i := 11) (oi := ?o4010) (v := .int .i64 0) ?hio4010 (by kernel_rfl) (by kernel_rfl) (by kernel_rfl) ?hQo4010 ?hyo4010 q6 ?_
      case hio4010 => (simp only [List.getElem?_toArray, List.getElem?_cons_succ, List.getElem?_cons_zero]; rfl)
      case hQo4010 => exact fun _ _ _ h => h
      case hyo4010 => exact Or.inl ⟨by rfl, fun W hW => by go_simp⟩
      try simp only [Act.put, List.setIfInBounds_toArray, List.set_cons_zero, List.set_cons_succ]
      refine wpAnyH_done (by kernel_rfl) ?_ _
      go_wp2
      go_ret2
      exact ⟨v6, rfl, by rw [HM.out]; exact o6, b6⟩

def exQ : List UInt8 := pkt 0 0 0 0 0 0 [0, 0, 0, 0] [0, 0, 0, 0] [9]
theorem exQ_E : pE exQ = 0 := by decide +kernel
theorem exQ_W : kW exQ = true := by decide +kernel

end Go.Proofs.Ytkokgoodpibboaa
