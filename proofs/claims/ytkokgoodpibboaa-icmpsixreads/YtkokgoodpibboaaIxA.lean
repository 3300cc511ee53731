
/- Family 6: what the check of a message counts ahead; contracts: icmpsix.ahead, crawlwayref23.summed. -/
import Derived.Test.YtkokgoodpibboaaRpD
namespace Go.Proofs.Ytkokgoodpibboaa
open Go.RowKit
set_option maxRecDepth 100000
set_option linter.unusedSimpArgs false
set_option linter.unusedVariables false

/-- What stands ahead of a message, as its check counts it. -/
def pre6 (s d : List UInt8) (k : Nat) : List UInt8 := s ++ (d ++ ((leBytes k 4).reverse ++ [0, 0, 0, 58]))
theorem pre6_len (s d : List UInt8) (k : Nat) (hs : s.length = 16) (hd : d.length = 16) : (pre6 s d k).length = 40 := by simp [pre6, hs, hd, leBytes_len]
theorem be58 : (leBytes 58 4).reverse = [0, 0, 0, 58] := by decide +kernel
theorem be4_bytes (k : Nat) (h : k < 16777216) : (leBytes k 4).reverse = [0, UInt8.ofNat (k / 65536), UInt8.ofNat (k / 256 % 256), UInt8.ofNat (k % 256)] := by
  have e : (leBytes k 4).reverse = [byteAt k 3, byteAt k 2, byteAt k 1, byteAt k 0] := rfl
  rw [e]
  unfold byteAt
  rw [ofNat_mod (k / 256 ^ 3) 0 (by omega), ofNat_mod (k / 256 ^ 2) (k / 65536) (by omega), ofNat_mod (k / 256 ^ 1) (k / 256 % 256) (by omega), ofNat_mod (k / 256 ^ 0) (k % 256) (by omega)]
  rfl

set_option maxHeartbeats 2000000 in
theorem ahead_any (xs : List Int) (s d : List UInt8) (hx : xs.length = 9) (hs : s.length = 16) (hd : d.length = 16) (k : Nat) (hk : k ≤ 100000) (w : World) :
    Calls Try.prog 85 #[.agg (hdv xs (adv 6 s) (adv 6 d)), .int .i64 (k : Int)] w fun e w' => ∃ A c L, e = .returned (.slice A 4 c) ∧ Parts w' w'.heap.size A 4 L ∧ joinP L = pre6 s d k ∧ Below w.heap.size w w' := by
  have k0 : Blk (w.alloc (.cells (hdv xs (adv 6 s) (adv 6 d)) 42)) w.heap.size 42 (hdv xs (adv 6 s) (adv 6 d)) := blk_new _ _ _
  have hb0 : Below w.heap.size w (w.alloc (.cells (hdv xs (adv 6 s) (adv 6 d)) 42)) := (Below.refl _ _).alloc (Nat.le_refl _) _
  have R1 := fun (W : World) (h : Blk W w.heap.size 42 (hdv xs (adv 6 s) (adv 6 d))) => hdv_src hx h
  have R2 := fun (W : World) (h : Blk W w.heap.size 42 (hdv xs (adv 6 s) (adv 6 d))) => hdv_dst hx (adv_size 6 s hs) h
  have z1 := Adr_size 6 s hs
  have z2 := Adr_size 6 d hd
  have HS := Lib.hid (fun W => abytes_any 6 s hs W)
  have HD := Lib.hid (fun W => abytes_any 6 d hd W)
  rw [sizeA_6 s, List.take_of_length_le (by omega)] at HS
  rw [sizeA_6 d, List.take_of_length_le (by omega)] at HD
  have hw1 : IntKind.u64.wrap (k : Int) = (k : Int) := IntWalk.u64_in _ (by omega)
  have HJ := Lib.hid (show pre6 s d k = s ++ (d ++ ((leBytes k 4).reverse ++ (leBytes 58 4).reverse)) by rw [be58]; rfl)
  generalize hdv xs (adv 6 s) (adv 6 d) = M at *
  generalize adv 6 s = XS at *
  generalize adv 6 d = XD at *
  go_enter Try.func85, Try.ntmps85
  go_wp2_with fail
  refine (big_ok k 4 _ (by omega) (by omega) (by rw [show ones (8 * ((4 : Nat) : Int)) = 4294967295 by rw [ones_256 4 (by omega)]]; omega)).mono ?_
  rintro e w2 ⟨rfl, ho2, hb2⟩
  have k2 := k0.on hb2
  have b2 := Below.on hb0 hb0.size hb2
  have f2 := ho2.shown
  clear k0 hb0 hb2 ho2
  generalize (w.alloc (.cells M 42)).heap.size = g1 at *
  go_wp2_with fail
  refine (big_ok 58 4 w2 (by omega) (by omega) (by rw [show ones (8 * ((4 : Nat) : Int)) = 4294967295 by rw [ones_256 4 (by omega)]]; omega)).mono ?_
  rintro e w3 ⟨rfl, ho3, hb3⟩
  have q3' := k2.on hb3
  have q3 : Blk w3.drew w.heap.size 42 M := q3'
  clear q3'
  have qb : Below w.heap.size w w3.drew := (Below.on b2 b2.size hb3).drew
  have qf' := (f2.below hb3).up hb3.size
  have qf : Shows w3.drew w3.drew.heap.size (some ⟨g1, 0, none⟩) 4 (leBytes k 4).reverse := qf'
  clear qf'
  have qm : Shows w3.drew w3.drew.heap.size (some ⟨w2.heap.size, 0, none⟩) 4 (leBytes 58 4).reverse := ho3.shown
  clear k2 b2 f2 hb3 ho3
  generalize w2.heap.size = g2 at *
  go_wp2_with fail
  refine wp_region_held_drew (S := fun W => Blk W w.heap.size 42 M) (by kernel_rfl) q3 ?_
  intro hS
  refine wpAnyH_take (i := 0) (oi := ?o1) (v := .pointer (some ⟨w.heap.size, 9, none⟩)) ?hio1 (by kernel_rfl) (by kernel_rfl) (by kernel_rfl) ?hQo1 ?hyo1 hS ?_
  case hio1 => (simp only [List.getElem?_toArray, List.getElem?_cons_succ, List.getElem?_cons_zero]; rfl)
  case hQo1 => exact fun _ _ _ h => h
  case hyo1 => exact Or.inl ⟨by rfl, fun W hW => by go_simp⟩
  try simp only [Act.put, List.setIfInBounds_toArray, List.set_cons_zero, List.set_cons_succ]
  refine wpAnyH_take (i := 3) (oi := ?o2) (v := .pointer (some ⟨w.heap.size, 26, none⟩)) ?hio2 (by kernel_rfl) (by kernel_rfl) (by kernel_rfl) ?hQo2 ?hyo2 hS ?_
  case hio2 => (simp only [List.getElem?_toArray, List.getElem?_cons_succ, List.getElem?_cons_zero]; rfl)
  case hQo2 => exact fun _ _ _ h => h
  case hyo2 => exact Or.inl ⟨by rfl, fun W hW => by go_simp⟩
  try simp only [Act.put, List.setIfInBounds_toArray, List.set_cons_zero, List.set_cons_succ]
  refine wpAnyH_take (i := 1) (oi := ?o3) (v := .agg XS) ?hio3 (by kernel_rfl) (by kernel_rfl) (by kernel_rfl) ?hQo3 ?hyo3 hS ?_
  case hio3 => (simp only [List.getElem?_toArray, List.getElem?_cons_succ, List.getElem?_cons_zero]; rfl)
  case hQo3 => exact fun _ _ _ h => h
  case hyo3 => exact yieldsIf_load_mid (by rfl) 32 (.tmp 19) rfl w.heap.size 9 rfl XS.toList _ (fun W hW => R1 W hW) Try.underlying32 rfl (by simpa using z1)
  try simp only [Act.put, List.setIfInBounds_toArray, List.set_cons_zero, List.set_cons_succ]
  refine wpAnyH_take (i := 4) (oi := ?o4) (v := .agg XD) ?hio4 (by kernel_rfl) (by kernel_rfl) (by kernel_rfl) ?hQo4 ?hyo4 hS ?_
  case hio4 => (simp only [List.getElem?_toArray, List.getElem?_cons_succ, List.getElem?_cons_zero]; rfl)
  case hQo4 => exact fun _ _ _ h => h
  case hyo4 => exact yieldsIf_load_mid (by rfl) 32 (.tmp 22) rfl w.heap.size 26 rfl XD.toList _ (fun W hW => R2 W hW) Try.underlying32 rfl (by simpa using z2)
  try simp only [Act.put, List.setIfInBounds_toArray, List.set_cons_zero, List.set_cons_succ]
  refine wpAnyH_take (i := 6) (oi := ?o5) (v := ?vo5) ?hio5 (by kernel_rfl) (by kernel_rfl) (by kernel_rfl) ?hQo5 ?hyo5 hS ?_
  case hio5 => (simp only [List.getElem?_toArray, List.getElem?_cons_succ, List.getElem?_cons_zero]; rfl)
  case hQo5 => exact fun _ _ _ h => h
  case hyo5 =>
    refine Or.inl ⟨by rfl, ?_⟩
    intro W hW
    go_simp
    first | done | with_reducible rfl
  try simp only [Act.put, List.setIfInBounds_toArray, List.set_cons_zero, List.set_cons_succ]
  refine wpAnyH_take (i := 7) (oi := ?o6) (v := ?vo6) ?hio6 (by kernel_rfl) (by kernel_rfl) (by kernel_rfl) ?hQo6 ?hyo6 hS ?_
  case hio6 => (simp only [List.getElem?_toArray, List.getElem?_cons_succ, List.getElem?_cons_zero]; rfl)
  case hQo6 => exact fun _ _ _ h => h
  case hyo6 =>
    refine Or.inl ⟨by rfl, ?_⟩
    intro W hW
    go_simp
    first | done | with_reducible rfl
  try simp only [Act.put, List.setIfInBounds_toArray, List.set_cons_zero, List.set_cons_succ]
  clear R1 R2 z1 z2
  refine wpAnyH_ready (rs := [2]) (by kernel_rfl) (by simp) ?_
  refine AllReadyH.cons (o := ?o10) ?hoo10 (fun K hK => ?ho10) AllReadyH.nil
  case hoo10 => (simp only [List.getElem?_toArray, List.getElem?_cons_succ, List.getElem?_cons_zero]; rfl)
  case ho10 =>
    go_simp
    go_at_call 69
    with_reducible refine (HS.out _).mono ?_
    rintro e w5 ⟨xS, rfl, hoxS, hbw5⟩
    obtain ⟨A5, c5, rfl, _, _, sS1⟩ := hoxS.shows
    have f5 := (qf.below hbw5).up hbw5.size
    have m5 := (qm.below hbw5).up hbw5.size
    have b5 := Below.on qb qb.size hbw5
    have q5 := q3.on hbw5
    clear hoxS hbw5
    refine hK.out _ _ q5 (fun hS5 => ?_)
    clear hK K hS5
    try simp only [Act.put, List.setIfInBounds_toArray, List.set_cons_zero, List.set_cons_succ]
    refine wpAnyH_ready (rs := [5]) (by kernel_rfl) (by simp) ?_
    refine AllReadyH.cons (o := ?o9) ?hoo9 (fun K hK => ?ho9) AllReadyH.nil
    case hoo9 => (simp only [List.getElem?_toArray, List.getElem?_cons_succ, List.getElem?_cons_zero]; rfl)
    case ho9 =>
      go_simp
      go_at_call 69
      with_reducible refine (HD.out _).mono ?_
      rintro e w6 ⟨xD, rfl, hoxD, hbw6⟩
      obtain ⟨A6, c6, rfl, _, _, sD⟩ := hoxD.shows
      have sF := (f5.below hbw6).up hbw6.size
      have sM := (m5.below hbw6).up hbw6.size
      have sS := (sS1.below hbw6).up hbw6.size
      have b6 := Below.on b5 b5.size hbw6
      have q6 := q5.on hbw6
      clear hoxD hbw6 f5 m5 sS1
      refine hK.out _ _ q6 (fun hS2 => ?_)
      clear hK K hS2
      try simp only [Act.put, List.setIfInBounds_toArray, List.set_cons_zero, List.set_cons_succ]
      refine wpAnyH_ready (rs := [8]) (by kernel_rfl) (by simp) ?_
      refine AllReadyH.cons (o := ?o8) ?hoo8 (fun K hK => ?ho8) AllReadyH.nil
      case hoo8 => (simp only [List.getElem?_toArray, List.getElem?_cons_succ, List.getElem?_cons_zero]; rfl)
      case ho8 =>
        go_simp
        have P4 : Parts (w6.alloc (.cells #[.slice A5 16 c5, .slice A6 16 c6, .slice (some ⟨g1, 0, none⟩) 4 4, .slice (some ⟨g2, 0, none⟩) 4 4] 43)) (w6.alloc (.cells #[.slice A5 16 c5, .slice A6 16 c6, .slice (some ⟨g1, 0, none⟩) 4 4, .slice (some ⟨g2, 0, none⟩) 4 4] 43)).heap.size (some ⟨w6.heap.size, 0, none⟩) 4 [⟨A5, 16, c5, s⟩, ⟨A6, 16, c6, d⟩, ⟨some ⟨g1, 0, none⟩, 4, 4, (leBytes k 4).reverse⟩, ⟨some ⟨g2, 0, none⟩, 4, 4, (leBytes 58 4).reverse⟩] := partsN w6 [⟨A5, 16, c5, s⟩, ⟨A6, 16, c6, d⟩, ⟨some ⟨g1, 0, none⟩, 4, 4, (leBytes k 4).reverse⟩, ⟨some ⟨g2, 0, none⟩, 4, 4, (leBytes 58 4).reverse⟩] (by
          intro p hp
          simp only [List.mem_cons, List.not_mem_nil, or_false] at hp
          rcases hp with rfl | rfl | rfl | rfl
          · exact sS
          · exact sD
          · exact sF
          · exact sM)
        refine hK.out _ _ (q6.alloc _) (fun hS7 => ?_)
        clear hK K hS7
        try simp only [Act.put, List.setIfInBounds_toArray, List.set_cons_zero, List.set_cons_succ]
        refine wpAnyH_take (i := 9) (oi := ?o7) (v := .slice (some ⟨w6.heap.size, 0, none⟩) 4 4) ?hio7 (by kernel_rfl) (by kernel_rfl) (by kernel_rfl) ?hQo7 ?hyo7 (q6.alloc _) ?_
        case hio7 => (simp only [List.getElem?_toArray, List.getElem?_cons_succ, List.getElem?_cons_zero]; rfl)
        case hQo7 => exact fun _ _ _ h => h
        case hyo7 => exact Or.inl ⟨by rfl, fun W hW => by go_simp⟩
        try simp only [Act.put, List.setIfInBounds_toArray, List.set_cons_zero, List.set_cons_succ]
        refine wpAnyH_done (by kernel_rfl) ?_ _
        go_wp2
        go_ret
        exact ⟨some ⟨w6.heap.size, 0, none⟩, 4, _, rfl, P4, by rw [HJ.out]; simp [joinP], b6.alloc b6.size _⟩

end Go.Proofs.Ytkokgoodpibboaa
