
/- Contract: packet.Strip; what is left of a packet without what stands behind it. -/
import Derived.Test.YtblfllidejdehaaPkG
namespace Go.Proofs.Ytblfllidejdehaa
open Go.RowKit
set_option linter.unusedSimpArgs false
set_option linter.unusedVariables false

theorem n1_take (l : List UInt8) (T : Nat) (h : 8 ≤ T) : n1 (l.take T) = n1 l := by unfold n1; rw [List.take_take, Nat.min_eq_left h]
theorem fam_take (l : List UInt8) (T : Nat) (h : 0 < T) : fam (l.take T) = fam l := by unfold fam; rw [List.getElem?_take, if_pos h]
theorem kW_take {l : List UInt8} (h : kE l = 0) (hn : l.length ≤ 65535) : kW (l.take (kX l 2)) = true := by
  obtain ⟨f1, f2, f3, f4, f5⟩ := kfacts h
  have hlen : (l.take (kX l 2)).length = kX l 2 := by simp; omega
  have h0 : ¬ l.length = 0 := by omega
  have key : kE (l.take (kX l 2)) = 0 ∧ kX (l.take (kX l 2)) 2 = kX l 2 := by
    unfold kE at h
    rw [if_neg h0] at h
    by_cases h4 : fam l = 4
    · rw [if_pos h4] at h
      have eH : kH l = hdL l := by unfold kH; rw [if_neg h0, if_pos h4]; unfold pH; rw [if_pos h]
      obtain ⟨h20, hw⟩ := pE_zero h
      obtain ⟨w0, w1, w2, w3, w4, w5⟩ := wE_zero hw
      have e1 : kX l 1 = n1 l / 72057594037927936 % 16 * 4 := by unfold kX; rw [eH]; unfold hdL hdN; rw [hdv_num _ _ _ 1 _ rfl]; rfl
      have e2 : kX l 2 = n1 l / 4294967296 % 65536 := by unfold kX; rw [eH]; unfold hdL hdN; rw [hdv_num _ _ _ 2 _ rfl]; rfl
      have p : pE (l.take (kX l 2)) = 0 := by
        unfold pE
        rw [if_neg (by omega), n1_take l _ (by omega), hlen]
        unfold wE
        rw [if_pos w0, if_neg (by omega), if_neg (by omega), if_neg (by omega), if_neg (by omega), List.take_take, Nat.min_eq_left (by omega), if_pos w5]
      have k : kE (l.take (kX l 2)) = 0 := by unfold kE; rw [if_neg (by omega), fam_take l _ (by omega), if_pos h4]; exact p
      have eH' : kH (l.take (kX l 2)) = hdL (l.take (kX l 2)) := by unfold kH; rw [if_neg (by omega), fam_take l _ (by omega), if_pos h4]; unfold pH; rw [if_pos p]
      refine ⟨k, ?_⟩
      have e3 : kX (l.take (kX l 2)) 2 = n1 (l.take (kX l 2)) / 4294967296 % 65536 := by rw [kX, eH']; unfold hdL hdN; rw [hdv_num _ _ _ 2 _ rfl]; rfl
      rw [e3, n1_take l _ (by omega), ← e2]
    · rw [if_neg h4] at h
      by_cases h6 : fam l = 6
      · rw [if_pos h6] at h
        have eH : kH l = hdL6 l := by unfold kH; rw [if_neg h0, if_neg h4, if_pos h6]; unfold pH6; rw [if_pos h]
        have h40 := pH6_len h
        have e2 : kX l 2 = n1 l / 65536 % 65536 + 40 := by unfold kX; rw [eH]; unfold hdL6 hd6; rw [hdv_num _ _ _ 2 _ rfl]; rfl
        have hv : n1 l / 1152921504606846976 = 6 := by
          unfold pE6 at h
          rw [if_neg (by omega)] at h
          unfold wE6 at h
          split at h
          · assumption
          · cases h
        have p : pE6 (l.take (kX l 2)) = 0 := by
          unfold pE6
          rw [if_neg (by omega), n1_take l _ (by omega), hlen]
          unfold wE6
          rw [if_pos hv, if_neg (by omega)]
        have k : kE (l.take (kX l 2)) = 0 := by unfold kE; rw [if_neg (by omega), fam_take l _ (by omega), if_neg h4, if_pos h6]; exact p
        have eH' : kH (l.take (kX l 2)) = hdL6 (l.take (kX l 2)) := by unfold kH; rw [if_neg (by omega), fam_take l _ (by omega), if_neg h4, if_pos h6]; unfold pH6; rw [if_pos p]
        refine ⟨k, ?_⟩
        have e3 : kX (l.take (kX l 2)) 2 = n1 (l.take (kX l 2)) / 65536 % 65536 + 40 := by rw [kX, eH']; unfold hdL6 hd6; rw [hdv_num _ _ _ 2 _ rfl]; rfl
        rw [e3, n1_take l _ (by omega), ← e2]
      · rw [if_neg h6] at h; cases h
  unfold kW
  rw [hlen]
  exact decide_eq_true ⟨key.1, key.2, by omega⟩

set_option maxHeartbeats 1000000 in
theorem strip_bad (A : Option Addr) (n c : Nat) (l : List UInt8) (w : World) (hn : n ≤ 1000000) (hc : n ≤ c) (hcm : c ≤ maxLen) (hs : Shows w w.heap.size A n l) (q : ¬ kE l = 0) :
    Calls Try.prog 24 #[.slice A n c] w fun e w' => e = .returned (.tuple #[.slice none 0 0, .int .i64 (kE l : Int)]) ∧ Below w.heap.size w w' := by
  have hz := (zero_of_info Try.zeroHead).1
  have hne : ¬ zH = #[] := by intro h; have := zH_size; rw [h] at this; cases this
  have HP := Lib.hid (kparse_any A n c l w hn hc hcm hs)
  have hsz := kH_size l
  have o1 := kH_one l
  clear hs
  generalize kH l = M at *
  generalize kE l = E0 at *
  have d0 : decide ((E0 : Int) = 0) = false := decide_eq_false (by omega)
  have d0' : ((E0 : Int) != 0) = true := by simp; omega
  go_enter Try.func24, Try.ntmps24
  go_wp2_with fail
  refine HP.out.mono ?_
  rintro e w1 ⟨rfl, hb1⟩
  have b2 : Below w.heap.size w (w1.alloc (.cells M 28)) := hb1.alloc hb1.size _
  go_wp2_with (first
    | (refine wpList_allocStore (cs := M) rfl rfl 28 ?ho (.tmp 4) (.tmp 9) ?ho2 Try.zeroHead ?hz ?hx ?hy ?hn ?h1 ?_
       case ho => with_reducible rfl
       case ho2 => rfl
       case hz => exact zH_size
       case hx => rfl
       case hy => rfl
       case hn => exact hsz
       case h1 => exact o1))
  go_ret2
  exact ⟨rfl, b2⟩

set_option maxHeartbeats 1000000 in
theorem strip_ok (A : Option Addr) (n c : Nat) (l : List UInt8) (w : World) (hn : n ≤ 1000000) (hc : n ≤ c) (hcm : c ≤ maxLen) (hs : Shows w w.heap.size A n l) (q : kE l = 0) :
    Calls Try.prog 24 #[.slice A n c] w fun e w' => ∃ v, e = .returned (.tuple #[v, .int .i64 0]) ∧ Own w' w.heap.size v (kX l 2) (l.take (kX l 2)) ∧ Below w.heap.size w w' := by
  have hz := (zero_of_info Try.zeroHead).1
  have hne : ¬ zH = #[] := by intro h; have := zH_size; rw [h] at this; cases this
  have HP := Lib.hid (kparse_any A n c l w hn hc hcm hs)
  have hl := hs.len
  obtain ⟨f1, f2, f3, f4, f5⟩ := kfacts q
  rw [hl] at f4
  obtain ⟨b, off, rfl, hbb, _⟩ := hs.2 (by omega)
  rw [q] at HP
  have hsz := kH_size l
  have o1 := kH_one l
  have m2 := kX_cell l 2 (by omega)
  have HB := Lib.hid (fun (W : World) (hW : Below w.heap.size w W) => bclone_any ⟨b, off, none⟩ (kX l 2) c (l.take (kX l 2)) W (by omega) (by simpa using ((hs.below hW).up hW.size).piece 0 (kX l 2) (by omega)))
  clear hs q f5
  generalize hL : l.take (kX l 2) = L at *
  clear hL
  generalize kX l 2 = T at *
  generalize kH l = M at *
  have iT : (T : Int) ≤ (c : Int) := by omega
  go_enter Try.func24, Try.ntmps24
  go_wp2_with fail
  refine HP.out.mono ?_
  rintro e w1 ⟨rfl, hb1⟩
  have b2 : Below w.heap.size w (w1.alloc (.cells M 28)) := hb1.alloc hb1.size _
  have k2 : Blk (w1.alloc (.cells M 28)) w1.heap.size 28 M := blk_new _ _ _
  generalize hg1 : w1.heap.size = g1 at *
  have c2 := (k2.cellA 2).trans m2
  go_wp2_with (first
    | (refine wpList_allocStore (cs := M) rfl rfl 28 ?ho (.tmp 4) (.tmp 9) ?ho2 Try.zeroHead ?hz ?hx ?hy ?hn ?h1 ?_
       case ho => with_reducible rfl
       case ho2 => rfl
       case hz => exact zH_size
       case hx => rfl
       case hy => rfl
       case hn => exact hsz
       case h1 => exact o1
       rw [hg1])
    | fail)
  refine (HB.out _ b2).mono ?_
  rintro e w3 ⟨v, rfl, ho3, hb3⟩
  have o3 := ho3.base (b' := w.heap.size) b2.size
  have b3 := Below.on b2 b2.size hb3
  clear b2 k2 c2 hb3 ho3 HB
  go_wp2
  go_ret2
  exact ⟨v, rfl, o3, b3⟩

end Go.Proofs.Ytblfllidejdehaa
