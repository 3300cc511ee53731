
/- Contract: icmpfour.Read. -/
import Derived.Test.YtkokgoodpibboaaNtB
namespace Go.Proofs.Ytkokgoodpibboaa
open Go.RowKit
set_option maxRecDepth 100000
set_option linter.unusedSimpArgs false
set_option linter.unusedVariables false

def totL (l : List UInt8) : Nat := n1 l / 4294967296 % 65536
def prL (l : List UInt8) : Nat := n2 l / 65536 % 256
/-- What stands behind a head of family 4. -/
def restL (l : List UInt8) : List UInt8 := (l.drop (sizeL l)).take (totL l - sizeL l)
/-- Why bytes are no message of family 4. -/
def r4E (l : List UInt8) : Nat := if pE l = 0 then (if prL l = 1 then fE 3 1 [] (restL l) else 9) else pE l
theorem pH_cells {l : List UInt8} (h : pE l = 0) : (pH l)[1]? = some (.int .i64 (sizeL l : Int)) ∧ (pH l)[2]? = some (.int .i64 (totL l : Int)) ∧ (pH l)[8]? = some (.int .i64 (prL l : Int)) := by
  unfold pH
  rw [if_pos h]
  unfold hdL hdN
  exact ⟨hdv_num _ _ _ 1 _ rfl, hdv_num _ _ _ 2 _ rfl, hdv_num _ _ _ 8 _ rfl⟩
theorem pE_facts {l : List UInt8} (h : pE l = 0) : 20 ≤ sizeL l ∧ sizeL l ≤ 60 ∧ sizeL l ≤ totL l ∧ totL l ≤ l.length := by
  obtain ⟨_, hw⟩ := pE_zero h
  obtain ⟨_, w1, w2, w3, w4, _⟩ := wE_zero hw
  exact ⟨w1, by unfold sizeL; omega, w3, w4⟩
theorem parts_none (w : World) (B : Nat) : Parts w B none 0 [] := ⟨Sh.none_, fun p hp => by cases hp⟩
theorem restL_shows {w : World} {B b off n : Nat} {l : List UInt8} (h : Shows w B (some ⟨b, off, none⟩) n l) (hE : pE l = 0) : Shows w B (some ⟨b, off + sizeL l, none⟩) (totL l - sizeL l) (restL l) := by
  obtain ⟨_, _, h3, h4⟩ := pE_facts hE
  have hl := h.len
  exact h.piece (sizeL l) (totL l - sizeL l) (by omega)
theorem restL_len {l : List UInt8} (hE : pE l = 0) : (restL l).length = totL l - sizeL l := by
  obtain ⟨_, _, h3, h4⟩ := pE_facts hE
  simp [restL]
  omega

set_option maxRecDepth 100000 in
set_option maxHeartbeats 1000000 in
theorem read4_bad (A : Option Addr) (n c : Nat) (l : List UInt8) (w : World) (hn : n ≤ 100000) (hc : n ≤ c) (hcm : c ≤ maxLen) (hs : Shows w w.heap.size A n l) (hE : ¬ r4E l = 0) :
    Calls Try.prog 35 #[.slice A n c] w fun e w' => e = .returned (.tuple #[.slice none 0 0, .int .i64 (r4E l : Int)]) ∧ Below w.heap.size w w' := by
  have hz := (zero_of_info Try.zeroHead).1
  have hne : ¬ zH = #[] := by intro h; have := zH_size; rw [h] at this; cases this
  have HP := Lib.hid (parse4_any A n c l w (by omega) hc hcm hs)
  have hl := hs.len
  have hsz := pH_size l
  have o1 := pH_one l
  by_cases q0 : ¬ pE l = 0
  · have HF := Lib.hid (show r4E l = pE l by unfold r4E; rw [if_neg q0])
    clear hs hE
    generalize r4E l = RE at *
    generalize pH l = M at *
    generalize pE l = E0 at *
    have d0 : decide ((E0 : Int) = 0) = false := decide_eq_false (by omega)
    have d0' : (((E0 : Int)) == 0) = false := by simp; omega
    have d0'' : (((E0 : Int)) != 0) = true := by simp; omega
    go_enter Try.func35, Try.ntmps35
    go_wp2_with fail
    refine HP.out.mono ?_
    rintro e w1 ⟨rfl, hb1⟩
    have b2 : Below w.heap.size w (w1.alloc (.cells M 42)) := hb1.alloc hb1.size _
    have k2 : Blk (w1.alloc (.cells M 42)) w1.heap.size 42 M := blk_new _ _ _
    generalize hg1 : w1.heap.size = g1 at *
    go_wp2_with (first
      | (refine wpList_allocStore (cs := M) rfl rfl 42 ?ho (.tmp 4) (.tmp 9) ?ho2 Try.zeroHead ?hz ?hx ?hy ?hn ?h1 ?_
         case ho => with_reducible rfl
         case ho2 => rfl
         case hz => exact zH_size
         case hx => rfl
         case hy => rfl
         case hn => exact hsz
         case h1 => exact o1
         rw [hg1]))
    go_ret2
    exact ⟨by rw [HF.out]; rfl, b2⟩
  have q0' : pE l = 0 := by omega
  obtain ⟨m1, m2, m8⟩ := pH_cells q0'
  obtain ⟨f1, f2, f3, f4⟩ := pE_facts q0'
  rw [hl] at f4
  obtain ⟨b, off, rfl, hbb, _⟩ := hs.2 (by omega)
  have HSr := Lib.hid (fun (W : World) (hW : Below w.heap.size w W) => restL_shows ((hs.below hW).up hW.size) q0')
  have hrl := restL_len q0'
  rw [q0'] at HP
  have HR := Lib.hid (show r4E l = if prL l = 1 then fE 3 1 [] (restL l) else 9 by unfold r4E; rw [if_pos q0'])
  clear hs q0 q0'
  generalize restL l = R at *
  generalize r4E l = RE at *
  generalize pH l = M at *
  generalize sizeL l = S at *
  generalize totL l = T at *
  generalize prL l = P at *
  by_cases q1 : ¬ P = 1
  · have HF := Lib.hid (show RE = 9 by rw [HR.out, if_neg q1])
    clear HR hE
    have d1 : decide ((P : Int) = 1) = false := decide_eq_false (by omega)
    have d1' : (((P : Int)) == 1) = false := by simp; omega
    have d1'' : (((P : Int)) != 1) = true := by simp; omega
    go_enter Try.func35, Try.ntmps35
    go_wp2_with fail
    refine HP.out.mono ?_
    rintro e w1 ⟨rfl, hb1⟩
    have b2 : Below w.heap.size w (w1.alloc (.cells M 42)) := hb1.alloc hb1.size _
    have k2 : Blk (w1.alloc (.cells M 42)) w1.heap.size 42 M := blk_new _ _ _
    generalize hg1 : w1.heap.size = g1 at *
    have c1 := (k2.cellA 1).trans m1
    have c2 := (k2.cellA 2).trans m2
    have c8 := (k2.cellA 8).trans m8
    go_wp2_with (first
      | (refine wpList_allocStore (cs := M) rfl rfl 42 ?ho (.tmp 4) (.tmp 9) ?ho2 Try.zeroHead ?hz ?hx ?hy ?hn ?h1 ?_
         case ho => with_reducible rfl
         case ho2 => rfl
         case hz => exact zH_size
         case hx => rfl
         case hy => rfl
         case hn => exact hsz
         case h1 => exact o1
         rw [hg1]))
    go_ret2
    exact ⟨by rw [HF.out]; rfl, b2⟩
  obtain rfl : P = 1 := by omega
  have m8' : M[8]? = some (.int .i64 1) := m8
  clear m8
  have m8 := m8'
  clear m8'
  have hE' : ¬ fE 3 1 [] R = 0 := by rw [HR.out, if_pos rfl] at hE; exact hE
  have HF := Lib.hid (show RE = fE 3 1 [] R by rw [HR.out, if_pos rfl])
  clear HR hE
  have iST : (S : Int) ≤ (T : Int) := by omega
  have iTc : (T : Int) ≤ (c : Int) := by omega
  by_cases q2 : c = S
  · have HZ := Lib.hid (show T - S = 0 by omega)
    have HNF := Lib.hid (fun (W : World) => nfront_bad 3 1 (by omega) (by omega) (some ⟨b, off, none⟩) 0 0 R none 0 0 [] W (by omega) (by omega) (by simp [maxLen]) (by omega) (by simp [joinP]) ⟨by have := HZ.out; omega, fun h => absurd h (by omega)⟩ (parts_none _ _) hE')
    rw [show joinP [] = [] from rfl] at HNF
    obtain rfl : T = S := by omega
    subst q2
    clear HZ
    clear HSr hE'
    generalize fE 3 1 [] R = FF at *
    go_enter Try.func35, Try.ntmps35
    go_wp2_with fail
    refine HP.out.mono ?_
    rintro e w1 ⟨rfl, hb1⟩
    have b2 : Below w.heap.size w (w1.alloc (.cells M 42)) := hb1.alloc hb1.size _
    have k2 : Blk (w1.alloc (.cells M 42)) w1.heap.size 42 M := blk_new _ _ _
    generalize hg1 : w1.heap.size = g1 at *
    have c1 := (k2.cellA 1).trans m1
    have c2 := (k2.cellA 2).trans m2
    have c8 := (k2.cellA 8).trans m8
    go_wp2_with (first
      | (refine wpList_allocStore (cs := M) rfl rfl 42 ?ho (.tmp 4) (.tmp 9) ?ho2 Try.zeroHead ?hz ?hx ?hy ?hn ?h1 ?_
         case ho => with_reducible rfl
         case ho2 => rfl
         case hz => exact zH_size
         case hx => rfl
         case hy => rfl
         case hn => exact hsz
         case h1 => exact o1
         rw [hg1])
      | fail)
    refine (HNF.out _).mono ?_
    rintro e w3 ⟨rfl, hb3⟩
    have b3 := Below.on b2 b2.size hb3
    clear hb3 b2 k2 c1 c2 c8
    go_wp2
    go_ret2
    exact ⟨by rw [HF.out]; rfl, b3⟩
  · have HNF := Lib.hid (fun (W : World) (hW : Below w.heap.size w W) => nfront_bad 3 1 (by omega) (by omega) (some ⟨b, off + S, none⟩) (T - S) (c - S) R none 0 0 [] W (by omega) (by omega) (by omega) (by omega) (by simp [joinP]) (HSr.out W hW) (parts_none _ _) hE')
    rw [show joinP [] = [] from rfl] at HNF
    clear HSr hE'
    generalize fE 3 1 [] R = FF at *
    go_enter Try.func35, Try.ntmps35
    go_wp2_with fail
    refine HP.out.mono ?_
    rintro e w1 ⟨rfl, hb1⟩
    have b2 : Below w.heap.size w (w1.alloc (.cells M 42)) := hb1.alloc hb1.size _
    have k2 : Blk (w1.alloc (.cells M 42)) w1.heap.size 42 M := blk_new _ _ _
    generalize hg1 : w1.heap.size = g1 at *
    have c1 := (k2.cellA 1).trans m1
    have c2 := (k2.cellA 2).trans m2
    have c8 := (k2.cellA 8).trans m8
    go_wp2_with (first
      | (refine wpList_allocStore (cs := M) rfl rfl 42 ?ho (.tmp 4) (.tmp 9) ?ho2 Try.zeroHead ?hz ?hx ?hy ?hn ?h1 ?_
         case ho => with_reducible rfl
         case ho2 => rfl
         case hz => exact zH_size
         case hx => rfl
         case hy => rfl
         case hn => exact hsz
         case h1 => exact o1
         rw [hg1])
      | fail)
    refine (HNF.out _ b2).mono ?_
    rintro e w3 ⟨rfl, hb3⟩
    have b3 := Below.on b2 b2.size hb3
    clear hb3 b2 k2 c1 c2 c8
    go_wp2
    go_ret2
    exact ⟨by rw [HF.out]; rfl, b3⟩

set_option maxRecDepth 100000 in
set_option maxHeartbeats 1000000 in
theorem read4_ok (A : Option Addr) (n c : Nat) (l : List UInt8) (w : World) (hn : n ≤ 100000) (hc : n ≤ c) (hcm : c ≤ maxLen) (hs : Shows w w.heap.size A n l) (hE : r4E l = 0) :
    Calls Try.prog 35 #[.slice A n c] w fun e w' => ∃ v, e = .returned (.tuple #[v, .int .i64 0]) ∧ Own w' w.heap.size v (totL l - sizeL l - 8) ((restL l).drop 8) ∧ Below w.heap.size w w' := by
  have hz := (zero_of_info Try.zeroHead).1
  have hne : ¬ zH = #[] := by intro h; have := zH_size; rw [h] at this; cases this
  have HP := Lib.hid (parse4_any A n c l w (by omega) hc hcm hs)
  have hl := hs.len
  have hsz := pH_size l
  have o1 := pH_one l
  have q0' : pE l = 0 := by
    unfold r4E at hE
    split at hE
    · assumption
    · exact hE
  obtain ⟨m1, m2, m8⟩ := pH_cells q0'
  obtain ⟨f1, f2, f3, f4⟩ := pE_facts q0'
  rw [hl] at f4
  obtain ⟨b, off, rfl, hbb, _⟩ := hs.2 (by omega)
  have HSr := Lib.hid (fun (W : World) (hW : Below w.heap.size w W) => restL_shows ((hs.below hW).up hW.size) q0')
  have hrl := restL_len q0'
  rw [q0'] at HP
  have hF : prL l = 1 ∧ fE 3 1 [] (restL l) = 0 := by
    unfold r4E at hE
    rw [if_pos q0'] at hE
    split at hE
    · exact ⟨by assumption, hE⟩
    · cases hE
  obtain ⟨e8, hF⟩ := hF
  rw [e8] at m8
  have m8' : (pH l)[8]? = some (.int .i64 1) := m8
  clear m8
  have m8 := m8'
  clear m8'
  have h8 : 8 ≤ totL l - sizeL l := by
    unfold fE at hF
    rw [hrl] at hF
    split at hF
    · cases hF
    · omega
  clear hs hE e8 q0'
  generalize restL l = R at *
  generalize pH l = M at *
  generalize sizeL l = S at *
  generalize totL l = T at *
  have q2 : ¬ c = S := by omega
  have iST : (S : Int) ≤ (T : Int) := by omega
  have iTc : (T : Int) ≤ (c : Int) := by omega
  have HNF := Lib.hid (fun (W : World) (hW : Below w.heap.size w W) => nfront_ok 3 1 (by omega) (by omega) (some ⟨b, off + S, none⟩) (T - S) (c - S) R none 0 0 [] W (by omega) (by omega) (by omega) (by omega) (by simp [joinP]) (HSr.out W hW) (parts_none _ _) hF)
  clear HSr hF
  generalize hD : R.drop 8 = D at *
  clear hD
  go_enter Try.func35, Try.ntmps35
  go_wp2_with fail
  refine HP.out.mono ?_
  rintro e w1 ⟨rfl, hb1⟩
  have b2 : Below w.heap.size w (w1.alloc (.cells M 42)) := hb1.alloc hb1.size _
  have k2 : Blk (w1.alloc (.cells M 42)) w1.heap.size 42 M := blk_new _ _ _
  generalize hg1 : w1.heap.size = g1 at *
  have c1 := (k2.cellA 1).trans m1
  have c2 := (k2.cellA 2).trans m2
  have c8 := (k2.cellA 8).trans m8
  go_wp2_with (first
    | (refine wpList_allocStore (cs := M) rfl rfl 42 ?ho (.tmp 4) (.tmp 9) ?ho2 Try.zeroHead ?hz ?hx ?hy ?hn ?h1 ?_
       case ho => with_reducible rfl
       case ho2 => rfl
       case hz => exact zH_size
       case hx => rfl
       case hy => rfl
       case hn => exact hsz
       case h1 => exact o1
       rw [hg1])
    | fail)
  refine (HNF.out _ b2).mono ?_
  rintro e w3 ⟨v, rfl, ho3, hb3⟩
  have b3 := Below.on b2 b2.size hb3
  have o3 := ho3.base (b' := w.heap.size) b2.size
  clear hb3 b2 k2 c1 c2 c8 ho3
  go_wp2
  go_ret2
  exact ⟨v, rfl, o3, b3⟩

end Go.Proofs.Ytkokgoodpibboaa
