
/- Contracts: answer.Parse of a message. -/
import Derived.Test.YtlllakjimgomjaaAnsB
import Derived.Test.YtlllakjimgomjaaMsgE
namespace Go.Proofs.Ytlllakjimgomjaa
open Go.RowKit

/-- Where each field begins. -/
def offAns (k : Nat) : Nat := [0, 32, 48, 64, 80].getD k 0
def partsAns (g : Nat) : List (Addr × Nat × Nat) := [(⟨g, 2, none⟩, 32, 32), (⟨g, 34, none⟩, 16, 16), (⟨g, 50, none⟩, 16, 16), (⟨g, 66, none⟩, 16, 16)]
theorem partsAns_at (g k : Nat) (h : k < 4) : ∃ a, (partsAns g)[k]? = some (⟨g, 2 + offAns k, none⟩, a, a) ∧ offAns (k + 1) = offAns k + a ∧ offAns k + a ≤ 80 ∧ 0 < a := by
  have : k = 0 ∨ k = 1 ∨ k = 2 ∨ k = 3 := by omega
  rcases this with rfl | rfl | rfl | rfl
  all_goals exact ⟨_, rfl, rfl, by decide, by decide⟩

set_option maxHeartbeats 4000000 in
set_option maxRecDepth 100000 in
theorem answerParse_ok (A : Option Addr) (c : Nat) (t : List UInt8) (w : World) (hs : Shows w w.heap.size A 92 (2 :: 0 :: 0 :: 0 :: t)) :
    Calls Try.prog 44 #[.slice A 92 c] w fun e w' => e = .returned (.tuple #[.agg (mcs [leNat ((t.drop 0).take 4), leNat ((t.drop 4).take 4)] (t.drop 8)), .int .i64 0]) ∧ Below w.heap.size w w' := by
  have hl : t.length = 88 := by have := hs.len; simp at this; omega
  have hL : (t.drop 8).length = 80 := by simp; omega
  have hr0 : leNat ((t.drop 0).take 4) < 4294967296 := by have := leNat_take_lt (t.drop 0) 4; simpa using this
  generalize hR0 : leNat ((t.drop 0).take 4) = r0 at *
  have HR0 := Lib.hid hR0
  clear hR0
  have hw0 : IntKind.u32.wrap (r0 : Int) = (r0 : Int) := by rw [IntKind.wrap_u32]; omega
  have hr1 : leNat ((t.drop 4).take 4) < 4294967296 := by have := leNat_take_lt (t.drop 4) 4; simpa using this
  generalize hR1 : leNat ((t.drop 4).take 4) = r1 at *
  have HR1 := Lib.hid hR1
  clear hR1
  have hw1 : IntKind.u32.wrap (r1 : Int) = (r1 : Int) := by rw [IntKind.wrap_u32]; omega
  generalize hLL : t.drop 8 = L at *
  have HLL := Lib.hid hLL
  clear hLL
  have hz := (zero_of_info Try.zeroAns).1
  have hzs : (mcs [0, 0] (zer 80)).size = 82 := by rw [mcs_size, zer_len]; rfl
  have hzn : ¬ mcs [0, 0] (zer 80) = #[] := fun h => by rw [h] at hzs; simp at hzs
  go_enter Try.func44, Try.ntmps44
  go_wp2_with fail
  have hs0 := (hs.alloc (Nat.le_refl _) (.cells (mcs [0, 0] (zer 80)) 51)).up (show w.heap.size ≤ (w.alloc (.cells (mcs [0, 0] (zer 80)) 51)).heap.size by simp)
  refine (take_ok A 92 c 2 t 92 92 _ (by omega) (by omega) (by omega) (by omega) hs0).mono ?_
  rintro e w1 ⟨g, A1, c1, rfl, hg, ht1, hb1⟩
  have k1 := (blk_new w 51 (mcs [0, 0] (zer 80))).on hb1
  have hbw1 := Below.step (Below.refl w.heap.size w) (Nat.le_refl _) hb1
  have hgw : w.heap.size < g := by simp at hg; omega
  have ht1 : Tk w1 g A1 (92 - 4) c1 0 (t.drop 0) := ht1
  clear hb1 hs0 hs hg
  go_wp2_with fail
  refine (little_tk g _ (92 - 4) _ 4 (t.drop 0) w1 ht1 (by omega) (by omega) (by omega)).mono ?_
  rintro e w2 ⟨rfl, ht2, hg2⟩
  rw [HR0.out]
  rw [List.drop_drop] at ht2
  have k2 := k1.grown hg2 (by omega)
  have hbw2 := below_grown hbw1 hg2 hbw1.size (by omega)
  clear ht1 k1 hg2 hbw1
  go_wp2_with fail
  refine (little_tk g _ (92 - 4 - 4) _ 4 (t.drop 4) w2 ht2 (by omega) (by omega) (by omega)).mono ?_
  rintro e w3 ⟨rfl, ht3, hg3⟩
  rw [HR1.out]
  rw [List.drop_drop] at ht3
  have k3 := k2.grown hg3 (by omega)
  have hbw3 := below_grown hbw2 hg3 hbw2.size (by omega)
  clear ht2 k2 hg3 hbw2
  have hgl := ht3.lt
  have eL : List.drop (4 + 4) t = L := HLL.out
  obtain ⟨A3, c3, ht9⟩ : ∃ A3 c3, Tk w3 g A3 80 c3 0 L := by
    rw [eL] at ht3
    exact ⟨_, _, ht3⟩
  clear ht3 eL
  have m4 := blk_new w3 51 (mcs [r0, r1] (part0 L 80 0))
  have ht4 := ht9.on ((Below.refl _ _).alloc (Nat.le_refl _) (.cells (mcs [r0, r1] (part0 L 80 0)) 51))
  have k4 := k3.alloc (.cells (mcs [r0, r1] (part0 L 80 0)) 51)
  have hbw4 := hbw3.alloc hbw3.size (.cells (mcs [r0, r1] (part0 L 80 0)) 51)
  have hk3 := k3.lt
  generalize hw4 : w3.alloc (.cells (mcs [r0, r1] (part0 L 80 0)) 51) = w4 at *
  generalize hg3 : w3.heap.size = g3 at *
  have Hw4 := Lib.hid hw4
  have Hg3 := Lib.hid hg3
  clear ht9 k3 hbw3 hw4 hg3
  go_wp2_with (
    refine wpList_allocStore (cs := mcs [r0, r1] (part0 L 80 0)) rfl rfl 51 ?ho (.tmp 6) (.tmp 24) ?ho2 Try.zeroAns ?hz ?hx ?hy ?hn ?h1 ?_
    case ho => with_reducible rfl
    case ho2 => rfl
    case hz => exact hzs
    case hx => rfl
    case hy => rw [part0_zero]; rfl
    case hn => rw [mcs_size, part0_len L 80 0 hL (by omega)]; rfl
    case h1 => exact mcs_one _ _
    rw [Hw4.out, Hg3.out])
  have hg34 : g3 < w4.heap.size := m4.lt
  have S5 : Sh slv (w4.alloc (.cells #[.slice (some ⟨g3, 2, none⟩) 32 32, .slice (some ⟨g3, 34, none⟩) 16 16, .slice (some ⟨g3, 50, none⟩) 16 16, .slice (some ⟨g3, 66, none⟩) 16 16] 22)).drew (w4.alloc (.cells #[.slice (some ⟨g3, 2, none⟩) 32 32, .slice (some ⟨g3, 34, none⟩) 16 16, .slice (some ⟨g3, 50, none⟩) 16 16, .slice (some ⟨g3, 66, none⟩) 16 16] 22)).drew.heap.size (some ⟨w4.heap.size, 0, none⟩) 4 (partsAns g3) := sh_new slv 22 w4 #[.slice (some ⟨g3, 2, none⟩) 32 32, .slice (some ⟨g3, 34, none⟩) 16 16, .slice (some ⟨g3, 50, none⟩) 16 16, .slice (some ⟨g3, 66, none⟩) 16 16] (partsAns g3) rfl
  have ht5 : Tk (w4.alloc (.cells #[.slice (some ⟨g3, 2, none⟩) 32 32, .slice (some ⟨g3, 34, none⟩) 16 16, .slice (some ⟨g3, 50, none⟩) 16 16, .slice (some ⟨g3, 66, none⟩) 16 16] 22)).drew g A3 80 c3 0 L := ht4.on ((Below.refl _ _).alloc (Nat.le_refl _) (.cells #[.slice (some ⟨g3, 2, none⟩) 32 32, .slice (some ⟨g3, 34, none⟩) 16 16, .slice (some ⟨g3, 50, none⟩) 16 16, .slice (some ⟨g3, 66, none⟩) 16 16] 22)).drew
  have m5 : Blk (w4.alloc (.cells #[.slice (some ⟨g3, 2, none⟩) 32 32, .slice (some ⟨g3, 34, none⟩) 16 16, .slice (some ⟨g3, 50, none⟩) 16 16, .slice (some ⟨g3, 66, none⟩) 16 16] 22)).drew g3 51 (mcs [r0, r1] (part0 L 80 0)) := m4.alloc (.cells #[.slice (some ⟨g3, 2, none⟩) 32 32, .slice (some ⟨g3, 34, none⟩) 16 16, .slice (some ⟨g3, 50, none⟩) 16 16, .slice (some ⟨g3, 66, none⟩) 16 16] 22)
  have k5 : Blk (w4.alloc (.cells #[.slice (some ⟨g3, 2, none⟩) 32 32, .slice (some ⟨g3, 34, none⟩) 16 16, .slice (some ⟨g3, 50, none⟩) 16 16, .slice (some ⟨g3, 66, none⟩) 16 16] 22)).drew w.heap.size 51 (mcs [0, 0] (zer 80)) := k4.alloc (.cells #[.slice (some ⟨g3, 2, none⟩) 32 32, .slice (some ⟨g3, 34, none⟩) 16 16, .slice (some ⟨g3, 50, none⟩) 16 16, .slice (some ⟨g3, 66, none⟩) 16 16] 22)
  have hbw5 := (hbw4.alloc hbw4.size (.cells #[.slice (some ⟨g3, 2, none⟩) 32 32, .slice (some ⟨g3, 34, none⟩) 16 16, .slice (some ⟨g3, 50, none⟩) 16 16, .slice (some ⟨g3, 66, none⟩) 16 16] 22)).drew
  have hsz5 : w4.heap.size < (w4.alloc (.cells #[.slice (some ⟨g3, 2, none⟩) 32 32, .slice (some ⟨g3, 34, none⟩) 16 16, .slice (some ⟨g3, 50, none⟩) 16 16, .slice (some ⟨g3, 66, none⟩) 16 16] 22)).drew.heap.size := by simp
  clear hz hzs hzn Hw4 Hg3 ht4 m4 k4 hbw4
  go_region
  generalize (w4.alloc (.cells #[.slice (some ⟨g3, 2, none⟩) 32 32, .slice (some ⟨g3, 34, none⟩) 16 16, .slice (some ⟨g3, 50, none⟩) 16 16, .slice (some ⟨g3, 66, none⟩) 16 16] 22)).drew = w5 at *
  generalize w4.heap.size = gS at *
  go_wp2
  go_loopw [35] (fun i wr => ∃ (k : Nat) (A' : Option Addr) (c' : Nat), k ≤ 4 ∧ i = .int .i64 k ∧ Tk wr g A' (80 - offAns k) c' 0 (L.drop (offAns k)) ∧ Blk wr g3 51 (mcs [r0, r1] (part0 L 80 (offAns k))) ∧ Blk wr w.heap.size 51 (mcs [0, 0] (zer 80)) ∧ Below w.heap.size w wr ∧ Sh slv wr w5.heap.size (some ⟨gS, 0, none⟩) 4 (partsAns g3) ∧ w5.heap.size ≤ wr.heap.size) (fun i _ => 4 - (intOf i).toNat)
  case atStart => exact ⟨0, A3, c3, Nat.zero_le _, rfl, ht5, m5, k5, hbw5, S5, Nat.le_refl _⟩
  case round =>
    clear S5 ht5 m5 k5 hbw5
    obtain ⟨k, A', c', hk, rfl, ht, hm, hkk, hbel, hS, hsz⟩ := hrel
    by_cases hlt : k < 4
    · obtain ⟨b, off, p, eA, hb, hc, hpk⟩ := hS.elem hlt
      obtain ⟨a, hpa, hoff, hle, hpos⟩ := partsAns_at g3 k hlt
      obtain rfl : p = (⟨g3, 2 + offAns k, none⟩, a, a) := by rw [hpk] at hpa; injection hpa
      injection eA with eA
      injection eA with e1 e2
      subst e1
      subst e2
      rw [Nat.zero_add] at hc
      have Hoff := Lib.hid hoff
      generalize offAns k = ok at *
      clear hpk hpa hoff hb
      go_wp2_with fail
      refine (bytes_ok g A' (80 - ok) c' a (L.drop ok) wr ht (by omega) (by omega)).mono ?_
      rintro e w6 ⟨b6, rfl, hb6, ho6, ht6, hg6⟩
      have hm6 := hm.grown hg6 (by omega)
      have hkk6 := hkk.grown hg6 (by omega)
      have hbel6 := below_grown hbel hg6 hbel.size (by omega)
      have hS6 := hS.grown hsz hg6 (fun _ a' ha' => by injection ha' with ha'; subst ha'; show gS ≠ g; omega)
      have s6 := ho6.shown
      have hsz6 := hg6.size
      clear ht hm hkk hbel hS ho6 hg6 hc
      go_wp2_with (
        refine wpList_copyMsgG rfl (.tmp 39) (.tmp 43) ?ho g3 (2 + ok) a a a ⟨b6, 0, none⟩ ?e1 ?e2 51 [r0, r1] L 80 ok hm6 hL hle ?e3 s6 ?_
        case ho => with_reducible rfl
        case e1 => rfl
        case e2 => rfl
        case e3 => rfl)
      intro w7 hm7 hg7
      have ht7 := ht6.grown hg7 hgl
      have hkk7 := hkk6.grown hg7 (by omega)
      have hbel7 := below_grown hbel6 hg7 hbel6.size (by omega)
      have hS7 := hS6.grown (by omega) hg7 (fun _ a' ha' => by injection ha' with ha'; subst ha'; show gS ≠ g3; omega)
      have hsz7 := hg7.size
      rw [List.drop_drop, Nat.sub_sub, ← Hoff.out] at ht7
      rw [← Hoff.out] at hm7
      clear hm6 hkk6 hbel6 hS6 s6 hg7 ht6
      go_wp2
      go_roundw
      case rel => exact ⟨k + 1, _, _, by omega, by go_num, ht7, hm7, hkk7, hbel7, hS7, by omega⟩
      case measure => simp [intOf] <;> omega
    · obtain rfl : k = 4 := by omega
      have hm8 : Blk wr g3 51 (mcs [r0, r1] L) := by
        have e : part0 L 80 (offAns 4) = L := part0_all L 80 hL
        rw [e] at hm
        exact hm
      clear hm ht hS
      go_wp2_with (first
        | (refine wpList_loadBlk (g := g3) (t := 51) (cs := mcs [r0, r1] L) rfl 51 (.tmp 6) ?ho ?hx ?hA _ Try.underlying51 rfl ?hi ?_
           case ho => with_reducible rfl
           case hx => rfl
           case hA => exact hm8
           case hi => exact Ans_size r0 r1 L hL)
        | (refine wpList_storeBlk (g := w.heap.size) (t := 51) (cs := mcs [r0, r1] L) rfl 51 (.tmp 2) (.tmp 46) ?ho ?hx2 ?hy2 (mcs [0, 0] (zer 80)) hkk ?hi ?hs ?h1 ?_
           case ho => with_reducible rfl
           case hx2 => rfl
           case hy2 => rfl
           case hi => exact Ans_size r0 r1 L hL
           case hs => rw [mcs_size, mcs_size, hL]; rfl
           case h1 => exact mcs_one _ _
           intro w11 hB hg))
      refine bodyPost_blk2 rfl _ rfl hB Try.underlying51 rfl (Ans_size r0 r1 L hL) rfl ⟨rfl, ?_⟩
      exact hbel.grown hg hbel.size (fun k hk => by injection hk with hk; omega)

end Go.Proofs.Ytlllakjimgomjaa
