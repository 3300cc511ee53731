
/- Contracts of layer 30: (*session.Session).Send, Can, Take, Spent, Copy; session.New. -/
import Derived.Test.YtibpbgfliccacaaCntB
import Derived.Test.YtibpbgfliccacaaRepF
import Derived.Deep.RegionWith
namespace Go.Proofs.Ytibpbgfliccacaa
open Go.RowKit

/-- A session in a block of its own: key and names ahead, the next number, and what was taken. -/
def Ses (w : World) (g : Nat) (pre : List Value) (nx : Nat) (L : List Nat) : Prop := pre.length = 34 ∧ WinL w g 56 (pre ++ [u6 nx]) L

section
variable {w w' : World} {g nx : Nat} {pre : List Value} {L : List Nat}
theorem Ses.lt (h : Ses w g pre nx L) : g < w.heap.size := h.2.lt
theorem Ses.on (h : Ses w g pre nx L) (hb : Below w.heap.size w w') : Ses w' g pre nx L := ⟨h.1, h.2.on hb⟩
theorem Ses.gr {r : Option Nat} (h : Ses w g pre nx L) (hg : w.grownBy w' r) (hne : r ≠ some g) : Ses w' g pre nx L := ⟨h.1, h.2.gr hg hne⟩
theorem Ses.len (h : Ses w g pre nx L) : (pre ++ [u6 nx]).length = 35 := by rw [List.length_append, h.1]; rfl
theorem Ses.next (h : Ses w g pre nx L) : w.cell? ⟨g, 34, none⟩ = some (.int .u64 (nx : Int)) ∧ w.frozen? ⟨g, 34, none⟩ = false := by
  obtain ⟨h1, ws, _, h2, _⟩ := h
  refine ⟨?_, frozen_of_row w g _ _ _ h2⟩
  rw [cell_of_row w g _ _ _ _ h2, List.getElem?_toArray, List.append_assoc, List.getElem?_append_right (by omega), h1]
  rfl
theorem Ses.fore (h : Ses w g pre nx L) (j : Nat) (v : Value) (hv : pre[j]? = some v) : w.cell? ⟨g, j, none⟩ = some v := by
  obtain ⟨h1, ws, _, h2, _⟩ := h
  obtain ⟨hj, rfl⟩ := List.getElem?_eq_some_iff.1 hv
  rw [cell_of_row w g _ _ _ _ h2, List.getElem?_toArray, List.append_assoc, List.getElem?_append_left (by omega), List.getElem?_eq_getElem hj]
theorem Ses.put (h : Ses w g pre nx L) (m : Nat) : Ses (w.setCell ⟨g, 34, none⟩ (u6 m)) g pre m L := by
  obtain ⟨h1, ws, hr, h2, h3⟩ := h
  refine ⟨h1, ws, hr, ?_, h3⟩
  have := h2.setCell 34 (u6 m)
  rw [List.setIfInBounds_toArray, List.append_assoc, List.set_append_right _ _ (by omega), h1] at this
  rw [List.append_assoc]
  exact this
end
theorem grownBy_refl (w : World) (r : Option Nat) : w.grownBy w r := ⟨rfl, rfl, rfl, Nat.le_refl _, fun _ _ _ => rfl⟩

theorem send_nil (w : World) : Calls Try.prog 32 #[.pointer none] w fun e w' => e = .returned (.tuple #[.int .u64 0, .int .i64 2]) ∧ w = w' := by
  go_enter Try.func32, Try.ntmps32
  go_wp2
  go_ret2
  exact ⟨rfl, rfl⟩
theorem send_spent (g : Nat) (pre : List Value) (nx : Nat) (L : List Nat) (w : World) (h : Ses w g pre nx L) (hn : 18446744073709543423 ≤ nx) :
    Calls Try.prog 32 #[.pointer (some ⟨g, 0, none⟩)] w fun e w' => e = .returned (.tuple #[.int .u64 0, .int .i64 18]) ∧ w = w' := by
  have HN := Lib.hid (next_spent g 34 nx w h.next.1 hn)
  clear h hn
  go_enter Try.func32, Try.ntmps32
  go_wp2_with (go_at_call 25; (with_reducible refine HN.out.mono ?_); rintro e w' ⟨rfl, rfl⟩)
  go_ret2
  exact ⟨rfl, rfl⟩
theorem send_ok (g : Nat) (pre : List Value) (nx : Nat) (L : List Nat) (w : World) (h : Ses w g pre nx L) (hn : nx < 18446744073709543423) :
    Calls Try.prog 32 #[.pointer (some ⟨g, 0, none⟩)] w fun e w' => e = .returned (.tuple #[.int .u64 (nx : Int), .int .i64 0]) ∧ Ses w' g pre (nx + 1) L ∧ w.grownBy w' (some g) := by
  have HN := Lib.hid (next_ok g 34 nx w h.next.1 h.next.2 hn)
  have HX := Lib.hid (And.intro (h.put (nx + 1)) (grownBy_set (grownBy_refl w (some g)) 34 (u6 (nx + 1))))
  clear h hn
  go_enter Try.func32, Try.ntmps32
  go_wp2_with (go_at_call 25; (with_reducible refine HN.out.mono ?_); rintro e w' ⟨rfl, rfl⟩)
  go_ret2
  exact ⟨rfl, HX.out.1, HX.out.2⟩

theorem scan_nil (n : Int) (w : World) : Calls Try.prog 33 #[.pointer none, .int .u64 n] w fun e w' => e = .returned (.bool false) ∧ w = w' := by
  go_enter Try.func33, Try.ntmps33
  go_wp2
  go_ret
  exact ⟨rfl, rfl⟩
theorem scan_any (g : Nat) (pre : List Value) (nx : Nat) (L : List Nat) (n : Nat) (w : World) (h : Ses w g pre nx L) (hn : n < 18446744073709551616) :
    Calls Try.prog 33 #[.pointer (some ⟨g, 0, none⟩), .int .u64 (n : Int)] w fun e w' => e = .returned (.bool (canB L n)) ∧ w = w' := by
  have HC := Lib.hid (wcan_any g 35 _ _ L n w h.2 h.len hn)
  clear h hn
  generalize canB L n = b at *
  go_enter Try.func33, Try.ntmps33
  go_wp2_with (go_at_call 15; (with_reducible refine HC.out.mono ?_); rintro e w' ⟨rfl, rfl⟩)
  go_ret
  exact ⟨rfl, rfl⟩

theorem stake_nil (n : Int) (w : World) : Calls Try.prog 34 #[.pointer none, .int .u64 n] w fun e w' => e = .returned (.int .i64 2) ∧ w = w' := by
  go_enter Try.func34, Try.ntmps34
  go_wp2
  go_ret
  exact ⟨rfl, rfl⟩
/-- The error of a number that came. -/
def codeT (L : List Nat) (n : Nat) : Int := if canB L n then 0 else 16
theorem stake_any (g : Nat) (pre : List Value) (nx : Nat) (L : List Nat) (n : Nat) (w : World) (h : Ses w g pre nx L) (hn : n < 18446744073709551616) :
    Calls Try.prog 34 #[.pointer (some ⟨g, 0, none⟩), .int .u64 (n : Int)] w fun e w' => e = .returned (.int .i64 (codeT L n)) ∧ Ses w' g pre nx (takeL L n) ∧ w.grownBy w' (some g) := by
  have HC := Lib.hid (wtake_any g 35 _ _ L n w h.2 h.len hn)
  have HP := Lib.hid h.1
  have HE : Hid (codeT L n = if canB L n then 0 else 16) := Lib.hid rfl
  clear h hn
  generalize codeT L n = c at *
  generalize takeL L n = L2 at *
  cases hb : canB L n
  · rw [hb] at HC HE
    clear hb
    go_enter Try.func34, Try.ntmps34
    go_wp2_with fail
    refine HC.out.mono ?_
    rintro e w' ⟨rfl, h1, h2⟩
    have HX := Lib.hid (And.intro h1 h2)
    clear h1 h2
    go_wp2
    go_ret
    exact ⟨by rw [HE.out]; rfl, ⟨HP.out, HX.out.1⟩, HX.out.2⟩
  · rw [hb] at HC HE
    clear hb
    go_enter Try.func34, Try.ntmps34
    go_wp2_with fail
    refine HC.out.mono ?_
    rintro e w' ⟨rfl, h1, h2⟩
    have HX := Lib.hid (And.intro h1 h2)
    clear h1 h2
    go_wp2
    go_ret
    exact ⟨by rw [HE.out]; rfl, ⟨HP.out, HX.out.1⟩, HX.out.2⟩

theorem spent_nil (w : World) : Calls Try.prog 35 #[.pointer none] w fun e w' => e = .returned (.bool true) ∧ w = w' := by
  go_enter Try.func35, Try.ntmps35
  go_wp2
  go_ret
  exact ⟨rfl, rfl⟩
theorem spent_yes (g : Nat) (pre : List Value) (nx : Nat) (L : List Nat) (w : World) (h : Ses w g pre nx L) (hn : 18446744073709543423 ≤ nx) :
    Calls Try.prog 35 #[.pointer (some ⟨g, 0, none⟩)] w fun e w' => e = .returned (.bool true) ∧ w = w' := by
  have HL := Lib.hid (left_none g 34 nx w h.next.1 hn)
  clear h hn
  go_enter Try.func35, Try.ntmps35
  go_wp2_with (go_at_call 24; (with_reducible refine HL.out.mono ?_); rintro e w' ⟨rfl, rfl⟩)
  go_ret
  exact ⟨rfl, rfl⟩
theorem spent_no (g : Nat) (pre : List Value) (nx : Nat) (L : List Nat) (w : World) (h : Ses w g pre nx L) (hn : nx < 18446744073709543423) :
    Calls Try.prog 35 #[.pointer (some ⟨g, 0, none⟩)] w fun e w' => e = .returned (.bool false) ∧ w = w' := by
  obtain ⟨D, hD⟩ : ∃ D : Nat, D = 18446744073709543423 - nx := ⟨_, rfl⟩
  have HL := Lib.hid (left_some g 34 nx D w h.next.1 hn hD)
  have hD0 : ((D : Int) == 0) = false := by simp; omega
  clear h hn hD
  go_enter Try.func35, Try.ntmps35
  go_wp2_with (go_at_call 24; (with_reducible refine HL.out.mono ?_); rintro e w' ⟨rfl, rfl⟩)
  go_ret
  exact ⟨by simp, rfl⟩

theorem copy_nil (w : World) : Calls Try.prog 31 #[.pointer none] w fun e w' => e = .returned (.pointer none) ∧ w = w' := by
  go_enter Try.func31, Try.ntmps31
  go_wp2
  go_ret
  exact ⟨rfl, rfl⟩
/-- A zero session's cells. -/
def zSes : Array Value := (List.replicate 32 (Value.int .u8 0) ++ [Value.int .u32 0, Value.int .u32 0] ++ List.replicate 34 (Value.int .u64 0)).toArray
theorem Try.zeroSes : (Try.prog.info? 56).map (fun i => (i.zero, i.size)) = some (some (.agg zSes), 68) := by kernel_rfl
theorem copy_blk (g : Nat) (cs : Array Value) (w : World) (h : Blk w g 56 cs) (hs : cs.size = 68) (h1 : cs.all (·.oneCell') = true) :
    Calls Try.prog 31 #[.pointer (some ⟨g, 0, none⟩)] w fun e w' => e = .returned (.pointer (some ⟨w.heap.size, 0, none⟩)) ∧ w.alloc (.cells cs 56) = w' := by
  have HI : Hid ((Try.prog.info? 56).map (·.size) = some cs.size) := Lib.hid (by rw [hs]; kernel_rfl)
  have HS := Lib.hid hs
  clear hs
  go_enter Try.func31, Try.ntmps31
  go_wp2_with (first
    | (refine wpList_loadBlk (g := g) (t := 56) (cs := cs) rfl 56 (.tmp 7) ?ho ?hx ?hA _ Try.underlying56 rfl ?hi ?_
       case ho => with_reducible rfl
       case hx => rfl
       case hA => exact h
       case hi => exact HI.out)
    | (refine wpList_allocStore (cs := cs) rfl rfl 56 ?ho (.tmp 3) (.tmp 8) ?ho2 Try.zeroSes ?hz ?hx ?hy ?hn ?h1 ?_
       case ho => with_reducible rfl
       case ho2 => rfl
       case hz => rfl
       case hx => rfl
       case hy => rfl
       case hn => exact HS.out
       case h1 => exact h1))
  go_ret
  exact ⟨rfl, rfl⟩
theorem one_u6 (l : List Nat) : ∀ v ∈ l.map u6, v.oneCell' = true := by
  intro v hv
  obtain ⟨x, _, rfl⟩ := List.mem_map.1 hv
  rfl
theorem copy_any (g : Nat) (pre : List Value) (nx : Nat) (L : List Nat) (w : World) (h : Ses w g pre nx L) (h1 : ∀ v ∈ pre, v.oneCell' = true) :
    Calls Try.prog 31 #[.pointer (some ⟨g, 0, none⟩)] w fun e w' => ∃ g2, e = .returned (.pointer (some ⟨g2, 0, none⟩)) ∧ w.heap.size ≤ g2 ∧ Ses w' g2 pre nx L ∧ Below w.heap.size w w' := by
  obtain ⟨hp, ws, hr, hb, hw⟩ := h
  refine (copy_blk g _ w hb (by simp [hp, hw]) ?_).mono ?_
  · refine all_oneCell_toArray fun v hv => ?_
    rcases List.mem_append.1 hv with hv | hv
    · rcases List.mem_append.1 hv with hv | hv
      · exact h1 v hv
      · rw [List.mem_singleton.1 hv]; rfl
    · rcases List.mem_append.1 hv with hv | hv
      · exact one_u6 _ v hv
      · rw [List.mem_singleton.1 hv]; rfl
  · rintro e w' ⟨rfl, rfl⟩
    exact ⟨_, rfl, Nat.le_refl _, ⟨hp, ws, hr, blk_new _ _ _, hw⟩, (Below.refl _ _).alloc (Nat.le_refl _) _⟩

end Go.Proofs.Ytibpbgfliccacaa
