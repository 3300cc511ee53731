
/- Contracts: strconv.FormatUint at base 10, decimal.Text, ref03.Text. -/
import Derived.Test.YtccidoigjdbepaaDoorDecC
import Derived.Test.YtccidoigjdbepaaDoorShelf
import Derived.Lib.AppendIntMem
import Derived.Laws.IdiomStrings
import Derived.Laws.Concat
namespace Go.Proofs.YtccidoigjdbepaaDoor.Dec
open Go.RowKit Go.Sort
set_option maxRecDepth 100000

/-- The library's table of powers lies as it was laid. -/
abbrev Tab (w : World) : Prop := Lib.TabIs Tryd.prog w "internal/strconv.uint64pow10" .u64 Lib.pow10Tab

theorem Tab.on {w w' : World} (h : Tab w) (hb : Below w.heap.size w w') : Tab w' := by
  unfold Tab Lib.TabIs World.var? at *
  cases hg : Tryd.prog.globalNamed "internal/strconv.uint64pow10" with
  | none => rw [hg] at h; simp at h
  | some g =>
    rw [hg] at h
    simp only [Option.bind_some] at h ⊢
    have hlt : g < w.heap.size := by
      rcases Nat.lt_or_ge g w.heap.size with h1 | h1
      · exact h1
      · rw [Array.getElem?_eq_none h1] at h; simp at h
    rw [hb.block g hlt]
    exact h

set_option maxRecDepth 100000 in
theorem fmt_small (u : Nat) (w : World) (h : u < 100) :
    Calls Tryd.prog 108 #[.int .u64 (u : Int), .int .i64 10] w fun e w' => e = .returned (sv (Lib.decDigits u)) ∧ Below w.heap.size w w' := by
  go_enter Tryd.func108, Tryd.ntmps108
  go_wp2_with fail
  refine (Tryd.internal_strconv_small u h _).mono ?_; rintro e w1 ⟨rfl, rfl⟩
  go_wp2
  go_ret
  exact ⟨rfl, Below.refl _ _⟩

set_option maxRecDepth 100000 in
theorem fmt_big (u : Nat) (w : World) (hu : 100 ≤ u) (hu64 : u < 18446744073709551616) (htab : Tab w) :
    Calls Tryd.prog 108 #[.int .u64 (u : Int), .int .i64 10] w fun e w' => e = .returned (sv (Lib.decDigits u)) ∧ Below w.heap.size w w' := by
  have hu1 : 1 ≤ u := by omega
  have hnd20 : Lib.nDigits u ≤ 20 := by have := Lib.numDigits_eq u hu1 hu64; split at this <;> omega
  have hal : Tryd.prog.arrayLen 139 = 24 := by simp [Program.arrayLen, Tryd.underlying139]
  have hsl : ∀ W, (Instr.sliceAt 139 (.pointer (some ⟨w.heap.size, 0, none⟩)) none (some (.int .i64 (Lib.nDigits u : Int))) none).run Tryd.prog W = .ok (.slice (some ⟨w.heap.size, 0, none⟩) (Lib.nDigits u) 24) W := fun W => by
    rw [run_sliceAt_array_h W 139 ⟨w.heap.size, 0, none⟩ (by simp [Program.arrayLen, Program.elem, Tryd.underlying139]) .i64 (Lib.nDigits u : Int) (by omega) (by rw [hal]; omega)]
    go_simp
  have hH0 := Lib.holds_zero0 w 139 (Lib.nDigits u) (by omega)
  have hfmt := Tryd.internal_strconv_formatBase10 w.heap.size 0 24 u (Array.replicate (Lib.nDigits u) 0) (w.alloc (.cells Lib.zeros24 139)) hH0 (by rw [Array.size_replicate]; exact Lib.lt_pow_nDigits u) hu64 (by rw [Array.size_replicate]; omega)
  rw [Array.size_replicate] at hfmt
  have HH0 := Lib.hid hH0
  have Hfmt := Lib.hid hfmt
  have H64 := Lib.hid hu64
  have Htab := Lib.hid (Lib.tabIs_alloc htab (.cells Lib.zeros24 139))
  have iu : (100 : Int) ≤ (u : Int) := by omega
  clear hH0 hal hfmt hu64 htab
  go_enter Tryd.func108, Tryd.ntmps108
  go_wp2_with fail
  refine (Tryd.internal_strconv_numDigits u hu1 H64.out _ Htab.out).mono ?_; rintro e w1 ⟨rfl, rfl⟩
  go_wp2_with fail
  refine Hfmt.out.mono ?_
  rintro e w1 ⟨rfl, k, v', dk, rfl, hF⟩
  have hcell : ∀ j (hj : j < (Lib.decDigits u).length), ((putRow (fun (b : UInt8) => Value.int .u8 (b.toNat : Int)) (w.alloc (.cells Lib.zeros24 139)) w.heap.size 0 dk).drewN k).cell? ((⟨w.heap.size, 0, none⟩ : Addr).add j) = some (.int .u8 ((Lib.decDigits u)[j].toNat : Int)) := by
    intro j hj
    rw [Lib.row_is_numeral hF j hj, Lib.add_plain, World.cell?_drewN]
    exact cell?_putRow (fun (b : UInt8) => Value.int .u8 (b.toNat : Int)) _ w.heap.size 0 _ dk HH0.out (by rw [hF.size, Array.size_replicate]) j (by rw [hF.size]; rw [Lib.decDigits_length] at hj; exact hj)
  have hcv := run_convert_bytes_back (P := Tryd.prog) ((putRow (fun (b : UInt8) => Value.int .u8 (b.toNat : Int)) (w.alloc (.cells Lib.zeros24 139)) w.heap.size 0 dk).drewN k) 26 9 5 ⟨w.heap.size, 0, none⟩ 24 (Lib.decDigits u) Tryd.underlying26 Tryd.underlying5 Tryd.underlying9 hcell
  rw [Lib.decDigits_length] at hcv
  obtain ⟨os, eo⟩ := Lib.fin_at w (.cells Lib.zeros24 139) dk k 0
  have hbel : Below w.heap.size w ((putRow (fun (b : UInt8) => Value.int .u8 (b.toNat : Int)) (w.alloc (.cells Lib.zeros24 139)) w.heap.size 0 dk).drewN k) := by rw [eo]; exact Lib.below_grow w.heap.size w (Nat.le_refl _) k os
  clear hcell eo
  generalize (putRow (fun (b : UInt8) => Value.int .u8 (b.toNat : Int)) (w.alloc (.cells Lib.zeros24 139)) w.heap.size 0 dk).drewN k = w2 at *
  go_wp2
  go_ret
  exact ⟨rfl, hbel⟩

theorem fmt_any (u : Nat) (w : World) (hu64 : u < 18446744073709551616) (htab : Tab w) :
    Calls Tryd.prog 93 #[.int .u64 (u : Int), .int .i64 10] w fun e w' => e = .returned (sv (Lib.decDigits u)) ∧ Below w.heap.size w w' := by
  have HC := Lib.hid (show ∀ W, Tab W → Calls Tryd.prog 108 #[.int .u64 (u : Int), .int .i64 10] W fun e w' => e = .returned (sv (Lib.decDigits u)) ∧ Below W.heap.size W w' from by
    intro W hW
    by_cases h : u < 100
    · exact fmt_small u W h
    · exact fmt_big u W (by omega) hu64 hW)
  have Htab := Lib.hid htab
  clear hu64 htab
  generalize Lib.decDigits u = L at *
  go_enter Tryd.func93, Tryd.ntmps93
  go_wp2_with fail
  refine (HC.out _ Htab.out).mono ?_; rintro e w1 ⟨rfl, hb⟩
  go_wp2
  go_ret
  exact ⟨rfl, hb⟩

theorem text_any (u : Nat) (w : World) (hu64 : u < 18446744073709551616) (htab : Tab w) :
    Calls Tryd.prog 70 #[.int .u64 (u : Int)] w fun e w' => e = .returned (sv (Lib.decDigits u)) ∧ Below w.heap.size w w' := by
  have HC := Lib.hid (fmt_any u w hu64 htab)
  clear hu64 htab
  generalize Lib.decDigits u = L at *
  go_enter Tryd.func70, Tryd.ntmps70
  go_wp2_with fail
  refine HC.out.mono ?_; rintro e w1 ⟨rfl, hb⟩
  go_wp2
  go_ret
  exact ⟨rfl, hb⟩

theorem str_add (a b : List UInt8) : (ByteArray.mk ⟨a⟩ ++ ByteArray.mk ⟨b⟩) = ByteArray.mk ⟨a ++ b⟩ := ByteArray.mk_append_mk a b

theorem dec_len (u : Nat) (h : u < 18446744073709551616) : (Lib.decDigits u).length ≤ 20 := by
  rw [Lib.decDigits_length]
  by_cases h1 : 1 ≤ u
  · have := Lib.numDigits_eq u h1 h; split at this <;> omega
  · obtain rfl : u = 0 := by omega
    rw [← Lib.decDigits_length, dec_small 0 (by omega)]
    simp

/-- The reference's digits. -/
theorem refText_any : ∀ (f u : Nat) (w : World), u < 10 ^ f → u < 18446744073709551616 →
    Calls Tryd.prog 71 #[.int .u64 (u : Int)] w fun e w' => e = .returned (sv (Lib.decDigits u)) ∧ Below w.heap.size w w' := by
  intro f
  induction f with
  | zero =>
    intro u w hu h64
    obtain rfl : u = 0 := by simpa using hu
    have H := Lib.hid (dec_small 0 (by omega))
    have ht := run_text (w.alloc (.cells #[.int .u8 48] 5)) (some ⟨w.heap.size, 0, none⟩) 1 1 [48] (shows_new w _ [48] rfl)
    go_enter Tryd.func71, Tryd.ntmps71
    go_wp2
    go_ret
    exact ⟨ret_string (by rw [H.out]; rfl), (Below.refl _ _).alloc (Nat.le_refl _) _⟩
  | succ f ih =>
    intro u w hu h64
    have Hih := Lib.hid ih
    clear ih
    obtain ⟨r, hr, hr10, Hr⟩ : ∃ r : Nat, (u : Int) % 10 = (r : Int) ∧ r < 10 ∧ Hid (u % 10 = r) := ⟨u % 10, by omega, by omega, rfl⟩
    obtain ⟨c, hc, hc'⟩ : ∃ c : UInt8, (48 : Int) + (r : Int) = (c.toNat : Int) ∧ c = UInt8.ofNat (48 + r) := ⟨UInt8.ofNat (48 + r), by rw [digit_of r hr10]; omega, rfl⟩
    have Hc := Lib.hid hc'
    have hcm : (c.toNat : Int) % 256 = (c.toNat : Int) := by have := c.toNat_lt; omega
    clear hc'
    have ht := run_text (w.alloc (.cells #[.int .u8 (c.toNat : Int)] 5)) (some ⟨w.heap.size, 0, none⟩) 1 1 [c] (shows_new w _ [c] rfl)
    by_cases h : u < 10
    · have H := Lib.hid (show Lib.decDigits u = [c] by rw [dec_small u h, Hc.out, ← Hr.out]; congr 2; omega)
      clear hu h64
      go_enter Tryd.func71, Tryd.ntmps71
      go_wp2
      go_ret
      exact ⟨ret_string (by rw [H.out]), (Below.refl _ _).alloc (Nat.le_refl _) _⟩
    · obtain ⟨q, hq, Hq⟩ : ∃ q : Nat, (u : Int) / 10 = (q : Int) ∧ Hid (u / 10 = q) := ⟨u / 10, by omega, rfl⟩
      have H := Lib.hid (show Lib.decDigits u = Lib.decDigits q ++ [c] by rw [dec_step u (by omega), Hq.out, Hr.out, Hc.out])
      have HQ := Lib.hid (show q < 10 ^ f by
        have := Hq.out
        rw [Nat.pow_succ] at hu
        omega)
      have HQ64 := Lib.hid (show q < 18446744073709551616 by have := Hq.out; omega)
      have hl := dec_len q HQ64.out
      have h64' : u ≤ 18446744073709551615 := by omega
      clear hu h64
      generalize hE : Lib.decDigits q = E at *
      have HE := Lib.hid hE
      clear hE
      go_enter Tryd.func71, Tryd.ntmps71
      go_wp2_with fail
      refine (Hih.out q _ HQ.out HQ64.out).mono ?_
      rintro e w1 ⟨rfl, hb⟩
      rw [HE.out]
      have hb1 := Below.step (Below.refl w.heap.size w) (Nat.le_refl _) hb
      clear hb ht
      go_wp2
      go_ret
      exact ⟨ret_string (by rw [H.out]; exact str_add _ _), hb1⟩

end Go.Proofs.YtccidoigjdbepaaDoor.Dec
