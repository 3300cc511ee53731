/- The walk of law05.HexesGroups. -/
import Derived.Test.YtmnkikkffmhnjabHexI
namespace Go.Proofs.Ytmnkikkffmhnjab
open Go.RowKit

theorem hg_hexd (q : Nat) (h : q < 16) : hg (hexd q) = (q : Int) := by
  have : ∀ q : Fin 16, hg (hexd q.val) = ((q.val : Nat) : Int) := by decide +kernel
  exact this ⟨q, h⟩

theorem gd_good (n d : Nat) : AllGood (gd n d d) := by
  apply allGood_of
  intro c hc
  unfold gd at hc
  obtain ⟨t, _, rfl⟩ := List.mem_map.1 hc
  rw [hg_hexd _ (by omega)]
  omega

theorem gd_val : ∀ (d n : Nat), n < 16 ^ d → 1 ≤ d → grpVal (gd n d d) = n := by
  intro d
  induction d with
  | zero => intro n _ h; omega
  | succ e ih =>
    intro n hn _
    by_cases he : e = 0
    · subst he
      have hn16 : n < 16 := by simpa using hn
      have : gd n 1 1 = [hexd n] := by simp [gd]; congr 1; omega
      rw [this]
      simp [grpVal, hg_hexd n hn16]
    · rw [gd_step n (e + 1) (by omega), show e + 1 - 1 = e by omega]
      have h1 := ih (n / 16) (by rw [Nat.div_lt_iff_lt_mul (by omega), ← Nat.pow_succ]; exact hn) (by omega)
      unfold grpVal at *
      rw [List.foldl_append, h1]
      simp only [List.foldl_cons, List.foldl_nil]
      rw [hg_hexd _ (by omega)]
      omega

theorem walk_HexesGroups (a : Int) (s : ByteArray) (w0 : (Lit.int .u16 a).wf = true) (hs : s.size ≤ maxLen) (w : World) :
    Calls Try.prog 5 #[.int .u16 a, .string s] w fun e w' => e = .returned (.bool true) ∧ Below w.heap.size w w' := by
  obtain ⟨ha0, ha1⟩ := bounds_u16 w0
  unfold maxLen at hs
  obtain ⟨n, rfl⟩ := Int.eq_ofNat_of_zero_le ha0
  have hn : n < 65536 := by omega
  obtain ⟨d, hd4, hD⟩ := digs_some n hn
  have HD := Lib.hid hD
  have Hval := Lib.hid (gd_val d n hD.2.1 hD.1)
  have Hgood := Lib.hid (gd_good n d)
  have hd1 : 1 ≤ d := hD.1
  have hsz : (ByteArray.mk ⟨gd n d d⟩).size = d := gd_len n d d
  have Hsz := Lib.hid hsz
  clear hD w0 ha0 ha1 hsz
  by_cases hlen : 20 < s.size
  · go_enter Try.func5, Try.ntmps5
    go_wp2_with fail
    refine (alive5 _).mono ?_; rintro e w3 ⟨rfl, hb3⟩
    go_wp2
    go_ret
    exact ⟨rfl, hb3⟩
  · -- what comes of the text, on both sides
    have both : (∃ x : Nat, x < 65536 ∧ (∀ W : World, Calls Try.prog 16 #[.string s] W fun e w' => e = .returned (.tuple #[.int .u16 (x : Int), .int .i64 0]) ∧ W = w') ∧
          (∀ W : World, Calls Try.prog 18 #[.string s] W fun e w' => e = .returned (.int .i64 (x : Int)) ∧ W = w')) ∨
        ((∀ W : World, Calls Try.prog 16 #[.string s] W fun e w' => e = .returned (.tuple #[.int .u16 0, .int .i64 5]) ∧ W = w') ∧
          (∀ W : World, Calls Try.prog 18 #[.string s] W fun e w' => e = .returned (.int .i64 (-1)) ∧ W = w')) := by
      by_cases hl : s.size < 1 ∨ 4 < s.size
      · exact .inr ⟨fun W => readGroup_len s W hl (by omega), fun W => refReadGroup_len s W hl (by omega)⟩
      · rcases good_or_bad s.data.toList with hg | ⟨K, hb⟩
        · refine .inl ⟨grpVal s.data.toList, ?_, fun W => readGroup_good s W (by omega) (by omega) hg, fun W => refReadGroup_good s W (by omega) (by omega) hg⟩
          have h1 := grpVal_lt s.data.toList s.size (Nat.le_refl _)
          rw [List.take_of_length_le (show s.data.toList.length ≤ s.size from Nat.le_refl _)] at h1
          have h2 : 16 ^ s.size ≤ 16 ^ 4 := Nat.pow_le_pow_right (by omega) (by omega)
          omega
        · exact .inr ⟨fun W => readGroup_bad s K W (by omega) (by omega) hb, fun W => refReadGroup_bad s K W (by omega) (by omega) hb⟩
    have Hboth := Lib.hid both
    clear both
    go_enter Try.func5, Try.ntmps5
    go_wp2_with fail
    refine (group_any n d _ hn hd4 HD.out).mono ?_; rintro e w1 ⟨rfl, hb1⟩
    go_wp2_with fail
    refine (readGroup_good ⟨⟨gd n d d⟩⟩ _ (by rw [Hsz.out]; exact hd1) (by rw [Hsz.out]; exact hd4) Hgood.out).mono ?_; rintro e w2 ⟨rfl, rfl⟩
    rw [Hval.out]
    go_wp2_with fail
    refine (refGroup_any d n _ hd4 HD.out).mono ?_; rintro e w2 ⟨rfl, rfl⟩
    rcases Hboth.out with ⟨x, hx, h1, h2⟩ | ⟨h1, h2⟩
    · have H1 := Lib.hid h1
      have H2 := Lib.hid h2
      clear h1 h2
      have d0 : decide ((x : Int) < 0) = false := by simp
      go_wp2_with fail
      refine (H1.out _).mono ?_; rintro e w2 ⟨rfl, rfl⟩
      go_wp2_with fail
      refine (H2.out _).mono ?_; rintro e w2 ⟨rfl, rfl⟩
      go_wp2_with fail
      refine (alive5 _).mono ?_; rintro e w5 ⟨rfl, hb5⟩
      have b5 := Below.on hb1 hb1.size hb5
      go_wp2
      go_ret
      exact ⟨rfl, b5⟩
    · have H1 := Lib.hid h1
      have H2 := Lib.hid h2
      clear h1 h2
      go_wp2_with fail
      refine (H1.out _).mono ?_; rintro e w2 ⟨rfl, rfl⟩
      go_wp2_with fail
      refine (H2.out _).mono ?_; rintro e w2 ⟨rfl, rfl⟩
      go_wp2_with fail
      refine (alive5 _).mono ?_; rintro e w5 ⟨rfl, hb5⟩
      have b5 := Below.on hb1 hb1.size hb5
      go_wp2
      go_ret
      exact ⟨rfl, b5⟩

end Go.Proofs.Ytmnkikkffmhnjab
