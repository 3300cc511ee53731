
/- Contract: ref04.Decode. -/
import Derived.Test.YtfiagknmieegaaaSixI
import Derived.BigQuiet
namespace Go.Proofs.Ytfiagknmieegaaa.Six
open Go.RowKit

/-- A number as a cell. -/
abbrev iv (x : Nat) : Value := .int .i64 (x : Int)
abbrev OwnI (w : World) (base : Nat) (v : Value) (n : Nat) (l : List Nat) : Prop := GOwn iv 3 w base v n l
theorem Try.infoInt : (Try.prog.info? 3).map (fun i => (i.zero, i.size, i.bytes)) = some (some (.int .i64 0), 1, 8) := by kernel_rfl
theorem wpList_appi {ops : Array Oper} {rest : List Oper} {o : Oper} {a : Act} {Q : Exit → Act → World → Prop} (w : World) (hgd : o.guard = none) (s x : Operand)
    (ho : o.op = .call { callee := .builtin .append, args := #[s, x], argTypes := #[99, 99] })
    (base : Nat) (v : Value) (n : Nat) (l : List Nat) (hs : a.eval s = v) (hown : OwnI w base v n l)
    (ad : Addr) (c' : Nat) (c : Nat) (hx : a.eval x = .slice (some ad) 1 c') (hc : w.cell? ad = some (iv c))
    (h63 : n + 1 ≤ 1000000000) (hbase : base ≤ w.heap.size)
    (h : ∀ v' w', OwnI w' base v' (n + 1) (l ++ [c]) → w.grownBy w' v.ownBlock → wpList Try.prog ops Q rest (a.put o.dst v') w') : wpList Try.prog ops Q (o :: rest) a w :=
  wpList_gapp1 iv w hgd s x 99 3 (.int .i64 0) 8 ho Try.underlying99 Try.infoInt rfl base v n l hs hown ad c' c hx hc rfl (by omega) (by omega) hbase h

theorem vd_num (v d : Nat) (hv : v < 64) : (wrap64 ((v : Int) / (d : Int))).tmod 2 = ((v / d % 2 : Nat) : Int) := by
  have h1 : (v : Int) / (d : Int) = ((v / d : Nat) : Int) := by simp
  have h2 : v / d ≤ v := Nat.div_le_self _ _
  rw [h1]
  generalize v / d = q at *
  rw [IntWalk.wrap64_in _ (by omega), Int.tmod_eq_emod_of_nonneg (by omega)]
  omega

theorem refDecode_len (l : List UInt8) (w : World) (h : l.length % 4 ≠ 0) (hn : l.length ≤ 1000000) :
    Calls Try.prog 59 #[sv l] w fun e w' => e = .returned (.tuple #[.slice none 0 0, .int .i64 5]) ∧ w = w' := by
  have hsz : (ByteArray.mk ⟨l⟩).size = l.length := rfl
  have d0 : ((l.length : Int) % 4 != 0) = true := by simp; omega
  go_enter Try.func59, Try.ntmps59
  go_wp2
  go_ret2
  exact ⟨rfl, rfl⟩

/-- A strip, with numbers as the walk has them. -/
theorem strip_nums {S : List UInt8} {m : Nat} (h : Strip S m) :
    (S.length = 0 ∧ m = 0) ∨ (∃ M c, S.length = M + 1 ∧ m = M + 1 ∧ S[M]? = some c ∧ c ≠ 61) ∨ (∃ M c, S.length = M + 2 ∧ m = M + 1 ∧ S[M + 1]? = some 61 ∧ S[M]? = some c ∧ c ≠ 61) ∨ (∃ M, S.length = M + 2 ∧ m = M ∧ S[M + 1]? = some 61 ∧ S[M]? = some 61) := by
  rcases h with ⟨h1, h2⟩ | ⟨x, h1, h2, h3, h4⟩ | ⟨x, h1, h2, h3, h4, h5⟩ | ⟨h1, h2, h3, h4⟩
  · exact .inl ⟨by rw [h1]; rfl, h2⟩
  · exact .inr (.inl ⟨S.length - 1, x, by omega, by omega, h2, h3⟩)
  · exact .inr (.inr (.inl ⟨S.length - 2, x, by omega, by omega, by rw [show S.length - 2 + 1 = S.length - 1 by omega]; exact h2, h3, h4⟩))
  · exact .inr (.inr (.inr ⟨S.length - 2, by omega, by omega, by rw [show S.length - 2 + 1 = S.length - 1 by omega]; exact h2, h3⟩))

theorem refDecode_bad (S : List UInt8) (m K : Nat) (w : World) (hB : BadIn S m K) (h4 : S.length % 4 = 0) (hn : S.length ≤ 100000) :
    Calls Try.prog 59 #[sv S] w fun e w' => e = .returned (.tuple #[.slice none 0 0, .int .i64 5]) ∧ Below w.heap.size w w' := by
  obtain ⟨hS, hKm, ⟨c, hc, hcn⟩, hg⟩ := hB
  have Hat := Lib.hid (fun i x (hx : S[i]? = some x) => byte_at4 (ByteArray.mk ⟨S⟩) i x hx)
  have Hg := Lib.hid hg
  have hcK := Hat.out K c hc
  have HV := Lib.hid (fun W => value_bad c hcn W)
  clear hc hg
  have key : ∃ N, S.length = N := ⟨_, rfl⟩
  obtain ⟨N, hN⟩ := key
  have hsz : (ByteArray.mk ⟨S⟩).size = N := hN
  rw [hN] at h4 hn
  have d0 : ((N : Int) % 4 != 0) = false := by rw [bne_eq_false_iff_eq]; omega
  have hmN : m ≤ N := by rcases strip_nums hS with h | ⟨M, c, h⟩ | ⟨M, c, h⟩ | ⟨M, h⟩ <;> omega
  rcases strip_nums hS with ⟨h1, h2⟩ | ⟨M, x, h1, h2, h3, h3n⟩ | ⟨M, x, h1, h2, h3, h5, h5n⟩ | ⟨M, h1, h2, h3, h5⟩
  · omega
  · have a1 := Hat.out M x h3
    have e1 : ((x.toNat : Int) == 61) = false := byte_ne4 h3n
    obtain rfl : N = M + 1 := by omega
    have d1 : (((M : Int) + 1) % 4 != 0) = false := by rw [bne_eq_false_iff_eq]; omega
    clear d0
    obtain rfl : m = M + 1 := h2
    unfold sv
    generalize ByteArray.mk ⟨S⟩ = s at *
    clear h1 h3 hS h4 hN hmN
    go_enter Try.func59, Try.ntmps59
    go_wp2
    go_loopw [5, 6] (fun v i wr => ∃ (k : Nat) (B : List Nat), k ≤ K ∧ i = .int .i64 k ∧ OwnI wr w.heap.size v (6 * k) B ∧ Below w.heap.size w wr) (fun _ i _ => 200000 - (intOf i).toNat)
    case atStart => exact ⟨0, [], Nat.zero_le _, rfl, World.ownsRow_nil _ _ _ _, Below.refl _ _⟩
    case round =>
      obtain ⟨k, B, hk, rfl, hown, hbel⟩ := hrel
      have dk : decide ((k : Int) < (M : Int) + 1) = true := decide_eq_true (by omega)
      have hsw := hbel.size
      by_cases hlt : k < K
      · obtain ⟨v, hv, hsv⟩ := Hg.out k hlt
        have ha := Hat.out k _ hsv
        have HG := Lib.hid (fun W => value_good v hv W)
        have dv : decide ((v : Int) < 0) = false := decide_eq_false (by omega)
        clear hsv hcK
        go_wp2_with fail
        refine (HG.out _).mono ?_; rintro e w1 ⟨rfl, rfl⟩
        go_wp2
        go_loopw [5, 8] (fun u d wr => ∃ (t : Nat) (B' : List Nat), t ≤ 6 ∧ d = .int .i64 ((32 / 2 ^ t : Nat) : Int) ∧ OwnI wr w.heap.size u (6 * k + t) B' ∧ Below w.heap.size w wr) (fun _ d _ => (intOf d).toNat)
        case atStart => exact ⟨0, B, by omega, rfl, hown, hbel⟩
        case round =>
          clear hown hbel hsw
          obtain ⟨t, B', ht, rfl, hown, hbel⟩ := hrel
          have hsw := hbel.size
          by_cases ht6 : t < 6
          · obtain ⟨d, hd⟩ : ∃ d, d = 32 / 2 ^ t := ⟨_, rfl⟩
            have hd2 : 32 / 2 ^ (t + 1) = d / 2 ∧ 1 ≤ d ∧ d ≤ 32 := by
              have hc : t = 0 ∨ t = 1 ∨ t = 2 ∨ t = 3 ∨ t = 4 ∨ t = 5 := by omega
              rcases hc with rfl | rfl | rfl | rfl | rfl | rfl <;> (rw [hd]; decide)
            rw [← hd]
            have HD := Lib.hid hd2.1
            have hd1 := hd2.2.1
            have hd3 := hd2.2.2
            have dd : decide ((0 : Int) < (d : Int)) = true := decide_eq_true (by omega)
            have hdz : ((d : Int) == 0) = false := by rw [beq_eq_false_iff_ne]; omega
            clear hd hd2
            go_wp2_with (at_builtin; refine wpList_appi _ rfl _ _ rfl w.heap.size _ _ _ rfl (by exact hown.alloc _) ⟨wr.heap.size, 0, none⟩ 1 (v / d % 2) rfl ?c1 ?c2 ?c3 ?_)
            case c1 => exact (one_new _ _ _ _ rfl).trans (congrArg (fun i => some (Value.int .i64 i)) (vd_num v d hv))
            case c2 => omega
            case c3 => simp; omega
            intro v' w2 hown' hgrow
            have hb1 : Below w.heap.size w w2 := by
              refine Below.grown ?_ hgrow ?_ (fun g hg => (hown.lt g hg).1)
              · exact hbel.alloc (by omega) _
              · simp; omega
            clear hgrow
            go_wp2
            go_roundw
            case rel => exact ⟨t + 1, _, by omega, congrArg (Value.int .i64) (by rw [HD.out]; go_num), hown', hb1⟩
            case measure => simp [intOf] <;> omega
          · obtain rfl : t = 6 := by omega
            go_wp2
            go_roundw
            case rel => first | exact ⟨k + 1, B', by omega, by go_num, (show 6 * k + 6 = 6 * (k + 1) by omega) ▸ hown, hbel⟩ | ((repeat apply Exists.intro); exact ⟨⟨k + 1, B', by omega, by go_num, (show 6 * k + 6 = 6 * (k + 1) by omega) ▸ hown, hbel⟩, rfl⟩)
            case measure => simp [intOf] <;> omega
      · obtain rfl : k = K := by omega
        go_wp2_with fail
        refine (HV.out _).mono ?_; rintro e w1 ⟨rfl, rfl⟩
        go_wp2
        go_ret2
        exact ⟨rfl, hbel⟩
  · have a1 := Hat.out (M + 1) 61 h3
    have a2 := Hat.out M x h5
    have e1 : ((x.toNat : Int) == 61) = false := byte_ne4 h5n
    obtain rfl : N = M + 2 := by omega
    have d1 : (((M : Int) + 2) % 4 != 0) = false := by rw [bne_eq_false_iff_eq]; omega
    clear d0
    obtain rfl : m = M + 1 := h2
    unfold sv
    generalize ByteArray.mk ⟨S⟩ = s at *
    clear h1 h3 h5 hS h4 hN hmN
    go_enter Try.func59, Try.ntmps59
    go_wp2
    go_loopw [5, 6] (fun v i wr => ∃ (k : Nat) (B : List Nat), k ≤ K ∧ i = .int .i64 k ∧ OwnI wr w.heap.size v (6 * k) B ∧ Below w.heap.size w wr) (fun _ i _ => 200000 - (intOf i).toNat)
    case atStart => exact ⟨0, [], Nat.zero_le _, rfl, World.ownsRow_nil _ _ _ _, Below.refl _ _⟩
    case round =>
      obtain ⟨k, B, hk, rfl, hown, hbel⟩ := hrel
      have dk : decide ((k : Int) < (M : Int) + 1) = true := decide_eq_true (by omega)
      have hsw := hbel.size
      by_cases hlt : k < K
      · obtain ⟨v, hv, hsv⟩ := Hg.out k hlt
        have ha := Hat.out k _ hsv
        have HG := Lib.hid (fun W => value_good v hv W)
        have dv : decide ((v : Int) < 0) = false := decide_eq_false (by omega)
        clear hsv hcK
        go_wp2_with fail
        refine (HG.out _).mono ?_; rintro e w1 ⟨rfl, rfl⟩
        go_wp2
        go_loopw [5, 8] (fun u d wr => ∃ (t : Nat) (B' : List Nat), t ≤ 6 ∧ d = .int .i64 ((32 / 2 ^ t : Nat) : Int) ∧ OwnI wr w.heap.size u (6 * k + t) B' ∧ Below w.heap.size w wr) (fun _ d _ => (intOf d).toNat)
        case atStart => exact ⟨0, B, by omega, rfl, hown, hbel⟩
        case round =>
          clear hown hbel hsw
          obtain ⟨t, B', ht, rfl, hown, hbel⟩ := hrel
          have hsw := hbel.size
          by_cases ht6 : t < 6
          · obtain ⟨d, hd⟩ : ∃ d, d = 32 / 2 ^ t := ⟨_, rfl⟩
            have hd2 : 32 / 2 ^ (t + 1) = d / 2 ∧ 1 ≤ d ∧ d ≤ 32 := by
              have hc : t = 0 ∨ t = 1 ∨ t = 2 ∨ t = 3 ∨ t = 4 ∨ t = 5 := by omega
              rcases hc with rfl | rfl | rfl | rfl | rfl | rfl <;> (rw [hd]; decide)
            rw [← hd]
            have HD := Lib.hid hd2.1
            have hd1 := hd2.2.1
            have hd3 := hd2.2.2
            have dd : decide ((0 : Int) < (d : Int)) = true := decide_eq_true (by omega)
            have hdz : ((d : Int) == 0) = false := by rw [beq_eq_false_iff_ne]; omega
            clear hd hd2
            go_wp2_with (at_builtin; refine wpList_appi _ rfl _ _ rfl w.heap.size _ _ _ rfl (by exact hown.alloc _) ⟨wr.heap.size, 0, none⟩ 1 (v / d % 2) rfl ?c1 ?c2 ?c3 ?_)
            case c1 => exact (one_new _ _ _ _ rfl).trans (congrArg (fun i => some (Value.int .i64 i)) (vd_num v d hv))
            case c2 => omega
            case c3 => simp; omega
            intro v' w2 hown' hgrow
            have hb1 : Below w.heap.size w w2 := by
              refine Below.grown ?_ hgrow ?_ (fun g hg => (hown.lt g hg).1)
              · exact hbel.alloc (by omega) _
              · simp; omega
            clear hgrow
            go_wp2
            go_roundw
            case rel => exact ⟨t + 1, _, by omega, congrArg (Value.int .i64) (by rw [HD.out]; go_num), hown', hb1⟩
            case measure => simp [intOf] <;> omega
          · obtain rfl : t = 6 := by omega
            go_wp2
            go_roundw
            case rel => first | exact ⟨k + 1, B', by omega, by go_num, (show 6 * k + 6 = 6 * (k + 1) by omega) ▸ hown, hbel⟩ | ((repeat apply Exists.intro); exact ⟨⟨k + 1, B', by omega, by go_num, (show 6 * k + 6 = 6 * (k + 1) by omega) ▸ hown, hbel⟩, rfl⟩)
            case measure => simp [intOf] <;> omega
      · obtain rfl : k = K := by omega
        go_wp2_with fail
        refine (HV.out _).mono ?_; rintro e w1 ⟨rfl, rfl⟩
        go_wp2
        go_ret2
        exact ⟨rfl, hbel⟩
  · obtain ⟨M0, rfl⟩ : ∃ M0, M = M0 + 1 := ⟨M - 1, by omega⟩
    have a1 := Hat.out (M0 + 1 + 1) 61 h3
    have a2 := Hat.out (M0 + 1) 61 h5
    obtain rfl : N = M0 + 3 := by omega
    have d1 : (((M0 : Int) + 3) % 4 != 0) = false := by rw [bne_eq_false_iff_eq]; omega
    clear d0
    obtain rfl : m = M0 + 1 := h2
    unfold sv
    generalize ByteArray.mk ⟨S⟩ = s at *
    clear h1 h3 h5 hS h4 hN hmN
    generalize M0 = M at *
    go_enter Try.func59, Try.ntmps59
    go_wp2
    go_loopw [5, 6] (fun v i wr => ∃ (k : Nat) (B : List Nat), k ≤ K ∧ i = .int .i64 k ∧ OwnI wr w.heap.size v (6 * k) B ∧ Below w.heap.size w wr) (fun _ i _ => 200000 - (intOf i).toNat)
    case atStart => exact ⟨0, [], Nat.zero_le _, rfl, World.ownsRow_nil _ _ _ _, Below.refl _ _⟩
    case round =>
      obtain ⟨k, B, hk, rfl, hown, hbel⟩ := hrel
      have dk : decide ((k : Int) < (M : Int) + 1) = true := decide_eq_true (by omega)
      have hsw := hbel.size
      by_cases hlt : k < K
      · obtain ⟨v, hv, hsv⟩ := Hg.out k hlt
        have ha := Hat.out k _ hsv
        have HG := Lib.hid (fun W => value_good v hv W)
        have dv : decide ((v : Int) < 0) = false := decide_eq_false (by omega)
        clear hsv hcK
        go_wp2_with fail
        refine (HG.out _).mono ?_; rintro e w1 ⟨rfl, rfl⟩
        go_wp2
        go_loopw [5, 8] (fun u d wr => ∃ (t : Nat) (B' : List Nat), t ≤ 6 ∧ d = .int .i64 ((32 / 2 ^ t : Nat) : Int) ∧ OwnI wr w.heap.size u (6 * k + t) B' ∧ Below w.heap.size w wr) (fun _ d _ => (intOf d).toNat)
        case atStart => exact ⟨0, B, by omega, rfl, hown, hbel⟩
        case round =>
          clear hown hbel hsw
          obtain ⟨t, B', ht, rfl, hown, hbel⟩ := hrel
          have hsw := hbel.size
          by_cases ht6 : t < 6
          · obtain ⟨d, hd⟩ : ∃ d, d = 32 / 2 ^ t := ⟨_, rfl⟩
            have hd2 : 32 / 2 ^ (t + 1) = d / 2 ∧ 1 ≤ d ∧ d ≤ 32 := by
              have hc : t = 0 ∨ t = 1 ∨ t = 2 ∨ t = 3 ∨ t = 4 ∨ t = 5 := by omega
              rcases hc with rfl | rfl | rfl | rfl | rfl | rfl <;> (rw [hd]; decide)
            rw [← hd]
            have HD := Lib.hid hd2.1
            have hd1 := hd2.2.1
            have hd3 := hd2.2.2
            have dd : decide ((0 : Int) < (d : Int)) = true := decide_eq_true (by omega)
            have hdz : ((d : Int) == 0) = false := by rw [beq_eq_false_iff_ne]; omega
            clear hd hd2
            go_wp2_with (at_builtin; refine wpList_appi _ rfl _ _ rfl w.heap.size _ _ _ rfl (by exact hown.alloc _) ⟨wr.heap.size, 0, none⟩ 1 (v / d % 2) rfl ?c1 ?c2 ?c3 ?_)
            case c1 => exact (one_new _ _ _ _ rfl).trans (congrArg (fun i => some (Value.int .i64 i)) (vd_num v d hv))
            case c2 => omega
            case c3 => simp; omega
            intro v' w2 hown' hgrow
            have hb1 : Below w.heap.size w w2 := by
              refine Below.grown ?_ hgrow ?_ (fun g hg => (hown.lt g hg).1)
              · exact hbel.alloc (by omega) _
              · simp; omega
            clear hgrow
            go_wp2
            go_roundw
            case rel => exact ⟨t + 1, _, by omega, congrArg (Value.int .i64) (by rw [HD.out]; go_num), hown', hb1⟩
            case measure => simp [intOf] <;> omega
          · obtain rfl : t = 6 := by omega
            go_wp2
            go_roundw
            case rel => first | exact ⟨k + 1, B', by omega, by go_num, (show 6 * k + 6 = 6 * (k + 1) by omega) ▸ hown, hbel⟩ | ((repeat apply Exists.intro); exact ⟨⟨k + 1, B', by omega, by go_num, (show 6 * k + 6 = 6 * (k + 1) by omega) ▸ hown, hbel⟩, rfl⟩)
            case measure => simp [intOf] <;> omega
      · obtain rfl : k = K := by omega
        go_wp2_with fail
        refine (HV.out _).mono ?_; rintro e w1 ⟨rfl, rfl⟩
        go_wp2
        go_ret2
        exact ⟨rfl, hbel⟩

end Go.Proofs.Ytfiagknmieegaaa.Six
