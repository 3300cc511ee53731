
/- Contracts: strings.IndexByte at the signs, sixtyfour.appendThree. -/
import Derived.Test.YtfiagknmieegaaaSixB
namespace Go.Proofs.Ytfiagknmieegaaa.Six
open Go.RowKit

theorem run_index4 (s : ByteArray) (c : Int) (w : World) :
    (callFunc 111 #[.string s, .int .u8 c]).run Try.prog w = .ok (.value (.int .i64 (Lib.indexByte s.data.toList c.toNat.toUInt8))) w := by
  rw [run_callFunc_indexByte Try.func111 (by kernel_rfl) (by kernel_rfl) (by kernel_rfl) (by kernel_rfl), Lib.run_indexByteString]
  rfl
theorem indexByte4 (s : ByteArray) (c : UInt8) (w : World) :
    Calls Try.prog 81 #[.string s, .int .u8 (c.toNat : Int)] w fun e w' => e = .returned (.int .i64 (Lib.indexByte s.data.toList c)) ∧ w = w' := by
  have hi := run_index4 s (c.toNat : Int) w
  rw [show (c.toNat : Int).toNat.toUInt8 = c by simp] at hi
  go_enter Try.func81, Try.ntmps81
  go_wp2
  go_ret
  exact ⟨rfl, rfl⟩
theorem index_sg (v : Nat) (h : v < 64) (w : World) :
    Calls Try.prog 81 #[.string sgt, .int .u8 ((sg v).toNat : Int)] w fun e w' => e = .returned (.int .i64 (v : Int)) ∧ w = w' := by
  have := indexByte4 sgt (sg v) w
  rw [show sgt.data.toList = sgs from rfl, sg_val v h] at this
  exact this
theorem index_bad (c : UInt8) (h : c ∉ sgs) (w : World) :
    Calls Try.prog 81 #[.string sgt, .int .u8 (c.toNat : Int)] w fun e w' => e = .returned (.int .i64 (-1)) ∧ w = w' := by
  have := indexByte4 sgt c w
  rw [show sgt.data.toList = sgs from rfl, sg_no c h] at this
  exact this

/-- The number of signs so far. -/
def pv (vs : List Nat) (k : Nat) : Nat := (vs.take k).getD 0 0 * 262144 + (vs.take k).getD 1 0 * 4096 + (vs.take k).getD 2 0 * 64 + (vs.take k).getD 3 0
theorem pv_zero (vs : List Nat) : pv vs 0 = 0 := by simp [pv]
theorem pv_one (vs : List Nat) (x : Nat) (h : vs[0]? = some x) : pv vs 1 = x * 262144 := by
  match vs, h with
  | _ :: t, h => simp at h; subst h; simp [pv]
theorem pv_two (vs : List Nat) (x : Nat) (h : vs[1]? = some x) : pv vs 2 = pv vs 1 + x * 4096 := by
  match vs, h with
  | _ :: _ :: t, h => simp at h; subst h; simp [pv]
theorem pv_three (vs : List Nat) (x : Nat) (h : vs[2]? = some x) : pv vs 3 = pv vs 2 + x * 64 := by
  match vs, h with
  | _ :: _ :: _ :: t, h => simp at h; subst h; simp [pv]
theorem pv_four (vs : List Nat) (x : Nat) (h : vs[3]? = some x) : pv vs 4 = pv vs 3 + x := by
  match vs, h with
  | _ :: _ :: _ :: _ :: t, h => simp at h; subst h; simp [pv]
theorem get_lt (vs : List Nat) (h : ∀ v ∈ vs, v < 64) (k i : Nat) : (vs.take k).getD i 0 < 64 := by
  rw [List.getD_eq_getElem?_getD]
  cases hx : (vs.take k)[i]? with
  | none => simp
  | some x => exact h x (List.mem_of_mem_take (List.mem_of_getElem? hx))
theorem pv_lt (vs : List Nat) (h : ∀ v ∈ vs, v < 64) (k : Nat) : pv vs k < 16777216 := by
  unfold pv
  have h0 := get_lt vs h k 0
  have h1 := get_lt vs h k 1
  have h2 := get_lt vs h k 2
  have h3 := get_lt vs h k 3
  omega
theorem getD_past (vs : List Nat) (k i : Nat) (h : k ≤ i) : (vs.take k).getD i 0 = 0 := by
  rw [List.getD_eq_getElem?_getD, List.getElem?_eq_none (by rw [List.length_take]; omega)]
  rfl
theorem pv_mod (vs : List Nat) : pv vs 1 % 2 ^ 18 = 0 ∧ pv vs 2 % 2 ^ 12 = 0 ∧ pv vs 3 % 2 ^ 6 = 0 := by
  unfold pv
  rw [getD_past vs 1 1 (by omega), getD_past vs 1 2 (by omega), getD_past vs 1 3 (by omega), getD_past vs 2 2 (by omega), getD_past vs 2 3 (by omega), getD_past vs 3 3 (by omega)]
  omega

/-- What is left of a number when t bytes of it are written. -/
def qs (q t : Nat) : Nat := q * 256 ^ t % 16777216
def ds (q t : Nat) : UInt8 := UInt8.ofNat (qs q t / 65536)
theorem qs_lt (q t : Nat) : qs q t < 16777216 := Nat.mod_lt _ (by omega)
theorem qs_succ (q t : Nat) : qs q (t + 1) = qs q t * 256 % 16777216 := by
  unfold qs
  rw [Nat.pow_succ, ← Nat.mul_assoc, Nat.mod_mul_mod]
theorem ds_nat (q t : Nat) : ((ds q t).toNat : Int) = (qs q t : Int) / 65536 := by
  have := qs_lt q t
  unfold ds
  simp
  omega
theorem and24 (q : Nat) (hq : q < 4294967296) : bits .and .u32 (q : Int) 16777215 = ((q % 16777216 : Nat) : Int) := by
  rw [show (16777215 : Int) = ((16777215 : Nat) : Int) from rfl, u32_and_nat _ _ hq (by omega)]
  congr 1
  exact Nat.and_two_pow_sub_one_eq_mod q 24

/-- What appendThree answers: bytes, or that a bit is left over. -/
def Three (base n N z : Nat) (E D : List UInt8) (w : World) (e : Ending) (w' : World) : Prop :=
  (z = 0 → ∃ v', e = .returned (.tuple #[v', .int .i64 0]) ∧ Own w' base v' (n + N) (E ++ D)) ∧ (z ≠ 0 → e = .returned (.tuple #[.slice none 0 0, .int .i64 10])) ∧ Below base w w'

theorem appendThree_good (base : Nat) (v : Value) (n : Nat) (E : List UInt8) (vs : List Nat) (m N z q : Nat) (w : World) (hm : vs.length = m) (h4 : m ≤ 4) (hN : N = m - 1) (h64 : ∀ v ∈ vs, v < 64) (hn : n ≤ 1000000)
    (hown : Own w base v n E) (hbase : base ≤ w.heap.size) (hq : q = pv vs m) (hz : z = qs q N) :
    Calls Try.prog 79 #[v, sv (vs.map sg)] w (Three base n N z E ((List.range N).map (ds q)) w) := by
  have hsz : (ByteArray.mk ⟨vs.map sg⟩).size = m := by show (vs.map sg).length = m; simpa using hm
  have Hat := Lib.hid (fun i x (hx : vs[i]? = some x) => byte_at4 (ByteArray.mk ⟨vs.map sg⟩) i (sg x) (by show (vs.map sg)[i]? = _; simp [hx]))
  unfold sv
  generalize ByteArray.mk ⟨vs.map sg⟩ = s at *
  have H64 := Lib.hid h64
  have Hz := Lib.hid hz
  have HN := Lib.hid hN
  have Hq := Lib.hid hq
  have hN4 : N ≤ 3 := by omega
  clear h64 hz hN hq
  go_enter Try.func79, Try.ntmps79
  go_wp2
  go_loop [6, 11] (fun x i => ∃ k : Nat, k ≤ m ∧ i = .int .i64 k ∧ x = .int .u32 (pv vs k : Int)) (fun _ i => m - (intOf i).toNat)
  case atStart => exact ⟨0, Nat.zero_le _, rfl, by rw [pv_zero]; rfl⟩
  case round =>
    obtain ⟨k, hk, rfl, rfl⟩ := hrel
    by_cases hlt : k < m
    · have hx := List.getElem?_eq_getElem (l := vs) (i := k) (by omega)
      have hxl : vs[k]'(by omega) < 64 := H64.out _ (List.getElem_mem _)
      generalize vs[k]'(by omega) = x at *
      have hc := Hat.out k x hx
      have HI := Lib.hid (fun W => index_sg x hxl W)
      have Hm := Lib.hid (pv_mod vs)
      have hp := pv_lt vs H64.out k
      have hcase : k = 0 ∨ k = 1 ∨ k = 2 ∨ k = 3 := by omega
      rcases hcase with rfl | rfl | rfl | rfl
      · rw [pv_zero]
        have Hs := Lib.hid (pv_one vs x hx)
        clear hx hp
        go_wp2_with fail
        refine (HI.out _).mono ?_; rintro e w1 ⟨rfl, rfl⟩
        go_wp2
        go_round
        case rel => exact ⟨1, by omega, by go_num, congrArg (Value.int .u32) (by rw [Hs.out]; exact (or_nat 24 0 (x * 262144) rfl (by omega) (by omega) (by omega)).trans (by rw [Nat.zero_add]))⟩
        case measure => simp [intOf] <;> omega
      · have Hs := Lib.hid (pv_two vs x hx)
        have Hm1 := Lib.hid Hm.out.1
        clear hx
        generalize pv vs 1 = q at *
        go_wp2_with fail
        refine (HI.out _).mono ?_; rintro e w1 ⟨rfl, rfl⟩
        go_wp2
        go_round
        case rel => exact ⟨2, by omega, by go_num, congrArg (Value.int .u32) (by rw [Hs.out]; exact or_nat 18 q (x * 4096) Hm1.out (by omega) (by omega) (by omega))⟩
        case measure => simp [intOf] <;> omega
      · have Hs := Lib.hid (pv_three vs x hx)
        have Hm1 := Lib.hid Hm.out.2.1
        clear hx
        generalize pv vs 2 = q at *
        go_wp2_with fail
        refine (HI.out _).mono ?_; rintro e w1 ⟨rfl, rfl⟩
        go_wp2
        go_round
        case rel => exact ⟨3, by omega, by go_num, congrArg (Value.int .u32) (by rw [Hs.out]; exact or_nat 12 q (x * 64) Hm1.out (by omega) (by omega) (by omega))⟩
        case measure => simp [intOf] <;> omega
      · have Hs := Lib.hid (pv_four vs x hx)
        have Hm1 := Lib.hid Hm.out.2.2
        clear hx
        generalize pv vs 3 = q at *
        go_wp2_with fail
        refine (HI.out _).mono ?_; rintro e w1 ⟨rfl, rfl⟩
        go_wp2
        go_round
        case rel => exact ⟨4, by omega, by go_num, congrArg (Value.int .u32) (by rw [Hs.out]; exact or_nat 6 q x Hm1.out (by omega) (by omega) (by omega))⟩
        case measure => simp [intOf] <;> omega
    · obtain rfl : k = m := by omega
      have hp := pv_lt vs H64.out k
      rw [← Hq.out] at hp ⊢
      have H0 := Lib.hid (show qs q 0 = q by unfold qs; simp; omega)
      have hw0 : Below base w w := Below.refl _ _
      have hwr : IntKind.i64.wrap ((k : Int) - 1) = (k : Int) - 1 := IntWalk.i64_in _ (by omega)
      clear hlt hk
      go_wp2
      go_loopw [0, 6, 32] (fun v x i wr => ∃ t : Nat, t ≤ N ∧ i = .int .i64 t ∧ x = .int .u32 (qs q t : Int) ∧ Own wr base v (n + t) (E ++ (List.range t).map (ds q)) ∧ Below base w wr) (fun _ _ i _ => N - (intOf i).toNat)
      case atStart => exact ⟨0, Nat.zero_le _, rfl, by rw [H0.out], by simpa using hown, hw0⟩
      case round =>
        clear hown hw0
        obtain ⟨t, ht, rfl, rfl, hown, hbel⟩ := hrel
        have hszw := hbel.size
        have hql := qs_lt q t
        by_cases hltN : t < N
        · have HS := Lib.hid (qs_succ q t)
          have HD := Lib.hid (ds_nat q t)
          have HR := Lib.hid (show (List.range (t + 1)).map (ds q) = (List.range t).map (ds q) ++ [ds q t] by simp [List.range_succ])
          generalize (List.range t).map (ds q) = D at *
          generalize ds q t = d at *
          generalize qs q t = x at *
          have d1 : decide ((t : Int) < (k : Int) - 1) = true := decide_eq_true (by have := HN.out; omega)
          have hu8 : IntKind.u8.wrap ((x : Int) / 65536) = (d.toNat : Int) := by rw [HD.out]; exact IntWalk.u8_in _ (by omega)
          go_wp2_with (at_builtin; refine wpList_app1 _ rfl _ _ rfl base _ _ _ rfl (by exact hown.alloc _) ⟨wr.heap.size, 0, none⟩ 1 d rfl ?c1 ?c2 ?c3 ?_)
          case c1 => exact one_new _ _ _ _ rfl
          case c2 => omega
          case c3 => simp; omega
          intro v' w2 hown' hgrow
          have hb1 : Below base w w2 := by
            refine Below.grown ?_ hgrow ?_ (fun g hg => (hown.lt g hg).1)
            · exact hbel.alloc (by omega) _
            · simp; omega
          clear hgrow
          go_wp2
          go_roundw
          case rel => exact ⟨t + 1, by omega, by go_num, by rw [HS.out]; exact congrArg (Value.int .u32) (and24 (x * 256) (by omega)), by rw [HR.out, ← Nat.add_assoc]; simpa using hown', hb1⟩
          case measure => simp [intOf] <;> omega
        · obtain rfl : t = N := by omega
          rw [← Hz.out]
          have d1 : decide ((t : Int) < (k : Int) - 1) = false := decide_eq_false (by have := HN.out; omega)
          by_cases hz0 : z = 0
          · subst hz0
            go_wp2
            go_ret2
            exact ⟨fun _ => ⟨_, rfl, hown⟩, fun h => absurd rfl h, hbel⟩
          · have d2 : ((z : Int) != 0) = true := by simp [hz0]
            go_wp2
            go_ret2
            exact ⟨fun h => absurd h hz0, fun _ => rfl, hbel⟩

/-- The first byte that is no sign. -/
def FirstBad (t : List UInt8) (K : Nat) : Prop := (∃ c, t[K]? = some c ∧ c ∉ sgs) ∧ ∀ j, j < K → ∃ v, v < 64 ∧ t[j]? = some (sg v)

theorem or_small (a b : Nat) (ha : a < 16777216) (hb : b < 16777216) : ∃ q : Nat, q < 16777216 ∧ bits .or .u32 (a : Int) (b : Int) = (q : Int) :=
  ⟨a ||| b, Nat.or_lt_two_pow (n := 24) ha hb, u32_or_nat _ _ (by omega) (by omega)⟩

theorem appendThree_bad (v : Value) (t : List UInt8) (K m : Nat) (w : World) (hm : t.length = m) (h4 : m ≤ 4) (hB : FirstBad t K) :
    Calls Try.prog 79 #[v, sv t] w fun e w' => e = .returned (.tuple #[.slice none 0 0, .int .i64 5]) ∧ w = w' := by
  obtain ⟨⟨c, hc, hbad⟩, hgood⟩ := hB
  have hKm : K < m := by
    obtain ⟨h1, _⟩ := List.getElem?_eq_some_iff.1 hc
    omega
  have hsz : (ByteArray.mk ⟨t⟩).size = m := hm
  have Hat := Lib.hid (fun i x (hx : t[i]? = some x) => byte_at4 (ByteArray.mk ⟨t⟩) i x hx)
  unfold sv
  generalize ByteArray.mk ⟨t⟩ = s at *
  have hcc := Hat.out K c hc
  have HB := Lib.hid (fun W => index_bad c hbad W)
  have Hgood := Lib.hid hgood
  clear hgood hc
  go_enter Try.func79, Try.ntmps79
  go_wp2
  go_loop [6, 11] (fun x i => ∃ k q : Nat, k ≤ K ∧ i = .int .i64 k ∧ q < 16777216 ∧ x = .int .u32 (q : Int)) (fun _ i => m - (intOf i).toNat)
  case atStart => exact ⟨0, 0, Nat.zero_le _, rfl, by omega, rfl⟩
  case round =>
    obtain ⟨k, q, hk, rfl, hq, rfl⟩ := hrel
    by_cases hlt : k < K
    · obtain ⟨x, hxl, hx⟩ := Hgood.out k hlt
      have hc := Hat.out k _ hx
      have HI := Lib.hid (fun W => index_sg x hxl W)
      clear hx hcc
      have hcase : k = 0 ∨ k = 1 ∨ k = 2 := by omega
      rcases hcase with rfl | rfl | rfl
      · obtain ⟨q', hq', hor⟩ := or_small q (x * 262144) hq (by omega)
        go_wp2_with fail
        refine (HI.out _).mono ?_; rintro e w1 ⟨rfl, rfl⟩
        go_wp2
        go_round
        case rel => exact ⟨1, q', by omega, by go_num, hq', congrArg (Value.int .u32) hor⟩
        case measure => simp [intOf] <;> omega
      · obtain ⟨q', hq', hor⟩ := or_small q (x * 4096) hq (by omega)
        go_wp2_with fail
        refine (HI.out _).mono ?_; rintro e w1 ⟨rfl, rfl⟩
        go_wp2
        go_round
        case rel => exact ⟨2, q', by omega, by go_num, hq', congrArg (Value.int .u32) hor⟩
        case measure => simp [intOf] <;> omega
      · obtain ⟨q', hq', hor⟩ := or_small q (x * 64) hq (by omega)
        go_wp2_with fail
        refine (HI.out _).mono ?_; rintro e w1 ⟨rfl, rfl⟩
        go_wp2
        go_round
        case rel => exact ⟨3, q', by omega, by go_num, hq', congrArg (Value.int .u32) hor⟩
        case measure => simp [intOf] <;> omega
    · obtain rfl : k = K := by omega
      go_wp2_with fail
      refine (HB.out _).mono ?_; rintro e w1 ⟨rfl, rfl⟩
      go_wp2
      go_ret2
      exact ⟨rfl, rfl⟩

end Go.Proofs.Ytfiagknmieegaaa.Six
