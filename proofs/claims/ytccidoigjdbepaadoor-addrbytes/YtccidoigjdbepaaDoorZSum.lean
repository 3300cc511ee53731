
/- Out of the texts SumN, EndA, SumA, SumB, SumC, MsgA, CatP, Num, EndB, EndC, EndD, EndE. -/
import Derived.WalkKit
import Derived.Laws.BitsAllLaws
import Derived.Laws.Bits64
import Derived.Test.YtccidoigjdbepaaDoorChecked
import Derived.Test.YtccidoigjdbepaaDoorBase
import Derived.Deep.QuietTactic
import Derived.BigQuiet
import Derived.WalkSpells
import Derived.WalkLawsBesides
import Derived.Outline
import Derived.Test.YtccidoigjdbepaaDoorGen
import Derived.Test.YtccidoigjdbepaaDoorApp
import Derived.Test.YtccidoigjdbepaaDoorSame
/- SumN -/
namespace Go.Proofs.YtccidoigjdbepaaDoor

/-- What is above 16 bits, added to these, till nothing is. -/
def foldN (n : Nat) : Nat := if n = 0 then 0 else (n - 1) % 65535 + 1

theorem foldN_le (n : Nat) : foldN n ≤ 65535 := by unfold foldN; split <;> omega
theorem foldN_id (n : Nat) (h : n ≤ 65535) : foldN n = n := by unfold foldN; split <;> omega
theorem foldN_step (n : Nat) (h : 65535 < n) : foldN (n / 65536 + n % 65536) = foldN n := by
  unfold foldN
  rw [if_neg (by omega), if_neg (by omega)]
  omega
theorem foldN_full (n : Nat) : foldN n = 65535 ↔ 0 < n ∧ n % 65535 = 0 := by unfold foldN; split <;> omega
theorem foldN_add (a b : Nat) : foldN (foldN a + b) = foldN (a + b) := by
  unfold foldN
  by_cases ha : a = 0
  · simp [ha]
  · rw [if_neg ha, if_neg (by omega), if_neg (by omega)]
    omega

/-- The words of bytes, added; hi: the first byte is a word's higher one. -/
def raw : Bool → List UInt8 → Nat
  | _, [] => 0
  | hi, c :: t => (if hi then 256 * c.toNat else c.toNat) + raw (!hi) t

def evenLen (l : List UInt8) : Bool := l.length % 2 == 0

theorem raw_append (hi : Bool) (a b : List UInt8) : raw hi (a ++ b) = raw hi a + raw (if evenLen a then hi else !hi) b := by
  induction a generalizing hi with
  | nil => simp [raw, evenLen]
  | cons c t ih =>
    simp only [List.cons_append, raw, ih]
    have : (if evenLen t = true then !hi else !(!hi)) = (if evenLen (c :: t) = true then hi else !hi) := by
      unfold evenLen
      rw [List.length_cons]
      rcases Nat.mod_two_eq_zero_or_one t.length with h | h
      · have h2 : (t.length + 1) % 2 = 1 := by omega
        simp [h, h2]
      · have h2 : (t.length + 1) % 2 = 0 := by omega
        simp [h, h2]
    rw [this]
    omega
theorem raw_snoc (a : List UInt8) (c : UInt8) : raw true (a ++ [c]) = raw true a + (if evenLen a then 256 * c.toNat else c.toNat) := by
  rw [raw_append]
  cases evenLen a <;> simp [raw]
theorem evenLen_snoc (a : List UInt8) (c : UInt8) : evenLen (a ++ [c]) = !evenLen a := by
  unfold evenLen
  rw [List.length_append, List.length_singleton]
  rcases Nat.mod_two_eq_zero_or_one a.length with h | h
  · have h2 : (a.length + 1) % 2 = 1 := by omega
    simp [h, h2]
  · have h2 : (a.length + 1) % 2 = 0 := by omega
    simp [h, h2]
theorem raw_lt (hi : Bool) (l : List UInt8) : raw hi l ≤ 65536 * l.length := by
  induction l generalizing hi with
  | nil => simp [raw]
  | cons c t ih =>
    have := ih (!hi)
    have hc := c.toNat_lt
    simp only [raw, List.length_cons]
    split <;> omega

/-- The sum of bytes. -/
def osum (l : List UInt8) : Nat := foldN (raw true l)

theorem osum_le (l : List UInt8) : osum l ≤ 65535 := foldN_le _

theorem and_ffff (x : Nat) (h : x < 18446744073709551616) : bits BinOp.and IntKind.u64 (x : Int) 65535 = ((x % 65536 : Nat) : Int) := by
  rw [show (65535 : Int) = ((65535 : Nat) : Int) from rfl, u64_and_nat _ _ (by omega) (by omega)]
  have := Nat.and_two_pow_sub_one_eq_mod x 16
  rw [show (65535 : Nat) = 2 ^ 16 - 1 from rfl, this]

/-- A byte at a place taken out and another put in: what the sum of the words comes to. -/
theorem raw_set (l : List UInt8) : ∀ (hi : Bool) (k : Nat) (x y : UInt8), l[k]? = some x →
    raw hi (l.set k y) + (if (if k % 2 = 0 then hi else !hi) then 256 else 1) * x.toNat = raw hi l + (if (if k % 2 = 0 then hi else !hi) then 256 else 1) * y.toNat := by
  induction l with
  | nil => intro hi k x y h; simp at h
  | cons c t ih =>
    intro hi k x y h
    match k with
    | 0 =>
      simp at h; subst h
      cases hi <;> simp [raw] <;> omega
    | k + 1 =>
      have h' : t[k]? = some x := by simpa using h
      have := ih (!hi) k x y h'
      have e : (if k % 2 = 0 then !hi else !(!hi)) = (if (k + 1) % 2 = 0 then hi else !hi) := by
        rcases Nat.mod_two_eq_zero_or_one k with q | q
        · have h2 : (k + 1) % 2 = 1 := by omega
          simp [q, h2]
        · have h2 : (k + 1) % 2 = 0 := by omega
          simp [q, h2]
      rw [e] at this
      simp only [List.set_cons_succ, raw]
      omega

end Go.Proofs.YtccidoigjdbepaaDoor

/- EndA -/
namespace Go.Proofs.YtccidoigjdbepaaDoor
open Go.RowKit
set_option maxRecDepth 100000

theorem ret_int {k : IntKind} {a b : Int} (h : a = b) : Ending.returned (.int k a) = .returned (.int k b) := by rw [h]

theorem mask_num (k : Nat) (h : k ≤ 64) : IntKind.u64.wrap (IntKind.u64.wrap (2 ^ k) - 1) = ((2 ^ k - 1 : Nat) : Int) := by
  have hp : (2 : Int) ^ k = ((2 ^ k : Nat) : Int) := by simp
  have h1 : 1 ≤ 2 ^ k := Nat.one_le_two_pow
  rw [hp, IntKind.wrap_u64, IntKind.wrap_u64]
  rcases Nat.lt_or_ge k 64 with hk | hk
  · have h2 : 2 ^ k < 2 ^ 64 := Nat.pow_lt_pow_right (by omega) hk
    omega
  · obtain rfl : k = 64 := by omega
    decide

end Go.Proofs.YtccidoigjdbepaaDoor

/- SumA -/
namespace Go.Proofs.YtccidoigjdbepaaDoor
open Go.RowKit
set_option maxRecDepth 100000

/-- One of several parts: a slice value, and what it shows. -/
structure Part where
  A : Option Addr
  n : Nat
  c : Nat
  l : List UInt8

abbrev pv (p : Part) : Value := .slice p.A p.n p.c

/-- Parts that a slice value shows. -/
def Parts (w : World) (B : Nat) (A : Option Addr) (n : Nat) (L : List Part) : Prop :=
  Sh pv w B A n L ∧ ∀ p ∈ L, Shows w B p.A p.n p.l

/-- All bytes of parts, one behind the other. -/
abbrev joinP (L : List Part) : List UInt8 := (L.map (·.l)).flatten

theorem joinP_succ (L : List Part) (k : Nat) (p : Part) (h : L[k]? = some p) : joinP (L.take (k + 1)) = joinP (L.take k) ++ p.l := by
  obtain ⟨hk, rfl⟩ := List.getElem?_eq_some_iff.1 h
  unfold joinP
  rw [List.take_succ_eq_append_getElem hk]
  simp only [List.map_append, List.map_cons, List.map_nil, List.flatten_append, List.flatten_cons, List.flatten_nil, List.append_nil]
theorem joinP_le (L : List Part) (k : Nat) : (joinP (L.take k)).length ≤ (joinP L).length := by
  have : joinP L = joinP (L.take k) ++ joinP (L.drop k) := by
    unfold joinP
    rw [← List.flatten_append, ← List.map_append, List.take_append_drop]
  rw [this, List.length_append]
  omega

/-- Where the next byte of a word stands. -/
def place (l : List UInt8) : Int := if evenLen l then 8 else 0

end Go.Proofs.YtccidoigjdbepaaDoor

/- SumB -/
namespace Go.Proofs.YtccidoigjdbepaaDoor
open Go.RowKit
set_option maxRecDepth 100000

/-- One part, in a list of its own. -/
theorem parts1 (w : World) (A : Option Addr) (n c : Nat) (l : List UInt8) (h : Shows w w.heap.size A n l) :
    Parts (w.alloc (.cells #[.slice A n c] 26)) (w.alloc (.cells #[.slice A n c] 26)).heap.size (some ⟨w.heap.size, 0, none⟩) 1 [⟨A, n, c, l⟩] := by
  refine ⟨sh_new pv 26 w #[.slice A n c] [⟨A, n, c, l⟩] rfl, fun p hp => ?_⟩
  simp at hp
  subst hp
  exact (h.alloc (Nat.le_refl _) _).up (by simp)

/-- A byte with one bit turned, counted from the highest on. -/
def turnN (x t : Nat) : Nat := if x / 2 ^ (7 - t) % 2 = 1 then x - 2 ^ (7 - t) else x + 2 ^ (7 - t)
theorem turnN_cases (x t : Nat) (hx : x < 256) (ht : t < 8) :
    (x / 2 ^ (7 - t) % 2 = 1 ∧ turnN x t + 2 ^ (7 - t) = x) ∨ (x / 2 ^ (7 - t) % 2 = 0 ∧ turnN x t = x + 2 ^ (7 - t) ∧ x + 2 ^ (7 - t) < 256) := by
  unfold turnN
  have : t = 0 ∨ t = 1 ∨ t = 2 ∨ t = 3 ∨ t = 4 ∨ t = 5 ∨ t = 6 ∨ t = 7 := by omega
  rcases this with rfl | rfl | rfl | rfl | rfl | rfl | rfl | rfl <;> simp only [Nat.reduceSub, Nat.reducePow] <;> split <;> omega
theorem turnN_lt (x t : Nat) (hx : x < 256) (ht : t < 8) : turnN x t < 256 := by
  have := turnN_cases x t hx ht
  generalize turnN x t = a at *
  generalize 2 ^ (7 - t) = b at *
  omega
/-- Bytes with one bit turned. -/
def turned (l : List UInt8) (bit : Nat) : List UInt8 := l.set (bit / 8) (UInt8.ofNat (turnN (l[bit / 8]?.getD 0).toNat (bit % 8)))
theorem turned_len (l : List UInt8) (bit : Nat) : (turned l bit).length = l.length := by simp [turned]

theorem pow_half (t : Nat) (h : t ≤ 7) : 128 / 2 ^ t = 2 ^ (7 - t) := by
  have : t = 0 ∨ t = 1 ∨ t = 2 ∨ t = 3 ∨ t = 4 ∨ t = 5 ∨ t = 6 ∨ t = 7 := by omega
  rcases this with rfl | rfl | rfl | rfl | rfl | rfl | rfl | rfl <;> rfl

theorem vdm_num (v d : Nat) (hv : v < 256) : (wrap64 ((v : Int) / (d : Int))).tmod 2 = ((v / d % 2 : Nat) : Int) := by
  rw [← Int.natCast_ediv]
  have hle : v / d ≤ v := Nat.div_le_self _ _
  generalize v / d = q at *
  rw [IntWalk.wrap64_in _ (by omega), Int.tmod_eq_emod_of_nonneg (by omega)]
  omega

end Go.Proofs.YtccidoigjdbepaaDoor

/- SumC -/
namespace Go.Proofs.YtccidoigjdbepaaDoor
open Go.RowKit
set_option maxRecDepth 100000

theorem run_append_nil {P : Program} (w : World) (t ty e : TypeId) (i : TypeInfo) (ht : P.underlying t = some (.slice e)) (hi : P.info? e = some i) (A : Option Addr) (n cap c' : Nat) (h : n ≤ cap) :
    (Builtin.append_ #[t, t] ty #[.slice A n cap, .slice none 0 c']).run P w = .ok (.slice A n cap) w := by
  cases A <;> simp [Builtin.append_, run_underlying ht, sizeOf, typeInfo, hi, h, Builtin.lenOf, run_firstCells_none, storeCells]

set_option maxRecDepth 100000 in
/-- Bytes appended to a row of the call's own, all of a slice, be it nil. -/
theorem wpList_appAny {ops : Array Oper} {rest : List Oper} {o : Oper} {a : Act} {Q : Exit → Act → World → Prop} (w : World) (hgd : o.guard = none) (s x : Operand)
    (ho : o.op = .call { callee := .builtin .append, args := #[s, x], argTypes := #[26, 26] })
    (base : Nat) (v : Value) (n : Nat) (l : List UInt8) (hs : a.eval s = v) (hown : Own w base v n l)
    (A : Option Addr) (m c' B : Nat) (k : List UInt8) (hx : a.eval x = .slice A m c') (hk : Shows w B A m k)
    (h63 : n + m ≤ 1000000) (hbase : base ≤ w.heap.size)
    (h : ∀ v' w', Own w' base v' (n + m) (l ++ k) → w.grownBy w' v.ownBlock → wpList Tryd.prog ops Q rest (a.put o.dst v') w') : wpList Tryd.prog ops Q (o :: rest) a w := by
  cases A with
  | some ad => exact wpList_appAll w hgd s x ho base v n l hs hown ad m c' B k hx hk h63 hbase h
  | none =>
    have hm : m = 0 := by
      rcases Nat.eq_zero_or_pos m with h0 | h0
      · exact h0
      · obtain ⟨_, _, e, _⟩ := hk.2 h0
        cases e
    subst hm
    obtain rfl : k = [] := List.eq_nil_of_length_eq_zero hk.len
    obtain ⟨A', c2, rfl, hnc, _, _⟩ := hown.shows
    obtain ⟨i, hi, _⟩ := info_parts Tryd.infoU8
    refine wpList_plain hgd fun _ hK => ?_
    have hr := run_append_nil (P := Tryd.prog) w 26 o.type 5 i Tryd.underlying26 hi A' n c2 c' hnc
    unfold Oper.wp execOp
    simp only [ho, resolve, invoke, builtin, Sem.run_bind, Sem.run_pure, Result.andThen_ok, List.map_toArray, List.map_cons, List.map_nil, hs, hx, hr]
    exact hK _ _ (h _ _ (by simpa using hown) ⟨rfl, rfl, rfl, Nat.le_refl _, fun _ _ _ => rfl⟩)

/-- The first of parts that is long. -/
theorem first_long : ∀ (L : List Part), (∀ p ∈ L, p.n ≤ 200) ∨ ∃ (K : Nat) (p : Part), L[K]? = some p ∧ 200 < p.n ∧ ∀ j, j < K → ∀ q, L[j]? = some q → q.n ≤ 200
  | [] => .inl fun p hp => by cases hp
  | p :: t => by
    by_cases h : p.n ≤ 200
    · rcases first_long t with h1 | ⟨K, q, h1, h2, h3⟩
      · exact .inl fun x hx => by
          rcases List.mem_cons.1 hx with rfl | hx
          · exact h
          · exact h1 x hx
      · refine .inr ⟨K + 1, q, by simpa using h1, h2, fun j hj x hx => ?_⟩
        match j with
        | 0 => simp at hx; subst hx; exact h
        | j + 1 => exact h3 j (by omega) x (by simpa using hx)
    · exact .inr ⟨0, p, rfl, by omega, fun j hj => absurd hj (by omega)⟩

end Go.Proofs.YtccidoigjdbepaaDoor

/- MsgA -/
namespace Go.Proofs.YtccidoigjdbepaaDoor
open Go.RowKit
set_option maxRecDepth 100000

theorem nextslicecap_zero' {n : Nat} (h : 0 < n) : Builtin.nextslicecap n 0 = n := by unfold Builtin.nextslicecap; simp; omega

/-- 'append(nil, make([]T, n)...)'. -/
theorem run_append_ofMake {P : Program} (w : World) (t ti ty e : TypeId) (i : TypeInfo) (z : Value) (ht : P.underlying t = some (.slice e)) (hti : P.underlying ti = some (.int .i64)) (hi : P.info? e = some i) (hz : i.zero = some z)
    (hsz : i.size = 1) (hby : i.bytes = 1) (n : Nat) (h0 : 0 < n) (h63 : n ≤ 1000000) :
    (Builtin.append_ #[t, ti] ty #[.slice none 0 0, .int .i64 (n : Int)]).run P w =
      .ok (.slice (some ⟨w.heap.size, 0, none⟩) n (grownCap w n 0 e)) (w.drew.alloc (.cells (Builtin.zeroCells z.cells n ++ Builtin.zeroCells z.cells (grownCap w n 0 e - n)) e)) := by
  have hw : IntKind.i64.wrap (n : Int) = (n : Int) := IntWalk.i64_in _ (by omega)
  have hn : n ≠ 0 := by omega
  have h1 : ¬ ((n : Int) < 0) := by omega
  have h2 : ¬ (281474976710656 < (n : Int)) := by omega
  have h63' : ¬ (9223372036854775807 < (n : Int)) := by omega
  have h48' : ¬ (281474976710656 < Builtin.nextslicecap n 0) := by rw [nextslicecap_zero' h0]; omega
  simp [Builtin.append_, run_underlying ht, run_underlying hti, sizeOf, typeInfo, zeroValue, hi, hz, hn, h2, h63', h48', hw, hsz, hby, asInt, asIntOf, Question.forced, run_firstCells_none, newRow, grownCap]
  exact fun h => absurd h h1

set_option maxRecDepth 100000 in
theorem wpList_appOfMake {ops : Array Oper} {rest : List Oper} {o : Oper} {a : Act} {Q : Exit → Act → World → Prop} (w : World) (hgd : o.guard = none) (s x : Operand)
    (ho : o.op = .call { callee := .builtin .append, args := #[s, x], argTypes := #[26, 3] })
    (n : Nat) (hs : a.eval s = .slice none 0 0) (hx : a.eval x = .int .i64 (n : Int)) (h0 : 0 < n) (h63 : n ≤ 1000000)
    (h : ∀ cap w', n ≤ cap → cap ≤ maxLen → w.grownBy w' none → w.heap.size < w'.heap.size → Own w' w.heap.size (.slice (some ⟨w.heap.size, 0, none⟩) 0 cap) 0 [] →
      wpList Tryd.prog ops Q rest (a.put o.dst (.slice (some ⟨w.heap.size, 0, none⟩) n cap)) w') : wpList Tryd.prog ops Q (o :: rest) a w := by
  obtain ⟨i, hi, hz, hsz, hby⟩ := info_parts Tryd.infoU8
  refine wpList_plain hgd fun _ hK => ?_
  have hr := run_append_ofMake (P := Tryd.prog) w 26 3 o.type 5 i (.int .u8 0) Tryd.underlying26 Tryd.underlying3 hi hz hsz hby n h0 h63
  unfold Oper.wp execOp
  simp only [ho, resolve, invoke, builtin, Sem.run_bind, Sem.run_pure, Result.andThen_ok, List.map_toArray, List.map_cons, List.map_nil, hs, hx, hr]
  have hge := grownCap_ge w n 0 5
  have hcm := grownCap_le_maxLen w n 0 5 (by simp [maxLen]; omega)
  refine hK _ _ (h _ _ hge hcm ⟨rfl, rfl, rfl, by simp, fun k hk _ => heap_alloc_old w.drew _ hk⟩ (by simp) ⟨rfl, .inr ⟨w.heap.size, _, _, rfl, Nat.le_refl _, heap_alloc_new w.drew _, Nat.zero_le _, hcm, ?_, by simp⟩⟩)
  simp [size_zeroCells, Value.cells]
  omega

/-- A slice of bytes as an element. -/
abbrev slv (p : Addr × Nat × Nat) : Value := .slice (some p.1) p.2.1 p.2.2

theorem flat_next (ls : List (List UInt8)) (k : Nat) (l : List UInt8) (h : ls[k]? = some l) : (ls.take (k + 1)).flatten = (ls.take k).flatten ++ l := by
  obtain ⟨hk, rfl⟩ := List.getElem?_eq_some_iff.1 h
  rw [List.take_succ_eq_append_getElem hk, List.flatten_append]
  simp only [List.flatten_cons, List.flatten_nil, List.append_nil]
theorem flat_le (ls : List (List UInt8)) (k : Nat) : (ls.take k).flatten.length ≤ ls.flatten.length := by
  conv => rhs; rw [← List.take_append_drop k ls]
  simp only [List.flatten_append, List.length_append]
  omega

end Go.Proofs.YtccidoigjdbepaaDoor

/- CatP -/
namespace Go.Proofs.YtccidoigjdbepaaDoor
open Go.RowKit
set_option maxRecDepth 100000

end Go.Proofs.YtccidoigjdbepaaDoor

/- Num -/
namespace Go.Proofs.YtccidoigjdbepaaDoor

/-- The number of bytes, the lowest first. -/
def leNat : List UInt8 → Nat
  | [] => 0
  | c :: t => c.toNat + 256 * leNat t

/-- Byte number i of a number. -/
def byteAt (n i : Nat) : UInt8 := UInt8.ofNat (n / 256 ^ i)

/-- A number in bytes, the lowest first. -/
def leBytes (n size : Nat) : List UInt8 := (List.range size).map (byteAt n)

theorem leBytes_len (n size : Nat) : (leBytes n size).length = size := by simp [leBytes]

theorem leBytes_succ (n k : Nat) : leBytes n (k + 1) = leBytes n k ++ [byteAt n k] := by simp [leBytes, List.range_succ]

theorem leNat_append (a b : List UInt8) : leNat (a ++ b) = leNat a + 256 ^ a.length * leNat b := by
  induction a with
  | nil => simp [leNat]
  | cons c t ih => simp only [List.cons_append, leNat, ih, List.length_cons, Nat.pow_succ]; rw [Nat.mul_add]; rw [← Nat.mul_assoc, Nat.mul_comm 256 (256 ^ t.length)]; omega

theorem leNat_lt (l : List UInt8) : leNat l < 256 ^ l.length := by
  induction l with
  | nil => simp [leNat]
  | cons c t ih =>
    have := c.toNat_lt
    simp only [leNat, List.length_cons, Nat.pow_succ]
    omega

theorem byteAt_toNat (n i : Nat) : (byteAt n i).toNat = n / 256 ^ i % 256 := by simp [byteAt]

theorem leNat_leBytes (n size : Nat) : leNat (leBytes n size) = n % 256 ^ size := by
  induction size with
  | zero => simp [leBytes, leNat, Nat.mod_one]
  | succ k ih =>
    rw [leBytes_succ, leNat_append, ih, leBytes_len]
    simp only [leNat, byteAt_toNat]
    rw [Nat.pow_succ, Nat.mod_mul]
    simp

/-- Reading the bytes of a list again. -/
theorem leBytes_leNat (l : List UInt8) : leBytes (leNat l) l.length = l := by
  induction l with
  | nil => simp [leBytes]
  | cons c t ih =>
    have hc := c.toNat_lt
    have h0 : ∀ i, byteAt (leNat (c :: t)) (i + 1) = byteAt (leNat t) i := by
      intro i
      simp only [byteAt, leNat, Nat.pow_succ]
      rw [Nat.mul_comm (256 ^ i) 256, ← Nat.div_div_eq_div_mul]
      congr 2
      omega
    have h1 : byteAt (leNat (c :: t)) 0 = c := by
      apply UInt8.toNat_inj.1
      rw [byteAt_toNat]
      simp only [leNat, Nat.pow_zero, Nat.div_one]
      omega
    rw [List.length_cons]
    unfold leBytes
    rw [List.range_succ_eq_map, List.map_cons, List.map_map, h1]
    congr 1
    refine Eq.trans (List.map_congr_left fun i _ => ?_) ih
    exact h0 i

theorem two_pow_8 (k : Nat) : 2 ^ (8 * k) = 256 ^ k := by rw [Nat.pow_mul]

theorem two_pow_8i (k : Nat) : (2 : Int) ^ (8 * k) = ((256 ^ k : Nat) : Int) := by rw [← two_pow_8]; simp

/-- One byte more on top of a number. -/
theorem or_on_top (q x k : Nat) (hq : q < 256 ^ k) (hx : x < 256) (hk : k < 8) :
    bits BinOp.or IntKind.u64 (q : Int) (IntKind.u64.wrap ((x : Int) * 2 ^ (8 * k))) = ((q + x * 256 ^ k : Nat) : Int) := by
  have h7 : 256 ^ k ≤ 256 ^ 7 := Nat.pow_le_pow_right (by omega) (by omega)
  have hm : x * 256 ^ k ≤ 255 * 256 ^ 7 := Nat.mul_le_mul (by omega) h7
  rw [two_pow_8i, ← Int.natCast_mul, IntWalk.u64_in _ (by omega), u64_or_nat _ _ (by omega) (by omega), Nat.or_comm,
    nat_join (8 * k) _ _ (by rw [two_pow_8]; exact Nat.mul_mod_left _ _) (by rw [two_pow_8]; exact hq), Nat.add_comm]

/-- One byte more below a number. -/
theorem or_below (q x : Nat) (hq : q < 72057594037927936) (hx : x < 256) :
    bits BinOp.or IntKind.u64 (IntKind.u64.wrap ((q : Int) * 256)) (x : Int) = ((x + 256 * q : Nat) : Int) := by
  rw [show (q : Int) * 256 = ((q * 256 : Nat) : Int) by omega, IntWalk.u64_in _ (by omega), u64_or_nat _ _ (by omega) (by omega),
    nat_join 8 _ _ (Nat.mul_mod_left _ _) hx, Nat.add_comm, Nat.mul_comm]

theorem leNat_take_succ (l : List UInt8) (k : Nat) (x : UInt8) (h : l[k]? = some x) : leNat (l.take (k + 1)) = leNat (l.take k) + x.toNat * 256 ^ k := by
  obtain ⟨hk, rfl⟩ := List.getElem?_eq_some_iff.1 h
  rw [List.take_succ_eq_append_getElem hk, leNat_append, List.length_take, Nat.min_eq_left (by omega)]
  simp [leNat, Nat.mul_comm]

theorem leNat_rev_succ (l : List UInt8) (k : Nat) (x : UInt8) (h : l[k]? = some x) : leNat (l.take (k + 1)).reverse = x.toNat + 256 * leNat (l.take k).reverse := by
  obtain ⟨hk, rfl⟩ := List.getElem?_eq_some_iff.1 h
  rw [List.take_succ_eq_append_getElem hk, List.reverse_append]
  rfl

theorem leNat_take_lt (l : List UInt8) (k : Nat) : leNat (l.take k) < 256 ^ k :=
  Nat.lt_of_lt_of_le (leNat_lt _) (Nat.pow_le_pow_right (by omega) (by simp; omega))

theorem leNat_rev_lt (l : List UInt8) (k : Nat) : leNat (l.take k).reverse < 256 ^ k :=
  Nat.lt_of_lt_of_le (leNat_lt _) (Nat.pow_le_pow_right (by omega) (by simp; omega))

/-- 32 bits turned by m places. -/
def rot (n m : Nat) : Nat := n * 2 ^ m % 4294967296 + n / 2 ^ (32 - m)

/-- A number in two pieces, turned: the pieces change places. -/
theorem rot_pieces (a b m : Nat) (hm : m ≤ 32) (hb : b < 2 ^ (32 - m)) : rot (a * 2 ^ (32 - m) + b) m = b * 2 ^ m + a := by
  have h32 : 2 ^ (32 - m) * 2 ^ m = 4294967296 := by rw [← Nat.pow_add, Nat.sub_add_cancel hm]
  have hp : 0 < 2 ^ (32 - m) := Nat.two_pow_pos _
  have hpm : 0 < 2 ^ m := Nat.two_pow_pos _
  unfold rot
  have h1 : (a * 2 ^ (32 - m) + b) * 2 ^ m = b * 2 ^ m + 4294967296 * a := by
    rw [Nat.add_mul, Nat.mul_assoc, h32, Nat.mul_comm a]; omega
  have h2 : b * 2 ^ m < 4294967296 := by rw [← h32]; exact Nat.mul_lt_mul_of_pos_right hb hpm
  rw [h1, Nat.add_mul_mod_self_left, Nat.mod_eq_of_lt h2]
  congr 1
  rw [Nat.mul_comm, Nat.mul_add_div hp, Nat.div_eq_of_lt hb, Nat.add_zero]

theorem rot_cut (n m : Nat) (hn : n < 4294967296) (hm : m ≤ 32) : ∃ a b, n = a * 2 ^ (32 - m) + b ∧ a < 2 ^ m ∧ b < 2 ^ (32 - m) := by
  have h32 : 2 ^ (32 - m) * 2 ^ m = 4294967296 := by rw [← Nat.pow_add, Nat.sub_add_cancel hm]
  refine ⟨n / 2 ^ (32 - m), n % 2 ^ (32 - m), ?_, ?_, Nat.mod_lt _ (Nat.two_pow_pos _)⟩
  · rw [Nat.mul_comm]; exact (Nat.div_add_mod _ _).symm
  · rw [Nat.div_lt_iff_lt_mul (Nat.two_pow_pos _), Nat.mul_comm, h32]; exact hn

theorem rot_lt (n m : Nat) (hn : n < 4294967296) (hm : m ≤ 32) : rot n m < 4294967296 := by
  obtain ⟨a, b, rfl, ha, hb⟩ := rot_cut n m hn hm
  rw [rot_pieces a b m hm hb]
  have h32 : 2 ^ (32 - m) * 2 ^ m = 4294967296 := by rw [← Nat.pow_add, Nat.sub_add_cancel hm]
  have h1 : (b + 1) * 2 ^ m ≤ 2 ^ (32 - m) * 2 ^ m := Nat.mul_le_mul_right _ hb
  rw [Nat.add_mul, h32] at h1
  omega

/-- There and back. -/
theorem rot_back (n m : Nat) (hn : n < 4294967296) (hm : m ≤ 32) : rot (rot n m) (32 - m) = n := by
  obtain ⟨a, b, rfl, ha, hb⟩ := rot_cut n m hn hm
  rw [rot_pieces a b m hm hb]
  have e : 32 - (32 - m) = m := by omega
  have := rot_pieces b a (32 - m) (by omega) (by rw [e]; exact ha)
  rw [e] at this
  exact this

theorem rot_zero (n : Nat) (hn : n < 4294967296) : rot n 0 = n := by unfold rot; simp; omega

theorem rot_succ (n m : Nat) (hn : n < 4294967296) (hm : m < 32) : rot n (m + 1) = (rot n m * 2 + rot n m / 2147483648) % 4294967296 := by
  obtain ⟨a, b, rfl, ha, hb⟩ := rot_cut n (m + 1) hn (by omega)
  rw [rot_pieces a b (m + 1) (by omega) hb]
  -- the lower bit of a goes over
  have e1 : 2 ^ (32 - m) = 2 ^ (32 - (m + 1)) * 2 := by rw [← Nat.pow_succ]; congr 1; omega
  have e2 : a * 2 ^ (32 - (m + 1)) + b = (a / 2) * 2 ^ (32 - m) + (a % 2 * 2 ^ (32 - (m + 1)) + b) := by
    have := Nat.div_add_mod a 2
    rw [e1]
    generalize 2 ^ (32 - (m + 1)) = P at *
    have h3 : a * P = (2 * (a / 2) + a % 2) * P := by rw [this]
    rw [h3, Nat.add_mul]
    have h4 : a / 2 * (P * 2) = 2 * (a / 2) * P := by rw [Nat.mul_comm P 2, ← Nat.mul_assoc, Nat.mul_comm (a / 2) 2]
    omega
  have ha2 : a / 2 < 2 ^ m := by rw [Nat.pow_succ] at ha; omega
  have hb2 : a % 2 * 2 ^ (32 - (m + 1)) + b < 2 ^ (32 - m) := by
    rw [e1]
    rcases Nat.mod_two_eq_zero_or_one a with h | h <;> rw [h] <;> omega
  rw [e2, rot_pieces _ _ m (by omega) hb2]
  have h32 : 2 ^ (32 - (m + 1)) * 2 ^ m = 2147483648 := by rw [← Nat.pow_add]; rw [show 32 - (m + 1) + m = 31 by omega]
  have hbm : b * 2 ^ m + 2 ^ m ≤ 2147483648 := by
    have h1 : (b + 1) * 2 ^ m ≤ 2 ^ (32 - (m + 1)) * 2 ^ m := Nat.mul_le_mul_right _ hb
    rw [Nat.add_mul, h32] at h1
    omega
  have h5 : (a % 2 * 2 ^ (32 - (m + 1)) + b) * 2 ^ m = a % 2 * 2147483648 + b * 2 ^ m := by rw [Nat.add_mul, Nat.mul_assoc, h32]
  have h6 : b * 2 ^ (m + 1) = 2 * (b * 2 ^ m) := by rw [Nat.pow_succ, ← Nat.mul_assoc, Nat.mul_comm]
  rw [h5, h6]
  have hd := Nat.div_add_mod a 2
  generalize b * 2 ^ m = X at *
  generalize 2 ^ m = M at *
  clear h5 h6 h32 e1 e2 hb2 hn
  generalize a / 2 = g at *
  rcases Nat.mod_two_eq_zero_or_one a with h | h <;> rw [h] at hd ⊢
  · have q : (0 * 2147483648 + X + g) / 2147483648 = 0 := Nat.div_eq_of_lt (by omega)
    rw [q, Nat.mod_eq_of_lt (by omega)]; omega
  · have q : (1 * 2147483648 + X + g) / 2147483648 = 1 := by omega
    have q2 : ((1 * 2147483648 + X + g) * 2 + 1) = 4294967296 * 1 + (2 * X + 2 * g + 1) := by omega
    rw [q, q2, Nat.mul_add_mod, Nat.mod_eq_of_lt (by omega)]; omega

theorem turn_num (n m : Nat) (hn : n < 4294967296) (hm : m ≤ 32) :
    bits BinOp.or IntKind.u32 (IntKind.u32.wrap ((n : Int) * 2 ^ m)) ((n : Int) / 2 ^ (32 - m)) = (rot n m : Int) := by
  have e1 : (2 : Int) ^ m = ((2 ^ m : Nat) : Int) := by simp
  have e2 : (2 : Int) ^ (32 - m) = ((2 ^ (32 - m) : Nat) : Int) := by simp
  have h32 : 2 ^ (32 - m) * 2 ^ m = 4294967296 := by rw [← Nat.pow_add, Nat.sub_add_cancel hm]
  have hq : n / 2 ^ (32 - m) < 2 ^ m := by rw [Nat.div_lt_iff_lt_mul (Nat.two_pow_pos _), Nat.mul_comm, h32]; exact hn
  have hq2 : n / 2 ^ (32 - m) ≤ n := Nat.div_le_self _ _
  rw [e1, e2, IntKind.wrap_u32, ← Int.natCast_mul, show (4294967296 : Int) = ((4294967296 : Nat) : Int) from rfl, ← Int.natCast_emod, ← Int.natCast_ediv,
    u32_or_nat _ _ (Nat.mod_lt _ (by omega)) (by omega), nat_join m _ _ ?_ hq]
  · rfl
  · rw [Nat.mod_mod_of_dvd _ (by rw [← h32]; exact Nat.dvd_mul_left _ _)]
    exact Nat.mul_mod_left _ _

theorem and31 (b : Int) : bits BinOp.and IntKind.u64 (IntKind.u64.wrap b) 31 = (((b % 32).toNat : Nat) : Int) := by
  rw [IntKind.wrap_u64]
  obtain ⟨k, hk⟩ := Int.eq_ofNat_of_zero_le (show 0 ≤ b % 18446744073709551616 by omega)
  rw [hk, show (31 : Int) = ((31 : Nat) : Int) from rfl, u64_and_nat _ _ (by omega) (by omega), nat_mask5]
  omega

end Go.Proofs.YtccidoigjdbepaaDoor

/- EndB -/
namespace Go.Proofs.YtccidoigjdbepaaDoor
open Go.RowKit
set_option maxRecDepth 100000

theorem drop_pred (l : List UInt8) (k : Nat) (c : UInt8) (h : l[k]? = some c) : l.drop k = c :: l.drop (k + 1) := by
  obtain ⟨hk, rfl⟩ := List.getElem?_eq_some_iff.1 h
  exact List.drop_eq_getElem_cons hk

end Go.Proofs.YtccidoigjdbepaaDoor

/- EndC -/
namespace Go.Proofs.YtccidoigjdbepaaDoor
open Go.RowKit
set_option maxRecDepth 100000

/-- So many ones: what Mask answers. -/
def ones (n : Int) : Nat := 2 ^ (min n.toNat 64) - 1

end Go.Proofs.YtccidoigjdbepaaDoor

/- EndD -/
namespace Go.Proofs.YtccidoigjdbepaaDoor
open Go.RowKit
set_option maxRecDepth 100000

theorem byte_of (n i : Nat) : (n : Int) / 2 ^ (8 * i) % 256 = (((byteAt n i).toNat : Nat) : Int) := by
  rw [two_pow_8i, byteAt_toNat]
  rw [← Int.natCast_ediv]
  omega

theorem fill_next (L : List UInt8) (size k : Nat) (x : UInt8) (hL : L.length = size) (h : L[k]? = some x) :
    (L.take k ++ List.replicate (size - k) 0).set k x = L.take (k + 1) ++ List.replicate (size - (k + 1)) 0 := by
  obtain ⟨hk, rfl⟩ := List.getElem?_eq_some_iff.1 h
  have hl : (L.take k).length = k := by simp; omega
  rw [show size - k = size - (k + 1) + 1 by omega, List.take_succ_eq_append_getElem hk]
  have := set_next (L.take k) (size - (k + 1)) L[k]
  rw [hl] at this
  exact this

theorem leBytes_at (n size k : Nat) (h : k < size) : (leBytes n size)[k]? = some (byteAt n k) := by simp [leBytes, h]
theorem beBytes_at (n size k : Nat) (h : k < size) : (leBytes n size).reverse[k]? = some (byteAt n (size - 1 - k)) := by
  rw [List.getElem?_reverse (by rw [leBytes_len]; exact h), leBytes_len, leBytes_at _ _ _ (by omega)]

end Go.Proofs.YtccidoigjdbepaaDoor

/- EndE -/
namespace Go.Proofs.YtccidoigjdbepaaDoor
open Go.RowKit
set_option maxRecDepth 100000

theorem ones_256 (size : Nat) (h : size ≤ 8) : ones (8 * (size : Int)) = 256 ^ size - 1 := by
  unfold ones
  rw [show (8 * (size : Int)).toNat = 8 * size by omega, Nat.min_eq_left (by omega), two_pow_8]

end Go.Proofs.YtccidoigjdbepaaDoor
