
/- Out of the texts ClN, ClA, ClB, ClC, ClD, ClE, ClF, ClG. -/
import Derived.Test.YtccidoigjdbepaaDoorZHex
import Derived.Test.YtccidoigjdbepaaDoorZLin
import Derived.Test.YtccidoigjdbepaaDoorArrA
import Derived.Lib.Join
import Derived.Test.YtccidoigjdbepaaDoorGen
import Derived.Test.YtccidoigjdbepaaDoorShelf
import Derived.Deep.RegionWith
import Derived.WideShapes
import Derived.Test.YtccidoigjdbepaaDoorAdrB
/- ClN -/
namespace Go.Proofs.YtccidoigjdbepaaDoor.Cl
open Go.RowKit
set_option maxRecDepth 100000

/-- The groups of bytes. -/
def gOf : List UInt8 → List Nat
  | x :: y :: t => (256 * x.toNat + y.toNat) :: gOf t
  | _ => []
/-- Which groups are 0. -/
def zsOf (g : List Nat) : List Bool := g.map fun n => decide (n = 0)

/-- Where the longest run of zeros begins and ends, and where the one that is looked at begins: behind the first k groups. -/
def lz : List Bool → Nat → Nat × Nat × Nat
  | _, 0 => (0, 0, 0)
  | zs, k + 1 =>
    let (f, t, s) := lz zs k
    if zs.getD k false then (if t - f < k + 1 - s then (s, k + 1, s) else (f, t, s)) else (f, t, k + 1)
/-- How many zeros stand from a place on. -/
def runZ (zs : List Bool) : Nat → Nat → Nat
  | _, 0 => 0
  | i, f + 1 => if zs.getD i false then 1 + runZ zs (i + 1) f else 0
def runOf (zs : List Bool) (i : Nat) : Nat := runZ zs i (8 - i)
/-- The longest run, as the reference finds it: where, and how long. -/
def rz : List Bool → Nat → Nat × Nat
  | _, 0 => (0, 0)
  | zs, k + 1 => if (rz zs k).2 < runOf zs k then (k, runOf zs k) else rz zs k

/-- Both find the same. -/
theorem lz_rz (a b c d e f g h : Bool) : let zs := [a, b, c, d, e, f, g, h]
    ((lz zs 8).2.1 - (lz zs 8).1 < 2 ↔ (rz zs 8).2 < 2) ∧ ((rz zs 8).2 ≥ 2 → (lz zs 8).1 = (rz zs 8).1 ∧ (lz zs 8).2.1 = (rz zs 8).1 + (rz zs 8).2) ∧ (lz zs 8).1 ≤ (lz zs 8).2.1 ∧ (lz zs 8).2.1 ≤ 8 ∧ (rz zs 8).1 + (rz zs 8).2 ≤ 8 := by
  revert a b c d e f g h; decide

/-- How many digits a group has; its text. -/
def nd (n : Nat) : Nat := if n < 16 then 1 else if n < 256 then 2 else if n < 4096 then 3 else 4
def hx (n : Nat) : List UInt8 := Hex.gd n (nd n) (nd n)
theorem nd_le (n : Nat) : nd n ≤ 4 := by unfold nd; repeat (split <;> try omega)
theorem nd_digs (n : Nat) (h : n < 65536) : Hex.Digs n (nd n) := by
  unfold nd Hex.Digs
  split
  · exact ⟨by omega, by omega, by omega⟩
  · split
    · exact ⟨by omega, by omega, by omega⟩
    · split
      · exact ⟨by omega, by omega, by omega⟩
      · exact ⟨by omega, by omega, by omega⟩
theorem hx_len (n : Nat) : (hx n).length ≤ 4 := by unfold hx; rw [Hex.gd_len]; exact nd_le n

/-- Groups with colons between them. -/
def row (g : List Nat) : List UInt8 := Lib.join (g.map hx) [58]
/-- The text of sixteen bytes. -/
def cT (b : List UInt8) : List UInt8 :=
  let g := gOf b
  let (f, t, _) := lz (zsOf g) 8
  if t - f < 2 then row g else row (g.take f) ++ [58, 58] ++ row (g.drop t)

end Go.Proofs.YtccidoigjdbepaaDoor.Cl

/- ClA -/
namespace Go.Proofs.YtccidoigjdbepaaDoor.Cl
open Go.RowKit
set_option maxRecDepth 100000
set_option linter.unusedVariables false

/-- A group as a value. -/
abbrev u16v (n : Nat) : Value := .int .u16 (n : Int)

theorem fill_g {α : Type} (L : List α) (d : α) (size k : Nat) (x : α) (hL : L.length = size) (h : L[k]? = some x) :
    (L.take k ++ List.replicate (size - k) d).set k x = L.take (k + 1) ++ List.replicate (size - (k + 1)) d := by
  obtain ⟨hk, rfl⟩ := List.getElem?_eq_some_iff.1 h
  have hl : (L.take k).length = k := by simp; omega
  rw [List.set_append_right _ _ (by omega), hl, Nat.sub_self, show size - k = (size - (k + 1)) + 1 by omega, List.replicate_succ, List.set_cons_zero, List.take_succ_eq_append_getElem hk, List.append_assoc]
  rfl
theorem GOwn_put {α : Type} {f : α → Value} {e : TypeId} {w : World} {base g n cap : Nat} {l : List α} (h : GOwn f e w base (.slice (some ⟨g, 0, none⟩) n cap) n l) (j : Nat) (x : α) :
    GOwn f e (w.setCell ⟨g, j, none⟩ (f x)) base (.slice (some ⟨g, 0, none⟩) n cap) n (l.set j x) ∧ w.grownBy (w.setCell ⟨g, j, none⟩ (f x)) (some g) := by
  have := World.ownsRow.stored h j (f x)
  unfold GOwn
  rw [List.map_set]
  exact this
theorem GOwn_at {α : Type} {f : α → Value} {e : TypeId} {w : World} {base g n cap : Nat} {l : List α} (h : GOwn f e w base (.slice (some ⟨g, 0, none⟩) n cap) n l) (j : Nat) (hj : j < n) : ∃ x, w.cell? ⟨g, j, none⟩ = some (f x) := by
  have hl := h.len
  rw [World.ownsRow.cellAt h j (by omega)]
  exact ⟨l[j], by simp [show j < l.length by omega]⟩

/-- So many empty texts, made. -/
theorem wpList_mks {w : World} {ops : Array Oper} {rest : List Oper} {o : Oper} {a : Act} {Q : Exit → Act → World → Prop} (hgd : o.guard = none) (s x : Operand)
    (ho : o.op = Op.makeSlice 78 s x) (base n : Nat) (L C : Int) (hs : a.eval s = .int .i64 L) (hx : a.eval x = .int .i64 C) (hL : L = (n : Int)) (hC : C = (n : Int))
    (h63 : n ≤ 1000000) (hbase : base ≤ w.heap.size)
    (h : ∀ w', OwnS w' base (.slice (some ⟨w.heap.size, 0, none⟩) n n) n (List.replicate n []) → w.grownBy w' none → wpList Tryd.prog ops Q rest (a.put o.dst (.slice (some ⟨w.heap.size, 0, none⟩) n n)) w') :
    wpList Tryd.prog ops Q (o :: rest) a w := by
  obtain ⟨i, hi, hz, hsz, hby⟩ := info_parts Tryd.infoStr
  refine wpList_make_full w hgd s x 78 ho base 9 i (.string ⟨#[]⟩) 1 Tryd.underlying78 hi hz hsz .i64 .i64 L C n hs hx hL hC (by rw [hby]; omega) (by simp only [maxLen]; omega) hbase ?_
  intro w' h2 h3
  refine h w' ?_ h3
  simp only [Value.cells, Nat.mul_one, toList_madeCells_one] at h2
  show w'.ownsRow base 9 1 _ n ((List.replicate n []).map sv)
  rw [List.map_replicate]
  exact h2

theorem groupA (n : Nat) (h : n < 65536) (w : World) : Calls Tryd.prog 101 #[.int .u16 (n : Int)] w fun e w' => e = .returned (sv (hx n)) ∧ Below w.heap.size w w' :=
  Hex.group_any n (nd n) w h (nd_le n) (nd_digs n h)
theorem lens_le (M : List (List UInt8)) (h : ∀ x ∈ M, x.length ≤ 4) : Lib.lens M ≤ 4 * M.length := by
  induction M with
  | nil => simp [Lib.lens]
  | cons y t ih =>
    have h1 := ih (fun z hz => h z (by simp [hz]))
    have h2 := h y (by simp)
    simp [Lib.lens] at *
    omega
theorem join_len (L : List (List UInt8)) (h : ∀ x ∈ L, x.length ≤ 4) : (Lib.join L [58]).length ≤ 5 * L.length := by
  cases L with
  | nil => simp [Lib.join_nil]
  | cons x r =>
    rw [Lib.join_length]
    have := lens_le (x :: r) h
    simp only [List.length_cons, List.length_nil] at *
    omega

set_option maxHeartbeats 1000000 in
theorem join_any (A : Option Addr) (n c : Nat) (gs : List Nat) (w : World) (hn : n ≤ 8) (hg : ∀ g ∈ gs, g < 65536) (h : Sh u16v w w.heap.size A n gs) :
    Calls Tryd.prog 79 #[.slice A n c] w fun e w' => e = .returned (sv (row gs)) ∧ Below w.heap.size w w' := by
  have hlen := h.len
  have HM := Lib.hid (fun k g (hk : gs[k]? = some g) => show (gs.map hx)[k]? = some (hx g) by rw [List.getElem?_map, hk]; rfl)
  have HL := Lib.hid (show (gs.map hx).length = n by rw [List.length_map, hlen])
  have HR := Lib.hid (show row gs = Lib.join (gs.map hx) [58] from rfl)
  have HLn := Lib.hid (fun x (hx' : x ∈ gs.map hx) => show x.length ≤ 4 by
    obtain ⟨g, _, rfl⟩ := List.mem_map.1 hx'
    exact hx_len g)
  have Hg := Lib.hid hg
  clear hg hlen
  generalize gs.map hx = M at *
  generalize row gs = R at *
  go_enter Tryd.func79, Tryd.ntmps79
  go_wp2_with (first
    | (at_make; refine wpList_mks rfl _ _ rfl w.heap.size n _ _ rfl rfl rfl rfl (by omega) (Nat.le_refl _) ?_; intro w1 hown hgrow)
    | fail)
  have hW : Below w.heap.size w w1 := ⟨hgrow.os, hgrow.tape, hgrow.output, hgrow.size, fun k hk => hgrow.block k hk (by simp)⟩
  have hown' : OwnS w1 w.heap.size (.slice (some ⟨w.heap.size, 0, none⟩) n n) n (M.take 0 ++ List.replicate (n - 0) []) := hown
  clear hown hgrow
  go_loopw [11] (fun i wr => ∃ k : Nat, k ≤ n ∧ i = .int .i64 (k : Int) ∧ OwnS wr w.heap.size (.slice (some ⟨w.heap.size, 0, none⟩) n n) n (M.take k ++ List.replicate (n - k) []) ∧ Below w.heap.size w wr) (fun i _ => n - (intOf i).toNat)
  case atStart => exact ⟨0, Nat.zero_le _, rfl, hown', hW⟩
  case round =>
    clear hown' hW
    obtain ⟨k, hk, rfl, hown, hbel⟩ := hrel
    have hbs := hbel.size
    by_cases hlt : k < n
    · obtain ⟨b, off, g, rfl, hb, hcell, hgk⟩ := (h.below hbel).elem hlt
      have HC := Lib.hid (fun W => groupA g (Hg.out g (List.mem_of_getElem? hgk)) W)
      have HMk := Lib.hid (HM.out k g hgk)
      have hg16 := Hg.out g (List.mem_of_getElem? hgk)
      clear hgk
      generalize hx g = X at *
      go_wp2_with fail
      refine (HC.out _).mono ?_; rintro e w2 ⟨rfl, hb2⟩
      have b2 := Below.on hbel hbs hb2
      have h3 : wr.grownBy w2 none := ⟨hb2.os, hb2.tape, hb2.output, hb2.size, fun k hk _ => hb2.block k hk⟩
      have o2 : OwnS w2 w.heap.size (.slice (some ⟨w.heap.size, 0, none⟩) n n) n (M.take k ++ List.replicate (n - k) []) := hown.kept h3 (by simp; exact Classical.em _)
      obtain ⟨old, hold⟩ := GOwn_at o2 k hlt
      have hfr := World.ownsRow.frozenAt o2 k
      have hput := GOwn_put o2 k X
      rw [fill_g M [] n k X HL.out HMk.out] at hput
      have Hp := Lib.hid hput
      have HBl := Lib.hid (b2.setCell (p := ⟨w.heap.size, k, none⟩) (Nat.le_refl _) (sv X))
      clear hput o2 h3 hown hbel hb2 b2
      go_wp2
      go_roundw
      case rel => exact ⟨k + 1, by omega, by go_num, Hp.out.1, HBl.out⟩
      case measure => simp [intOf] <;> omega
    · obtain rfl : k = n := by omega
      have hfull : M.take k ++ List.replicate (k - k) [] = M := by rw [Nat.sub_self, List.take_of_length_le (Nat.le_of_eq HL.out)]; simp
      rw [hfull] at hown
      have hJ : ∀ W : World, OwnS W w.heap.size (.slice (some ⟨w.heap.size, 0, none⟩) k k) k M → Calls Tryd.prog 76 #[.slice (some ⟨w.heap.size, 0, none⟩) k k, .string ⟨#[58]⟩] W fun e w' => e = .returned (sv R) ∧ Below W.heap.size W w' := by
        intro W hW
        rcases Nat.eq_zero_or_pos k with h0 | h0
        · subst h0
          have hM : M = [] := List.eq_nil_of_length_eq_zero HL.out
          have := Tryd.strings_Join_none (some ⟨w.heap.size, 0, none⟩) 0 ⟨#[58]⟩ W
          exact this.mono fun e w' ⟨h1, h2⟩ => ⟨by rw [HR.out, hM]; exact h1, h2 ▸ Below.refl _ _⟩
        · obtain ⟨A2, c2, e1, _, _, hs⟩ := GOwn.sh hW
          injection e1 with e1 e2 e3
          subst e1
          obtain ⟨b, off, e4, hlt2, hc⟩ := hs.2 h0
          injection e4 with e4
          injection e4 with e5 e6
          subst e5 e6
          have hxs : (M.map fun x => ByteArray.mk ⟨x⟩).map (·.data.toList) = M := by rw [List.map_map]; exact List.map_id M
          have := Tryd.strings_Join w.heap.size 0 k (M.map fun x => ByteArray.mk ⟨x⟩) ⟨#[58]⟩ W (fun j x hj => by
            rw [List.getElem?_map] at hj
            cases hm : M[j]? with
            | none => rw [hm] at hj; cases hj
            | some y =>
              rw [hm] at hj
              injection hj with hj
              have hjl := (List.getElem?_eq_some_iff.1 hm).1
              have := hc j hjl
              rw [this, (List.getElem?_eq_some_iff.1 hm).2, ← hj]) hlt2 (by rw [List.length_map, HL.out]; omega) (by rw [List.length_map, HL.out]; exact Nat.le_refl _) (by
              rw [hxs]
              have := join_len M HLn.out
              have := HL.out
              show (Lib.join M [58]).length ≤ _
              omega)
          rw [List.length_map, HL.out, hxs] at this
          exact this.mono fun e w' ⟨h1, h2⟩ => ⟨by rw [HR.out]; exact h1, h2⟩
      go_wp2_with fail
      refine (hJ _ hown).mono ?_; rintro e w3 ⟨rfl, hb3⟩
      have b3 := Below.on hbel hbs hb3
      go_wp2
      go_ret
      exact ⟨rfl, b3⟩

theorem or256 (x y : Nat) (hx : x < 256) (hy : y < 256) : bits .or .u16 ((x : Int) * 256) (y : Int) = ((256 * x + y : Nat) : Int) := by
  have e : 256 * x ||| y = 256 * x + y := by
    have := Nat.shiftLeft_add_eq_or_of_lt (b := y) (i := 8) hy x
    rw [Nat.shiftLeft_eq] at this
    rw [Nat.mul_comm 256 x]
    exact this.symm
  have hl : 256 * x ||| y < 2 ^ 16 := by rw [e]; omega
  show IntKind.u16.wrap ((BitVec.ofInt 16 ((x : Int) * 256) ||| BitVec.ofInt 16 (y : Int)).toNat : Int) = _
  rw [BitVec.toNat_or, BitVec.toNat_ofInt, BitVec.toNat_ofInt]
  have e1 : (((x : Int) * 256) % ((2 ^ 16 : Nat) : Int)).toNat = 256 * x := by omega
  have e2 : ((y : Int) % ((2 ^ 16 : Nat) : Int)).toNat = y := by omega
  rw [e1, e2, e]
  simp [IntKind.wrap, IntKind.bits, IntKind.signed]
  omega

theorem ret16 {a b : Int} (h : a = b) : Ending.returned (.int .u16 a) = .returned (.int .u16 b) := by rw [h]
theorem pair_any (x y : UInt8) (w : World) : Calls Tryd.prog 100 #[.int .u8 (x.toNat : Int), .int .u8 (y.toNat : Int)] w fun e w' => e = .returned (.int .u16 ((256 * x.toNat + y.toNat : Nat) : Int)) ∧ w = w' := by
  have hx := x.toNat_lt
  have hy := y.toNat_lt
  have hor := or256 x.toNat y.toNat (by omega) (by omega)
  go_enter Tryd.func100, Tryd.ntmps100
  go_wp2
  go_ret
  exact ⟨ret16 (by omega), rfl⟩

end Go.Proofs.YtccidoigjdbepaaDoor.Cl

/- ClB -/
namespace Go.Proofs.YtccidoigjdbepaaDoor.Cl
open Go.RowKit
set_option maxRecDepth 100000
set_option linter.unusedVariables false

theorem gOf_len (l : List UInt8) (n : Nat) (h : l.length = 2 * n) : (gOf l).length = n := by
  induction n generalizing l with
  | zero => obtain rfl := List.eq_nil_of_length_eq_zero (by omega : l.length = 0); rfl
  | succ n ih =>
    match l, h with
    | x :: y :: t, h =>
      simp only [gOf, List.length_cons]
      rw [ih t (by simp at h; omega)]
theorem gOf_at (l : List UInt8) (k : Nat) (x y : UInt8) (hx : l[2 * k]? = some x) (hy : l[2 * k + 1]? = some y) : (gOf l)[k]? = some (256 * x.toNat + y.toNat) := by
  induction k generalizing l with
  | zero =>
    match l, hx, hy with
    | a :: b :: t, hx, hy => simp at hx hy; subst hx hy; rfl
    | [a], hx, hy => simp at hy
    | [], hx, hy => simp at hx
  | succ k ih =>
    match l, hx, hy with
    | a :: b :: t, hx, hy =>
      simp only [gOf, List.getElem?_cons_succ]
      exact ih t (by simpa [show 2 * (k + 1) = 2 * k + 1 + 1 by omega] using hx) (by simpa [show 2 * (k + 1) + 1 = 2 * k + 1 + 1 + 1 by omega] using hy)
    | [a], hx, hy => rw [show 2 * (k + 1) = 2 * k + 1 + 1 by omega] at hx; simp at hx
    | [], hx, hy => simp at hx
theorem gOf_lt (l : List UInt8) : ∀ g ∈ gOf l, g < 65536 := by
  have key : ∀ n (l : List UInt8), l.length ≤ n → ∀ g ∈ gOf l, g < 65536 := by
    intro n
    induction n with
    | zero => intro l h g hg; obtain rfl := List.eq_nil_of_length_eq_zero (by omega : l.length = 0); simp [gOf] at hg
    | succ n ih =>
      intro l h g hg
      match l, hg, h with
      | [], hg, _ => simp [gOf] at hg
      | [a], hg, _ => simp [gOf] at hg
      | x :: y :: t, hg, h =>
        simp only [gOf, List.mem_cons] at hg
        rcases hg with rfl | hg
        · have := x.toNat_lt; have := y.toNat_lt; omega
        · exact ih t (by simp at h; omega) g hg
  exact fun g hg => key l.length l (Nat.le_refl _) g hg

/-- Groups, the first k of them there. -/
def gAt (gs : List Nat) (k : Nat) : Array Value := ((gs.take k ++ List.replicate (8 - k) 0).map u16v).toArray
theorem gAt_set (gs : List Nat) (hl : gs.length = 8) (k g : Nat) (h : gs[k]? = some g) : (gAt gs k).setIfInBounds k (u16v g) = gAt gs (k + 1) := by
  unfold gAt
  rw [List.setIfInBounds_toArray, ← List.map_set, fill_g gs 0 8 k g hl h]
theorem Tryd.zeroGroups : (Tryd.prog.info? 95).map (fun i => (i.zero, i.size)) = some (some (.agg (gAt [] 0)), 8) := by kernel_rfl
theorem Tryd.infoGroups : (Tryd.prog.info? 95).map (·.size) = some 8 := by kernel_rfl
theorem gAt_size (gs : List Nat) (hl : gs.length = 8) (k : Nat) (hk : k ≤ 8) : (gAt gs k).size = 8 := by
  unfold gAt
  simp
  omega
theorem gAt_one (gs : List Nat) (k : Nat) : ((gAt gs k).all fun x => x.oneCell') = true := by
  rw [Array.all_eq_true']
  intro x hx
  simp only [gAt, List.mem_toArray, List.mem_map] at hx
  obtain ⟨y, _, rfl⟩ := hx
  rfl
theorem gAt_full (gs : List Nat) (hl : gs.length = 8) : gAt gs 8 = (gs.map u16v).toArray := by
  unfold gAt
  rw [List.take_of_length_le (by omega)]
  simp
theorem gAt_at (gs : List Nat) (hl : gs.length = 8) (k : Nat) (hk : k < 8) : (gAt gs k)[k]? = some (u16v 0) := by
  have h : (gs.take k).length = k := by rw [List.length_take]; omega
  unfold gAt
  rw [List.getElem?_toArray, List.getElem?_map, List.getElem?_append_right (by omega), h, Nat.sub_self, List.getElem?_replicate, if_pos (by omega)]
  rfl
theorem gAt_none (gs : List Nat) : gAt gs 0 = gAt [] 0 := by unfold gAt; simp

set_option maxHeartbeats 1000000 in
theorem groupsOf_any (l : List UInt8) (hl : l.length = 16) (w : World) :
    Calls Tryd.prog 77 #[av l] w fun e w' => e = .returned (.agg ((gOf l).map u16v).toArray) ∧ Below w.heap.size w w' := by
  have hgl := gOf_len l 8 hl
  have HA := Lib.hid (fun k x y hx hy => gOf_at l k x y hx hy)
  rw [← gAt_full _ hgl]
  have HS := Lib.hid (fun k g h => gAt_set (gOf l) hgl k g h)
  have HZt := Lib.hid (fun k hk => gAt_at (gOf l) hgl k hk)
  have hz0 := (zero_of_info Tryd.zeroGroups).1
  have hzne : ¬ gAt [] 0 = #[] := by decide
  have k0 : Arr (w.alloc (.cells (l.map bv).toArray 22)) w.heap.size 22 l := arr_new w 22 l
  have hz8 : (Tryd.prog.info? 95).map (·.size) = some (gAt (gOf l) 8).size := by rw [gAt_size _ hgl 8 (by omega)]; exact Tryd.infoGroups
  have one8 := gAt_one (gOf l) 8
  have sz8 : (gAt [] 0).size = (gAt (gOf l) 8).size := by rw [gAt_size _ hgl 8 (by omega)]; rfl
  have hg0 := gAt_none (gOf l)
  generalize gOf l = gs at *
  generalize hZ : gAt [] 0 = Z at *
  have k1 := (k0.alloc (.cells Z 95)).alloc (.cells Z 95)
  have r1 : Blk (((w.alloc (.cells (l.map bv).toArray 22)).alloc (.cells Z 95)).alloc (.cells Z 95)) (w.heap.size + 1) 95 Z := (blk_new' _ _ _ _ (by simp)).alloc _
  have t1 : Blk (((w.alloc (.cells (l.map bv).toArray 22)).alloc (.cells Z 95)).alloc (.cells Z 95)) (w.heap.size + 2) 95 Z := blk_new' _ _ _ _ (by simp)
  have b1 : Below w.heap.size w (((w.alloc (.cells (l.map bv).toArray 22)).alloc (.cells Z 95)).alloc (.cells Z 95)) := (((Below.refl _ _).alloc (Nat.le_refl _) _).alloc (by simp) _).alloc (by simp; omega) _
  clear k0
  go_enter Tryd.func77, Tryd.ntmps77
  go_wp2
  go_loopw [5] (fun i wr => ∃ k : Nat, k ≤ 8 ∧ i = .int .i64 (k : Int) ∧ Arr wr w.heap.size 22 l ∧ Blk wr (w.heap.size + 1) 95 Z ∧ Blk wr (w.heap.size + 2) 95 (gAt gs k) ∧ Below w.heap.size w wr) (fun i _ => 8 - (intOf i).toNat)
  case atStart => exact ⟨0, Nat.zero_le _, rfl, k1, r1, by rw [hg0]; exact t1, b1⟩
  case round =>
    clear k1 r1 t1 b1
    obtain ⟨k, hk, rfl, hkb, hrb, htb, hbel⟩ := hrel
    have hbs := hbel.size
    by_cases hlt : k < 8
    · obtain ⟨x, hx⟩ : ∃ x, l[2 * k]? = some x := ⟨l[2 * k]'(by omega), List.getElem?_eq_getElem _⟩
      obtain ⟨y, hy⟩ : ∃ y, l[2 * k + 1]? = some y := ⟨l[2 * k + 1]'(by omega), List.getElem?_eq_getElem _⟩
      have cx := hkb.byte hx
      have cy := hkb.byte hy
      have HP := Lib.hid (fun W => pair_any x y W)
      have hset := HS.out k _ (HA.out k x y hx hy)
      have hf := Lib.frozen_of_heap htb k
      have hcl : wr.cell? ⟨w.heap.size + 2, k, none⟩ = some (u16v 0) := by rw [Lib.cell_of_heap htb]; exact HZt.out k hlt
      have HT := Lib.hid (show Blk (wr.setCell ⟨w.heap.size + 2, k, none⟩ (u16v (256 * x.toNat + y.toNat))) (w.heap.size + 2) 95 (gAt gs (k + 1)) by
        have := htb.setCell k (u16v (256 * x.toNat + y.toNat))
        rw [hset] at this
        exact this)
      have HK := Lib.hid (show Arr (wr.setCell ⟨w.heap.size + 2, k, none⟩ (u16v (256 * x.toNat + y.toNat))) w.heap.size 22 l from hkb.putOther _ _ (by simp))
      have HR := Lib.hid (hrb.other ⟨w.heap.size + 2, k, none⟩ (u16v (256 * x.toNat + y.toNat)) (by simp))
      have HB := Lib.hid (hbel.setCell (p := ⟨w.heap.size + 2, k, none⟩) (by show w.heap.size ≤ w.heap.size + 2; omega) (u16v (256 * x.toNat + y.toNat)))
      have hgv : 256 * x.toNat + y.toNat < 65536 := by have := x.toNat_lt; have := y.toNat_lt; omega
      unfold u16v at HT HK HR HB
      have i1 : (2 : Int) * (k : Int) < 16 := by omega
      have i2 : (0 : Int) ≤ 2 * (k : Int) := by omega
      have i3 : ((2 : Int) * (k : Int)).toNat = 2 * k := by omega
      have i4 : (2 : Int) * (k : Int) + 1 < 16 := by omega
      have i5 : (0 : Int) ≤ 2 * (k : Int) + 1 := by omega
      have i6 : ((2 : Int) * (k : Int) + 1).toNat = 2 * k + 1 := by omega
      have w1 : IntKind.i64.wrap (2 * (k : Int)) = 2 * (k : Int) := IntWalk.i64_in _ (by omega)
      have w2 : IntKind.i64.wrap (2 * (k : Int) + 1) = 2 * (k : Int) + 1 := IntWalk.i64_in _ (by omega)
      have i7 : 2 * k < 16 := by omega
      have i8 : 2 * k + 1 < 16 := by omega
      clear hset hx hy hkb hrb htb
      generalize 256 * x.toNat + y.toNat = G at *
      go_wp2
      go_region_with (go_at_call 100; refine (HP.out _).mono ?_; rintro e w4 ⟨rfl, rfl⟩)
      all_goals
        go_wp2
        go_roundw
        case rel => exact ⟨k + 1, by omega, by go_num, HK.out, HR.out, HT.out, HB.out.drew⟩
        case measure => simp [intOf] <;> omega
    · obtain rfl : k = 8 := by omega
      generalize hY : gAt gs 8 = Y at *
      go_wp2_with (first
        | (refine wpList_loadBlk (g := w.heap.size + 2) (t := 95) (cs := Y) rfl 95 (.tmp 3) ?ho ?hx ?hA _ Tryd.underlying95 rfl ?hi ?_
           case ho => with_reducible rfl
           case hx => rfl
           case hA => exact htb
           case hi => exact hz8)
        | (refine wpList_storeBlk (g := w.heap.size + 1) (t := 95) (cs := Y) ?hw 95 (.tmp 2) (.tmp 21) ?ho ?hx2 ?hy2 Z hrb ?hi ?hs ?h1 ?_
           case ho => with_reducible rfl
           case hw => rfl
           case hx2 => rfl
           case hy2 => rfl
           case hi => exact hz8
           case hs => exact sz8
           case h1 => exact one8
           intro w5 k5 hg5
           have b5 : Below w.heap.size w w5 := hbel.grown hg5 hbel.size (fun j hj => by injection hj with hj; omega))
        | fail)
      refine bodyPost_blk rfl _ rfl k5 Tryd.underlying95 rfl hz8 rfl ⟨by first | rfl | rw [hY], b5⟩

end Go.Proofs.YtccidoigjdbepaaDoor.Cl

/- ClC -/
namespace Go.Proofs.YtccidoigjdbepaaDoor.Cl
open Go.RowKit
set_option maxRecDepth 100000
set_option linter.unusedVariables false

theorem lz_bounds (zs : List Bool) (k : Nat) : (lz zs k).1 ≤ (lz zs k).2.1 ∧ (lz zs k).2.1 ≤ k ∧ (lz zs k).2.2 ≤ k := by
  induction k with
  | zero => exact ⟨Nat.le_refl _, Nat.le_refl _, Nat.le_refl _⟩
  | succ k ih =>
    obtain ⟨h1, h2, h3⟩ := ih
    unfold lz
    generalize lz zs k = L at *
    obtain ⟨f, t, s⟩ := L
    simp only at *
    split
    · split
      · exact ⟨by simp; omega, by simp, by simp; omega⟩
      · exact ⟨h1, by simp; omega, by simp; omega⟩
    · exact ⟨h1, by simp; omega, by simp⟩
theorem idx8 (a b c d e f g h k x : Nat) (hk : k < 8) (hx : [a, b, c, d, e, f, g, h][k]? = some x) (W : World) :
    (Instr.index 95 (.agg #[u16v a, u16v b, u16v c, u16v d, u16v e, u16v f, u16v g, u16v h]) (.int .i64 (k : Int))).run Tryd.prog W = .ok (u16v x) W := by
  have i0 : ∀ W, (Instr.index 95 (.agg #[u16v a, u16v b, u16v c, u16v d, u16v e, u16v f, u16v g, u16v h]) (.int .i64 0)).run Tryd.prog W = .ok (u16v a) W := fun _ => by kernel_rfl
  have i1 : ∀ W, (Instr.index 95 (.agg #[u16v a, u16v b, u16v c, u16v d, u16v e, u16v f, u16v g, u16v h]) (.int .i64 1)).run Tryd.prog W = .ok (u16v b) W := fun _ => by kernel_rfl
  have i2 : ∀ W, (Instr.index 95 (.agg #[u16v a, u16v b, u16v c, u16v d, u16v e, u16v f, u16v g, u16v h]) (.int .i64 2)).run Tryd.prog W = .ok (u16v c) W := fun _ => by kernel_rfl
  have i3 : ∀ W, (Instr.index 95 (.agg #[u16v a, u16v b, u16v c, u16v d, u16v e, u16v f, u16v g, u16v h]) (.int .i64 3)).run Tryd.prog W = .ok (u16v d) W := fun _ => by kernel_rfl
  have i4 : ∀ W, (Instr.index 95 (.agg #[u16v a, u16v b, u16v c, u16v d, u16v e, u16v f, u16v g, u16v h]) (.int .i64 4)).run Tryd.prog W = .ok (u16v e) W := fun _ => by kernel_rfl
  have i5 : ∀ W, (Instr.index 95 (.agg #[u16v a, u16v b, u16v c, u16v d, u16v e, u16v f, u16v g, u16v h]) (.int .i64 5)).run Tryd.prog W = .ok (u16v f) W := fun _ => by kernel_rfl
  have i6 : ∀ W, (Instr.index 95 (.agg #[u16v a, u16v b, u16v c, u16v d, u16v e, u16v f, u16v g, u16v h]) (.int .i64 6)).run Tryd.prog W = .ok (u16v g) W := fun _ => by kernel_rfl
  have i7 : ∀ W, (Instr.index 95 (.agg #[u16v a, u16v b, u16v c, u16v d, u16v e, u16v f, u16v g, u16v h]) (.int .i64 7)).run Tryd.prog W = .ok (u16v h) W := fun _ => by kernel_rfl
  match k, hk, hx with
  | 0, _, hx => injection hx with hx; subst hx; exact i0 W
  | 1, _, hx => injection hx with hx; subst hx; exact i1 W
  | 2, _, hx => injection hx with hx; subst hx; exact i2 W
  | 3, _, hx => injection hx with hx; subst hx; exact i3 W
  | 4, _, hx => injection hx with hx; subst hx; exact i4 W
  | 5, _, hx => injection hx with hx; subst hx; exact i5 W
  | 6, _, hx => injection hx with hx; subst hx; exact i6 W
  | 7, _, hx => injection hx with hx; subst hx; exact i7 W

set_option maxHeartbeats 1000000 in
theorem longest_any (a b c d e f g h : Nat) (w : World) (hlt : ∀ x ∈ [a, b, c, d, e, f, g, h], x < 65536) :
    Calls Tryd.prog 78 #[.agg #[u16v a, u16v b, u16v c, u16v d, u16v e, u16v f, u16v g, u16v h]] w fun e' w' =>
      e' = .returned (.tuple #[.int .i64 ((lz (zsOf [a, b, c, d, e, f, g, h]) 8).1 : Int), .int .i64 ((lz (zsOf [a, b, c, d, e, f, g, h]) 8).2.1 : Int)]) ∧ Below w.heap.size w w' := by
  have HI := Lib.hid (fun k x hk hx => idx8 a b c d e f g h k x hk hx)
  have HB := Lib.hid (fun k => lz_bounds (zsOf [a, b, c, d, e, f, g, h]) k)
  have HS := Lib.hid (fun (k x : Nat) (hx : [a, b, c, d, e, f, g, h][k]? = some x) => show (zsOf [a, b, c, d, e, f, g, h]).getD k false = decide (x = 0) by
    unfold zsOf
    rw [List.getD_eq_getElem?_getD, List.getElem?_map, hx]; rfl)
  have HStep := Lib.hid (fun (zs : List Bool) (k : Nat) => show lz zs (k + 1) = if zs.getD k false then (if (lz zs k).2.1 - (lz zs k).1 < k + 1 - (lz zs k).2.2 then ((lz zs k).2.2, k + 1, (lz zs k).2.2) else lz zs k) else ((lz zs k).1, (lz zs k).2.1, k + 1) from rfl)
  have hel : ∀ k, k < 8 → ∃ x, [a, b, c, d, e, f, g, h][k]? = some x ∧ x < 65536 := fun k hk => by
    refine ⟨[a, b, c, d, e, f, g, h][k]'(by simpa using hk), List.getElem?_eq_getElem _, hlt _ (List.getElem_mem _)⟩
  have HEl := Lib.hid hel
  have k0 : Blk (w.alloc (.cells #[u16v a, u16v b, u16v c, u16v d, u16v e, u16v f, u16v g, u16v h] 95)) w.heap.size 95 #[u16v a, u16v b, u16v c, u16v d, u16v e, u16v f, u16v g, u16v h] := blk_new _ _ _
  have b0 : Below w.heap.size w (w.alloc (.cells #[u16v a, u16v b, u16v c, u16v d, u16v e, u16v f, u16v g, u16v h] 95)) := (Below.refl _ _).alloc (Nat.le_refl _) _
  have hi : (Tryd.prog.info? 95).map (·.size) = some (#[u16v a, u16v b, u16v c, u16v d, u16v e, u16v f, u16v g, u16v h] : Array Value).size := Tryd.infoGroups
  clear hel hlt
  generalize zsOf [a, b, c, d, e, f, g, h] = zs at *
  generalize [a, b, c, d, e, f, g, h] = gs at *
  generalize (#[u16v a, u16v b, u16v c, u16v d, u16v e, u16v f, u16v g, u16v h] : Array Value) = X at *
  go_enter Tryd.func78, Tryd.ntmps78
  go_wp2_with (first
    | (refine wpList_loadBlk (g := w.heap.size) (t := 95) (cs := X) rfl 95 (.tmp 1) ?ho ?hx ?hA _ Tryd.underlying95 rfl ?hi ?_
       case ho => with_reducible rfl
       case hx => rfl
       case hA => exact k0
       case hi => exact hi)
    | fail)
  go_loopw [4, 5, 6, 10] (fun u v x i wr => ∃ k : Nat, k ≤ 8 ∧ i = .int .i64 (k : Int) ∧ u = .int .i64 ((lz zs k).1 : Int) ∧ v = .int .i64 ((lz zs k).2.1 : Int) ∧ x = .int .i64 ((lz zs k).2.2 : Int) ∧ Below w.heap.size w wr) (fun _ _ _ i _ => 8 - (intOf i).toNat)
  case atStart => exact ⟨0, Nat.zero_le _, rfl, rfl, rfl, rfl, b0⟩
  case round =>
    obtain ⟨k, hk, rfl, rfl, rfl, rfl, hbel⟩ := hrel
    obtain ⟨q1, q2, q3⟩ := HB.out k
    by_cases hlt : k < 8
    · obtain ⟨x, hx, hx16⟩ := HEl.out k hlt
      have hix := HI.out k x hlt hx
      have hst := HStep.out zs k
      rw [HS.out k x hx] at hst
      have HSt := Lib.hid hst
      clear hst hx
      obtain ⟨F, hF⟩ : ∃ F, (lz zs k).1 = F := ⟨_, rfl⟩
      obtain ⟨T, hT⟩ : ∃ T, (lz zs k).2.1 = T := ⟨_, rfl⟩
      obtain ⟨S, hS⟩ : ∃ S, (lz zs k).2.2 = S := ⟨_, rfl⟩
      have hL : lz zs k = (F, T, S) := by rw [← hF, ← hT, ← hS]
      rw [hF] at q1
      rw [hT] at q1 q2
      rw [hS] at q3
      rw [hF, hT, hS]
      rw [hL] at HSt
      have HSt2 := Lib.hid HSt.out
      clear HSt hL hF hT hS
      by_cases hx0 : x = 0
      · subst hx0
        by_cases hc : T - F < k + 1 - S
        · have hcI : (T : Int) - (F : Int) < (k : Int) + 1 - (S : Int) := by omega
          have HR := Lib.hid (show lz zs (k + 1) = (S, k + 1, S) by rw [HSt2.out]; simp [hc])
          clear HSt2 hc
          go_wp2
          go_roundw
          case rel => exact ⟨k + 1, by omega, by go_num, by rw [HR.out], by rw [HR.out]; go_num, by rw [HR.out], hbel⟩
          case measure => simp [intOf] <;> omega
        · have hcI : ¬ ((T : Int) - (F : Int) < (k : Int) + 1 - (S : Int)) := by omega
          have HR := Lib.hid (show lz zs (k + 1) = (F, T, S) by rw [HSt2.out]; simp [hc])
          clear HSt2 hc
          go_wp2
          go_roundw
          case rel => exact ⟨k + 1, by omega, by go_num, by rw [HR.out], by rw [HR.out], by rw [HR.out], hbel⟩
          case measure => simp [intOf] <;> omega
      · have hxn : ((x : Int) != 0) = true := by rw [bne_iff_ne]; omega
        have HR := Lib.hid (show lz zs (k + 1) = (F, T, k + 1) by rw [HSt2.out]; simp [hx0])
        clear HSt2
        go_wp2
        go_roundw
        case rel => exact ⟨k + 1, by omega, by go_num, by rw [HR.out], by rw [HR.out], by rw [HR.out]; go_num, hbel⟩
        case measure => simp [intOf] <;> omega
    · obtain rfl : k = 8 := by omega
      go_wp2
      go_ret2
      exact ⟨rfl, hbel⟩

end Go.Proofs.YtccidoigjdbepaaDoor.Cl

/- ClD -/
namespace Go.Proofs.YtccidoigjdbepaaDoor.Cl
open Go.RowKit
set_option maxRecDepth 100000
set_option linter.unusedVariables false

theorem list_eight {α : Type} (L : List α) (h : L.length = 8) : ∃ a b c d e f g i, L = [a, b, c, d, e, f, g, i] := by
  match L, h with
  | [a, b, c, d, e, f, g, i], _ => exact ⟨a, b, c, d, e, f, g, i, rfl⟩
theorem blk_sh {w : World} {g : Nat} {t : TypeId} {gs : List Nat} (h : Blk w g t (gs.map u16v).toArray) : Sh u16v w w.heap.size (some ⟨g, 0, none⟩) gs.length gs := by
  refine ⟨rfl, fun hn => ⟨g, 0, rfl, h.lt, fun j hj => ?_⟩⟩
  rw [Nat.zero_add, Lib.cell_of_heap h]
  simp [hj]
theorem row_len (g : List Nat) : (row g).length ≤ 5 * g.length := by
  have := join_len (g.map hx) (fun x hx' => by
    obtain ⟨y, _, rfl⟩ := List.mem_map.1 hx'
    exact hx_len y)
  rw [List.length_map] at this
  exact this
theorem Tryd.infoB16 : (Tryd.prog.info? 22).map (·.size) = some 16 := by kernel_rfl
theorem ret_sv {a b : List UInt8} (h : a = b) : Ending.returned (sv a) = .returned (sv b) := by rw [h]
theorem str_add (a b : List UInt8) : (ByteArray.mk ⟨a⟩ ++ ByteArray.mk ⟨b⟩) = ByteArray.mk ⟨a ++ b⟩ := ByteArray.mk_append_mk a b

set_option maxHeartbeats 1000000 in
theorem ctext_few (l : List UInt8) (hl : l.length = 16) (w : World) (hfew : (lz (zsOf (gOf l)) 8).2.1 - (lz (zsOf (gOf l)) 8).1 < 2) :
    Calls Tryd.prog 55 #[av l] w fun e w' => e = .returned (sv (row (gOf l))) ∧ Below w.heap.size w w' := by
  have hgl := gOf_len l 8 hl
  have hlt := gOf_lt l
  have H1 := Lib.hid (fun W => groupsOf_any l hl W)
  obtain ⟨a, b, c, d, e, f, g, i, hgs⟩ := list_eight _ hgl
  have H2 := Lib.hid (fun W => longest_any a b c d e f g i W (by rw [← hgs]; exact hlt))
  rw [← hgs] at H2
  have H3 := Lib.hid (fun (g0 : Nat) (W : World) (hW : Blk W g0 95 ((gOf l).map u16v).toArray) => join_any (some ⟨g0, 0, none⟩) 8 8 (gOf l) W (by omega) hlt (by have := blk_sh hW; rw [hgl] at this; exact this))
  obtain ⟨q1, q2, q3⟩ := lz_bounds (zsOf (gOf l)) 8
  have hX : (#[u16v a, u16v b, u16v c, u16v d, u16v e, u16v f, u16v g, u16v i] : Array Value) = ((gOf l).map u16v).toArray := by rw [hgs]; rfl
  rw [hX] at H2
  have k0 : Arr (w.alloc (.cells (l.map bv).toArray 22)) w.heap.size 22 l := arr_new w 22 l
  have b0 : Below w.heap.size w (w.alloc (.cells (l.map bv).toArray 22)) := (Below.refl _ _).alloc (Nat.le_refl _) _
  have sz : ((gOf l).map u16v).toArray.size = 8 := by simp [hgl]
  have hi8 : (Tryd.prog.info? 95).map (·.size) = some ((gOf l).map u16v).toArray.size := by rw [sz]; exact Tryd.infoGroups
  have one8 : (((gOf l).map u16v).toArray.all fun x => x.oneCell') = true := by
    have := gAt_one (gOf l) 8
    rwa [gAt_full _ hgl] at this
  clear hX hgs hlt hgl
  generalize row (gOf l) = R at *
  generalize ((gOf l).map u16v).toArray = X at *
  obtain ⟨F, hF⟩ : ∃ F, (lz (zsOf (gOf l)) 8).1 = F := ⟨_, rfl⟩
  obtain ⟨T, hT⟩ : ∃ T, (lz (zsOf (gOf l)) 8).2.1 = T := ⟨_, rfl⟩
  rw [hF, hT] at H2
  rw [hF, hT] at hfew q1
  rw [hT] at q2
  clear hF hT q3
  have hI : (T : Int) - (F : Int) < 2 := by omega
  go_enter Tryd.func55, Tryd.ntmps55
  go_wp2_with (first
    | (refine wpList_loadArr (g := w.heap.size) (t := 22) (l := l) rfl 22 5 (.tmp 1) ?ho ?hx k0 hl Tryd.underlying22 Tryd.infoB16 ?_
       case ho => with_reducible rfl
       case hx => rfl)
    | fail)
  refine (H1.out _).mono ?_; rintro e w1 ⟨rfl, hb1⟩
  have b1 := Below.on b0 b0.size (by exact hb1)
  have b2 := b1.alloc b1.size (.cells X 95)
  have k2 : Blk (w1.alloc (.cells X 95)) w1.heap.size 95 X := blk_new _ _ _
  clear k0 b0 hb1
  go_wp2_with (first
    | (refine wpList_allocStore (cs := X) rfl rfl 95 ?ho (.tmp 3) (.tmp 7) ?ho2 Tryd.zeroGroups ?hz ?hx ?hy ?hn ?h1 ?_
       case ho => with_reducible rfl
       case ho2 => rfl
       case hz => rfl
       case hx => rfl
       case hy => rfl
       case hn => exact sz
       case h1 => exact one8)
    | (refine wpList_loadBlk (g := w1.heap.size) (t := 95) (cs := X) rfl 95 (.tmp 3) ?ho ?hx ?hA _ Tryd.underlying95 rfl ?hi ?_
       case ho => with_reducible rfl
       case hx => rfl
       case hA => exact k2
       case hi => exact hi8)
    | fail)
  refine (H2.out _).mono ?_; rintro e w3 ⟨rfl, hb3⟩
  have b3 := Below.on b2 b2.size (by exact hb3)
  have k3 := k2.on (by exact hb3)
  clear k2 b2 hb3
  go_wp2_with fail
  refine (H3.out _ _ k3).mono ?_; rintro e w4 ⟨rfl, hb4⟩
  have b4 := Below.on b3 b3.size hb4
  go_wp2
  go_ret
  exact ⟨rfl, b4⟩

set_option maxHeartbeats 1000000 in
theorem ctext_many (l : List UInt8) (hl : l.length = 16) (w : World) (hmany : 2 ≤ (lz (zsOf (gOf l)) 8).2.1 - (lz (zsOf (gOf l)) 8).1) :
    Calls Tryd.prog 55 #[av l] w fun e w' => e = .returned (sv (row ((gOf l).take (lz (zsOf (gOf l)) 8).1) ++ [58, 58] ++ row ((gOf l).drop (lz (zsOf (gOf l)) 8).2.1))) ∧ Below w.heap.size w w' := by
  have hgl := gOf_len l 8 hl
  have hlt := gOf_lt l
  have H1 := Lib.hid (fun W => groupsOf_any l hl W)
  obtain ⟨a, b, c, d, e, f, g, i, hgs⟩ := list_eight _ hgl
  have H2 := Lib.hid (fun W => longest_any a b c d e f g i W (by rw [← hgs]; exact hlt))
  rw [← hgs] at H2
  have H3 := Lib.hid (fun (F : Nat) (hF : F ≤ 8) (g0 : Nat) (W : World) (hW : Blk W g0 95 ((gOf l).map u16v).toArray) => join_any (some ⟨g0, 0, none⟩) F 8 ((gOf l).take F) W (by omega) (fun x hx => hlt x (List.mem_of_mem_take hx)) (by have := blk_sh hW; rw [hgl] at this; exact this.front hF))
  have H4 := Lib.hid (fun (T : Nat) (hT : T ≤ 8) (g0 : Nat) (W : World) (hW : Blk W g0 95 ((gOf l).map u16v).toArray) => join_any (if 8 = T then some ⟨g0, 0, none⟩ else (some (⟨g0, 0, none⟩ : Addr)).map (·.add T)) (8 - T) (8 - T) ((gOf l).drop T) W (by omega) (fun x hx => hlt x (List.mem_of_mem_drop hx)) (by have := blk_sh hW; rw [hgl] at this; exact this.back hT (Nat.le_refl _)))
  have r1 := row_len ((gOf l).take (lz (zsOf (gOf l)) 8).1)
  have r2 := row_len ((gOf l).drop (lz (zsOf (gOf l)) 8).2.1)
  rw [List.length_take] at r1
  rw [List.length_drop] at r2
  rw [hgl] at r1 r2
  obtain ⟨q1, q2, q3⟩ := lz_bounds (zsOf (gOf l)) 8
  have hX : (#[u16v a, u16v b, u16v c, u16v d, u16v e, u16v f, u16v g, u16v i] : Array Value) = ((gOf l).map u16v).toArray := by rw [hgs]; rfl
  rw [hX] at H2
  have k0 : Arr (w.alloc (.cells (l.map bv).toArray 22)) w.heap.size 22 l := arr_new w 22 l
  have b0 : Below w.heap.size w (w.alloc (.cells (l.map bv).toArray 22)) := (Below.refl _ _).alloc (Nat.le_refl _) _
  have sz : ((gOf l).map u16v).toArray.size = 8 := by simp [hgl]
  have hi8 : (Tryd.prog.info? 95).map (·.size) = some ((gOf l).map u16v).toArray.size := by rw [sz]; exact Tryd.infoGroups
  have one8 : (((gOf l).map u16v).toArray.all fun x => x.oneCell') = true := by
    have := gAt_one (gOf l) 8
    rwa [gAt_full _ hgl] at this
  clear hX hgs hlt hgl
  have k3sz : ∀ x : List UInt8, (ByteArray.mk ⟨x⟩).size = x.length := fun _ => rfl
  generalize ((gOf l).map u16v).toArray = X at *
  obtain ⟨F, hF⟩ : ∃ F, (lz (zsOf (gOf l)) 8).1 = F := ⟨_, rfl⟩
  obtain ⟨T, hT⟩ : ∃ T, (lz (zsOf (gOf l)) 8).2.1 = T := ⟨_, rfl⟩
  rw [hF, hT] at H2
  rw [hF, hT] at hmany q1
  rw [hT] at q2 r2
  rw [hF] at r1
  rw [hF, hT]
  clear hF hT q3
  have hI : ¬ ((T : Int) - (F : Int) < 2) := by omega
  have J1 := Lib.hid (H3.out F (by omega))
  have J2 := Lib.hid (H4.out T (by omega))
  have hFI : (F : Int) ≤ 8 := by omega
  have hTI : (T : Int) ≤ 8 := by omega
  have hcat := Lib.hid (fun (x y : List UInt8) => str_add x y)
  clear H3 H4
  generalize row ((gOf l).take F) = R1 at *
  generalize row ((gOf l).drop T) = R2 at *
  have hA1 := str_add R1 [58, 58]
  have hA2 := str_add (R1 ++ [58, 58]) R2
  have z1 : (ByteArray.mk ⟨R1⟩).size = R1.length := rfl
  have z2 : (ByteArray.mk ⟨R2⟩).size = R2.length := rfl
  have z3 : (ByteArray.mk ⟨R1 ++ [58, 58]⟩).size = R1.length + 2 := by show (R1 ++ [58, 58]).length = _; simp
  go_enter Tryd.func55, Tryd.ntmps55
  go_wp2_with (first
    | (refine wpList_loadArr (g := w.heap.size) (t := 22) (l := l) rfl 22 5 (.tmp 1) ?ho ?hx k0 hl Tryd.underlying22 Tryd.infoB16 ?_
       case ho => with_reducible rfl
       case hx => rfl)
    | fail)
  refine (H1.out _).mono ?_; rintro e w1 ⟨rfl, hb1⟩
  have b1 := Below.on b0 b0.size (by exact hb1)
  have b2 := b1.alloc b1.size (.cells X 95)
  have k2 : Blk (w1.alloc (.cells X 95)) w1.heap.size 95 X := blk_new _ _ _
  clear k0 b0 hb1
  go_wp2_with (first
    | (refine wpList_allocStore (cs := X) rfl rfl 95 ?ho (.tmp 3) (.tmp 7) ?ho2 Tryd.zeroGroups ?hz ?hx ?hy ?hn ?h1 ?_
       case ho => with_reducible rfl
       case ho2 => rfl
       case hz => rfl
       case hx => rfl
       case hy => rfl
       case hn => exact sz
       case h1 => exact one8)
    | (refine wpList_loadBlk (g := w1.heap.size) (t := 95) (cs := X) rfl 95 (.tmp 3) ?ho ?hx ?hA _ Tryd.underlying95 rfl ?hi ?_
       case ho => with_reducible rfl
       case hx => rfl
       case hA => exact k2
       case hi => exact hi8)
    | fail)
  refine (H2.out _).mono ?_; rintro e w3 ⟨rfl, hb3⟩
  have b3 := Below.on b2 b2.size (by exact hb3)
  have k3 := k2.on (by exact hb3)
  clear k2 b2 hb3
  by_cases hT8 : T = 8
  · subst hT8
    go_wp2_with fail
    have hup : ∀ W : World, Below w3.heap.size w3 W → Below w.heap.size w W := fun W hW => Below.on b3 b3.size hW
    have hJ1 := fun (W : World) (hW : Below w3.heap.size w3 W) => J1.out _ W (k3.on hW)
    have hJ2 := fun (W : World) (hW : Below w3.heap.size w3 W) => J2.out _ W (k3.on hW)
    simp only [if_true, Nat.sub_self] at hJ2
    refine wp_region_below w3.heap.size (by kernel_rfl) (by kernel_rfl) ?_
    repeat (first
      | go_big_quiet_skip
      | (go_big_quiet_want
         first
           | (go_big_quiet_op
              first
                | go_big_quiet_on
                | (with_reducible refine ⟨_, fun _ _ => rfl, ?_⟩; go_big_quiet_on)
                | (apply Exists.intro
                   refine ⟨fun w' hw' => ?_, ?_⟩
                   · (go_at_call 79; with_reducible refine (hJ1 w' hw').mono ?_; exact fun _ _ h => ⟨h.1, Below.on hw' hw'.size h.2⟩)
                   go_big_quiet_on)
                | (apply Exists.intro
                   refine ⟨fun w' hw' => ?_, ?_⟩
                   · (go_at_call 79; with_reducible refine (hJ2 w' hw').mono ?_; exact fun _ _ h => ⟨h.1, Below.on hw' hw'.size h.2⟩)
                   go_big_quiet_on))))
    refine wpQuiet_nil ?_
    intro w4 hw4
    go_wp2
    go_ret
    exact ⟨ret_sv (by simp), hup _ hw4⟩
  · have hT8' : ¬ (8 = T) := fun h => hT8 h.symm
    have hTlt : (T : Int) < 8 := by omega
    go_wp2_with fail
    have hup : ∀ W : World, Below w3.heap.size w3 W → Below w.heap.size w W := fun W hW => Below.on b3 b3.size hW
    have hJ1 := fun (W : World) (hW : Below w3.heap.size w3 W) => J1.out _ W (k3.on hW)
    have hJ2 := fun (W : World) (hW : Below w3.heap.size w3 W) => J2.out _ W (k3.on hW)
    have hJ3 : ∀ W : World, Below w3.heap.size w3 W → Calls Tryd.prog 79 #[.slice (some ⟨w1.heap.size, T, none⟩) (8 - T) (8 - T)] W fun e w' => e = .returned (sv R2) ∧ Below W.heap.size W w' := by
      intro W hW
      have h := hJ2 W hW
      rw [if_neg hT8'] at h
      have e : (some (⟨w1.heap.size, 0, none⟩ : Addr)).map (·.add T) = some ⟨w1.heap.size, T, none⟩ := by
        show some (Addr.add ⟨w1.heap.size, 0, none⟩ T) = _
        rw [Go.WideShapes.add_plain, Nat.zero_add]
      rw [e] at h
      exact h
    refine wp_region_below w3.heap.size (by kernel_rfl) (by kernel_rfl) ?_
    repeat (first
      | go_big_quiet_skip
      | (go_big_quiet_want
         first
           | (go_big_quiet_op
              first
                | go_big_quiet_on
                | (with_reducible refine ⟨_, fun _ _ => rfl, ?_⟩; go_big_quiet_on)
                | (apply Exists.intro
                   refine ⟨fun w' hw' => ?_, ?_⟩
                   · (go_at_call 79; with_reducible refine (hJ1 w' hw').mono ?_; exact fun _ _ h => ⟨h.1, Below.on hw' hw'.size h.2⟩)
                   go_big_quiet_on)
                | (apply Exists.intro
                   refine ⟨fun w' hw' => ?_, ?_⟩
                   · (go_at_call 79; with_reducible refine (hJ3 w' hw').mono ?_; exact fun _ _ h => ⟨h.1, Below.on hw' hw'.size h.2⟩)
                   go_big_quiet_on))))
    refine wpQuiet_nil ?_
    intro w4 hw4
    go_wp2
    go_ret
    exact ⟨ret_sv (by simp), hup _ hw4⟩

end Go.Proofs.YtccidoigjdbepaaDoor.Cl

/- ClE -/
namespace Go.Proofs.YtccidoigjdbepaaDoor.Cl
open Go.RowKit
set_option maxRecDepth 100000
set_option linter.unusedVariables false

/-- A number as a value. -/
abbrev i64v (n : Nat) : Value := .int .i64 (n : Int)

/-- Groups, the first k of them there. -/
def gAtI (gs : List Nat) (k : Nat) : Array Value := ((gs.take k ++ List.replicate (8 - k) 0).map i64v).toArray
theorem gAtI_set (gs : List Nat) (hl : gs.length = 8) (k g : Nat) (h : gs[k]? = some g) : (gAtI gs k).setIfInBounds k (i64v g) = gAtI gs (k + 1) := by
  unfold gAtI
  rw [List.setIfInBounds_toArray, ← List.map_set, fill_g gs 0 8 k g hl h]
theorem Tryd.zeroGroupsI : (Tryd.prog.info? 101).map (fun i => (i.zero, i.size)) = some (some (.agg (gAtI [] 0)), 8) := by kernel_rfl
theorem Tryd.infoGroupsI : (Tryd.prog.info? 101).map (·.size) = some 8 := by kernel_rfl
theorem gAtI_size (gs : List Nat) (hl : gs.length = 8) (k : Nat) (hk : k ≤ 8) : (gAtI gs k).size = 8 := by
  unfold gAtI
  simp
  omega
theorem gAtI_one (gs : List Nat) (k : Nat) : ((gAtI gs k).all fun x => x.oneCell') = true := by
  rw [Array.all_eq_true']
  intro x hx
  simp only [gAtI, List.mem_toArray, List.mem_map] at hx
  obtain ⟨y, _, rfl⟩ := hx
  rfl
theorem gAtI_full (gs : List Nat) (hl : gs.length = 8) : gAtI gs 8 = (gs.map i64v).toArray := by
  unfold gAtI
  rw [List.take_of_length_le (by omega)]
  simp
theorem gAtI_at (gs : List Nat) (hl : gs.length = 8) (k : Nat) (hk : k < 8) : (gAtI gs k)[k]? = some (i64v 0) := by
  have h : (gs.take k).length = k := by rw [List.length_take]; omega
  unfold gAtI
  rw [List.getElem?_toArray, List.getElem?_map, List.getElem?_append_right (by omega), h, Nat.sub_self, List.getElem?_replicate, if_pos (by omega)]
  rfl
theorem gAtI_none (gs : List Nat) : gAtI gs 0 = gAtI [] 0 := by unfold gAtI; simp

set_option maxHeartbeats 1000000 in
theorem refGroups_any (l : List UInt8) (hl : l.length = 16) (w : World) :
    Calls Tryd.prog 80 #[av l] w fun e w' => e = .returned (.agg ((gOf l).map i64v).toArray) ∧ Below w.heap.size w w' := by
  have hgl := gOf_len l 8 hl
  have HA := Lib.hid (fun k x y hx hy => gOf_at l k x y hx hy)
  rw [← gAtI_full _ hgl]
  have HS := Lib.hid (fun k g h => gAtI_set (gOf l) hgl k g h)
  have HZt := Lib.hid (fun k hk => gAtI_at (gOf l) hgl k hk)
  have hz0 := (zero_of_info Tryd.zeroGroupsI).1
  have hzne : ¬ gAtI [] 0 = #[] := by decide
  have k0 : Arr (w.alloc (.cells (l.map bv).toArray 22)) w.heap.size 22 l := arr_new w 22 l
  have hz8 : (Tryd.prog.info? 101).map (·.size) = some (gAtI (gOf l) 8).size := by rw [gAtI_size _ hgl 8 (by omega)]; exact Tryd.infoGroupsI
  have one8 := gAtI_one (gOf l) 8
  have sz8 : (gAtI [] 0).size = (gAtI (gOf l) 8).size := by rw [gAtI_size _ hgl 8 (by omega)]; rfl
  have hg0 := gAtI_none (gOf l)
  generalize gOf l = gs at *
  generalize hZ : gAtI [] 0 = Z at *
  have k1 := (k0.alloc (.cells Z 101)).alloc (.cells Z 101)
  have r1 : Blk (((w.alloc (.cells (l.map bv).toArray 22)).alloc (.cells Z 101)).alloc (.cells Z 101)) (w.heap.size + 1) 101 Z := (blk_new' _ _ _ _ (by simp)).alloc _
  have t1 : Blk (((w.alloc (.cells (l.map bv).toArray 22)).alloc (.cells Z 101)).alloc (.cells Z 101)) (w.heap.size + 2) 101 Z := blk_new' _ _ _ _ (by simp)
  have b1 : Below w.heap.size w (((w.alloc (.cells (l.map bv).toArray 22)).alloc (.cells Z 101)).alloc (.cells Z 101)) := (((Below.refl _ _).alloc (Nat.le_refl _) _).alloc (by simp) _).alloc (by simp; omega) _
  clear k0
  go_enter Tryd.func80, Tryd.ntmps80
  go_wp2
  go_loopw [4] (fun i wr => ∃ k : Nat, k ≤ 8 ∧ i = .int .i64 (k : Int) ∧ Arr wr w.heap.size 22 l ∧ Blk wr (w.heap.size + 1) 101 Z ∧ Blk wr (w.heap.size + 2) 101 (gAtI gs k) ∧ Below w.heap.size w wr) (fun i _ => 8 - (intOf i).toNat)
  case atStart => exact ⟨0, Nat.zero_le _, rfl, k1, r1, by rw [hg0]; exact t1, b1⟩
  case round =>
    clear k1 r1 t1 b1
    obtain ⟨k, hk, rfl, hkb, hrb, htb, hbel⟩ := hrel
    have hbs := hbel.size
    by_cases hlt : k < 8
    · obtain ⟨x, hx⟩ : ∃ x, l[2 * k]? = some x := ⟨l[2 * k]'(by omega), List.getElem?_eq_getElem _⟩
      obtain ⟨y, hy⟩ : ∃ y, l[2 * k + 1]? = some y := ⟨l[2 * k + 1]'(by omega), List.getElem?_eq_getElem _⟩
      have cx := hkb.byte hx
      have cy := hkb.byte hy
      have hv1 : (256 : Int) * (x.toNat : Int) + (y.toNat : Int) = ((256 * x.toNat + y.toNat : Nat) : Int) := by omega
      have hv2 := x.toNat_lt
      have hv3 := y.toNat_lt
      have hset := HS.out k _ (HA.out k x y hx hy)
      have hf := Lib.frozen_of_heap htb k
      have hcl : wr.cell? ⟨w.heap.size + 2, k, none⟩ = some (i64v 0) := by rw [Lib.cell_of_heap htb]; exact HZt.out k hlt
      have HT := Lib.hid (show Blk (wr.setCell ⟨w.heap.size + 2, k, none⟩ (i64v (256 * x.toNat + y.toNat))) (w.heap.size + 2) 101 (gAtI gs (k + 1)) by
        have := htb.setCell k (i64v (256 * x.toNat + y.toNat))
        rw [hset] at this
        exact this)
      have HK := Lib.hid (show Arr (wr.setCell ⟨w.heap.size + 2, k, none⟩ (i64v (256 * x.toNat + y.toNat))) w.heap.size 22 l from hkb.putOther _ _ (by simp))
      have HR := Lib.hid (hrb.other ⟨w.heap.size + 2, k, none⟩ (i64v (256 * x.toNat + y.toNat)) (by simp))
      have HB := Lib.hid (hbel.setCell (p := ⟨w.heap.size + 2, k, none⟩) (by show w.heap.size ≤ w.heap.size + 2; omega) (i64v (256 * x.toNat + y.toNat)))
      have hgv : 256 * x.toNat + y.toNat < 65536 := by have := x.toNat_lt; have := y.toNat_lt; omega
      unfold i64v at HT HK HR HB
      have i1 : (2 : Int) * (k : Int) < 16 := by omega
      have i2 : (0 : Int) ≤ 2 * (k : Int) := by omega
      have i3 : ((2 : Int) * (k : Int)).toNat = 2 * k := by omega
      have i4 : (2 : Int) * (k : Int) + 1 < 16 := by omega
      have i5 : (0 : Int) ≤ 2 * (k : Int) + 1 := by omega
      have i6 : ((2 : Int) * (k : Int) + 1).toNat = 2 * k + 1 := by omega
      have w1 : IntKind.i64.wrap (2 * (k : Int)) = 2 * (k : Int) := IntWalk.i64_in _ (by omega)
      have w2 : IntKind.i64.wrap (2 * (k : Int) + 1) = 2 * (k : Int) + 1 := IntWalk.i64_in _ (by omega)
      have i7 : 2 * k < 16 := by omega
      have i8 : 2 * k + 1 < 16 := by omega
      clear hset hx hy hkb hrb htb
      generalize 256 * x.toNat + y.toNat = G at *
      go_wp2
      go_region
      all_goals
        go_wp2
        go_roundw
        case rel => exact ⟨k + 1, by omega, by go_num, HK.out, HR.out, HT.out, HB.out.drew⟩
        case measure => simp [intOf] <;> omega
    · obtain rfl : k = 8 := by omega
      generalize hY : gAtI gs 8 = Y at *
      go_wp2_with (first
        | (refine wpList_loadBlk (g := w.heap.size + 2) (t := 101) (cs := Y) rfl 101 (.tmp 3) ?ho ?hx ?hA _ Tryd.underlying101 rfl ?hi ?_
           case ho => with_reducible rfl
           case hx => rfl
           case hA => exact htb
           case hi => exact hz8)
        | (refine wpList_storeBlk (g := w.heap.size + 1) (t := 101) (cs := Y) ?hw 101 (.tmp 2) (.tmp 24) ?ho ?hx2 ?hy2 Z hrb ?hi ?hs ?h1 ?_
           case ho => with_reducible rfl
           case hw => rfl
           case hx2 => rfl
           case hy2 => rfl
           case hi => exact hz8
           case hs => exact sz8
           case h1 => exact one8
           intro w5 k5 hg5
           have b5 : Below w.heap.size w w5 := hbel.grown hg5 hbel.size (fun j hj => by injection hj with hj; omega))
        | fail)
      refine bodyPost_blk rfl _ rfl k5 Tryd.underlying101 rfl hz8 rfl ⟨by first | rfl | rw [hY], b5⟩

end Go.Proofs.YtccidoigjdbepaaDoor.Cl

/- ClF -/
namespace Go.Proofs.YtccidoigjdbepaaDoor.Cl
open Go.RowKit
set_option maxRecDepth 100000
set_option linter.unusedVariables false

theorem runZ_facts (zs : List Bool) (f i : Nat) : runZ zs i f ≤ f ∧ (∀ j < runZ zs i f, zs.getD (i + j) false = true) ∧ (runZ zs i f < f → zs.getD (i + runZ zs i f) false = false) := by
  induction f generalizing i with
  | zero => exact ⟨Nat.le_refl _, fun j hj => absurd hj (by simp [runZ]), fun h => absurd h (by simp [runZ])⟩
  | succ f ih =>
    obtain ⟨h1, h2, h3⟩ := ih (i + 1)
    unfold runZ
    cases hz : zs.getD i false
    · simp only [Bool.false_eq_true, if_false]
      exact ⟨by omega, fun j hj => absurd hj (by omega), fun _ => by simpa using hz⟩
    · simp only [if_true]
      refine ⟨by omega, fun j hj => ?_, fun h => ?_⟩
      · cases j with
        | zero => simpa using hz
        | succ j =>
          have := h2 j (by omega)
          rwa [show i + 1 + j = i + (j + 1) by omega] at this
      · have := h3 (by omega)
        rwa [show i + 1 + runZ zs (i + 1) f = i + (1 + runZ zs (i + 1) f) by omega] at this
theorem zs_at (gs : List Nat) (k x : Nat) (h : gs[k]? = some x) : (zsOf gs).getD k false = decide (x = 0) := by
  unfold zsOf
  rw [List.getD_eq_getElem?_getD, List.getElem?_map, h]; rfl

set_option maxHeartbeats 1000000 in
theorem run_any (gs : List Nat) (hl : gs.length = 8) (i : Nat) (hi : i < 8) (w : World) (hg : ∀ g ∈ gs, g < 65536) :
    Calls Tryd.prog 81 #[.agg (gs.map i64v).toArray, .int .i64 (i : Int)] w fun e w' => e = .returned (.int .i64 (runOf (zsOf gs) i : Int)) ∧ Below w.heap.size w w' := by
  obtain ⟨h1, h2, h3⟩ := runZ_facts (zsOf gs) (8 - i) i
  have H2 := Lib.hid (show ∀ j < runOf (zsOf gs) i, (zsOf gs).getD (i + j) false = true from h2)
  have H3 := Lib.hid (show runOf (zsOf gs) i < 8 - i → (zsOf gs).getD (i + runOf (zsOf gs) i) false = false from h3)
  have h1' : runOf (zsOf gs) i ≤ 8 - i := h1
  have HZ := Lib.hid (fun k x h => zs_at gs k x h)
  have k0 : Blk (w.alloc (.cells (gs.map i64v).toArray 101)) w.heap.size 101 (gs.map i64v).toArray := blk_new _ _ _
  have HC := Lib.hid (fun (k x : Nat) (hx : gs[k]? = some x) => show (w.alloc (.cells (gs.map i64v).toArray 101)).cell? ⟨w.heap.size, k, none⟩ = some (i64v x) by
    rw [Lib.cell_of_heap k0, List.getElem?_toArray, List.getElem?_map, hx]; rfl)
  have b0 : Below w.heap.size w (w.alloc (.cells (gs.map i64v).toArray 101)) := (Below.refl _ _).alloc (Nat.le_refl _) _
  have HG := Lib.hid hg
  clear h1 h2 h3 k0 hg
  generalize runOf (zsOf gs) i = R at *
  generalize zsOf gs = zs at *
  generalize (gs.map i64v).toArray = X at *
  go_enter Tryd.func81, Tryd.ntmps81
  go_wp2
  generalize hW : w.alloc (.cells X 101) = W0 at *
  go_loopw [5] (fun u wr => ∃ k : Nat, k ≤ R ∧ u = .int .i64 (k : Int) ∧ wr = W0) (fun u _ => R - (intOf u).toNat)
  case atStart => exact ⟨0, Nat.zero_le _, rfl, rfl⟩
  case round =>
    obtain ⟨k, hk, rfl, hww⟩ := hrel
    have hww' := hww.symm
    clear hww
    subst hww'
    by_cases h8 : i + k = 8
    · obtain rfl : k = R := by omega
      have hI : ¬ ((i : Int) + (k : Int) < 8) := by omega
      go_wp2
      go_ret
      exact ⟨rfl, b0⟩
    · have hI : (i : Int) + (k : Int) < 8 := by omega
      have hI0 : (0 : Int) ≤ (i : Int) + (k : Int) := by omega
      have hIt : ((i : Int) + (k : Int)).toNat = i + k := by omega
      have hIw : IntKind.i64.wrap ((i : Int) + (k : Int)) = (i : Int) + (k : Int) := IntWalk.i64_in _ (by omega)
      obtain ⟨x, hx⟩ : ∃ x, gs[i + k]? = some x := ⟨gs[i + k]'(by omega), List.getElem?_eq_getElem _⟩
      have hcell := HC.out (i + k) x hx
      have hz := HZ.out (i + k) x hx
      have hx16 := HG.out x (List.mem_of_getElem? hx)
      by_cases hlt : k < R
      · have hx0 : x = 0 := by
          have := H2.out k hlt
          rw [hz] at this
          simpa using this
        subst hx0
        clear hz hx
        go_wp2
        go_roundw
        case rel => exact ⟨k + 1, by omega, by go_num, trivial⟩
        case measure => simp [intOf] <;> omega
      · obtain rfl : k = R := by omega
        have hx0 : ((x : Int) == 0) = false := by
          have := H3.out (by omega)
          rw [hz] at this
          have h0 : x ≠ 0 := by simpa using this
          rw [beq_eq_false_iff_ne]; omega
        clear hz hx
        go_wp2
        go_ret
        exact ⟨rfl, b0⟩

theorem join_snoc (L : List (List UInt8)) (x : List UInt8) : Lib.join (L ++ [x]) [58] = if L = [] then x else Lib.join L [58] ++ [58] ++ x := by
  cases L with
  | nil => simp [Lib.join_one]
  | cons y r =>
    rw [if_neg (by simp), List.cons_append, Lib.join_cons, Lib.join_cons]
    simp [Lib.joinTail, List.append_assoc]
theorem refGroupA (n : Nat) (h : n < 65536) (w : World) : Calls Tryd.prog 102 #[.int .i64 (n : Int)] w fun e w' => e = .returned (sv (hx n)) ∧ w = w' :=
  Hex.refGroup_any (nd n) n w (nd_le n) (nd_digs n h)

set_option maxHeartbeats 1000000 in
theorem refRow_any (gs : List Nat) (hl : gs.length = 8) (f t : Nat) (hft : f ≤ t) (ht : t ≤ 8) (w : World) (hg : ∀ g ∈ gs, g < 65536) :
    Calls Tryd.prog 82 #[.agg (gs.map i64v).toArray, .int .i64 (f : Int), .int .i64 (t : Int)] w fun e w' => e = .returned (sv (row ((gs.drop f).take (t - f)))) ∧ Below w.heap.size w w' := by
  have k0 : Blk (w.alloc (.cells (gs.map i64v).toArray 101)) w.heap.size 101 (gs.map i64v).toArray := blk_new _ _ _
  have HC := Lib.hid (fun (k x : Nat) (hx : gs[k]? = some x) => show (w.alloc (.cells (gs.map i64v).toArray 101)).cell? ⟨w.heap.size, k, none⟩ = some (i64v x) by
    rw [Lib.cell_of_heap k0, List.getElem?_toArray, List.getElem?_map, hx]; rfl)
  have b0 : Below w.heap.size w (w.alloc (.cells (gs.map i64v).toArray 101)) := (Below.refl _ _).alloc (Nat.le_refl _) _
  have HG := Lib.hid hg
  have HS := Lib.hid (fun (i x : Nat) (hfi : f ≤ i) (hx' : gs[i]? = some x) => show row ((gs.drop f).take (i + 1 - f)) = if i = f then hx x else row ((gs.drop f).take (i - f)) ++ [58] ++ hx x by
    have h1 : (gs.drop f)[i - f]? = some x := by rw [List.getElem?_drop, show f + (i - f) = i by omega]; exact hx'
    have h2 : (gs.drop f).take (i + 1 - f) = (gs.drop f).take (i - f) ++ [x] := by
      rw [show i + 1 - f = (i - f) + 1 by omega]
      obtain ⟨hk, hk2⟩ := List.getElem?_eq_some_iff.1 h1
      rw [List.take_succ_eq_append_getElem hk, hk2]
    unfold row
    rw [h2, List.map_append, List.map_cons, List.map_nil, join_snoc]
    have hne : ((gs.drop f).take (i - f)).map hx = [] ↔ i = f := by
      have hlen : i < gs.length := (List.getElem?_eq_some_iff.1 hx').1
      rw [List.map_eq_nil_iff, List.take_eq_nil_iff, List.drop_eq_nil_iff]
      constructor
      · rintro (h | h) <;> omega
      · intro h; left; omega
    by_cases hif : i = f
    · rw [if_pos (hne.2 hif), if_pos hif]
    · rw [if_neg (fun h => hif (hne.1 h)), if_neg hif])
  have HLen := Lib.hid (fun i => row_len ((gs.drop f).take (i - f)))
  clear k0 hg
  generalize (gs.map i64v).toArray = X at *
  go_enter Tryd.func82, Tryd.ntmps82
  go_wp2
  generalize hW : w.alloc (.cells X 101) = W0 at *
  go_loopw [7, 8] (fun v u wr => ∃ i : Nat, f ≤ i ∧ i ≤ t ∧ u = .int .i64 (i : Int) ∧ v = sv (row ((gs.drop f).take (i - f))) ∧ wr = W0) (fun _ u _ => t - (intOf u).toNat)
  case atStart => exact ⟨f, Nat.le_refl _, hft, rfl, by rw [Nat.sub_self]; rfl, rfl⟩
  case round =>
    obtain ⟨i, hfi, hit, rfl, rfl, hww⟩ := hrel
    have hww' := hww.symm
    clear hww
    subst hww'
    by_cases hlt : i < t
    · obtain ⟨x, hx'⟩ : ∃ x, gs[i]? = some x := ⟨gs[i]'(by omega), List.getElem?_eq_getElem _⟩
      have hcell := HC.out i x hx'
      have hst := HS.out i x hfi hx'
      have hlen := HLen.out i
      have hlx := hx_len x
      have hrl : (row ((gs.drop f).take (i - f))).length ≤ 40 := by
        rw [List.length_take] at hlen
        have : min (i - f) (gs.drop f).length ≤ 8 := by omega
        omega
      have HX := Lib.hid (fun W => refGroupA x (HG.out x (List.mem_of_getElem? hx')) W)
      have hx16 := HG.out x (List.mem_of_getElem? hx')
      clear hx' hlen
      by_cases hif : i = f
      · subst hif
        rw [if_pos rfl] at hst
        have HSt := Lib.hid hst
        have hnil : row ((gs.drop i).take (i - i)) = [] := by rw [Nat.sub_self]; rfl
        rw [hnil]
        clear hst hrl hnil
        generalize hx x = HXX at *
        go_wp2_with fail
        refine (HX.out _).mono ?_; rintro e w4 ⟨rfl, hw4⟩
        subst hw4
        go_wp2
        go_roundw
        case rel => exact ⟨i + 1, by omega, by omega, by go_num, (by rw [HSt.out]; first | rfl | exact congrArg Value.string (str_add [] _) | exact congrArg Value.string (str_add [] _).symm | simp), trivial⟩
        case measure => simp [intOf] <;> omega
      · rw [if_neg hif] at hst
        have HSt := Lib.hid hst
        have hfI : (f : Int) < (i : Int) := by omega
        clear hst hif
        generalize row ((gs.drop f).take (i - f)) = R at *
        generalize hx x = HXX at *
        have z1 : (ByteArray.mk ⟨R⟩).size = R.length := rfl
        go_wp2_with fail
        refine (HX.out _).mono ?_; rintro e w4 ⟨rfl, hw4⟩
        subst hw4
        go_wp2
        go_roundw
        case rel => exact ⟨i + 1, by omega, by omega, by go_num, congrArg Value.string (by rw [HSt.out, str_add, str_add]), trivial⟩
        case measure => simp [intOf] <;> omega
    · obtain rfl : i = t := by omega
      go_wp2
      go_ret
      exact ⟨rfl, b0⟩

end Go.Proofs.YtccidoigjdbepaaDoor.Cl

/- ClG -/
namespace Go.Proofs.YtccidoigjdbepaaDoor.Cl
open Go.RowKit
set_option maxRecDepth 100000
set_option linter.unusedVariables false

theorem qb_loadA {P : Program} {g : Nat} {t : TypeId} {cs : Array Value} {o : Oper} {a : Act} {C : World → Prop} {K : Act → Prop} (ty : TypeId) (x : Operand) (ho : o.op = .load ty x) (hx : a.eval x = .pointer (some ⟨g, 0, none⟩)) (hA : ∀ w, C w → Blk w g t cs)
    (d : TypeDesc) (hu : P.underlying ty = some d) (hd : (match d with | .struct _ | .array _ _ => true | _ => false) = true) (hi : (P.info? ty).map (·.size) = some cs.size) (hk : K (a.put o.dst (.agg cs))) : o.quiet P a C K :=
  qb_load ty x ho hx hA d hu hd hi hk
theorem rz_step (zs : List Bool) (k : Nat) : rz zs (k + 1) = if (rz zs k).2 < runOf zs k then (k, runOf zs k) else rz zs k := rfl
theorem runOf_le (zs : List Bool) (i : Nat) : runOf zs i ≤ 8 - i := (runZ_facts zs (8 - i) i).1
theorem rz_bounds (zs : List Bool) (k : Nat) (hk : k ≤ 8) : (rz zs k).1 + (rz zs k).2 ≤ 8 := by
  induction k with
  | zero => show 0 + 0 ≤ 8; omega
  | succ k ih =>
    rw [rz_step]
    have := runOf_le zs k
    split
    · show k + runOf zs k ≤ 8; omega
    · exact ih (by omega)

set_option maxRecDepth 100000 in
set_option maxHeartbeats 2000000 in
theorem refctext (l : List UInt8) (hl : l.length = 16) (w : World) :
    Calls Tryd.prog 56 #[av l] w fun e w' => e = .returned (sv (if (rz (zsOf (gOf l)) 8).2 < 2 then row (gOf l) else row ((gOf l).take (rz (zsOf (gOf l)) 8).1) ++ [58, 58] ++ row ((gOf l).drop ((rz (zsOf (gOf l)) 8).1 + (rz (zsOf (gOf l)) 8).2)))) ∧ Below w.heap.size w w' := by
  have hgl := gOf_len l 8 hl
  have hlt := gOf_lt l
  have H1 := Lib.hid (fun W => refGroups_any l hl W)
  have HRn := Lib.hid (fun i hi W => run_any (gOf l) hgl i hi W hlt)
  have HRw := Lib.hid (fun f t hft ht W => refRow_any (gOf l) hgl f t hft ht W hlt)
  have HSt := Lib.hid (fun k => rz_step (zsOf (gOf l)) k)
  have HBd := Lib.hid (fun k hk => rz_bounds (zsOf (gOf l)) k hk)
  have HRl := Lib.hid (fun i => runOf_le (zsOf (gOf l)) i)
  have hr1 := row_len ((gOf l).take (rz (zsOf (gOf l)) 8).1)
  have hr2 := row_len ((gOf l).drop ((rz (zsOf (gOf l)) 8).1 + (rz (zsOf (gOf l)) 8).2))
  rw [List.length_take] at hr1
  rw [List.length_drop] at hr2
  rw [hgl] at hr1 hr2
  have k0 : Arr (w.alloc (.cells (l.map bv).toArray 22)) w.heap.size 22 l := arr_new w 22 l
  have b0 : Below w.heap.size w (w.alloc (.cells (l.map bv).toArray 22)) := (Below.refl _ _).alloc (Nat.le_refl _) _
  have sz : ((gOf l).map i64v).toArray.size = 8 := by simp [hgl]
  have hi8 : (Tryd.prog.info? 101).map (·.size) = some ((gOf l).map i64v).toArray.size := by rw [sz]; exact Tryd.infoGroupsI
  have one8 : (((gOf l).map i64v).toArray.all fun x => x.oneCell') = true := by
    have := gAtI_one (gOf l) 8
    rwa [gAtI_full _ hgl] at this
  have hfull : ((gOf l).drop 0).take (8 - 0) = gOf l := by rw [List.drop_zero, List.take_of_length_le (by omega)]
  have hfront : ∀ f, ((gOf l).drop 0).take (f - 0) = (gOf l).take f := fun f => by rw [List.drop_zero, Nat.sub_zero]
  have hback : ∀ t, t ≤ 8 → ((gOf l).drop t).take (8 - t) = (gOf l).drop t := fun t ht => by rw [List.take_of_length_le]; rw [List.length_drop, hgl]; omega
  have HFull := Lib.hid hfull
  have HFront := Lib.hid hfront
  have HBack := Lib.hid hback
  clear hlt hfull hfront hback
  generalize gOf l = gs at *
  generalize zsOf gs = zs at *
  generalize (gs.map i64v).toArray = X at *
  generalize hRES : (if (rz zs 8).2 < 2 then row gs else row (gs.take (rz zs 8).1) ++ [58, 58] ++ row (gs.drop ((rz zs 8).1 + (rz zs 8).2))) = RES
  have HRes := Lib.hid hRES
  clear hRES
  go_enter Tryd.func56, Tryd.ntmps56
  go_wp2_with (first
    | (refine wpList_loadArr (g := w.heap.size) (t := 22) (l := l) rfl 22 5 (.tmp 1) ?ho ?hx k0 hl Tryd.underlying22 Tryd.infoB16 ?_
       case ho => with_reducible rfl
       case hx => rfl)
    | fail)
  refine (H1.out _).mono ?_; rintro e w1 ⟨rfl, hb1⟩
  have b1 := Below.on b0 b0.size (by exact hb1)
  have b2 := b1.alloc b1.size (.cells X 101)
  have k2 : Blk (w1.alloc (.cells X 101)) w1.heap.size 101 X := blk_new _ _ _
  clear k0 b0 hb1
  go_wp2_with (first
    | (refine wpList_allocStore (cs := X) rfl rfl 101 ?ho (.tmp 3) (.tmp 8) ?ho2 Tryd.zeroGroupsI ?hz ?hx ?hy ?hn ?h1 ?_
       case ho => with_reducible rfl
       case ho2 => rfl
       case hz => rfl
       case hx => rfl
       case hy => rfl
       case hn => exact sz
       case h1 => exact one8)
    | fail)
  generalize w1.heap.size = g3 at *
  generalize hW2 : w1.alloc (.cells X 101) = w2 at *
  go_loopw [4, 5, 6] (fun u v i wr => ∃ k : Nat, k ≤ 8 ∧ i = .int .i64 (k : Int) ∧ u = .int .i64 ((rz zs k).1 : Int) ∧ v = .int .i64 ((rz zs k).2 : Int) ∧ Blk wr g3 101 X ∧ Below w.heap.size w wr) (fun _ _ i _ => 8 - (intOf i).toNat)
  case atStart => exact ⟨0, Nat.zero_le _, rfl, rfl, rfl, k2, b2⟩
  case round =>
    clear k2 b2 hW2
    obtain ⟨k, hk, rfl, rfl, rfl, hkb, hbel⟩ := hrel
    have hbs := hbel.size
    have hbd := HBd.out k hk
    by_cases hlt : k < 8
    · have hst := HSt.out k
      have hrl := HRl.out k
      have HC := Lib.hid (fun W => HRn.out k hlt W)
      obtain ⟨A, hA⟩ : ∃ A, (rz zs k).1 = A := ⟨_, rfl⟩
      obtain ⟨M, hM⟩ : ∃ M, (rz zs k).2 = M := ⟨_, rfl⟩
      have hL : rz zs k = (A, M) := by rw [← hA, ← hM]
      rw [hA, hM] at hbd ⊢
      rw [hL] at hst
      have HSt2 := Lib.hid hst
      clear hst hL hA hM
      generalize runOf zs k = R at *
      go_wp2_with (first
        | (refine wpList_loadBlk (g := g3) (t := 101) (cs := X) rfl 101 (.tmp 3) ?ho ?hx ?hA _ Tryd.underlying101 rfl ?hi ?_
           case ho => with_reducible rfl
           case hx => rfl
           case hA => exact hkb
           case hi => exact hi8)
        | fail)
      refine (HC.out _).mono ?_; rintro e w3 ⟨rfl, hb3⟩
      have b3 := Below.on hbel hbs hb3
      have k3 := hkb.on hb3
      clear hkb hbel hb3
      by_cases hc : M < R
      · have hcI : (M : Int) < (R : Int) := by omega
        have HR := Lib.hid (show rz zs (k + 1) = (k, R) by rw [HSt2.out]; simp [hc])
        clear HSt2 hc
        go_wp2_with (first
          | (refine wpList_loadBlk (g := g3) (t := 101) (cs := X) rfl 101 (.tmp 3) ?ho ?hx ?hA _ Tryd.underlying101 rfl ?hi ?_
             case ho => with_reducible rfl
             case hx => rfl
             case hA => exact k3
             case hi => exact hi8)
          | fail)
        refine (HC.out _).mono ?_; rintro e w4 ⟨rfl, hb4⟩
        have b4 := Below.on b3 b3.size hb4
        have k4 := k3.on hb4
        go_wp2
        go_roundw
        case rel => exact ⟨k + 1, by omega, by go_num, by rw [HR.out], by rw [HR.out], k4, b4⟩
        case measure => simp [intOf] <;> omega
      · have hcI : ¬ ((M : Int) < (R : Int)) := by omega
        have HR := Lib.hid (show rz zs (k + 1) = (A, M) by rw [HSt2.out]; simp [hc])
        clear HSt2 hc
        go_wp2
        go_roundw
        case rel => exact ⟨k + 1, by omega, by go_num, by rw [HR.out], by rw [HR.out], k3, b3⟩
        case measure => simp [intOf] <;> omega
    · obtain rfl : k = 8 := by omega
      obtain ⟨A, hA⟩ : ∃ A, (rz zs 8).1 = A := ⟨_, rfl⟩
      obtain ⟨M, hM⟩ : ∃ M, (rz zs 8).2 = M := ⟨_, rfl⟩
      have hres := HRes.out
      rw [hA, hM] at hbd hr2 hres ⊢
      rw [hA] at hr1
      clear HRes hA hM
      by_cases hM2 : M < 2
      · rw [if_pos hM2] at hres
        have HR := Lib.hid hres
        have HC := Lib.hid (fun W => HRw.out 0 8 (by omega) (by omega) W)
        rw [HFull.out] at HC
        have hMI : (M : Int) < 2 := by omega
        clear hres hM2
        generalize row gs = RG at *
        go_wp2_with (first
          | (refine wpList_loadBlk (g := g3) (t := 101) (cs := X) rfl 101 (.tmp 3) ?ho ?hx ?hA _ Tryd.underlying101 rfl ?hi ?_
             case ho => with_reducible rfl
             case hx => rfl
             case hA => exact hkb
             case hi => exact hi8)
          | fail)
        refine (HC.out _).mono ?_; rintro e w4 ⟨rfl, hb4⟩
        have b4 := Below.on hbel hbs hb4
        go_wp2
        go_ret
        exact ⟨ret_sv HR.out, b4⟩
      · rw [if_neg hM2] at hres
        have HR := Lib.hid hres
        have HC1 := Lib.hid (fun W => HRw.out 0 A (by omega) (by omega) W)
        have HC2 := Lib.hid (fun W => HRw.out (A + M) 8 (by omega) (by omega) W)
        rw [HFront.out A, show ((0 : Nat) : Int) = 0 from rfl] at HC1
        rw [HBack.out (A + M) (by omega)] at HC2
        have hMI : ¬ ((M : Int) < 2) := by omega
        have hAM : (A : Int) + (M : Int) = ((A + M : Nat) : Int) := by omega
        have hAM2 : IntKind.i64.wrap ((A : Int) + (M : Int)) = (A : Int) + (M : Int) := IntWalk.i64_in _ (by omega)
        rw [← hAM, show ((8 : Nat) : Int) = 8 from rfl] at HC2
        clear hAM
        clear hres hM2
        generalize row (gs.take A) = R1 at *
        generalize row (gs.drop (A + M)) = R2 at *
        have z1 : (ByteArray.mk ⟨R1⟩).size = R1.length := rfl
        have z2 : (ByteArray.mk ⟨R2⟩).size = R2.length := rfl
        have z3 : (ByteArray.mk ⟨R1 ++ [58, 58]⟩).size = R1.length + 2 := by show (R1 ++ [58, 58]).length = _; simp
        have hA1 := str_add R1 [58, 58]
        have hA2 := str_add (R1 ++ [58, 58]) R2
        go_wp2_with fail
        have hup : ∀ W : World, Below wr.heap.size wr W → Below w.heap.size w W := fun W hW => Below.on hbel hbs hW
        refine wp_region_below wr.heap.size (by kernel_rfl) (by kernel_rfl) ?_
        repeat (first
          | go_big_quiet_skip
          | (go_big_quiet_want
             first
               | (refine qb_loadA (g := g3) (t := 101) (cs := X) 101 (.tmp 3) ?ho ?hx ?hA _ Tryd.underlying101 rfl hi8 ?_
                  case ho => with_reducible rfl
                  case hx => rfl
                  case hA => exact fun w' hw' => hkb.on hw'
                  go_big_quiet_on
                  simp only [Act.put, List.setIfInBounds_toArray, List.set_cons_succ, List.set_cons_zero])
               | (go_big_quiet_op
                  first
                    | go_big_quiet_on
                    | (with_reducible refine ⟨_, fun _ _ => rfl, ?_⟩; go_big_quiet_on)
                    | (apply Exists.intro
                       refine ⟨fun w' hw' => ?_, ?_⟩
                       · (go_at_call 82; with_reducible refine (HC1.out w').mono ?_; exact fun _ _ h => ⟨h.1, Below.on hw' hw'.size h.2⟩)
                       go_big_quiet_on)
                    | (apply Exists.intro
                       refine ⟨fun w' hw' => ?_, ?_⟩
                       · (go_at_call 82; with_reducible refine (HC2.out w').mono ?_; exact fun _ _ h => ⟨h.1, Below.on hw' hw'.size h.2⟩)
                       go_big_quiet_on))))
        refine wpQuiet_nil ?_
        intro w4 hw4
        go_wp2
        go_ret
        exact ⟨ret_sv (by rw [← HR.out]; simp), hup _ hw4⟩

/-- The text of sixteen bytes, by both. -/
theorem ctext_both (l : List UInt8) (hl : l.length = 16) : ∃ T : List UInt8, T.length ≤ 100 ∧
    (∀ w : World, Calls Tryd.prog 55 #[av l] w fun e w' => e = .returned (sv T) ∧ Below w.heap.size w w') ∧
    (∀ w : World, Calls Tryd.prog 56 #[av l] w fun e w' => e = .returned (sv T) ∧ Below w.heap.size w w') := by
  have hgl := gOf_len l 8 hl
  obtain ⟨a, b, c, d, e, f, g, i, hgs⟩ := list_eight _ hgl
  have hlr := lz_rz (decide (a = 0)) (decide (b = 0)) (decide (c = 0)) (decide (d = 0)) (decide (e = 0)) (decide (f = 0)) (decide (g = 0)) (decide (i = 0))
  have hzs : zsOf (gOf l) = [decide (a = 0), decide (b = 0), decide (c = 0), decide (d = 0), decide (e = 0), decide (f = 0), decide (g = 0), decide (i = 0)] := by rw [hgs]; rfl
  simp only at hlr
  rw [← hzs] at hlr
  obtain ⟨q1, q2, q3, q4, q5⟩ := hlr
  have r0 := row_len (gOf l)
  have r1 := row_len ((gOf l).take (lz (zsOf (gOf l)) 8).1)
  have r2 := row_len ((gOf l).drop (lz (zsOf (gOf l)) 8).2.1)
  rw [List.length_take] at r1
  rw [List.length_drop] at r2
  rw [hgl] at r0 r1 r2
  by_cases h : (rz (zsOf (gOf l)) 8).2 < 2
  · refine ⟨row (gOf l), by omega, fun w => ctext_few l hl w (q1.2 h), fun w => ?_⟩
    have := refctext l hl w
    rwa [if_pos h] at this
  · have h2 := q2 (by omega)
    refine ⟨row ((gOf l).take (lz (zsOf (gOf l)) 8).1) ++ [58, 58] ++ row ((gOf l).drop (lz (zsOf (gOf l)) 8).2.1), by simp; omega, fun w => ctext_many l hl w (by
      have := fun h' => h (q1.1 h')
      omega), fun w => ?_⟩
    have := refctext l hl w
    rw [if_neg h, ← h2.1] at this
    rw [h2.2, h2.1]
    rw [h2.1] at this
    exact this

end Go.Proofs.YtccidoigjdbepaaDoor.Cl
