
/- Layer 9. Contracts: colon.pair, join. -/
import Derived.Test.YtccidoigjdbepaaDoorClN
import Derived.Test.YtccidoigjdbepaaDoorGen
import Derived.Test.YtccidoigjdbepaaDoorShelf
namespace Go.Proofs.YtccidoigjdbepaaDoor.Cl
open Go.RowKit
set_option maxRecDepth 100000
set_option linter.unusedVariables false

/-- A group as a value. -/
abbrev u16v (n : Nat) : Value := .int .u16 (n : Int)

theorem fill_g {α : Type} (L : List α) (d : α) (size k : Nat) (x : α) (hL : L.length = size) (h : L[k]? = some x) :
    (L.take k ++ List.replicate (size - k) d).set k x = L.take (k + 1) ++ List.replicate (size - (k + 1)) d := by
  obtain ⟨hk, rfl⟩ := List.getElem?_eq_some_iff.1 h
  have hl : (L.take k).length = k := by simp; omega
  rw [List.set_append_right _ _ (by omega), hl, Nat.sub_self, show size - k = (size - (k + 1)) + 1 by omega, List.replicate_succ, List.set_cons_zero, List.take_succ_eq_append_getElem hk, List.append_assoc]
  rfl
theorem GOwn_put {α : Type} {f : α → Value} {e : TypeId} {w : World} {base g n cap : Nat} {l : List α} (h : GOwn f e w base (.slice (some ⟨g, 0, none⟩) n cap) n l) (j : Nat) (x : α) :
    GOwn f e (w.setCell ⟨g, j, none⟩ (f x)) base (.slice (some ⟨g, 0, none⟩) n cap) n (l.set j x) ∧ w.grownBy (w.setCell ⟨g, j, none⟩ (f x)) (some g) := by
  have := World.ownsRow.stored h j (f x)
  unfold GOwn
  rw [List.map_set]
  exact this
theorem GOwn_at {α : Type} {f : α → Value} {e : TypeId} {w : World} {base g n cap : Nat} {l : List α} (h : GOwn f e w base (.slice (some ⟨g, 0, none⟩) n cap) n l) (j : Nat) (hj : j < n) : ∃ x, w.cell? ⟨g, j, none⟩ = some (f x) := by
  have hl := h.len
  rw [World.ownsRow.cellAt h j (by omega)]
  exact ⟨l[j], by simp [show j < l.length by omega]⟩

/-- So many empty texts, made. -/
theorem wpList_mks {w : World} {ops : Array Oper} {rest : List Oper} {o : Oper} {a : Act} {Q : Exit → Act → World → Prop} (hgd : o.guard = none) (s x : Operand)
    (ho : o.op = Op.makeSlice 78 s x) (base n : Nat) (L C : Int) (hs : a.eval s = .int .i64 L) (hx : a.eval x = .int .i64 C) (hL : L = (n : Int)) (hC : C = (n : Int))
    (h63 : n ≤ 1000000) (hbase : base ≤ w.heap.size)
    (h : ∀ w', OwnS w' base (.slice (some ⟨w.heap.size, 0, none⟩) n n) n (List.replicate n []) → w.grownBy w' none → wpList Tryd.prog ops Q rest (a.put o.dst (.slice (some ⟨w.heap.size, 0, none⟩) n n)) w') :
    wpList Tryd.prog ops Q (o :: rest) a w := by
  obtain ⟨i, hi, hz, hsz, hby⟩ := info_parts Tryd.infoStr
  refine wpList_make_full w hgd s x 78 ho base 9 i (.string ⟨#[]⟩) 1 Tryd.underlying78 hi hz hsz .i64 .i64 L C n hs hx hL hC (by rw [hby]; omega) (by simp only [maxLen]; omega) hbase ?_
  intro w' h2 h3
  refine h w' ?_ h3
  simp only [Value.cells, Nat.mul_one, toList_madeCells_one] at h2
  show w'.ownsRow base 9 1 _ n ((List.replicate n []).map sv)
  rw [List.map_replicate]
  exact h2

theorem groupA (n : Nat) (h : n < 65536) (w : World) : Calls Tryd.prog 101 #[.int .u16 (n : Int)] w fun e w' => e = .returned (sv (hx n)) ∧ Below w.heap.size w w' :=
  Hex.group_any n (nd n) w h (nd_le n) (nd_digs n h)
theorem lens_le (M : List (List UInt8)) (h : ∀ x ∈ M, x.length ≤ 4) : Lib.lens M ≤ 4 * M.length := by
  induction M with
  | nil => simp [Lib.lens]
  | cons y t ih =>
    have h1 := ih (fun z hz => h z (by simp [hz]))
    have h2 := h y (by simp)
    simp [Lib.lens] at *
    omega
theorem join_len (L : List (List UInt8)) (h : ∀ x ∈ L, x.length ≤ 4) : (Lib.join L [58]).length ≤ 5 * L.length := by
  cases L with
  | nil => simp [Lib.join_nil]
  | cons x r =>
    rw [Lib.join_length]
    have := lens_le (x :: r) h
    simp only [List.length_cons, List.length_nil] at *
    omega

set_option maxHeartbeats 1000000 in
theorem join_any (A : Option Addr) (n c : Nat) (gs : List Nat) (w : World) (hn : n ≤ 8) (hg : ∀ g ∈ gs, g < 65536) (h : Sh u16v w w.heap.size A n gs) :
    Calls Tryd.prog 79 #[.slice A n c] w fun e w' => e = .returned (sv (row gs)) ∧ Below w.heap.size w w' := by
  have hlen := h.len
  have HM := Lib.hid (fun k g (hk : gs[k]? = some g) => show (gs.map hx)[k]? = some (hx g) by rw [List.getElem?_map, hk]; rfl)
  have HL := Lib.hid (show (gs.map hx).length = n by rw [List.length_map, hlen])
  have HR := Lib.hid (show row gs = Lib.join (gs.map hx) [58] from rfl)
  have HLn := Lib.hid (fun x (hx' : x ∈ gs.map hx) => show x.length ≤ 4 by
    obtain ⟨g, _, rfl⟩ := List.mem_map.1 hx'
    exact hx_len g)
  have Hg := Lib.hid hg
  clear hg hlen
  generalize gs.map hx = M at *
  generalize row gs = R at *
  go_enter Tryd.func79, Tryd.ntmps79
  go_wp2_with (first
    | (at_make; refine wpList_mks rfl _ _ rfl w.heap.size n _ _ rfl rfl rfl rfl (by omega) (Nat.le_refl _) ?_; intro w1 hown hgrow)
    | fail)
  have hW : Below w.heap.size w w1 := ⟨hgrow.os, hgrow.tape, hgrow.output, hgrow.size, fun k hk => hgrow.block k hk (by simp)⟩
  have hown' : OwnS w1 w.heap.size (.slice (some ⟨w.heap.size, 0, none⟩) n n) n (M.take 0 ++ List.replicate (n - 0) []) := hown
  clear hown hgrow
  go_loopw [11] (fun i wr => ∃ k : Nat, k ≤ n ∧ i = .int .i64 (k : Int) ∧ OwnS wr w.heap.size (.slice (some ⟨w.heap.size, 0, none⟩) n n) n (M.take k ++ List.replicate (n - k) []) ∧ Below w.heap.size w wr) (fun i _ => n - (intOf i).toNat)
  case atStart => exact ⟨0, Nat.zero_le _, rfl, hown', hW⟩
  case round =>
    clear hown' hW
    obtain ⟨k, hk, rfl, hown, hbel⟩ := hrel
    have hbs := hbel.size
    by_cases hlt : k < n
    · obtain ⟨b, off, g, rfl, hb, hcell, hgk⟩ := (h.below hbel).elem hlt
      have HC := Lib.hid (fun W => groupA g (Hg.out g (List.mem_of_getElem? hgk)) W)
      have HMk := Lib.hid (HM.out k g hgk)
      have hg16 := Hg.out g (List.mem_of_getElem? hgk)
      clear hgk
      generalize hx g = X at *
      go_wp2_with fail
      refine (HC.out _).mono ?_; rintro e w2 ⟨rfl, hb2⟩
      have b2 := Below.on hbel hbs hb2
      have h3 : wr.grownBy w2 none := ⟨hb2.os, hb2.tape, hb2.output, hb2.size, fun k hk _ => hb2.block k hk⟩
      have o2 : OwnS w2 w.heap.size (.slice (some ⟨w.heap.size, 0, none⟩) n n) n (M.take k ++ List.replicate (n - k) []) := hown.kept h3 (by simp; exact Classical.em _)
      obtain ⟨old, hold⟩ := GOwn_at o2 k hlt
      have hfr := World.ownsRow.frozenAt o2 k
      have hput := GOwn_put o2 k X
      rw [fill_g M [] n k X HL.out HMk.out] at hput
      have Hp := Lib.hid hput
      have HBl := Lib.hid (b2.setCell (p := ⟨w.heap.size, k, none⟩) (Nat.le_refl _) (sv X))
      clear hput o2 h3 hown hbel hb2 b2
      go_wp2
      go_roundw
      case rel => exact ⟨k + 1, by omega, by go_num, Hp.out.1, HBl.out⟩
      case measure => simp [intOf] <;> omega
    · obtain rfl : k = n := by omega
      have hfull : M.take k ++ List.replicate (k - k) [] = M := by rw [Nat.sub_self, List.take_of_length_le (Nat.le_of_eq HL.out)]; simp
      rw [hfull] at hown
      have hJ : ∀ W : World, OwnS W w.heap.size (.slice (some ⟨w.heap.size, 0, none⟩) k k) k M → Calls Tryd.prog 76 #[.slice (some ⟨w.heap.size, 0, none⟩) k k, .string ⟨#[58]⟩] W fun e w' => e = .returned (sv R) ∧ Below W.heap.size W w' := by
        intro W hW
        rcases Nat.eq_zero_or_pos k with h0 | h0
        · subst h0
          have hM : M = [] := List.eq_nil_of_length_eq_zero HL.out
          have := Tryd.strings_Join_none (some ⟨w.heap.size, 0, none⟩) 0 ⟨#[58]⟩ W
          exact this.mono fun e w' ⟨h1, h2⟩ => ⟨by rw [HR.out, hM]; exact h1, h2 ▸ Below.refl _ _⟩
        · obtain ⟨A2, c2, e1, _, _, hs⟩ := GOwn.sh hW
          injection e1 with e1 e2 e3
          subst e1
          obtain ⟨b, off, e4, hlt2, hc⟩ := hs.2 h0
          injection e4 with e4
          injection e4 with e5 e6
          subst e5 e6
          have hxs : (M.map fun x => ByteArray.mk ⟨x⟩).map (·.data.toList) = M := by rw [List.map_map]; exact List.map_id M
          have := Tryd.strings_Join w.heap.size 0 k (M.map fun x => ByteArray.mk ⟨x⟩) ⟨#[58]⟩ W (fun j x hj => by
            rw [List.getElem?_map] at hj
            cases hm : M[j]? with
            | none => rw [hm] at hj; cases hj
            | some y =>
              rw [hm] at hj
              injection hj with hj
              have hjl := (List.getElem?_eq_some_iff.1 hm).1
              have := hc j hjl
              rw [this, (List.getElem?_eq_some_iff.1 hm).2, ← hj]) hlt2 (by rw [List.length_map, HL.out]; omega) (by rw [List.length_map, HL.out]; exact Nat.le_refl _) (by
              rw [hxs]
              have := join_len M HLn.out
              have := HL.out
              show (Lib.join M [58]).length ≤ _
              omega)
          rw [List.length_map, HL.out, hxs] at this
          exact this.mono fun e w' ⟨h1, h2⟩ => ⟨by rw [HR.out]; exact h1, h2⟩
      go_wp2_with fail
      refine (hJ _ hown).mono ?_; rintro e w3 ⟨rfl, hb3⟩
      have b3 := Below.on hbel hbs hb3
      go_wp2
      go_ret
      exact ⟨rfl, b3⟩

theorem or256 (x y : Nat) (hx : x < 256) (hy : y < 256) : bits .or .u16 ((x : Int) * 256) (y : Int) = ((256 * x + y : Nat) : Int) := by
  have e : 256 * x ||| y = 256 * x + y := by
    have := Nat.shiftLeft_add_eq_or_of_lt (b := y) (i := 8) hy x
    rw [Nat.shiftLeft_eq] at this
    rw [Nat.mul_comm 256 x]
    exact this.symm
  have hl : 256 * x ||| y < 2 ^ 16 := by rw [e]; omega
  show IntKind.u16.wrap ((BitVec.ofInt 16 ((x : Int) * 256) ||| BitVec.ofInt 16 (y : Int)).toNat : Int) = _
  rw [BitVec.toNat_or, BitVec.toNat_ofInt, BitVec.toNat_ofInt]
  have e1 : (((x : Int) * 256) % ((2 ^ 16 : Nat) : Int)).toNat = 256 * x := by omega
  have e2 : ((y : Int) % ((2 ^ 16 : Nat) : Int)).toNat = y := by omega
  rw [e1, e2, e]
  simp [IntKind.wrap, IntKind.bits, IntKind.signed]
  omega

theorem ret16 {a b : Int} (h : a = b) : Ending.returned (.int .u16 a) = .returned (.int .u16 b) := by rw [h]
theorem pair_any (x y : UInt8) (w : World) : Calls Tryd.prog 100 #[.int .u8 (x.toNat : Int), .int .u8 (y.toNat : Int)] w fun e w' => e = .returned (.int .u16 ((256 * x.toNat + y.toNat : Nat) : Int)) ∧ w = w' := by
  have hx := x.toNat_lt
  have hy := y.toNat_lt
  have hor := or256 x.toNat y.toNat (by omega) (by omega)
  go_enter Tryd.func100, Tryd.ntmps100
  go_wp2
  go_ret
  exact ⟨ret16 (by omega), rfl⟩

end Go.Proofs.YtccidoigjdbepaaDoor.Cl
