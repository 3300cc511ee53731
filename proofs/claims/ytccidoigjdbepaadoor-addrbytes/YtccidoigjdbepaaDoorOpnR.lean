
/- Prefixes, endpoints, peers' changes and requests as arguments, with the slices inside them. -/
import Derived.Test.YtccidoigjdbepaaDoorZOpn
import Derived.Deep.Slices
import Derived.Deep.MidRow
namespace Go.Proofs.YtccidoigjdbepaaDoor
open Go.ChangeShapes Go.WideShapes Go.ChangeAt Go.RowKit
set_option maxRecDepth 100000
set_option linter.unusedVariables false
set_option linter.unusedSimpArgs false

/-- A slice whose elements are rows of k cells. -/
def ShK {α : Type} (f : α → List Value) (k : Nat) (w : World) (B : Nat) (A : Option Addr) (n : Nat) (L : List α) : Prop :=
  L.length = n ∧ (0 < n → ∃ b off, A = some ⟨b, off, none⟩ ∧ b < B ∧ ∀ j (h : j < L.length), w.rangeAt b (off + j * k) (f L[j]))
theorem ShK.len {α : Type} {f : α → List Value} {k : Nat} {w : World} {B n : Nat} {A : Option Addr} {L : List α} (h : ShK f k w B A n L) : L.length = n := h.1
theorem ShK.below {α : Type} {f : α → List Value} {k : Nat} {w w' : World} {B n : Nat} {A : Option Addr} {L : List α} (h : ShK f k w B A n L) (hb : Below B w w') : ShK f k w' B A n L := by
  refine ⟨h.1, fun hn => ?_⟩
  obtain ⟨b, off, e, hlt, hc⟩ := h.2 hn
  refine ⟨b, off, e, hlt, fun j hj i v hv => ?_⟩
  have h1 := hc j hj i v hv
  unfold World.cell? at h1 ⊢
  rw [hb.block b hlt]
  exact h1
theorem ShK.up {α : Type} {f : α → List Value} {k : Nat} {w : World} {B B' n : Nat} {A : Option Addr} {L : List α} (h : ShK f k w B A n L) (hb : B ≤ B') : ShK f k w B' A n L :=
  ⟨h.1, fun hn => let ⟨b, off, e, hlt, hc⟩ := h.2 hn; ⟨b, off, e, by omega, hc⟩⟩
theorem ShK.elem {α : Type} {f : α → List Value} {k : Nat} {w : World} {B n : Nat} {A : Option Addr} {L : List α} (h : ShK f k w B A n L) {j : Nat} (hj : j < n) : ∃ b off p, A = some ⟨b, off, none⟩ ∧ b < B ∧ L[j]? = some p ∧ w.rangeAt b (off + j * k) (f p) := by
  obtain ⟨b, off, e, hlt, hc⟩ := h.2 (by omega)
  exact ⟨b, off, L[j]'(by rw [h.1]; exact hj), e, hlt, List.getElem?_eq_getElem _, hc j (by rw [h.1]; exact hj)⟩
theorem ShK.none {α : Type} {f : α → List Value} {k : Nat} {w : World} {B : Nat} : ShK f k w B Option.none 0 ([] : List α) := ⟨rfl, fun h => absurd h (by omega)⟩

section
variable {H : Type} {enc : TypeId × Value → H} {P : Program} {w : World} {fuel : Nat} {cs : List Value} {x : DataW H × List MemPlace}
theorem open_rows {α : Type} (dflt : α) (f : α → List Value) (k : Nat) (R : α → Prop) {t e : TypeId} (ht : P.underlying t = some (.slice e)) (ce : P.cellsOf e = k) (hk : 0 < k)
    (read : ∀ (fuel : Nat) (cs : List Value) (x : DataW H × List MemPlace), DataW.trod enc P w 0 (fun _ => true) true fuel e cs = some x → ∃ a, cs = f a ∧ R a)
    (h : DataW.trod enc P w 0 (fun _ => true) true fuel t cs = some x) :
    ∃ (A : Option Addr) (n c : Nat) (L : List α), cs = [.slice A n c] ∧ (n ≤ c ∧ c ≤ maxLen) ∧ ShK f k w w.heap.size A n L ∧ ∀ p ∈ L, R p := by
  rcases Go.Deep.open_slice ht h with ⟨rfl, _⟩ | ⟨a, n, c, m, fu, D, Pl, rfl, _, hl, hm, hmm, _, hel⟩
  · exact ⟨none, 0, 0, [], rfl, ⟨Nat.le_refl _, by simp [maxLen]⟩, ShK.none, fun p hp => by cases hp⟩
  · have hmn : n ≤ m := by rw [hmm]; split <;> omega
    have each : ∀ i, i < n → ∃ p : α, w.cells? 0 (a.add (i * k)) k = some (f p) ∧ R p := by
      intro i hi
      obtain ⟨cs', h1, h2⟩ := hel i (by omega)
      rw [ce] at h1
      obtain ⟨p, rfl, hp⟩ := read _ _ _ h2
      exact ⟨p, h1, hp⟩
    haveI : Inhabited α := ⟨dflt⟩
    obtain ⟨V, hV⟩ := Go.Deep.choose_lt each
    refine ⟨some a, n, c, (List.range n).map V, rfl, ⟨hl, hm⟩, ⟨by simp, fun hn => ?_⟩, fun p hp => ?_⟩
    · obtain ⟨b, off, spot⟩ := a
      have c0 := World.cells?_some (hV 0 (by omega)).1
      have hlen := c0.2.1
      obtain ⟨v0, hv0⟩ : ∃ v, (f (V 0))[0]? = some v := ⟨_, List.getElem?_eq_getElem (by omega)⟩
      have hc0 : w.cell? ⟨b, off, spot⟩ = some v0 := by
        have := c0.2.2 0 hk
        rw [hv0] at this
        simpa [Addr.add] using this
      have hspot : spot = none := by simpa using World.cell?_spot hc0
      subst hspot
      have hlt : b < w.heap.size := by simpa using World.block_lt_of_cell? w _ hc0
      refine ⟨b, off, rfl, hlt, fun j hj i v hv => ?_⟩
      have hj' : j < n := by simpa using hj
      simp only [List.getElem_map, List.getElem_range] at hv
      obtain ⟨_, hln, hcell⟩ := World.cells?_some (hV j hj').1
      have hi : i < k := by
        have := (List.getElem?_eq_some_iff.1 hv).1
        omega
      have h1 := hcell i hi
      rw [hv, Go.Deep.add_add] at h1
      rw [Addr.add_mid] at h1
      rw [Nat.add_assoc]
      exact h1
    · obtain ⟨i, hi, rfl⟩ := List.mem_map.1 hp
      exact (hV i (List.mem_range.1 hi)).2
end

/-! Prefixes, endpoints. -/
structure Pfx where
  v : Int
  l : List UInt8
  bits : Int
def pfxC (p : Pfx) : List Value := (adv p.v p.l).toList ++ [.int .i64 p.bits]
def pfxOk (p : Pfx) : Prop := in64 p.v ∧ p.l.length = 16 ∧ in64 p.bits

set_option maxRecDepth 100000 in
theorem trod_Prefix {H : Type} {enc : TypeId × Value → H} {w : World} {fuel : Nat} {cs : List Value} {y : DataW H × List MemPlace} (hf : DataW.trod enc Tryd.prog w 0 (fun _ => true) true fuel 45 cs = some y) :
    ∃ p : Pfx, cs = pfxC p ∧ pfxOk p := by
  obtain ⟨xs, m, _, _, hs, hxs, hel⟩ := DataW.trod_struct Tryd.underlying45 hf
  rw [show Tryd.prog.cellsOf 45 = 18 by kernel_rfl] at hs
  have hx : xs.length = 2 := hxs
  have h0 := hel 0 _ rfl
  rw [List.getElem?_eq_getElem (by omega)] at h0
  obtain ⟨v, l, e0, hv, hl⟩ := trod_Addr h0
  have g0 : (cs.drop 0).take (Tryd.prog.cellsOf 24) = (adv v l).toList := e0
  rw [show Tryd.prog.cellsOf 24 = 17 by kernel_rfl] at g0
  have y0 := cut_at cs 0 17 17 rfl
  rw [g0] at y0
  have h1 := hel 1 _ rfl
  rw [List.getElem?_eq_getElem (by omega)] at h1
  obtain ⟨b, e1, hb⟩ := trod_i64 Tryd.underlying3 h1
  have g1 : (cs.drop 17).take (Tryd.prog.cellsOf 3) = [.int .i64 b] := e1
  rw [show Tryd.prog.cellsOf 3 = 1 by kernel_rfl] at g1
  have y1 := cut_at cs 17 1 18 rfl
  rw [g1] at y1
  rw [List.drop_eq_nil_of_le (show cs.length ≤ 18 by omega), List.append_nil] at y1
  refine ⟨⟨v, l, b⟩, ?_, hv, hl, hb⟩
  refine (List.drop_zero (l := cs)).symm.trans ((y0.trans (congrArg (fun z => ((adv v l).toList : List Value) ++ z) y1)).trans ?_)
  rfl

set_option maxRecDepth 100000 in
theorem trod_Endpoint {H : Type} {enc : TypeId × Value → H} {w : World} {fuel : Nat} {cs : List Value} {y : DataW H × List MemPlace} (hf : DataW.trod enc Tryd.prog w 0 (fun _ => true) true fuel 60 cs = some y) :
    ∃ p : Pfx, cs = pfxC p ∧ pfxOk p := by
  obtain ⟨xs, m, _, _, hs, hxs, hel⟩ := DataW.trod_struct Tryd.underlying60 hf
  rw [show Tryd.prog.cellsOf 60 = 18 by kernel_rfl] at hs
  have hx : xs.length = 2 := hxs
  have h0 := hel 0 _ rfl
  rw [List.getElem?_eq_getElem (by omega)] at h0
  obtain ⟨v, l, e0, hv, hl⟩ := trod_Addr h0
  have g0 : (cs.drop 0).take (Tryd.prog.cellsOf 24) = (adv v l).toList := e0
  rw [show Tryd.prog.cellsOf 24 = 17 by kernel_rfl] at g0
  have y0 := cut_at cs 0 17 17 rfl
  rw [g0] at y0
  have h1 := hel 1 _ rfl
  rw [List.getElem?_eq_getElem (by omega)] at h1
  obtain ⟨b, e1, hb⟩ := trod_i64 Tryd.underlying3 h1
  have g1 : (cs.drop 17).take (Tryd.prog.cellsOf 3) = [.int .i64 b] := e1
  rw [show Tryd.prog.cellsOf 3 = 1 by kernel_rfl] at g1
  have y1 := cut_at cs 17 1 18 rfl
  rw [g1] at y1
  rw [List.drop_eq_nil_of_le (show cs.length ≤ 18 by omega), List.append_nil] at y1
  refine ⟨⟨v, l, b⟩, ?_, hv, hl, hb⟩
  refine (List.drop_zero (l := cs)).symm.trans ((y0.trans (congrArg (fun z => ((adv v l).toList : List Value) ++ z) y1)).trans ?_)
  rfl

/-! Peers' changes, requests. -/
structure PCh where
  key : List UInt8
  rm : Bool
  up : Bool
  hp : Bool
  psk : List UInt8
  he : Bool
  ep : Pfx
  hk : Bool
  keep : Int
  rp : Bool
  A : Option Addr
  n : Nat
  c : Nat
  ps : List Pfx
def pchC (p : PCh) : List Value :=
  p.key.map bv ++ ([.bool p.rm] ++ ([.bool p.up] ++ ([.bool p.hp] ++ (p.psk.map bv ++ ([.bool p.he] ++ (pfxC p.ep ++ ([.bool p.hk] ++ ([.int .i64 p.keep] ++ ([.bool p.rp] ++ [.slice p.A p.n p.c])))))))))
def pchOk (w : World) (p : PCh) : Prop :=
  p.key.length = 32 ∧ p.psk.length = 32 ∧ pfxOk p.ep ∧ in64 p.keep ∧ (p.n ≤ p.c ∧ p.c ≤ maxLen) ∧ ShK pfxC 18 w w.heap.size p.A p.n p.ps ∧ ∀ q ∈ p.ps, pfxOk q
structure Rqs where
  hpv : Bool
  pv : List UInt8
  hpo : Bool
  port : Int
  hmk : Bool
  mark : Nat
  rep : Bool
  A : Option Addr
  n : Nat
  c : Nat
  ps : List PCh
def rqsC (p : Rqs) : List Value :=
  [.bool p.hpv] ++ (p.pv.map bv ++ ([.bool p.hpo] ++ ([.int .i64 p.port] ++ ([.bool p.hmk] ++ ([.int .u32 (p.mark : Int)] ++ ([.bool p.rep] ++ [.slice p.A p.n p.c]))))))
def rqsOk (w : World) (p : Rqs) : Prop :=
  p.pv.length = 32 ∧ in64 p.port ∧ p.mark < 4294967296 ∧ (p.n ≤ p.c ∧ p.c ≤ maxLen) ∧ ShK pchC 90 w w.heap.size p.A p.n p.ps ∧ ∀ q ∈ p.ps, pchOk w q

end Go.Proofs.YtccidoigjdbepaaDoor
