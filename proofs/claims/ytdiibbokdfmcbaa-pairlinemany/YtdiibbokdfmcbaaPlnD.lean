
/- Rows of pairs; contract: each, from pairs to lines. -/
import Derived.Test.YtdiibbokdfmcbaaPlnC
import Derived.Laws.AppendOwn
namespace Go.Proofs.Ytdiibbokdfmcbaa.Pln
open Go.RowKit Lin
set_option maxRecDepth 100000

/-- The pairs that a slice value shows. -/
def ShP (w : World) (B : Nat) (A : Option Addr) (n : Nat) (l : List Pr) : Prop :=
  l.length = n ∧ (0 < n → ∃ b off, A = some ⟨b, off, none⟩ ∧ b < B ∧ ∀ j (h : j < l.length), w.cell? ⟨b, off + j * 2, none⟩ = some (sv (l[j]'h).1) ∧ w.cell? ⟨b, off + j * 2 + 1, none⟩ = some (sv (l[j]'h).2))
theorem ShP.len {w : World} {B n : Nat} {A : Option Addr} {l : List Pr} (h : ShP w B A n l) : l.length = n := h.1
theorem ShP.elem {w : World} {B n : Nat} {A : Option Addr} {l : List Pr} (h : ShP w B A n l) {k : Nat} (hk : k < n) :
    ∃ (b off : Nat) (p : Pr), A = some ⟨b, off, none⟩ ∧ b < B ∧ w.cell? ⟨b, off + k * 2, none⟩ = some (sv p.1) ∧ w.cell? ⟨b, off + k * 2 + 1, none⟩ = some (sv p.2) ∧ l[k]? = some p := by
  obtain ⟨b, off, e, hb, hc⟩ := h.2 (by omega)
  have hl : k < l.length := by have := h.1; omega
  exact ⟨b, off, _, e, hb, (hc k hl).1, (hc k hl).2, List.getElem?_eq_getElem hl⟩
theorem ShP.below {w w' : World} {B n : Nat} {A : Option Addr} {l : List Pr} (h : ShP w B A n l) (hb : Below B w w') : ShP w' B A n l :=
  ⟨h.1, fun hn => by
    obtain ⟨b, off, e, hlt, hc⟩ := h.2 hn
    exact ⟨b, off, e, hlt, fun j hj => ⟨(hb.cell hlt).trans (hc j hj).1, (hb.cell hlt).trans (hc j hj).2⟩⟩⟩
theorem ShP.up {w : World} {B B' n : Nat} {A : Option Addr} {l : List Pr} (h : ShP w B A n l) (hB : B ≤ B') : ShP w B' A n l :=
  ⟨h.1, fun hn => by
    obtain ⟨b, off, e, hlt, hc⟩ := h.2 hn
    exact ⟨b, off, e, by omega, hc⟩⟩
theorem ShP.on {w w' : World} {n : Nat} {A : Option Addr} {l : List Pr} (h : ShP w w.heap.size A n l) (hb : Below w.heap.size w w') : ShP w' w'.heap.size A n l := (h.below hb).up hb.size
theorem ShP.none_ {w : World} {B : Nat} : ShP w B none 0 [] := ⟨rfl, fun h => absurd h (by omega)⟩

theorem take_snoc {α β : Type} (f : α → β) (l : List α) (k : Nat) (x : α) (h : l[k]? = some x) : (l.map f).take (k + 1) = (l.map f).take k ++ [f x] := by
  obtain ⟨hk, rfl⟩ := List.getElem?_eq_some_iff.1 h
  rw [List.take_succ_eq_append_getElem (by simpa using hk)]
  simp
theorem at_map {α β : Type} (f : α → β) (l : List α) (k : Nat) (x : α) (h : l[k]? = some x) : (l.map f)[k]? = some (f x) := by simp [h]

theorem own_keep {w w' : World} {base : Nat} {e : TypeId} {size : Nat} {v : Value} {n : Nat} {xs : List Value} (h : w.ownsRow base e size v n xs) (hb : Below w.heap.size w w') : w'.ownsRow base e size v n xs := by
  have h3 : w.grownBy w' none := ⟨hb.os, hb.tape, hb.output, hb.size, fun k hk _ => hb.block k hk⟩
  exact h.kept h3 (by cases hv : v.ownBlock <;> simp)

set_option maxHeartbeats 1000000 in
theorem eachT_any (A : Option Addr) (n c : Nat) (ps : List Pr) (w : World) (hn : n ≤ 1000000) (hsz : ∀ p ∈ ps, p.1.length ≤ 100000 ∧ p.2.length ≤ 100000) (h : ShP w w.heap.size A n ps) :
    Calls Try.prog 21 #[.slice A n c, .func (.func 8) #[] #[]] w fun e w' =>
      (∃ v, e = .returned (.tuple #[v, .int .i64 (fstE (ps.map fun p => tE p.1 p.2) : Int)]) ∧ (fstE (ps.map fun p => tE p.1 p.2) = 0 → OwnS w' w.heap.size v n (ps.map fun p => tL p.1 p.2)) ∧ (fstE (ps.map fun p => tE p.1 p.2) ≠ 0 → v = .slice none 0 0)) ∧ Below w.heap.size w w' := by
  have HT := Lib.hid (fun k p (hp : ps[k]? = some p) => take_snoc (fun p : Pr => tL p.1 p.2) ps k p hp)
  have HE := Lib.hid (fun k p (hp : ps[k]? = some p) => at_map (fun p : Pr => tE p.1 p.2) ps k p hp)
  have hlen := h.len
  have HL := Lib.hid (show (ps.map fun p => tE p.1 p.2).length = n by rw [List.length_map, hlen])
  have HTn := Lib.hid (show (ps.map fun p : Pr => tL p.1 p.2).take n = ps.map fun p => tL p.1 p.2 by rw [List.take_of_length_le]; simp; omega)
  have Hsz := Lib.hid hsz
  clear hlen hsz
  generalize (ps.map fun p => tE p.1 p.2) = es at *
  generalize (ps.map fun p : Pr => tL p.1 p.2) = T at *
  go_enter Try.func21, Try.ntmps21
  go_wp2
  go_loopw [6, 13] (fun v i wr => ∃ k : Nat, k ≤ n ∧ i = .int .i64 k ∧ Hid (∀ j < k, es[j]? = some 0) ∧ OwnS wr w.heap.size v k (T.take k) ∧ Below w.heap.size w wr) (fun _ i _ => n - (intOf i).toNat)
  case atStart => exact ⟨0, Nat.zero_le _, rfl, Lib.hid (fun j hj => absurd hj (by omega)), World.ownsRow_nil _ _ _ _, Below.refl _ _⟩
  case round =>
    obtain ⟨k, hk, rfl, hz, hown, hbel⟩ := hrel
    have hbs := hbel.size
    by_cases hlt : k < n
    · obtain ⟨b, off, p, rfl, hb, p0, p1, hp⟩ := (h.below hbel).elem hlt
      have HP := Lib.hid hp
      have hs := Hsz.out p (List.mem_of_getElem? hp)
      have hE := HE.out k p hp
      have HS := Lib.hid (HT.out k p hp)
      have HC := Lib.hid (fun W => text_any p.1 p.2 W hs.1 hs.2)
      have HE2 := Lib.hid hE
      clear hp hs hE
      generalize tE p.1 p.2 = e1 at *
      generalize tL p.1 p.2 = t1 at *
      unfold sv at p0 p1 HC
      generalize ByteArray.mk ⟨p.1⟩ = K at *
      generalize ByteArray.mk ⟨p.2⟩ = V at *
      go_wp2_with fail
      refine (HC.out _).mono ?_; rintro e w2 ⟨rfl, hb2⟩
      have b1 := hbel.alloc hbs (.cells #[.string K, .string V] 27)
      have b2 := Below.on b1 b1.size (by exact hb2)
      have o2 := own_keep (hown.alloc _) (by exact hb2)
      have hsz2 := b2.size
      clear hb2 b1 hown hbel
      by_cases he : e1 = 0
      · subst he
        go_wp2_with (at_builtin; refine wpList_apps _ rfl _ _ rfl w.heap.size _ _ _ rfl (o2.alloc _) ⟨w2.heap.size, 0, none⟩ 1 t1 rfl (one_new _ _ _ _ rfl) (by omega) (by simp; omega) ?_; intro v' w3 hown' hgrow)
        have b3 : Below w.heap.size w w3 := by
          refine Below.grown ?_ hgrow ?_ (fun g hg => (o2.lt g hg).1)
          · exact b2.alloc hsz2 _
          · simp; omega
        clear hgrow
        go_wp2
        go_roundw
        case rel =>
          refine ⟨k + 1, by omega, by go_num, Lib.hid (fun j hj => ?_), by rw [HS.out]; exact hown', b3⟩
          rcases Nat.lt_or_ge j k with h1 | h1
          · exact hz.out j h1
          · obtain rfl : j = k := by omega
            exact HE2.out
        case measure => simp [intOf] <;> omega
      · have hne : ((e1 : Int) != 0) = true := by rw [bne_iff_ne]; omega
        have HF := Lib.hid (fstE_at es k e1 HE2.out he hz.out)
        have hF0 : fstE es ≠ 0 := by rw [HF.out]; exact he
        go_wp2
        go_ret2
        exact ⟨⟨_, by rw [HF.out]; rfl, fun h0 => absurd h0 hF0, fun _ => rfl⟩, b2⟩
    · obtain rfl : k = n := by omega
      have HF := Lib.hid ((fstE_ok es).2 (fun e he => by
        obtain ⟨j, hj, rfl⟩ := List.mem_iff_getElem.1 he
        have h1 := hz.out j (by rw [← HL.out]; exact hj)
        rw [List.getElem?_eq_getElem hj] at h1
        injection h1))
      go_wp2
      go_ret2
      exact ⟨⟨_, by rw [HF.out]; rfl, fun _ => by rw [← HTn.out]; exact hown, fun h0 => absurd HF.out h0⟩, hbel⟩

end Go.Proofs.Ytdiibbokdfmcbaa.Pln
