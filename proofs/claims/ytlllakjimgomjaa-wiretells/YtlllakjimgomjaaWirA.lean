
/- Messages of any kind: words. -/
import Derived.Test.YtlllakjimgomjaaMsgE
import Derived.Test.YtlllakjimgomjaaIniB
import Derived.Test.YtlllakjimgomjaaAnsB
import Derived.Test.YtlllakjimgomjaaCokB
import Derived.Test.YtlllakjimgomjaaDatB
import Derived.Deep.MidRow
namespace Go.Proofs.Ytlllakjimgomjaa
open Go.RowKit

/-- The cells of a message of any kind. -/
def wcs (k : Int) (i r c t : Array Value) : Array Value := ([Value.int .i64 k] ++ (i.toList ++ (r.toList ++ (c.toList ++ t.toList)))).toArray
structure Wsz (i r c t : Array Value) : Prop where
  i : i.size = 141
  r : r.size = 82
  c : c.size = 57
  t : t.size = 3
theorem wcs_size {i r c t : Array Value} (k : Int) (h : Wsz i r c t) : (wcs k i r c t).size = 284 := by
  have h1 := h.i; have h2 := h.r; have h3 := h.c; have h4 := h.t
  simp [wcs]; omega
theorem wcs_set0 (k k' : Int) (i r c t : Array Value) : (wcs k i r c t).setIfInBounds 0 (.int .i64 k') = wcs k' i r c t := by
  apply Array.ext'
  simp [wcs]
def One (a : Array Value) : Prop := (a.all fun x => x.oneCell') = true
theorem wcs_one {k : Int} {i r c t : Array Value} (hi : One i) (hr : One r) (hc : One c) (ht : One t) : One (wcs k i r c t) := by
  unfold One at *
  rw [Array.all_eq_true_iff_forall_mem] at *
  intro x hx
  simp [wcs] at hx
  rcases hx with rfl | hx | hx | hx | hx
  · rfl
  · exact hi x hx
  · exact hr x hx
  · exact hc x hx
  · exact ht x hx

section
variable {P : Program} {w w' : World} {g : Nat} {tm : TypeId} {k : Int} {i r c t : Array Value}
theorem Blk.kind (h : Blk w g tm (wcs k i r c t)) : w.cell? ⟨g, 0, none⟩ = some (.int .i64 k) := by
  rw [cell_of_row w g 0 _ tm _ h]
  simp [wcs]
/-- A piece of a block. -/
theorem blk_range {pre mid post : List Value} (h : Blk w g tm (pre ++ (mid ++ post)).toArray) : w.rangeAt g pre.length mid := by
  intro j v hv
  obtain ⟨hj, rfl⟩ := List.getElem?_eq_some_iff.1 hv
  rw [cell_of_row w g _ _ tm _ h, List.getElem?_toArray, List.getElem?_append_right (by omega), Nat.add_sub_cancel_left, List.getElem?_append_left hj, hv]
theorem blk_there {pre mid post : List Value} (h : Blk w g tm (pre ++ (mid ++ post)).toArray) : w.there g pre.length mid.length := fun j hj =>
  ⟨by rw [blk_range h j _ (List.getElem?_eq_getElem hj)]; rfl, h.frozen _⟩
theorem blk_setCells {post : List Value} : ∀ (vs mid pre : List Value) (w : World), vs.length = mid.length → Blk w g tm (pre ++ (mid ++ post)).toArray →
    Blk (w.setCells g pre.length vs) g tm (pre ++ (vs ++ post)).toArray ∧ w.grownBy (w.setCells g pre.length vs) (some g)
  | [], [], pre, w, _, h => ⟨h, rfl, rfl, rfl, Nat.le_refl _, fun _ _ _ => rfl⟩
  | [], _ :: _, _, _, h, _ => by simp at h
  | _ :: _, [], _, _, h, _ => by simp at h
  | v :: vs, m :: mid, pre, w, hl, h => by
    have h1 := h.setCell pre.length v
    have e : ((pre ++ (m :: mid ++ post)).toArray.setIfInBounds pre.length v) = ((pre ++ [v]) ++ (mid ++ post)).toArray := by
      apply Array.ext'
      simp
    rw [e] at h1
    obtain ⟨h2, h3⟩ := blk_setCells vs mid (pre ++ [v]) (w.setCell ⟨g, pre.length, none⟩ v) (by simpa using hl) h1
    rw [World.setCells]
    have e2 : (pre ++ [v]).length = pre.length + 1 := by simp
    rw [e2] at h2 h3
    have e3 : pre ++ [v] ++ (vs ++ post) = pre ++ (v :: vs ++ post) := by simp
    rw [e3] at h2
    exact ⟨h2, grown_trans (setCell_grown w g pre.length v) h3⟩

theorem wpList_loadMid {ops : Array Oper} {rest : List Oper} {o : Oper} {a : Act} {Q : Exit → Act → World → Prop} (hw : Region.wanted o (yielded ops a.tmps) = true) (ty : TypeId) (x : Operand) (ho : o.op = .load ty x)
    (off : Nat) (hx : a.eval x = .pointer (some ⟨g, off, none⟩)) (cs : Array Value) (d : TypeDesc) (hc : w.rangeAt g off cs.toList)
    (hu : P.underlying ty = some d) (hd : d.isRow = true) (hi : (P.info? ty).map (·.size) = some cs.size)
    (h : wpList P ops Q rest (a.put o.dst (.agg cs)) w) : wpList P ops Q (o :: rest) a w :=
  wpList_on hw (wp_load_mid ty x ho g off hx cs.toList d hc hu hd (by simpa using hi) h)
theorem wpList_storeMid {ops : Array Oper} {rest : List Oper} {o : Oper} {a : Act} {Q : Exit → Act → World → Prop} {pre mid post : List Value} (hgd : o.guard = none) (ty : TypeId) (x y : Operand) (ho : o.op = .store ty x y)
    (off : Nat) (hx : a.eval x = .pointer (some ⟨g, off, none⟩)) (cs : Array Value) (hy : a.eval y = .agg cs) (hB : Blk w g tm (pre ++ (mid ++ post)).toArray) (hoff : off = pre.length) (hl : cs.size = mid.length)
    (hi : (P.info? ty).map (·.size) = some cs.size) (h1 : One cs)
    (h : ∀ w', Blk w' g tm (pre ++ (cs.toList ++ post)).toArray → w.grownBy w' (some g) → wpList P ops Q rest (a.put o.dst undef) w') : wpList P ops Q (o :: rest) a w := by
  subst hoff
  obtain ⟨h2, h3⟩ := blk_setCells cs.toList mid pre w (by simpa using hl) hB
  exact wpList_store_mid hgd ty x y ho g pre.length cs hx hy (by rw [hl]; exact blk_there hB) hi h1 (h _ h2 h3)
end

/-- The four parts, each between what is ahead of it and what is behind. -/
theorem wcs_I (k : Int) (i r c t : Array Value) : wcs k i r c t = ([Value.int .i64 k] ++ (i.toList ++ (r.toList ++ (c.toList ++ t.toList)))).toArray := rfl
theorem wcs_R (k : Int) (i r c t : Array Value) : wcs k i r c t = (([Value.int .i64 k] ++ i.toList) ++ (r.toList ++ (c.toList ++ t.toList))).toArray := by simp [wcs]
theorem wcs_C (k : Int) (i r c t : Array Value) : wcs k i r c t = (([Value.int .i64 k] ++ i.toList ++ r.toList) ++ (c.toList ++ t.toList)).toArray := by simp [wcs]
theorem wcs_T (k : Int) (i r c t : Array Value) : wcs k i r c t = (([Value.int .i64 k] ++ i.toList ++ r.toList ++ c.toList) ++ (t.toList ++ [])).toArray := by simp [wcs]

/-- The zero parts, by names that are not opened. -/
def zI : Array Value := mcs [0] (zer 140)
def zR : Array Value := mcs [0, 0] (zer 80)
def zC : Array Value := mcs [0] (zer 56)
def zT : Array Value := trv 0 0 none 0 0
theorem zsz : Wsz zI zR zC zT := ⟨by simp [zI, mcs_size, zer_len], by simp [zR, mcs_size, zer_len], by simp [zC, mcs_size, zer_len], rfl⟩
theorem zone : One zI ∧ One zR ∧ One zC ∧ One zT := ⟨mcs_one _ _, mcs_one _ _, mcs_one _ _, one_trv 0 0 none 0 0⟩
theorem Try.zeroMsg : (Try.prog.info? 58).map (fun i => (i.zero, i.size)) = some (some (.agg (wcs 0 zI zR zC zT)), 284) := by kernel_rfl
theorem Try.infoMsg : (Try.prog.info? 58).map (·.size) = some 284 := by kernel_rfl
theorem msg_size {i r c t : Array Value} (k : Int) (h : Wsz i r c t) : (Try.prog.info? 58).map (·.size) = some (wcs k i r c t).size := by rw [Try.infoMsg, wcs_size k h]

end Go.Proofs.Ytlllakjimgomjaa
