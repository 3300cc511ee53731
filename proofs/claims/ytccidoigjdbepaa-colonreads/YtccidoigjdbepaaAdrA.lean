
/- Addresses: own words for them; contracts: addr.Four. -/
import Derived.Test.YtccidoigjdbepaaApp
import Derived.Laws.CopyOwn
namespace Go.Proofs.Ytccidoigjdbepaa
open Go.RowKit
set_option maxRecDepth 100000

/-- An address's cells. -/
def adv (v : Int) (l : List UInt8) : Array Value := (Value.int .i64 v :: l.map bv).toArray
def zb (n : Nat) : List UInt8 := List.replicate n 0
theorem zb_len (n : Nat) : (zb n).length = n := by simp [zb]
theorem adv_size (v : Int) (l : List UInt8) (h : l.length = 16) : (adv v l).size = 17 := by simp [adv, h]
theorem adv_one (v : Int) (l : List UInt8) : ((adv v l).all fun x => x.oneCell') = true := by
  unfold adv
  rw [List.all_toArray, List.all_eq_true]
  intro x hx
  simp at hx
  rcases hx with rfl | ⟨y, _, rfl⟩ <;> rfl
theorem adv_v (v : Int) (l : List UInt8) : (adv v l)[0]? = some (.int .i64 v) := by simp [adv]
theorem adv_b (v : Int) (l : List UInt8) (j : Nat) (c : UInt8) (h : l[j]? = some c) : (adv v l)[1 + j]? = some (bv c) := by
  simp [adv, Nat.add_comm 1 j, h]
theorem adv_splice (v : Int) (l x : List UInt8) : (splice (adv v l).toList 1 (x.map bv)).toArray = adv v (x ++ l.drop x.length) := by
  simp [adv, splice]
  rw [Nat.add_comm, List.drop_succ_cons]

section
variable {w w' : World} {g : Nat} {t : TypeId} {v : Int} {l : List UInt8}
theorem Blk.adv0 (h : Blk w g t (adv v l)) : w.cell? ⟨g, 0, none⟩ = some (.int .i64 v) := by
  unfold World.cell?; rw [h]; simpa using adv_v v l
theorem Blk.advShows (h : Blk w g t (adv v l)) (m : Nat) (hm : m ≤ l.length) : Shows w w.heap.size (some ⟨g, 1, none⟩) m (l.take m) := by
  refine ⟨by simp; omega, fun _ => ⟨g, 1, rfl, h.lt, fun j hj => ?_⟩⟩
  have hj' : j < l.length := by simp at hj; omega
  unfold World.cell?
  rw [h]
  have := adv_b v l j l[j] (List.getElem?_eq_getElem hj')
  simpa using this
theorem Blk.frz {cs : Array Value} (h : Blk w g t cs) (j : Nat) : w.frozen? ⟨g, j, none⟩ = false := by unfold World.frozen?; rw [h]; simp
end

/-- Bytes copied into an address: one step of a region that draws its order. -/
theorem step_copyAdr {ops : Array Oper} {o : Oper} {a : Act} {w : World} {K : Act → World → Prop} {Q : Exit → Act → World → Prop} {E : Prop} (hgd : o.guard = none) (d s : Operand)
    (ho : o.op = .call { callee := .builtin .copy, args := #[d, s], argTypes := #[66, 66] })
    (g m dc sc : Nat) (ad : Addr) (hd : a.eval d = .slice (some ⟨g, 1, none⟩) 16 dc) (hs : a.eval s = .slice (some ad) m sc)
    (t : TypeId) (v : Int) (l x : List UInt8) (hB : Blk w g t (adv v l)) (hl : l.length = 16) (hm : m ≤ 16) (hsh : Shows w w.heap.size (some ad) m x)
    (h : ∀ w', Blk w' g t (adv v (x ++ l.drop m)) → Below g w w' → K (a.put o.dst (goInt m)) w') :
    if Region.wanted o (yielded ops a.tmps) = true then Oper.wp Try.prog o a w K Q else E := by
  have hx := hsh.len
  refine step_copy_splice hgd d s 66 66 ho 5 Try.underlying66 Try.sizeU8 (some ⟨g, 1, none⟩) (some ad) 16 dc m sc hd hs g 1 (adv v l).toList t hB (x.map bv) ?_ ?_ ?_ ?_ g w (Below.refl _ _) (Nat.le_refl _) ?_
  · simp only [List.length_map, hx, Nat.min_def]; split <;> omega
  · exact fun _ => ⟨rfl, ad, rfl, copy_src hsh⟩
  · simp [adv]; omega
  · intro u hu; obtain ⟨y, _, rfl⟩ := List.mem_map.1 hu; rfl
  · intro w' hh hb
    have h2 := hh.out
    rw [adv_splice v l x] at h2
    simp only [List.length_map, hx] at h2 ⊢
    exact h w' h2 hb

end Go.Proofs.Ytccidoigjdbepaa
