
/- Addresses: own words for them; contracts: addr.Four. -/
import Derived.Test.YtccidoigjdbepaaDoorApp
import Derived.Laws.CopyOwn
namespace Go.Proofs.YtccidoigjdbepaaDoor
open Go.RowKit
set_option maxRecDepth 100000

/-- An address's cells. -/
def adv (v : Int) (l : List UInt8) : Array Value := (Value.int .i64 v :: l.map bv).toArray
def zb (n : Nat) : List UInt8 := List.replicate n 0
theorem zb_len (n : Nat) : (zb n).length = n := by simp [zb]
theorem adv_size (v : Int) (l : List UInt8) (h : l.length = 16) : (adv v l).size = 17 := by simp [adv, h]
theorem adv_one (v : Int) (l : List UInt8) : ((adv v l).all fun x => x.oneCell') = true := by
  unfold adv
  rw [List.all_toArray, List.all_eq_true]
  intro x hx
  simp at hx
  rcases hx with rfl | ⟨y, _, rfl⟩ <;> rfl
theorem adv_v (v : Int) (l : List UInt8) : (adv v l)[0]? = some (.int .i64 v) := by simp [adv]
theorem adv_b (v : Int) (l : List UInt8) (j : Nat) (c : UInt8) (h : l[j]? = some c) : (adv v l)[1 + j]? = some (bv c) := by
  simp [adv, Nat.add_comm 1 j, h]
theorem adv_splice (v : Int) (l x : List UInt8) : (splice (adv v l).toList 1 (x.map bv)).toArray = adv v (x ++ l.drop x.length) := by
  simp [adv, splice]
  rw [Nat.add_comm, List.drop_succ_cons]

section
variable {w w' : World} {g : Nat} {t : TypeId} {v : Int} {l : List UInt8}
theorem Blk.adv0 (h : Blk w g t (adv v l)) : w.cell? ⟨g, 0, none⟩ = some (.int .i64 v) := by
  unfold World.cell?; rw [h]; simpa using adv_v v l
theorem Blk.advShows (h : Blk w g t (adv v l)) (m : Nat) (hm : m ≤ l.length) : Shows w w.heap.size (some ⟨g, 1, none⟩) m (l.take m) := by
  refine ⟨by simp; omega, fun _ => ⟨g, 1, rfl, h.lt, fun j hj => ?_⟩⟩
  have hj' : j < l.length := by simp at hj; omega
  unfold World.cell?
  rw [h]
  have := adv_b v l j l[j] (List.getElem?_eq_getElem hj')
  simpa using this
theorem Blk.frz {cs : Array Value} (h : Blk w g t cs) (j : Nat) : w.frozen? ⟨g, j, none⟩ = false := by unfold World.frozen?; rw [h]; simp
end

theorem Tryd.zeroAddr : (Tryd.prog.info? 24).map (fun i => (i.zero, i.size)) = some (some (.agg (adv 0 (zb 16))), 17) := by kernel_rfl
theorem Tryd.infoAddr : (Tryd.prog.info? 24).map (·.size) = some 17 := by kernel_rfl
theorem Adr_size (v : Int) (l : List UInt8) (h : l.length = 16) : (Tryd.prog.info? 24).map (·.size) = some (adv v l).size := by rw [adv_size v l h]; exact Tryd.infoAddr

/-- Bytes copied into an address: one step of a region that draws its order. -/
theorem step_copyAdr {ops : Array Oper} {o : Oper} {a : Act} {w : World} {K : Act → World → Prop} {Q : Exit → Act → World → Prop} {E : Prop} (hgd : o.guard = none) (d s : Operand)
    (ho : o.op = .call { callee := .builtin .copy, args := #[d, s], argTypes := #[26, 26] })
    (g m dc sc : Nat) (ad : Addr) (hd : a.eval d = .slice (some ⟨g, 1, none⟩) 16 dc) (hs : a.eval s = .slice (some ad) m sc)
    (t : TypeId) (v : Int) (l x : List UInt8) (hB : Blk w g t (adv v l)) (hl : l.length = 16) (hm : m ≤ 16) (hsh : Shows w w.heap.size (some ad) m x)
    (h : ∀ w', Blk w' g t (adv v (x ++ l.drop m)) → Below g w w' → K (a.put o.dst (goInt m)) w') :
    if Region.wanted o (yielded ops a.tmps) = true then Oper.wp Tryd.prog o a w K Q else E := by
  have hx := hsh.len
  refine step_copy_splice hgd d s 26 26 ho 5 Tryd.underlying26 Tryd.sizeU8 (some ⟨g, 1, none⟩) (some ad) 16 dc m sc hd hs g 1 (adv v l).toList t hB (x.map bv) ?_ ?_ ?_ ?_ g w (Below.refl _ _) (Nat.le_refl _) ?_
  · simp only [List.length_map, hx, Nat.min_def]; split <;> omega
  · exact fun _ => ⟨rfl, ad, rfl, copy_src hsh⟩
  · simp [adv]; omega
  · intro u hu; obtain ⟨y, _, rfl⟩ := List.mem_map.1 hu; rfl
  · intro w' hh hb
    have h2 := hh.out
    rw [adv_splice v l x] at h2
    simp only [List.length_map, hx] at h2 ⊢
    exact h w' h2 hb

theorem four_any (b : List UInt8) (hb : b.length = 4) (w : World) :
    Calls Tryd.prog 24 #[av b] w fun e w' => e = .returned (.agg (adv 4 (b ++ zb 12))) ∧ Below w.heap.size w w' := by
  have hz := (zero_of_info Tryd.zeroAddr).1
  have hne : ¬ adv 0 (zb 16) = #[] := by simp [adv]
  go_enter Tryd.func24, Tryd.ntmps24
  go_wp2_with (first
    | (refine wpList_allocStore (cs := adv 4 (zb 16)) rfl rfl 24 ?ho (.tmp 3) (.tmp 4) ?ho2 Tryd.zeroAddr ?hz ?hx ?hy ?hn ?h1 ?_
       case ho => with_reducible rfl
       case ho2 => rfl
       case hz => rfl
       case hx => rfl
       case hy => rfl
       case hn => rfl
       case h1 => exact adv_one _ _))
  have k0 : Arr (((w.alloc (.cells (b.map bv).toArray 37)).alloc (.cells (adv 0 (zb 16)) 24)).alloc (.cells (adv 4 (zb 16)) 24)) w.heap.size 37 b := ((arr_new w 37 b).alloc _).alloc _
  have k1 : Blk (((w.alloc (.cells (b.map bv).toArray 37)).alloc (.cells (adv 0 (zb 16)) 24)).alloc (.cells (adv 4 (zb 16)) 24)) (w.heap.size + 1) 24 (adv 0 (zb 16)) := (blk_new' _ _ _ _ (by simp)).alloc _
  have k2 : Blk (((w.alloc (.cells (b.map bv).toArray 37)).alloc (.cells (adv 0 (zb 16)) 24)).alloc (.cells (adv 4 (zb 16)) 24)) (w.heap.size + 2) 24 (adv 4 (zb 16)) := blk_new' _ _ _ _ (by simp)
  have hb0 : Below w.heap.size w (((w.alloc (.cells (b.map bv).toArray 37)).alloc (.cells (adv 0 (zb 16)) 24)).alloc (.cells (adv 4 (zb 16)) 24)) := (((Below.refl _ _).alloc (Nat.le_refl _) _).alloc (by simp) _).alloc (by simp; omega) _
  have hgs : ((w.alloc (.cells (b.map bv).toArray 37)).alloc (.cells (adv 0 (zb 16)) 24)).heap.size = w.heap.size + 2 := by simp
  rw [hgs]
  clear hgs
  generalize (((w.alloc (.cells (b.map bv).toArray 37)).alloc (.cells (adv 0 (zb 16)) 24)).alloc (.cells (adv 4 (zb 16)) 24)) = W at *
  have s0 := k0.shows
  rw [hb] at s0
  have q0 : Shows W.drew W.drew.heap.size (some ⟨w.heap.size, 0, none⟩) 4 b := s0
  have q1 : Blk W.drew (w.heap.size + 1) 24 (adv 0 (zb 16)) := k1
  have q2 : Blk W.drew (w.heap.size + 2) 24 (adv 4 (zb 16)) := k2
  have qb : Below w.heap.size w W.drew := hb0.drew
  clear k0 k1 k2 s0 hb0
  go_region_law (refine step_copyAdr rfl (.tmp 6) (.tmp 7) rfl (w.heap.size + 2) 4 16 4 ⟨w.heap.size, 0, none⟩ rfl rfl 24 4 (zb 16) b q2 (zb_len _) (by omega) q0 ?_; intro w7 m7 hb7)
  have q3 : Blk w7 (w.heap.size + 1) 24 (adv 0 (zb 16)) := q1.below hb7 (by omega)
  have b7 : Below w.heap.size w w7 := qb.trans (hb7.mono (by omega))
  rw [show (zb 16).drop 4 = zb 12 from rfl] at m7
  have hl : (b ++ zb 12).length = 16 := by simp [hb, zb]
  clear q0 q1 q2 qb hb7 hb
  generalize hLe : b ++ zb 12 = L at *
  have HL := Lib.hid hLe
  clear hLe
  go_wp2_with (first
    | (refine wpList_loadBlk (g := w.heap.size + 2) (t := 24) (cs := adv 4 L) rfl 24 (.tmp 3) ?ho ?hx ?hA _ Tryd.underlying24 rfl ?hi ?_
       case ho => with_reducible rfl
       case hx => rfl
       case hA => exact m7
       case hi => exact Adr_size 4 L hl)
    | (refine wpList_storeBlk (g := w.heap.size + 1) (t := 24) (cs := adv 4 L) rfl 24 (.tmp 2) (.tmp 9) ?ho ?hx2 ?hy2 (adv 0 (zb 16)) q3 ?hi ?hs ?h1 ?_
       case ho => with_reducible rfl
       case hx2 => rfl
       case hy2 => rfl
       case hi => exact Adr_size 4 L hl
       case hs => rw [adv_size _ _ hl]; rfl
       case h1 => exact adv_one _ _
       intro w11 hB hg))
  refine bodyPost_blk rfl _ rfl hB Tryd.underlying24 rfl (Adr_size 4 L hl) rfl ⟨by rw [HL.out], ?_⟩
  exact b7.grown hg b7.size (fun k hk => by injection hk with hk; omega)

end Go.Proofs.YtccidoigjdbepaaDoor
