
/- Contracts: ref07.Of, ref07.Bytes. -/
import Derived.Test.YtfiagknmieegaaaKeyD
namespace Go.Proofs.Ytfiagknmieegaaa
open Go.RowKit

theorem refOf_bad (A : Option Addr) (n c : Nat) (E : Int) (w : World) (hE : (n < 32 ∧ E = 3) ∨ (32 < n ∧ E = 4)) (hn : n ≤ 1000000) :
    Calls Try.prog 60 #[.slice A n c] w fun e w' => e = .returned (.tuple #[av key0, .int .i64 E]) ∧ Below w.heap.size w w' := by
  rcases hE with ⟨h1, rfl⟩ | ⟨h1, rfl⟩
  all_goals
    go_enter Try.func60, Try.ntmps60
    go_wp2_with (
      refine wpList_loadArr (g := w.heap.size + 1) (t := 44) (l := key0) rfl 44 5 _ rfl ?hx ?hA key0_len Try.underlying44 Try.infoKey ?_
      case hx => rfl
      case hA => exact blk_new' _ _ _ _ (by simp)
      refine wpList_storeBlk (g := w.heap.size) (t := 44) (cs := (key0.map bv).toArray) rfl 44 _ _ rfl ?hx2 ?hy2 (List.replicate 32 (.int .u8 0)).toArray ?hA2 ?hi ?hs ?h1 ?_
      case hx2 => rfl
      case hy2 => rfl
      case hA2 => exact (blk_new _ _ _).alloc _
      case hi => exact Try.infoKey
      case hs => rfl
      case h1 => exact one_bytes key0
      intro w2 hB hg)
    refine bodyPost_blk2 rfl _ rfl hB Try.underlying44 rfl Try.infoKey rfl ⟨rfl, ?_⟩
    exact (((Below.refl w.heap.size w).alloc (Nat.le_refl _) _).alloc (by simp) _).grown hg (by simp; omega) (fun k hk => by injection hk with hk; omega)

theorem take_next (l : List UInt8) (k : Nat) (c : UInt8) (h : l[k]? = some c) : l.take (k + 1) = l.take k ++ [c] := by
  obtain ⟨hk, rfl⟩ := List.getElem?_eq_some_iff.1 h
  rw [List.take_add_one, List.getElem?_eq_getElem hk]; rfl

theorem refOf_ok (A : Option Addr) (c : Nat) (l : List UInt8) (w : World) (hl : l.length = 32) (h : Shows w w.heap.size A 32 l) :
    Calls Try.prog 60 #[.slice A 32 c] w fun e w' => e = .returned (.tuple #[av l, .int .i64 0]) ∧ Below w.heap.size w w' := by
  obtain ⟨Z, hZ⟩ : ∃ Z, Z = (List.replicate 32 (Value.int .u8 0)).toArray := ⟨_, rfl⟩
  obtain ⟨W, hW⟩ : ∃ W, W = (w.alloc (.cells Z 44)).alloc (.cells Z 44) := ⟨_, rfl⟩
  have hb0 : Below w.heap.size w W := hW ▸ ((Below.refl w.heap.size w).alloc (Nat.le_refl _) _).alloc (by simp) _
  have k0 : Blk W w.heap.size 44 Z := hW ▸ (blk_new _ _ _).alloc _
  have k1 : Blk W (w.heap.size + 1) 44 Z := hW ▸ blk_new' _ _ _ _ (by simp)
  have hsz : W.heap.size = w.heap.size + 2 := by rw [hW]; simp
  subst hZ
  have k1 : Arr W (w.heap.size + 1) 44 key0 := k1
  have HW := Lib.hid hW
  clear hW
  go_enter Try.func60, Try.ntmps60
  go_wp2
  rw [show (w.alloc (.cells #[Value.int .u8 0, .int .u8 0, .int .u8 0, .int .u8 0, .int .u8 0, .int .u8 0, .int .u8 0, .int .u8 0, .int .u8 0, .int .u8 0, .int .u8 0, .int .u8 0, .int .u8 0, .int .u8 0, .int .u8 0, .int .u8 0, .int .u8 0, .int .u8 0, .int .u8 0, .int .u8 0, .int .u8 0, .int .u8 0, .int .u8 0, .int .u8 0, .int .u8 0, .int .u8 0, .int .u8 0, .int .u8 0, .int .u8 0, .int .u8 0, .int .u8 0, .int .u8 0] 44)).alloc (.cells #[Value.int .u8 0, .int .u8 0, .int .u8 0, .int .u8 0, .int .u8 0, .int .u8 0, .int .u8 0, .int .u8 0, .int .u8 0, .int .u8 0, .int .u8 0, .int .u8 0, .int .u8 0, .int .u8 0, .int .u8 0, .int .u8 0, .int .u8 0, .int .u8 0, .int .u8 0, .int .u8 0, .int .u8 0, .int .u8 0, .int .u8 0, .int .u8 0, .int .u8 0, .int .u8 0, .int .u8 0, .int .u8 0, .int .u8 0, .int .u8 0, .int .u8 0, .int .u8 0] 44) = W from HW.out.symm]
  clear HW
  have hs2 : w.heap.size + 2 ≤ W.heap.size := by omega
  clear hsz
  go_loopw [5] (fun i wr => ∃ k : Nat, k ≤ 32 ∧ i = .int .i64 k ∧ Arr wr (w.heap.size + 1) 44 (l.take k ++ List.replicate (32 - k) 0) ∧ Blk wr w.heap.size 44 (List.replicate 32 (Value.int .u8 0)).toArray ∧ Below w.heap.size w wr ∧ w.heap.size + 2 ≤ wr.heap.size) (fun i _ => 32 - (intOf i).toNat)
  case atStart => exact ⟨0, Nat.zero_le _, rfl, k1, k0, hb0, hs2⟩
  case round =>
    clear k0 k1 hb0 hs2
    obtain ⟨k, hk, rfl, k1, k0, hbel, hs2⟩ := hrel
    by_cases hlt : k < 32
    · obtain ⟨b, off, x, rfl, hb, hc, hx, hlx⟩ := (h.below hbel).byte hlt
      have hlen : (l.take k ++ List.replicate (32 - k) 0).length = 32 := by simp [hl]; omega
      have hold := k1.cell k (by omega)
      have hf := k1.frozen k
      have hset : (l.take k ++ List.replicate (32 - k) 0).set k x = l.take (k + 1) ++ List.replicate (32 - (k + 1)) 0 := by
        have := set_next (l.take k) (32 - (k + 1)) x
        rw [List.length_take, Nat.min_eq_left (by omega), show 32 - (k + 1) + 1 = 32 - k by omega] at this
        rw [this, take_next l k x hlx]
      have k2 := k1.put k x
      rw [hset] at k2
      have k3 := k0.other ⟨w.heap.size + 1, k, none⟩ (bv x) (by simp)
      have hb2 := hbel.setCell (p := ⟨w.heap.size + 1, k, none⟩) (Nat.le_succ _) (bv x)
      have H2 := Lib.hid (And.intro k2 (And.intro k3 hb2))
      generalize (l.take k ++ List.replicate (32 - k) 0)[k] = old at hold
      clear k1 k0 k2 k3 hb2 hset hlen hlx
      go_wp2
      go_roundw
      case rel => exact ⟨k + 1, by omega, by go_num, H2.out.1, H2.out.2.1, H2.out.2.2, by simp; omega⟩
      case measure => simp [intOf] <;> omega
    · obtain rfl : k = 32 := by omega
      rw [List.take_of_length_le (by omega), Nat.sub_self, List.replicate_zero, List.append_nil] at k1
      go_wp2_with (
        refine wpList_loadArr (g := w.heap.size + 1) (t := 44) rfl 44 5 _ rfl ?hx k1 hl Try.underlying44 Try.infoKey ?_
        case hx => rfl
        refine wpList_storeBlk (g := w.heap.size) (t := 44) (cs := (l.map bv).toArray) rfl 44 _ _ rfl ?hx2 ?hy2 (List.replicate 32 (.int .u8 0)).toArray k0 ?hi ?hs ?h1 ?_
        case hx2 => rfl
        case hy2 => rfl
        case hi => (rw [Try.infoKey]; simp [hl])
        case hs => simp [hl]
        case h1 => exact one_bytes l
        intro w3 hB hg)
      refine bodyPost_blk2 rfl _ rfl hB Try.underlying44 rfl (by rw [Try.infoKey]; simp [hl]) rfl ⟨rfl, ?_⟩
      exact hbel.grown hg (by omega) (fun k hk => by injection hk with hk; omega)

theorem refBytes_any (l : List UInt8) (w : World) (hl : l.length = 32) :
    Calls Try.prog 27 #[av l] w fun e w' => (∃ v, e = .returned v ∧ Own w' w.heap.size v 32 l) ∧ Below w.heap.size w w' := by
  have h1 := arr_new w 44 l
  have hb0 := (Below.refl w.heap.size w).alloc (Nat.le_refl _) (.cells (l.map bv).toArray 44)
  have hsz : (w.alloc (.cells (l.map bv).toArray 44)).heap.size = w.heap.size + 1 := by simp
  go_enter Try.func27, Try.ntmps27
  go_wp2
  generalize w.alloc (.cells (l.map bv).toArray 44) = W at *
  have hs1 : w.heap.size + 1 ≤ W.heap.size := by omega
  clear hsz
  go_loopw [3, 4] (fun v i wr => ∃ k : Nat, k ≤ 32 ∧ i = .int .i64 k ∧ Own wr (w.heap.size + 1) v k (l.take k) ∧ Arr wr w.heap.size 44 l ∧ Below w.heap.size w wr ∧ w.heap.size + 1 ≤ wr.heap.size) (fun _ i _ => 32 - (intOf i).toNat)
  case atStart => exact ⟨0, Nat.zero_le _, rfl, World.ownsRow_nil _ _ _ _, h1, hb0, hs1⟩
  case round =>
    clear h1 hb0 hs1
    obtain ⟨k, hk, rfl, hown, k1, hbel, hs1⟩ := hrel
    by_cases hlt : k < 32
    · have hkl : k < l.length := by omega
      have hlx : l[k]? = some l[k] := List.getElem?_eq_getElem hkl
      have hc := k1.byte hlx
      generalize l[k] = x at hlx hc
      have hd := Lib.hid (take_next l k x hlx)
      clear hlx
      go_wp2_with (at_builtin; refine wpList_app1 _ rfl _ _ rfl (w.heap.size + 1) _ _ _ rfl (hown.alloc _) ⟨wr.heap.size, 0, none⟩ 1 x rfl ?c1 ?c2 ?c3 ?_)
      case c1 => simp
      case c2 => omega
      case c3 => simp; omega
      intro v' w1 hown' hgrow
      have hlt1 := fun g hg => (hown.lt g hg).1
      have hb1 : Below w.heap.size w w1 := (hbel.alloc hbel.size _).grown hgrow (by simp; omega) (fun g hg => Nat.le_of_succ_le (hlt1 g hg))
      have hb2 : Below (w.heap.size + 1) (wr.alloc (.cells #[.int .u8 (x.toNat : Int)] 5)) w1 := (Below.refl _ _).grown hgrow (by simp; omega) hlt1
      have k2 : Arr w1 w.heap.size 44 l := (hb2.block _ (Nat.lt_succ_self _)).trans (k1.alloc _)
      have hs2 : w.heap.size + 1 ≤ w1.heap.size := by have := hb2.size; simp at this; omega
      clear hown hbel hgrow hb2 k1 hlt1
      go_wp2
      go_roundw
      case rel => exact ⟨k + 1, by omega, by go_num, by rw [hd.out]; exact hown', k2, hb1, hs2⟩
      case measure => simp [intOf] <;> omega
    · obtain rfl : k = 32 := by omega
      rw [List.take_of_length_le (by omega)] at hown
      go_wp2
      go_ret
      exact ⟨⟨_, rfl, hown.base (Nat.le_succ _)⟩, hbel⟩

end Go.Proofs.Ytfiagknmieegaaa
