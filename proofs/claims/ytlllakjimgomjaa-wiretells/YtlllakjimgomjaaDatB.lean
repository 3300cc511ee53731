
/- Contracts: data.Parse. -/
import Derived.Test.YtlllakjimgomjaaDatA
namespace Go.Proofs.Ytlllakjimgomjaa
open Go.RowKit

theorem Try.infoTr : (Try.prog.info? 56).map (·.size) = some 3 := by kernel_rfl
theorem Try.zeroTr : (Try.prog.info? 56).map (fun i => (i.zero, i.size)) = some (some (.agg (trv 0 0 none 0 0)), 3) := by kernel_rfl

theorem one_trv (r k : Nat) (A : Option Addr) (n c : Nat) : ((trv r k A n c).all fun x => x.oneCell') = true := by simp [Value.oneCell']

theorem dataParse_err (A : Option Addr) (n c : Nat) (E : Int) (w : World) (hE : (E != 0) = true)
    (hT : ∀ W : World, Below w.heap.size w W → Calls Try.prog 61 #[.slice A n c, bv 4, .int .i64 32, .int .i64 65567] W fun e w' => e = .returned (.tuple #[.pointer none, .int .i64 E]) ∧ Below W.heap.size W w') :
    Calls Try.prog 46 #[.slice A n c] w fun e w' => e = .returned (.tuple #[.agg (trv 0 0 none 0 0), .int .i64 E]) ∧ Below w.heap.size w w' := by
  have HT := Lib.hid hT
  clear hT
  go_enter Try.func46, Try.ntmps46
  go_wp2_with fail
  refine (HT.out _ ((Below.refl _ _).alloc (Nat.le_refl _) _)).mono ?_
  rintro e w1 ⟨rfl, hb1⟩
  have k0 := (blk_new w 56 (trv 0 0 none 0 0)).on hb1
  have hbw := Below.step (Below.refl w.heap.size w) (Nat.le_refl _) hb1
  clear hb1 HT
  go_wp2_with (
    refine wpList_storeBlk (g := w.heap.size) (t := 56) (cs := trv 0 0 none 0 0) rfl 56 _ _ rfl ?hx2 ?hy2 (trv 0 0 none 0 0) k0 ?hi ?hs ?h1 ?_
    case hx2 => rfl
    case hy2 => rfl
    case hi => exact Try.infoTr
    case hs => rfl
    case h1 => exact one_trv 0 0 none 0 0
    intro w2 hB hg)
  refine bodyPost_blk2 rfl _ rfl hB Try.underlying56 rfl Try.infoTr rfl ⟨rfl, ?_⟩
  exact hbw.grown hg hbw.size (fun k hk => by injection hk with hk; omega)

theorem dataParse_ok (A : Option Addr) (n c : Nat) (l : List UInt8) (w : World) (h32 : 32 ≤ n) (hn : n ≤ 65567) (hs : Shows w w.heap.size A n (4 :: 0 :: 0 :: 0 :: l)) :
    Calls Try.prog 46 #[.slice A n c] w fun e w' => ∃ b, e = .returned (.tuple #[.agg (trv (leNat (l.take 4)) (leNat ((l.drop 4).take 8)) (some ⟨b, 0, none⟩) (n - 16) (n - 16)), .int .i64 0]) ∧ w.heap.size ≤ b ∧
      Shows w' w'.heap.size (some ⟨b, 0, none⟩) (n - 16) (l.drop 12) ∧ Below w.heap.size w w' := by
  have hl : l.length = n - 4 := by have := hs.len; simp at this; omega
  have hr : leNat (l.take 4) < 4294967296 := by have := leNat_take_lt l 4; simpa using this
  have hk : leNat ((l.drop 4).take 8) < 18446744073709551616 := by have := leNat_take_lt (l.drop 4) 8; simpa using this
  generalize hR : leNat (l.take 4) = r at *
  generalize hK : leNat ((l.drop 4).take 8) = k at *
  have HR := Lib.hid hR
  have HK := Lib.hid hK
  clear hR hK
  have hw : IntKind.u32.wrap (r : Int) = (r : Int) := by rw [IntKind.wrap_u32]; omega
  go_enter Try.func46, Try.ntmps46
  go_wp2_with fail
  have hs0 := (hs.alloc (Nat.le_refl _) (.cells (trv 0 0 none 0 0) 56)).up (show w.heap.size ≤ (w.alloc (.cells (trv 0 0 none 0 0) 56)).heap.size by simp)
  refine (take_ok A n c 4 l 32 65567 _ (by omega) (by omega) (by omega) (by omega) hs0).mono ?_
  rintro e w1 ⟨g, A', c', rfl, hg, ht1, hb1⟩
  have k1 := (blk_new w 56 (trv 0 0 none 0 0)).on hb1
  have hbw1 := Below.step (Below.refl w.heap.size w) (Nat.le_refl _) hb1
  have hgw : w.heap.size < g := by simp at hg; omega
  clear hb1 hs0 hs hg
  go_wp2_with fail
  refine (little_tk g _ (n - 4) _ 4 l w1 ht1 (by omega) (by omega) (by omega)).mono ?_
  rintro e w2 ⟨rfl, ht2, hg2⟩
  rw [HR.out]
  have k2 := k1.grown hg2 (by omega)
  have hbw2 := below_grown hbw1 hg2 hbw1.size (by omega)
  clear ht1 k1 hg2 hbw1
  go_wp2_with fail
  refine (little_tk g _ (n - 4 - 4) _ 8 (l.drop 4) w2 ht2 (by omega) (by omega) (by omega)).mono ?_
  rintro e w3 ⟨rfl, ht3, hg3⟩
  rw [HK.out]
  have k3 := k2.grown hg3 (by omega)
  have hbw3 := below_grown hbw2 hg3 hbw2.size (by omega)
  have hgl := ht3.lt
  clear ht2 k2 hg3 hbw2
  rw [show n - 4 - 4 - 8 = n - 16 by omega, List.drop_drop] at ht3
  generalize restAt (restAt A' c' 4) (c' - 4) 8 = A'' at *
  generalize c' - 4 - 8 = c'' at *
  go_wp2_with (
    refine wpList_allocStore (cs := trv r k none 0 0) rfl rfl 56 ?ho (.tmp 6) (.tmp 21) ?ho2 Try.zeroTr rfl ?hx ?hy ?hn ?h1 ?_
    case ho => with_reducible rfl
    case ho2 => rfl
    case hx => rfl
    case hy => rfl
    case hn => rfl
    case h1 => exact one_trv r k none 0 0)
  have m4 := blk_new w3 56 (trv r k none 0 0)
  have ht4 := ht3.on ((Below.refl _ _).alloc (Nat.le_refl _) (.cells (trv r k none 0 0) 56))
  have k4 := k3.alloc (.cells (trv r k none 0 0) 56)
  have hbw4 := hbw3.alloc hbw3.size (.cells (trv r k none 0 0) 56)
  have hk3 := k3.lt
  generalize hw4 : w3.alloc (.cells (trv r k none 0 0) 56) = w4 at *
  generalize hg3 : w3.heap.size = g3 at *
  clear ht3 k3 hbw3 hw4
  refine (left_any g _ _ _ _ _ _ ht4).mono ?_
  rintro e w5 ⟨rfl, rfl⟩
  go_wp2_with fail
  refine (bytes_ok g _ (n - 16) _ (n - 16) _ _ ht4 (Nat.le_refl _) (by omega)).mono ?_
  rintro e w5 ⟨b, rfl, hb, ho5, ht5, hg5⟩
  have m5 := m4.grown hg5 (by omega)
  have k5 := k4.grown hg5 (by omega)
  have hbw5 := below_grown hbw4 hg5 hbw4.size (by omega)
  have hm4 := m4.lt
  have s5 := ho5.shown
  rw [List.take_of_length_le (by simp [hl]; omega)] at s5
  have hsz5 := hg5.size
  have hb5 := (ho5.lt b rfl).2
  clear ht4 m4 k4 hbw4 hg5 ht5 ho5
  have hc : w5.cell? ⟨g3, 2, none⟩ = some (.slice none 0 0) := by unfold World.cell?; rw [m5]; rfl
  have hf : w5.frozen? ⟨g3, 2, none⟩ = false := by unfold World.frozen?; rw [m5]; simp
  have m6 : Blk (w5.setCell ⟨g3, 2, none⟩ (.slice (some ⟨b, 0, none⟩) (n - 16) (n - 16))) g3 56 (trv r k (some ⟨b, 0, none⟩) (n - 16) (n - 16)) := m5.setCell 2 _
  have k6 := k5.other ⟨g3, 2, none⟩ (.slice (some ⟨b, 0, none⟩) (n - 16) (n - 16)) (by show w.heap.size ≠ g3; omega)
  have hg6 := setCell_grown w5 g3 2 (.slice (some ⟨b, 0, none⟩) (n - 16) (n - 16))
  have s6 := s5.grown (Nat.le_refl _) hg6 (fun _ a ha => by injection ha with ha; subst ha; show b ≠ g3; omega)
  have hbw6 := below_grown hbw5 hg6 hbw5.size (by omega)
  have hsz6 : w5.heap.size ≤ (w5.setCell ⟨g3, 2, none⟩ (.slice (some ⟨b, 0, none⟩) (n - 16) (n - 16))).heap.size := hg6.size
  clear m5 k5 s5 hbw5 hg6
  go_wp2_with (first
    | (refine wpList_loadBlk (g := g3) (t := 56) (cs := trv r k (some ⟨b, 0, none⟩) (n - 16) (n - 16)) rfl 56 (.tmp 6) ?ho ?hx ?hA _ Try.underlying56 rfl Try.infoTr ?_
       case ho => with_reducible rfl
       case hx => rfl
       case hA => exact m6)
    | (refine wpList_storeBlk (g := w.heap.size) (t := 56) (cs := trv r k (some ⟨b, 0, none⟩) (n - 16) (n - 16)) rfl 56 (.tmp 2) (.tmp 27) ?ho ?hx2 ?hy2 (trv 0 0 none 0 0) ?hA2 ?hi ?hs ?h1 ?_
       case ho => with_reducible rfl
       case hx2 => rfl
       case hy2 => rfl
       case hA2 => exact k6
       case hi => exact Try.infoTr
       case hs => rfl
       case h1 => exact one_trv r k _ _ _
       intro w7 hB hg))
  refine bodyPost_blk2 rfl _ rfl hB Try.underlying56 rfl Try.infoTr rfl ⟨b, rfl, by have := hbw6.size; omega, ?_, ?_⟩
  · exact (s6.grown hsz6 hg (fun _ a ha => by injection ha with ha; subst ha; show b ≠ w.heap.size; omega)).up (by have := hg.size; omega)
  · exact hbw6.grown hg hbw6.size (fun k hk => by injection hk with hk; omega)

end Go.Proofs.Ytlllakjimgomjaa
