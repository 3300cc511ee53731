
/- Contracts: ref16.Parse. -/
import Derived.Test.YtlllakjimgomjaaDatC
import Derived.Deep.RegionLaw
namespace Go.Proofs.Ytlllakjimgomjaa
open Go.RowKit

set_option maxHeartbeats 4000000 in
theorem ref16Parse_ok (ad : Addr) (n c : Nat) (l : List UInt8) (w : World) (h32 : 32 ≤ n) (hn : n ≤ 65567) (hnc : n ≤ c) (hs : Shows w w.heap.size (some ad) n (4 :: 0 :: 0 :: 0 :: l)) :
    Calls Try.prog 50 #[.slice (some ad) n c] w fun e w' => ∃ A' c', e = .returned (.tuple #[.agg (trv (leNat (l.take 4)) (leNat ((l.drop 4).take 8)) A' (n - 16) c'), .int .i64 0]) ∧
      Shows w' w'.heap.size A' (n - 16) (l.drop 12) ∧ (∀ a, A' = some a → w.heap.size ≤ a.block) ∧ Below w.heap.size w w' := by
  have hl : l.length = n - 4 := by have := hs.len; simp at this; omega
  obtain ⟨b, off, e, hb, hcell⟩ := hs.2 (by omega)
  injection e with e
  subst e
  have c0 := hcell 0 (by simp)
  have c1 := hcell 1 (by simp)
  have c2 := hcell 2 (by simp)
  have c3 := hcell 3 (by simp)
  simp only [List.getElem_cons_zero, List.getElem_cons_succ, Nat.add_zero] at c0 c1 c2 c3
  have hr : leNat (l.take 4) < 4294967296 := by have := leNat_take_lt l 4; simpa using this
  have S4 := fun (W : World) (hW : Below w.heap.size w W) => ((hs.piece 4 4 (by omega)).below hW).up hW.size
  have S8 := fun (W : World) (hW : Below w.heap.size w W) => ((hs.piece 8 8 (by omega)).below hW).up hW.size
  have HG4 := Lib.hid (fun (W : World) (c' : Nat) (hW : Below w.heap.size w W) => get_any _ 4 c' _ W (by omega) (S4 W hW))
  have HG8 := Lib.hid (fun (W : World) (c' : Nat) (hW : Below w.heap.size w W) => get_any _ 8 c' _ W (by omega) (S8 W hW))
  clear S4 S8
  have s16 : Shows w w.heap.size (some ⟨b, off + 16, none⟩) (n - 16) (l.drop 12) := by
    have := hs.piece 16 (n - 16) (by omega)
    rwa [List.take_of_length_le (by simp [hl]; omega)] at this
  generalize hR : leNat (l.take 4) = r at *
  generalize hK : leNat ((l.drop 4).take 8) = k at *
  have e4' : leNat (((4 :: 0 :: 0 :: 0 :: l : List UInt8).drop 4).take 4) = r := hR
  have e8' : leNat (((4 :: 0 :: 0 :: 0 :: l : List UInt8).drop 8).take 8) = k := hK
  rw [e4'] at HG4
  rw [e8'] at HG8
  clear e4' e8'
  clear hR hK
  have hw : IntKind.u32.wrap (r : Int) = (r : Int) := by rw [IntKind.wrap_u32]; omega
  clear hcell hs
  have e4 : ¬ c = 4 := by omega
  have e8 : ¬ c = 8 := by omega
  have e16 : ¬ c = 16 := by omega
  have i4 : (4 : Int) ≤ (n : Int) := by omega
  have i8 : (8 : Int) ≤ (n : Int) := by omega
  have i16 : (16 : Int) ≤ (n : Int) := by omega
  have j8 : (8 : Int) ≤ (c : Int) := by omega
  have j16 : (16 : Int) ≤ (c : Int) := by omega
  have j16' : (n : Int) ≤ (c : Int) := by omega
  have hbA : Below w.heap.size w (w.alloc (.cells (trv 0 0 none 0 0) 56)).drew := ((Below.refl _ _).alloc (Nat.le_refl _) _).drew
  have hbB : Below w.heap.size w ((w.alloc (.cells (trv 0 0 none 0 0) 56)).alloc (.cells #[] 5)).drew := (((Below.refl _ _).alloc (Nat.le_refl _) _).alloc (by simp) _).drew
  have hL1 : Own ((w.alloc (.cells (trv 0 0 none 0 0) 56)).alloc (.cells #[] 5)).drew (w.heap.size + 1) (.slice (some ⟨w.heap.size + 1, 0, none⟩) 0 0) 0 [] := by
    have := own_lit0 (w.alloc (.cells (trv 0 0 none 0 0) 56)) (w.heap.size + 1) (by simp)
    rw [show (w.alloc (.cells (trv 0 0 none 0 0) 56)).heap.size = w.heap.size + 1 by simp] at this
    exact this
  have k0 : Blk ((w.alloc (.cells (trv 0 0 none 0 0) 56)).alloc (.cells #[] 5)).drew w.heap.size 56 (trv 0 0 none 0 0) := (blk_new w 56 (trv 0 0 none 0 0)).alloc _
  have hsz0 : ((w.alloc (.cells (trv 0 0 none 0 0) 56)).alloc (.cells #[] 5)).drew.heap.size = w.heap.size + 2 := by simp
  go_enter Try.func50, Try.ntmps50
  go_wp2
  go_region_law (first
    | (go_simp
       go_at_call 62
       first
         | (with_reducible refine (HG4.out _ _ ?hb).mono ?_)
         | (with_reducible refine (HG8.out _ _ ?hb).mono ?_)
       case hb => first | exact hbA | exact hbB | exact hb1
       rintro e w' ⟨rfl, rfl⟩)
    | (refine step_appAll _ rfl _ _ rfl (w.heap.size + 1) _ 0 [] rfl hL1 ⟨b, off + 16, none⟩ (n - 16) (c - 16) _ (l.drop 12) rfl (s16.below hbB) ?g1 ?g2 ?_
       case g1 => omega
       case g2 => simp
       intro v1 w1 ho1 hg1
       rw [Nat.zero_add, List.nil_append] at ho1
       obtain ⟨A1, d1, rfl, _, _, s1⟩ := ho1.shows
       have hw1 := hg1.size
       have hlt1 := ho1.lt
       have hb1 := Below.grown hbB hg1 (by rw [hsz0]; omega) (fun g hg => by have := (hL1.lt g hg).1; omega)
       have k1 := Blk.grown (g := w.heap.size + 1) k0 hg1 (by omega)
       have q0 : w1.cell? ⟨w.heap.size, 0, none⟩ = some (.int .u32 0) := by unfold World.cell?; rw [k1]; rfl
       have q1 : w1.cell? ⟨w.heap.size, 1, none⟩ = some (.int .u64 0) := by unfold World.cell?; rw [k1]; rfl
       have q2 : w1.cell? ⟨w.heap.size, 2, none⟩ = some (.slice none 0 0) := by unfold World.cell?; rw [k1]; rfl
       have f0 : w1.frozen? ⟨w.heap.size, 0, none⟩ = false := by unfold World.frozen?; rw [k1]; simp
       have f1 : w1.frozen? ⟨w.heap.size, 1, none⟩ = false := by unfold World.frozen?; rw [k1]; simp
       have f2 : w1.frozen? ⟨w.heap.size, 2, none⟩ = false := by unfold World.frozen?; rw [k1]; simp))
  all_goals
    have hne : 0 < n - 16 → ∀ a, A1 = some a → a.block ≠ w.heap.size := fun _ a ha => by
      subst ha
      have := (hlt1 a.block rfl).1
      omega
    have g0 := setCell_grown w1 w.heap.size 0 (.int .u32 (r : Int))
    have g1 := setCell_grown (w1.setCell ⟨w.heap.size, 0, none⟩ (.int .u32 (r : Int))) w.heap.size 1 (.int .u64 (k : Int))
    have g2 := setCell_grown ((w1.setCell ⟨w.heap.size, 0, none⟩ (.int .u32 (r : Int))).setCell ⟨w.heap.size, 1, none⟩ (.int .u64 (k : Int))) w.heap.size 2 (.slice A1 (n - 16) d1)
    have hG := grown_trans (grown_trans g0 g1) g2
    have k2 := ((k1.setCell 0 (.int .u32 (r : Int))).setCell 1 (.int .u64 (k : Int))).setCell 2 (.slice A1 (n - 16) d1)
    have hS := (s1.grown (Nat.le_refl _) hG hne).up hG.size
    have hBB := below_grown hb1 hG hb1.size (Nat.le_refl _)
    have hA : ∀ a, A1 = some a → w.heap.size ≤ a.block := fun a ha => by
      subst ha
      have := (hlt1 a.block rfl).1
      omega
    clear HG4 HG8 ho1 hlt1 g0 g1 g2 hG q0 q1 q2 f0 f1 f2
    go_wp2
    refine bodyPost_blk2 (cs := trv r k A1 (n - 16) d1) rfl _ rfl k2 Try.underlying56 rfl Try.infoTr rfl ⟨A1, d1, rfl, hS, hA, hBB⟩

theorem ref16Parse_short (A : Option Addr) (n c : Nat) (w : World) (hn : n < 32) :
    Calls Try.prog 50 #[.slice A n c] w fun e w' => e = .returned (.tuple #[.agg (trv 0 0 none 0 0), .int .i64 3]) ∧ Below w.heap.size w w' := by
  go_enter Try.func50, Try.ntmps50
  go_wp2
  refine bodyPost_blk2 (cs := trv 0 0 none 0 0) rfl _ rfl (blk_new w 56 _) Try.underlying56 rfl Try.infoTr rfl ⟨rfl, ?_⟩
  exact (Below.refl _ _).alloc (Nat.le_refl _) _

theorem ref16Parse_kind (ad : Addr) (n c : Nat) (x : UInt8) (l : List UInt8) (w : World) (h32 : 32 ≤ n) (hn : n ≤ 65567) (hs : Shows w w.heap.size (some ad) n (x :: l)) (hx : x ≠ 4) :
    Calls Try.prog 50 #[.slice (some ad) n c] w fun e w' => e = .returned (.tuple #[.agg (trv 0 0 none 0 0), .int .i64 9]) ∧ Below w.heap.size w w' := by
  obtain ⟨b, off, e, hb, hcell⟩ := hs.2 (by omega)
  injection e with e
  subst e
  have c0 := hcell 0 (by simp)
  simp only [List.getElem_cons_zero, Nat.add_zero] at c0
  have hx4 : x.toNat ≠ 4 := fun e => hx (UInt8.toNat_inj.1 e)
  have hd : decide ((x.toNat : Int) = 4) = false := decide_eq_false (by omega)
  clear hcell hs hx
  go_enter Try.func50, Try.ntmps50
  go_wp2
  refine bodyPost_blk2 (cs := trv 0 0 none 0 0) rfl _ rfl (blk_new w 56 _) Try.underlying56 rfl Try.infoTr rfl ⟨rfl, ?_⟩
  exact (Below.refl _ _).alloc (Nat.le_refl _) _

theorem ref16Parse_zero (ad : Addr) (n c : Nat) (x y z : UInt8) (l : List UInt8) (w : World) (h32 : 32 ≤ n) (hn : n ≤ 65567) (hs : Shows w w.heap.size (some ad) n (4 :: x :: y :: z :: l)) (hx : ¬ (x = 0 ∧ y = 0 ∧ z = 0)) :
    Calls Try.prog 50 #[.slice (some ad) n c] w fun e w' => e = .returned (.tuple #[.agg (trv 0 0 none 0 0), .int .i64 10]) ∧ Below w.heap.size w w' := by
  obtain ⟨b, off, e, hb, hcell⟩ := hs.2 (by omega)
  injection e with e
  subst e
  have c0 := hcell 0 (by simp)
  have c1 := hcell 1 (by simp)
  have c2 := hcell 2 (by simp)
  have c3 := hcell 3 (by simp)
  simp only [List.getElem_cons_zero, List.getElem_cons_succ, Nat.add_zero] at c0 c1 c2 c3
  have key : (x.toNat ≠ 0) ∨ (x = 0 ∧ y.toNat ≠ 0) ∨ (x = 0 ∧ y = 0 ∧ z.toNat ≠ 0) := by
    have t : ∀ u : UInt8, u ≠ 0 → u.toNat ≠ 0 := fun u hu e => hu (UInt8.toNat_inj.1 (by simpa using e))
    by_cases h1 : x = 0
    · by_cases h2 : y = 0
      · exact .inr (.inr ⟨h1, h2, t z fun h3 => hx ⟨h1, h2, h3⟩⟩)
      · exact .inr (.inl ⟨h1, t y h2⟩)
    · exact .inl (t x h1)
  clear hcell hs hx
  go_enter Try.func50, Try.ntmps50
  rcases key with h | ⟨rfl, h⟩ | ⟨rfl, rfl, h⟩
  all_goals
    have hd := decide_eq_false (mt Int.natCast_eq_zero.1 h)
    go_wp2
    refine bodyPost_blk2 (cs := trv 0 0 none 0 0) rfl _ rfl (blk_new w 56 _) Try.underlying56 rfl Try.infoTr rfl ⟨rfl, ?_⟩
    exact (Below.refl _ _).alloc (Nat.le_refl _) _

end Go.Proofs.Ytlllakjimgomjaa
