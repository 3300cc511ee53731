
/- Contract: crawlwayref23.summed. -/
import Derived.Test.YtkokgoodpibboaaIxA
namespace Go.Proofs.Ytkokgoodpibboaa
open Go.RowKit
set_option maxRecDepth 100000
set_option linter.unusedSimpArgs false
set_option linter.unusedVariables false

set_option maxHeartbeats 2000000 in
theorem summed6 (xs : List Int) (s d : List UInt8) (hx : xs.length = 9) (hs : s.length = 16) (hd : d.length = 16) (A : Option Addr) (n c : Nat) (l : List UInt8) (w : World) (hn : n ≤ 100000) (hl : Shows w w.heap.size A n l) :
    Calls Try.prog 86 #[.agg (hdv xs (adv 6 s) (adv 6 d)), .slice A n c] w fun e w' => ∃ v, e = .returned v ∧ Own w' w.heap.size v (40 + n) (pre6 s d n ++ l) ∧ Below w.heap.size w w' := by
  have k0 : Blk (w.alloc (.cells (hdv xs (adv 6 s) (adv 6 d)) 42)) w.heap.size 42 (hdv xs (adv 6 s) (adv 6 d)) := blk_new _ _ _
  have hb0 : Below w.heap.size w (w.alloc (.cells (hdv xs (adv 6 s) (adv 6 d)) 42)) := (Below.refl _ _).alloc (Nat.le_refl _) _
  have lt0 : w.heap.size < (w.alloc (.cells (hdv xs (adv 6 s) (adv 6 d)) 42)).heap.size := by simp
  have R1 := fun (W : World) (h : Blk W w.heap.size 42 (hdv xs (adv 6 s) (adv 6 d))) => hdv_src hx h
  have R2 := fun (W : World) (h : Blk W w.heap.size 42 (hdv xs (adv 6 s) (adv 6 d))) => hdv_dst hx (adv_size 6 s hs) h
  have z1 := Adr_size 6 s hs
  have z2 := Adr_size 6 d hd
  have HBs := Lib.hid (fun W => refBytes_any 6 s hs W)
  have HBd := Lib.hid (fun W => refBytes_any 6 d hd W)
  rw [sizeA_6 s, List.take_of_length_le (by omega)] at HBs
  rw [sizeA_6 d, List.take_of_length_le (by omega)] at HBd
  have HJ := Lib.hid (show pre6 s d n ++ l = [] ++ s ++ d ++ [0, UInt8.ofNat (n / 65536), UInt8.ofNat (n / 256 % 256), UInt8.ofNat (n % 256), 0, 0, 0, 58] ++ l by unfold pre6; rw [be4_bytes n (by omega)]; simp)
  have sl := (hl.below hb0).up hb0.size
  have e1 : (UInt8.ofNat (n / 65536)).toNat = n / 65536 := by simp; omega
  have e2 : (UInt8.ofNat (n / 256 % 256)).toNat = n / 256 % 256 := by simp
  have e3 : (UInt8.ofNat (n % 256)).toNat = n % 256 := by simp
  generalize UInt8.ofNat (n / 65536) = x1 at *
  generalize UInt8.ofNat (n / 256 % 256) = x2 at *
  generalize UInt8.ofNat (n % 256) = x3 at *
  obtain ⟨q1, hq1⟩ : ∃ q : Nat, n / 65536 = q := ⟨_, rfl⟩
  obtain ⟨q2, hq2⟩ : ∃ q : Nat, n / 256 = q := ⟨_, rfl⟩
  have i0 : (n : Int) / 16777216 = 0 := by omega
  have i1 : (n : Int) / 65536 = (q1 : Int) := by omega
  have i2 : (n : Int) / 256 = (q2 : Int) := by omega
  have j1 : (q1 : Int) % 256 = (x1.toNat : Int) := by omega
  have j2 : (q2 : Int) % 256 = (x2.toNat : Int) := by omega
  have j3 : (n : Int) % 256 = (x3.toNat : Int) := by omega
  have u1 : (x1.toNat : Int) ≤ 255 := by omega
  have u2 : (x2.toNat : Int) ≤ 255 := by omega
  have u3 : (x3.toNat : Int) ≤ 255 := by omega
  have v1 : (q1 : Int) ≤ 1 := by omega
  have v2 : (q2 : Int) ≤ 400 := by omega
  have hni : (n : Int) ≤ 100000 := by omega
  have h01 : (q1 : Int) = (x1.toNat : Int) := by omega
  have Hh := Lib.hid h01
  clear hl e1 e2 e3 hq1 hq2 h01
  generalize hdv xs (adv 6 s) (adv 6 d) = M at *
  generalize adv 6 s = XS at *
  generalize adv 6 d = XD at *
  go_enter Try.func86, Try.ntmps86
  generalize hw1 : w.alloc (.cells M 42) = w1 at *
  have o2 : Own (w1.alloc (.cells #[] 5)) w1.heap.size (.slice (some ⟨w1.heap.size, 0, none⟩) 0 0) 0 [] := own_lit0 w1 w1.heap.size (Nat.le_refl _)
  have b2 : Below w1.heap.size w1 (w1.alloc (.cells #[] 5)) := (Below.refl _ _).alloc (Nat.le_refl _) _
  have k2 := k0.below b2 lt0
  go_wp2_with (first
    | (refine wpList_loadPart (g := w.heap.size) rfl 32 (.tmp 8) ?ho 9 ?hx XS _ (R1 _ k2) Try.underlying32 rfl ?hi ?_
       case ho => with_reducible rfl
       case hx => rfl
       case hi => exact z1)
    | fail)
  refine (HBs.out _).mono ?_
  rintro e w4 ⟨y4, rfl, ho4, hb4⟩
  obtain ⟨A4, ca4, rfl, _, _, s4⟩ := ho4.shows
  have b4 := Below.on b2 b2.size hb4
  have o4 := o2.keep hb4
  clear ho4 hb4 b2 o2 k2
  go_wp2_with (first
    | (at_builtin; refine wpList_appAny _ rfl _ _ rfl w1.heap.size _ 0 _ rfl o4 A4 16 ca4 _ s rfl s4 (by omega) b4.size ?_
       intro v5 w5 ho5 hg5
       have b5 : Below w1.heap.size w1 w5 := b4.grown hg5 b4.size (fun k hk => (o4.lt k hk).1)
       have k5 := k0.below b5 lt0
       clear hg5 o4 b4 s4)
    | (refine wpList_loadPart (g := w.heap.size) rfl 32 (.tmp 13) ?ho 26 ?hx XD _ (R2 _ k5) Try.underlying32 rfl ?hi ?_
       case ho => with_reducible rfl
       case hx => rfl
       case hi => exact z2)
    | fail)
  refine (HBd.out _).mono ?_
  rintro e w6 ⟨y6, rfl, ho6, hb6⟩
  obtain ⟨A6, ca6, rfl, _, _, s6⟩ := ho6.shows
  have b6 := Below.on b5 b5.size hb6
  have o6 := ho5.keep hb6
  clear ho6 hb6 b5 ho5 k5
  go_wp2_with (first
    | (at_builtin; refine wpList_appAny _ rfl _ _ rfl w1.heap.size _ (0 + 16) _ rfl o6 A6 16 ca6 _ d rfl s6 (by omega) b6.size ?_
       intro v7 w7 ho7 hg7
       have b7 : Below w1.heap.size w1 w7 := b6.grown hg7 b6.size (fun k hk => (o6.lt k hk).1)
       clear hg7 o6 b6 s6
       have b8 : Below w1.heap.size w1 (w7.alloc (.cells #[.int .u8 0, .int .u8 (x1.toNat : Int), .int .u8 (x2.toNat : Int), .int .u8 (x3.toNat : Int), .int .u8 0, .int .u8 0, .int .u8 0, .int .u8 58] 5)) := b7.alloc b7.size _
       have o8 := ho7.alloc (.cells #[.int .u8 0, .int .u8 (x1.toNat : Int), .int .u8 (x2.toNat : Int), .int .u8 (x3.toNat : Int), .int .u8 0, .int .u8 0, .int .u8 0, .int .u8 58] 5)
       have s8 : Shows (w7.alloc (.cells #[.int .u8 0, .int .u8 (x1.toNat : Int), .int .u8 (x2.toNat : Int), .int .u8 (x3.toNat : Int), .int .u8 0, .int .u8 0, .int .u8 0, .int .u8 58] 5)) (w7.alloc (.cells #[.int .u8 0, .int .u8 (x1.toNat : Int), .int .u8 (x2.toNat : Int), .int .u8 (x3.toNat : Int), .int .u8 0, .int .u8 0, .int .u8 0, .int .u8 58] 5)).heap.size (some ⟨w7.heap.size, 0, none⟩) 8 [0, x1, x2, x3, 0, 0, 0, 58] := shows_new w7 _ _ rfl
       clear ho7 b7)
    | (at_builtin; refine wpList_appAny _ rfl _ _ rfl w1.heap.size _ (0 + 16 + 16) _ rfl o8 (some ⟨w7.heap.size, 0, none⟩) 8 8 _ [0, x1, x2, x3, 0, 0, 0, 58] rfl s8 (by omega) b8.size ?_
       intro v9 w9 ho9 hg9
       have b9 : Below w1.heap.size w1 w9 := b8.grown hg9 b8.size (fun k hk => (o8.lt k hk).1)
       have s9 := (sl.below b9).up b9.size
       clear hg9 o8 b8 s8)
    | (at_builtin; refine wpList_appAny _ rfl _ _ rfl w1.heap.size _ (0 + 16 + 16 + 8) _ rfl ho9 A n c _ l rfl s9 (by omega) b9.size ?_
       intro v10 w10 ho10 hg10
       have b10 : Below w1.heap.size w1 w10 := b9.grown hg10 b9.size (fun k hk => (ho9.lt k hk).1)
       clear hg10 ho9 b9 s9)
    | fail)
  go_ret
  exact ⟨v10, rfl, by rw [HJ.out]; exact (ho10.base (b' := w.heap.size) (by omega)), Below.on hb0 hb0.size b10⟩

end Go.Proofs.Ytkokgoodpibboaa
