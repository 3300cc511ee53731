
/- Contracts of layer 30: law30.plays. -/
import Derived.Test.YtibpbgfliccacaaSesD
namespace Go.Proofs.Ytibpbgfliccacaa
open Go.RowKit
set_option linter.unusedSimpArgs false

/-- Deeds that a slice value shows: two cells each. -/
def ShD (w : World) (B : Nat) (A : Option Addr) (n : Nat) (l : List (Bool × Nat)) : Prop :=
  l.length = n ∧ (0 < n → ∃ b off, A = some ⟨b, off, none⟩ ∧ b < B ∧ ∀ j (h : j < l.length), w.cell? ⟨b, off + j * 2, none⟩ = some (.bool (l[j]'h).1) ∧ w.cell? ⟨b, off + j * 2 + 1, none⟩ = some (u6 (l[j]'h).2))
theorem ShD.elem {w : World} {B n : Nat} {A : Option Addr} {l : List (Bool × Nat)} (h : ShD w B A n l) {k : Nat} (hk : k < n) :
    ∃ (b off : Nat) (d : Bool) (x : Nat), A = some ⟨b, off, none⟩ ∧ b < B ∧ w.cell? ⟨b, off + k * 2, none⟩ = some (.bool d) ∧ w.cell? ⟨b, off + k * 2 + 1, none⟩ = some (.int .u64 (x : Int)) ∧ (d, x) ∈ l := by
  obtain ⟨b, off, e, hb, hc⟩ := h.2 (by omega)
  have hl : k < l.length := by have := h.1; omega
  exact ⟨b, off, _, _, e, hb, (hc k hl).1, (hc k hl).2, List.getElem_mem hl⟩
theorem ShD.gr {w w' : World} {B n : Nat} {A : Option Addr} {l : List (Bool × Nat)} {g : Nat} (h : ShD w B A n l) (hg : w.grownBy w' (some g)) (hB : B ≤ g) (hw : B ≤ w.heap.size) : ShD w' B A n l :=
  ⟨h.1, fun hn => by
    obtain ⟨b, off, e, hb, hc⟩ := h.2 hn
    have hk : w'.heap[b]? = w.heap[b]? := hg.block b (by omega) (fun e => by injection e with e; omega)
    exact ⟨b, off, e, hb, fun j hj => ⟨(World.cell?_of_block hk).trans (hc j hj).1, (World.cell?_of_block hk).trans (hc j hj).2⟩⟩⟩
theorem grownBy_trans {w w1 w2 : World} {r : Option Nat} (h1 : w.grownBy w1 r) (h2 : w1.grownBy w2 r) : w.grownBy w2 r :=
  ⟨h2.os.trans h1.os, h2.tape.trans h1.tape, h2.output.trans h1.output, Nat.le_trans h1.size h2.size, fun k hk hne => (h2.block k (Nat.lt_of_lt_of_le hk h1.size) hne).trans (h1.block k hk hne)⟩
theorem grownBy_of_below {w w' : World} (h : Below w.heap.size w w') (r : Option Nat) : w.grownBy w' r := ⟨h.os, h.tape, h.output, h.size, fun k hk _ => h.block k hk⟩
theorem sh6_gr {w w' : World} {B n : Nat} {A : Option Addr} {l : List Nat} {r : Option Nat} (h : Sh6 w B A n l) (hg : w.grownBy w' r) (hB : B ≤ w.heap.size) (hne : ∀ a, A = some a → r ≠ some a.block) : Sh6 w' w'.heap.size A n l :=
  ⟨h.1, fun hn => by
    obtain ⟨b, off, e, hb, hc⟩ := h.2 hn
    exact ⟨b, off, e, by have := hg.size; omega, fun j hj => (World.cell?_of_block (hg.block b (by omega) (fun x => hne _ e x.symm))).trans (hc j hj)⟩⟩
theorem Try.zeroDeed : (Try.prog.info? 70).map (fun i => (i.zero, i.size)) = some (some (.agg #[.bool false, .int .u64 0]), 2) := by kernel_rfl

/-- What plays carries on: the session, the document's one in a block of its own, the block of what is answered, the numbers that were taken. -/
structure Pk (w wr : World) (g : Nat) (pre : List Value) (nx : Nat) (L : List Nat) (M : Array Value) (A : Option Addr) (k : Nat) (Lr : List Nat) : Prop where
  ses : Ses wr g pre nx L
  m : Blk wr w.heap.size 58 M
  r : Blk wr (w.heap.size + 1) 58 zRs
  sh : Sh6 wr wr.heap.size A k Lr
  gr : w.grownBy wr (some g)
  gl : g < w.heap.size
theorem grownBy_in {w w1 w2 : World} {r : Option Nat} {k : Nat} (h1 : w.grownBy w1 r) (h2 : w1.grownBy w2 (some k)) (hk : w.heap.size ≤ k) : w.grownBy w2 r :=
  ⟨h2.os.trans h1.os, h2.tape.trans h1.tape, h2.output.trans h1.output, Nat.le_trans h1.size h2.size, fun j hj hne => (h2.block j (Nat.lt_of_lt_of_le hj h1.size) (fun e => by injection e with e; omega)).trans (h1.block j hj hne)⟩
section
variable {w wr w2 : World} {g : Nat} {pre : List Value} {nx nx2 : Nat} {L L2 : List Nat} {M M2 : Array Value} {A : Option Addr} {k : Nat} {Lr : List Nat}
theorem Pk.on (h : Pk w wr g pre nx L M A k Lr) (hb : Below wr.heap.size wr w2) : Pk w w2 g pre nx L M A k Lr :=
  ⟨h.ses.on hb, h.m.on hb, h.r.on hb, sh6_gr h.sh (grownBy_of_below hb none) (Nat.le_refl _) (fun _ _ e => by cases e), grownBy_trans h.gr (grownBy_of_below hb _), h.gl⟩
theorem Pk.acts (h : Pk w wr g pre nx L M A k Lr) (hs : Ses w2 g pre nx2 L2) (hg : wr.grownBy w2 (some g)) (hA : ∀ a, A = some a → a.block ≠ g) : Pk w w2 g pre nx2 L2 M A k Lr :=
  have hgl := h.gl
  ⟨hs, blk_gr h.m hg (fun e => by injection e with e; omega), blk_gr h.r hg (fun e => by injection e with e; omega), sh6_gr h.sh hg (Nat.le_refl _) (fun a ha e => by injection e with e; exact hA a ha e.symm), grownBy_trans h.gr hg, h.gl⟩
theorem Pk.store (h : Pk w wr g pre nx L M A k Lr) (hk : Blk w2 w.heap.size 58 M2) (hg : wr.grownBy w2 (some w.heap.size)) (hA : ∀ a, A = some a → a.block ≠ w.heap.size) : Pk w w2 g pre nx L M2 A k Lr :=
  have hgl := h.gl
  ⟨h.ses.gr hg (fun e => by injection e with e; omega), hk, blk_gr h.r hg (fun e => by injection e with e; omega), sh6_gr h.sh hg (Nat.le_refl _) (fun a ha e => by injection e with e; exact hA a ha e.symm), grownBy_in h.gr hg (Nat.le_refl _), h.gl⟩
end

set_option maxRecDepth 100000 in
set_option maxHeartbeats 2000000 in
theorem plays_any (g : Nat) (pre pre0 : List Value) (nx : Nat) (L : List Nat) (A : Option Addr) (c : Nat) (dA : Option Addr) (dn dc : Nat) (D : List (Bool × Nat)) (B : Nat) (w : World)
    (hs : Ses w g pre nx L) (hp0 : pre0.length = 34) (h10 : ∀ v ∈ pre0, v.oneCell' = true) (hnx : nx < 18446744073709551616)
    (hL : Sh6 w w.heap.size A L.length L) (hc0 : A = none → c = 0) (hAg : ∀ a, A = some a → a.block ≠ g ∧ a.block < w.heap.size)
    (hD : ShD w B dA dn D) (hBg : B ≤ g) (hD64 : ∀ d ∈ D, d.2 < 18446744073709551616) (hlen : L.length + dn ≤ 1000) :
    Calls Try.prog 30 #[.pointer (some ⟨g, 0, none⟩), .agg (rsC pre0 nx (.slice A L.length c)), .slice dA dn dc] w fun e w' => ∃ (nx' : Nat) (L' : List Nat) (A' : Option Addr) (c' : Nat),
      e = .returned (.tuple #[.agg (rsC pre0 nx' (.slice A' L'.length c')), .bool true]) ∧ nx' < 18446744073709551616 ∧ Ses w' g pre nx' L' ∧ Sh6 w' w'.heap.size A' L'.length L' ∧ (A' = none → c' = 0) ∧ (∀ a, A' = some a → a.block ≠ g ∧ a.block < w'.heap.size) ∧ L'.length ≤ L.length + dn ∧ w.grownBy w' (some g) := by
  have hgl := hs.lt
  have hz := (zero_of_info Try.zeroRs).1
  have hne : ¬ zRs = #[] := by unfold zRs; simp
  have HI := Lib.hid (fun (nx : Nat) (A' : Option Addr) (n' c' : Nat) => (show (Try.prog.info? 58).map (·.size) = some (rsC pre0 nx (.slice A' n' c')).size by rw [rsC_size _ _ _ hp0]; kernel_rfl))
  have HZ := Lib.hid (fun (nx : Nat) (A' : Option Addr) (n' c' : Nat) => (show (rsC pre0 nx (.slice A' n' c')).size = 36 by rw [rsC_size _ _ _ hp0]))
  have HO := Lib.hid (fun (nx : Nat) (A' : Option Addr) (n' c' : Nat) => rsC_one pre0 nx A' n' c' h10)
  have HSS := Lib.hid (fun (nx : Nat) (A' : Option Addr) (n' c' : Nat) (w : World) (hn : 18446744073709543423 ≤ nx) => rsend_spent pre0 hp0 h10 nx A' n' c' w hn)
  have HSO := Lib.hid (fun (nx : Nat) (A' : Option Addr) (n' c' : Nat) (w : World) (hn : nx < 18446744073709543423) => rsend_ok pre0 hp0 h10 nx A' n' c' w hn)
  have HTN := Lib.hid (fun (nx : Nat) (A' : Option Addr) (n' c' : Nat) => rtake_no pre0 hp0 h10 nx A' n' c')
  have HTY := Lib.hid (fun (nx : Nat) (A' : Option Addr) (n' c' : Nat) => rtake_yes pre0 hp0 h10 nx A' n' c')
  have HNX := Lib.hid (fun (nx : Nat) (tv : Value) (W : World) (g : Nat) (h : Blk W g 58 (rsC pre0 nx tv)) => rsC_next h hp0)
  have HTV := Lib.hid (fun (nx : Nat) (tv : Value) (W : World) (g : Nat) (h : Blk W g 58 (rsC pre0 nx tv)) => rsC_tv h hp0)
  have HD64 := Lib.hid hD64
  generalize hf : rsC pre0 = rs at *
  have k0 : Blk ((w.alloc (.cells (rs nx (.slice A L.length c)) 58)).alloc (.cells zRs 58)) w.heap.size 58 (rs nx (.slice A L.length c)) := (blk_new _ _ _).alloc _
  have k1 : Blk ((w.alloc (.cells (rs nx (.slice A L.length c)) 58)).alloc (.cells zRs 58)) (w.heap.size + 1) 58 zRs := blk_new' _ _ _ _ (by simp)
  have hb0 : Below w.heap.size w ((w.alloc (.cells (rs nx (.slice A L.length c)) 58)).alloc (.cells zRs 58)) := ((Below.refl _ _).alloc (Nat.le_refl _) _).alloc (by simp) _
  have hg0 := grownBy_of_below hb0 (some g)
  have hs0 := hs.on hb0
  have hL0 := sh6_gr hL (grownBy_of_below hb0 none) (Nat.le_refl _) (fun _ _ e => by cases e)
  have HK := Lib.hid (And.intro hs0 (And.intro k0 (And.intro k1 (And.intro hL0 (And.intro hc0 (And.intro hAg (And.intro hnx hg0)))))))
  clear hs k0 k1 hb0 hg0 hs0 hL hL0 hc0 hAg hnx hp0 h10 hf hD64
  have HDw := Lib.hid hD
  clear hD
  go_enter Try.func30, Try.ntmps30
  go_wp2
  generalize ((w.alloc (.cells (rs nx (.slice A L.length c)) 58)).alloc (.cells zRs 58)) = W at *
  go_loopw [20] (fun i wr => ∃ (k nx' : Nat) (L' : List Nat) (A' : Option Addr) (c' : Nat), k ≤ dn ∧ i = .int .i64 (k : Int) ∧ L'.length ≤ L.length + k ∧
    Ses wr g pre nx' L' ∧ Blk wr w.heap.size 58 (rs nx' (.slice A' L'.length c')) ∧ Blk wr (w.heap.size + 1) 58 zRs ∧ Sh6 wr wr.heap.size A' L'.length L' ∧ (A' = none → c' = 0) ∧ (∀ a, A' = some a → a.block ≠ g ∧ a.block ≠ w.heap.size ∧ a.block ≠ w.heap.size + 1 ∧ a.block < wr.heap.size) ∧ nx' < 18446744073709551616 ∧ w.grownBy wr (some g)) (fun i _ => dn - (intOf i).toNat)
  case atStart => exact ⟨0, nx, L, A, c, Nat.zero_le _, rfl, Nat.le_refl _, HK.out.1, HK.out.2.1, HK.out.2.2.1, HK.out.2.2.2.1, HK.out.2.2.2.2.1, fun a ha => by have h1 := HK.out.2.2.2.2.2.1 a ha; have h2 := HK.out.2.2.2.2.2.2.2.size; omega, HK.out.2.2.2.2.2.2.1, HK.out.2.2.2.2.2.2.2⟩
  case round =>
    obtain ⟨k, nx', L', A', c', hk, rfl, hLk, hS, hM, hR, hL', hc', hA', hn', hG⟩ := hrel
    by_cases hlt : k < dn
    · obtain ⟨b, off, d, x, rfl, hbb, hcd, hcx, hmem⟩ := (HDw.out.gr hG hBg (by omega)).elem hlt
      have hx64 := HD64.out _ hmem
      have hrl : L'.length ≤ 1000 := by omega
      have htop := hS.2.lim
      have PK0 : Pk w wr g pre nx' L' (rs nx' (.slice A' L'.length c')) A' L'.length L' := ⟨hS, hM, hR, hL', hG, hgl⟩
      have b1 : Below wr.heap.size wr (wr.alloc (.cells #[.bool d, .int .u64 (x : Int)] 70)) := (Below.refl _ _).alloc (Nat.le_refl _) _
      have PK1 := PK0.on b1
      have kd : Blk (wr.alloc (.cells #[.bool d, .int .u64 (x : Int)] 70)) wr.heap.size 70 #[.bool d, .int .u64 (x : Int)] := blk_new _ _ _
      have hAg1 : ∀ a, A' = some a → a.block ≠ g := fun a ha => (hA' a ha).1
      have hAm : ∀ a, A' = some a → a.block ≠ w.heap.size := fun a ha => (hA' a ha).2.1
      have HA := Lib.hid hA'
      have HC0 := Lib.hid hc'
      have HBnd : Hid (nx' < 18446744073709551616) := Lib.hid hn'
      have PK0lt := PK0.m.lt
      clear hS hM hR hL' hG PK0 hA' hc' hn' hmem
      have hws : wr.heap.size < (wr.alloc (.cells #[.bool d, .int .u64 (x : Int)] 70)).heap.size := by simp
      have HWR : Hid (w.heap.size < wr.heap.size) := Lib.hid PK0lt
      cases d
      · cases hcan : canB L' x
        · have HCan := Lib.hid (scan_any g pre nx' L' x _ PK1.ses hx64)
          rw [hcan] at HCan
          go_wp2_with (first
            | (refine wpList_allocStore (cs := #[.bool false, .int .u64 (x : Int)]) rfl rfl 70 ?ho (.tmp 9) (.tmp 23) ?ho2 Try.zeroDeed ?hz ?hx ?hy ?hn ?h1 ?_
               case ho => with_reducible rfl
               case ho2 => rfl
               case hz => rfl
               case hx => rfl
               case hy => rfl
               case hn => rfl
               case h1 => rfl))
          refine HCan.out.mono ?_
          rintro e w2 ⟨rfl, rfl⟩
          have PK2 := PK1
          have hsz2 := hws
          have kc1 := blk_cell kd 1 _ rfl
          clear HCan PK1
          generalize hwg : wr.alloc (.cells #[.bool false, .int .u64 (x : Int)] 70) = w2 at *
          clear hwg
          go_wp2_with (first
            | (refine wpList_loadBlk (g := w.heap.size) (t := 58) (cs := rs nx' (.slice A' L'.length c')) rfl 58 (.tmp 4) ?ho ?hx ?hA _ Try.underlying58 rfl ?hi ?_
               case ho => with_reducible rfl
               case hx => rfl
               case hA => exact PK2.m
               case hi => exact HI.out _ _ _ _))
          refine (HTN.out nx' A' L'.length c' L' x w2 hx64 PK2.sh hrl (by omega) hcan).mono ?_
          rintro e w3 ⟨rfl, hb3⟩
          have PK3 := PK2.on hb3
          have kd3 := kd.on hb3
          have hAm2 := hAm
          clear PK2 kd
          generalize hM2 : rs nx' (.slice A' L'.length c') = M2 at *
          have HSZ3 : Hid (wr.heap.size < w3.heap.size) := Lib.hid (by have := hb3.size; omega)
          have hdw : wr.heap.size ≠ w.heap.size := by have := HWR.out; omega
          clear hb3
          have HI2 : Hid ((Try.prog.info? 58).map (·.size) = some M2.size) := Lib.hid (by rw [← hM2]; exact HI.out _ _ _ _)
          have HZ2 : Hid (M2.size = 36) := Lib.hid (by rw [← hM2]; exact HZ.out _ _ _ _)
          have HO2 : Hid (M2.all (·.oneCell') = true) := Lib.hid (by rw [← hM2]; exact HO.out _ _ _ _)
          have HSZ : Hid (M2.size = M2.size) := Lib.hid rfl
          have HM2 := Lib.hid hM2
          clear hM2 kc1
          have PK4 := PK3.on ((Below.refl _ _).alloc (Nat.le_refl _) (.cells M2 58))
          have hd4 : True ∧ ∀ {w5 : World}, (w3.alloc (.cells M2 58)).grownBy w5 (some w.heap.size) → Blk w5 wr.heap.size 70 #[.bool false, .int .u64 (x : Int)] := ⟨trivial, fun h => blk_gr (kd3.alloc _) h (fun e => hdw (by injection e with e; exact e.symm))⟩
          clear PK3 kd3
          go_wp2_with (first
            | (refine wpList_allocStore (cs := M2) rfl rfl 58 ?ho (.tmp 16) (.tmp 56) ?ho2 Try.zeroRs ?hz ?hx ?hy ?hn ?h1 ?_
               case ho => with_reducible rfl
               case ho2 => rfl
               case hz => rfl
               case hx => rfl
               case hy => rfl
               case hn => exact HZ2.out
               case h1 => exact HO2.out)
            | (refine wpList_loadBlk (g := w3.heap.size) (t := 58) (cs := M2) rfl 58 (.tmp 16) ?ho ?hx ?hA _ Try.underlying58 rfl ?hi ?_
               case ho => with_reducible rfl
               case hx => rfl
               case hA => exact blk_new _ _ _
               case hi => exact HI2.out)
            | (refine wpList_storeBlk (g := w.heap.size) (t := 58) (cs := M2) rfl 58 (.tmp 4) (.tmp 58) ?ho ?hx2 ?hy2 M2 PK4.m ?hi ?hs ?h1 ?_
               case ho => with_reducible rfl
               case hx2 => rfl
               case hy2 => rfl
               case hi => exact HI2.out
               case hs => first | exact HSZ.out | rfl
               case h1 => exact HO2.out
               intro w5 kb hg5
               have HP5 := Lib.hid (PK4.store kb hg5 hAm2)
               have HSZ5 := Lib.hid hg5.size
               have HD5 := Lib.hid (hd4.2 hg5)
               have hc5 := blk_cell HD5.out 1 _ rfl
               clear PK4 kb hg5))
          refine (stake_any g pre nx' L' x w5 HP5.out.ses hx64).mono ?_
          rintro e w6 ⟨rfl, hS6, hg6⟩
          rw [show codeT L' x = 16 by unfold codeT; rw [hcan]; rfl]
          rw [show takeL L' x = L' by unfold takeL; rw [hcan]; rfl] at hS6
          have HP6 := Lib.hid (HP5.out.acts hS6 hg6 (fun a ha => hAg1 a ha))
          have HSZ6 := Lib.hid hg6.size
          clear hS6 hg6 hc5
          rw [← HM2.out] at HP6
          go_wp2
          go_roundw
          case rel => exact ⟨k + 1, nx', L', A', c', by omega, by go_num, by omega, HP6.out.ses, HP6.out.m, HP6.out.r, HP6.out.sh, HC0.out, fun a ha => by have h1 := HA.out a ha; have h2 := HSZ5.out; have h3 := HSZ6.out; have h4 := HSZ3.out; simp at h2; omega, HBnd.out, HP6.out.gr⟩
          case measure => simp [intOf]; omega
          
        · have HCan := Lib.hid (scan_any g pre nx' L' x _ PK1.ses hx64)
          rw [hcan] at HCan
          go_wp2_with (first
            | (refine wpList_allocStore (cs := #[.bool false, .int .u64 (x : Int)]) rfl rfl 70 ?ho (.tmp 9) (.tmp 23) ?ho2 Try.zeroDeed ?hz ?hx ?hy ?hn ?h1 ?_
               case ho => with_reducible rfl
               case ho2 => rfl
               case hz => rfl
               case hx => rfl
               case hy => rfl
               case hn => rfl
               case h1 => rfl))
          refine HCan.out.mono ?_
          rintro e w2 ⟨rfl, rfl⟩
          have PK2 := PK1
          have hsz2 := hws
          have kc1 := blk_cell kd 1 _ rfl
          clear HCan PK1
          generalize hwg : wr.alloc (.cells #[.bool false, .int .u64 (x : Int)] 70) = w2 at *
          clear hwg
          go_wp2_with (first
            | (refine wpList_loadBlk (g := w.heap.size) (t := 58) (cs := rs nx' (.slice A' L'.length c')) rfl 58 (.tmp 4) ?ho ?hx ?hA _ Try.underlying58 rfl ?hi ?_
               case ho => with_reducible rfl
               case hx => rfl
               case hA => exact PK2.m
               case hi => exact HI.out _ _ _ _))
          refine (HTY.out nx' A' L'.length c' L' x w2 hx64 PK2.sh hrl HC0.out (by omega) hcan).mono ?_
          rintro e w3 ⟨A2, c2, rfl, hS2, hA0, hfr, hb3⟩
          have PK2' := PK2.on hb3
          have PK3 : Pk w w3 g pre nx' L' (rs nx' (.slice A' L'.length c')) A2 (L'.length + 1) (L' ++ [x]) := ⟨PK2'.ses, PK2'.m, PK2'.r, hS2, PK2'.gr, hgl⟩
          have hw2s := PK2.gr.size
          have hmlt := PK2.m.lt
          have hrlt := PK2.r.lt
          have hslt := PK2.ses.lt
          have hA2 : ∀ a, A2 = some a → a.block ≠ g ∧ a.block ≠ w.heap.size ∧ a.block ≠ w.heap.size + 1 ∧ a.block < w3.heap.size := fun a ha => by have := hfr a ha; omega
          have hAm2 : ∀ a, A2 = some a → a.block ≠ w.heap.size := fun a ha => (hA2 a ha).2.1
          have HA2 := Lib.hid hA2
          have HC2 := Lib.hid hA0
          have kd3 := kd.on hb3
          clear PK2' hS2 hA0 hfr PK2 hA2 kd
          generalize hM2 : rs nx' (.slice A2 (L'.length + 1) c2) = M2 at *
          have HSZ3 : Hid (wr.heap.size < w3.heap.size) := Lib.hid (by have := hb3.size; omega)
          have hdw : wr.heap.size ≠ w.heap.size := by have := HWR.out; omega
          clear hb3
          have HI2 : Hid ((Try.prog.info? 58).map (·.size) = some M2.size) := Lib.hid (by rw [← hM2]; exact HI.out _ _ _ _)
          have HZ2 : Hid (M2.size = 36) := Lib.hid (by rw [← hM2]; exact HZ.out _ _ _ _)
          have HO2 : Hid (M2.all (·.oneCell') = true) := Lib.hid (by rw [← hM2]; exact HO.out _ _ _ _)
          have HSZ : Hid ((rs nx' (.slice A' L'.length c')).size = M2.size) := Lib.hid (by rw [HZ2.out]; exact HZ.out _ _ _ _)
          have HM2 := Lib.hid hM2
          clear hM2 kc1
          have PK4 := PK3.on ((Below.refl _ _).alloc (Nat.le_refl _) (.cells M2 58))
          have hd4 : True ∧ ∀ {w5 : World}, (w3.alloc (.cells M2 58)).grownBy w5 (some w.heap.size) → Blk w5 wr.heap.size 70 #[.bool false, .int .u64 (x : Int)] := ⟨trivial, fun h => blk_gr (kd3.alloc _) h (fun e => hdw (by injection e with e; exact e.symm))⟩
          clear PK3 kd3
          go_wp2_with (first
            | (refine wpList_allocStore (cs := M2) rfl rfl 58 ?ho (.tmp 16) (.tmp 56) ?ho2 Try.zeroRs ?hz ?hx ?hy ?hn ?h1 ?_
               case ho => with_reducible rfl
               case ho2 => rfl
               case hz => rfl
               case hx => rfl
               case hy => rfl
               case hn => exact HZ2.out
               case h1 => exact HO2.out)
            | (refine wpList_loadBlk (g := w3.heap.size) (t := 58) (cs := M2) rfl 58 (.tmp 16) ?ho ?hx ?hA _ Try.underlying58 rfl ?hi ?_
               case ho => with_reducible rfl
               case hx => rfl
               case hA => exact blk_new _ _ _
               case hi => exact HI2.out)
            | (refine wpList_storeBlk (g := w.heap.size) (t := 58) (cs := M2) rfl 58 (.tmp 4) (.tmp 58) ?ho ?hx2 ?hy2 (rs nx' (.slice A' L'.length c')) PK4.m ?hi ?hs ?h1 ?_
               case ho => with_reducible rfl
               case hx2 => rfl
               case hy2 => rfl
               case hi => exact HI2.out
               case hs => first | exact HSZ.out | rfl
               case h1 => exact HO2.out
               intro w5 kb hg5
               have HP5 := Lib.hid (PK4.store kb hg5 hAm2)
               have HSZ5 := Lib.hid hg5.size
               have HD5 := Lib.hid (hd4.2 hg5)
               have hc5 := blk_cell HD5.out 1 _ rfl
               clear PK4 kb hg5))
          refine (stake_any g pre nx' L' x w5 HP5.out.ses hx64).mono ?_
          rintro e w6 ⟨rfl, hS6, hg6⟩
          rw [show codeT L' x = 0 by unfold codeT; rw [hcan]; rfl]
          rw [show takeL L' x = L' ++ [x] by unfold takeL; rw [hcan]; rfl] at hS6
          have HP6 := Lib.hid (HP5.out.acts hS6 hg6 (fun a ha => (HA2.out a ha).1))
          have HSZ6 := Lib.hid hg6.size
          clear hS6 hg6 hc5
          rw [← HM2.out] at HP6
          go_wp2
          go_roundw
          case rel => exact ⟨k + 1, nx', L' ++ [x], A2, c2, by omega, by go_num, by simp; omega, HP6.out.ses, by simpa using HP6.out.m, HP6.out.r, by simpa using HP6.out.sh, HC2.out, fun a ha => by have h1 := HA2.out a ha; have h2 := HSZ5.out; have h3 := HSZ6.out; simp at h2; omega, HBnd.out, HP6.out.gr⟩
          case measure => simp [intOf]; omega
          
      · by_cases hsp : nx' < 18446744073709543423
        · have HSend := Lib.hid (send_ok g pre nx' L' _ PK1.ses hsp)
          have hwsz := PK1.ses.lt
          go_wp2_with (first
            | (refine wpList_allocStore (cs := #[.bool true, .int .u64 (x : Int)]) rfl rfl 70 ?ho (.tmp 9) (.tmp 23) ?ho2 Try.zeroDeed ?hz ?hx ?hy ?hn ?h1 ?_
               case ho => with_reducible rfl
               case ho2 => rfl
               case hz => rfl
               case hx => rfl
               case hy => rfl
               case hn => rfl
               case h1 => rfl))
          refine HSend.out.mono ?_
          rintro e w2 ⟨rfl, hS2, hg2⟩
          have PK2 := PK1.acts hS2 hg2 hAg1
          have hsz2 := hg2.size
          clear HSend hS2 hg2 PK1 kd
          go_wp2_with (first
            | (refine wpList_loadBlk (g := w.heap.size) (t := 58) (cs := rs nx' (.slice A' L'.length c')) rfl 58 (.tmp 4) ?ho ?hx ?hA _ Try.underlying58 rfl ?hi ?_
               case ho => with_reducible rfl
               case hx => rfl
               case hA => exact PK2.m
               case hi => exact HI.out _ _ _ _))
          refine (HSO.out nx' A' L'.length c' w2 hsp).mono ?_
          rintro e w3 ⟨rfl, hb3⟩
          have PK3 := PK2.on hb3
          have HSZ3 : Hid (wr.heap.size ≤ w3.heap.size) := Lib.hid (by have := hb3.size; omega)
          clear hb3 PK2
          generalize hM2 : rs (nx' + 1) (.slice A' L'.length c') = M2 at *
          have HI2 : Hid ((Try.prog.info? 58).map (·.size) = some M2.size) := Lib.hid (by rw [← hM2]; exact HI.out _ _ _ _)
          have HZ2 : Hid (M2.size = 36) := Lib.hid (by rw [← hM2]; exact HZ.out _ _ _ _)
          have HO2 : Hid (M2.all (·.oneCell') = true) := Lib.hid (by rw [← hM2]; exact HO.out _ _ _ _)
          have HSZ : Hid ((rs nx' (.slice A' L'.length c')).size = M2.size) := Lib.hid (by rw [HZ2.out]; exact HZ.out _ _ _ _)
          have HM2 := Lib.hid hM2
          clear hM2
          have PK4 := PK3.on ((Below.refl _ _).alloc (Nat.le_refl _) (.cells M2 58))
          have hAm2 := hAm
          have hd4 : True ∧ ∀ {w5 : World}, (w3.alloc (.cells M2 58)).grownBy w5 (some w.heap.size) → True := ⟨trivial, fun _ => trivial⟩
          clear PK3
          go_wp2_with (first
            | (refine wpList_allocStore (cs := M2) rfl rfl 58 ?ho (.tmp 12) (.tmp 34) ?ho2 Try.zeroRs ?hz ?hx ?hy ?hn ?h1 ?_
               case ho => with_reducible rfl
               case ho2 => rfl
               case hz => rfl
               case hx => rfl
               case hy => rfl
               case hn => exact HZ2.out
               case h1 => exact HO2.out)
            | (refine wpList_loadBlk (g := w3.heap.size) (t := 58) (cs := M2) rfl 58 (.tmp 12) ?ho ?hx ?hA _ Try.underlying58 rfl ?hi ?_
               case ho => with_reducible rfl
               case hx => rfl
               case hA => exact blk_new _ _ _
               case hi => exact HI2.out)
            | (refine wpList_storeBlk (g := w.heap.size) (t := 58) (cs := M2) rfl 58 (.tmp 4) (.tmp 37) ?ho ?hx2 ?hy2 (rs nx' (.slice A' L'.length c')) PK4.m ?hi ?hs ?h1 ?_
               case ho => with_reducible rfl
               case hx2 => rfl
               case hy2 => rfl
               case hi => exact HI2.out
               case hs => first | exact HSZ.out | rfl
               case h1 => exact HO2.out
               intro w5 kb hg5
               have HP5 := Lib.hid (PK4.store kb hg5 hAm2)
               have HSZ5 := Lib.hid hg5.size
               have HD5 := Lib.hid (hd4.2 hg5)
               clear PK4 kb hg5))
          rw [← HM2.out] at HP5
          go_roundw
          case rel => exact ⟨k + 1, nx' + 1, L', A', c', by omega, by go_num, by omega, HP5.out.ses, HP5.out.m, HP5.out.r, HP5.out.sh, HC0.out, fun a ha => by have h1 := HA.out a ha; have h2 := HSZ5.out; have h3 := HSZ3.out; simp at h2; omega, Nat.lt_of_lt_of_le (Nat.succ_lt_succ hsp) (by decide +kernel), HP5.out.gr⟩
          case measure => simp [intOf]; omega
          
        · have hsp : 18446744073709543423 ≤ nx' := by omega
          have HSend := Lib.hid (send_spent g pre nx' L' _ PK1.ses hsp)
          have hwsz := PK1.ses.lt
          go_wp2_with (first
            | (refine wpList_allocStore (cs := #[.bool true, .int .u64 (x : Int)]) rfl rfl 70 ?ho (.tmp 9) (.tmp 23) ?ho2 Try.zeroDeed ?hz ?hx ?hy ?hn ?h1 ?_
               case ho => with_reducible rfl
               case ho2 => rfl
               case hz => rfl
               case hx => rfl
               case hy => rfl
               case hn => rfl
               case h1 => rfl))
          refine HSend.out.mono ?_
          rintro e w2 ⟨rfl, rfl⟩
          have PK2 := PK1
          have hsz2 : wr.heap.size < (wr.alloc (.cells #[.bool true, .int .u64 (x : Int)] 70)).heap.size := hws
          clear HSend PK1 kd
          generalize wr.alloc (.cells #[.bool true, .int .u64 (x : Int)] 70) = w2 at *
          go_wp2_with (first
            | (refine wpList_loadBlk (g := w.heap.size) (t := 58) (cs := rs nx' (.slice A' L'.length c')) rfl 58 (.tmp 4) ?ho ?hx ?hA _ Try.underlying58 rfl ?hi ?_
               case ho => with_reducible rfl
               case hx => rfl
               case hA => exact PK2.m
               case hi => exact HI.out _ _ _ _))
          refine (HSS.out nx' A' L'.length c' w2 hsp).mono ?_
          rintro e w3 ⟨rfl, hb3⟩
          have PK3 := PK2.on hb3
          have HSZ3 : Hid (wr.heap.size ≤ w3.heap.size) := Lib.hid (by have := hb3.size; omega)
          clear hb3 PK2
          generalize hM2 : rs nx' (.slice A' L'.length c') = M2 at *
          have HI2 : Hid ((Try.prog.info? 58).map (·.size) = some M2.size) := Lib.hid (by rw [← hM2]; exact HI.out _ _ _ _)
          have HZ2 : Hid (M2.size = 36) := Lib.hid (by rw [← hM2]; exact HZ.out _ _ _ _)
          have HO2 : Hid (M2.all (·.oneCell') = true) := Lib.hid (by rw [← hM2]; exact HO.out _ _ _ _)
          have HSZ : Hid (M2.size = M2.size) := Lib.hid rfl
          have HM2 := Lib.hid hM2
          clear hM2
          have PK4 := PK3.on ((Below.refl _ _).alloc (Nat.le_refl _) (.cells M2 58))
          have hAm2 := hAm
          have hd4 : True ∧ ∀ {w5 : World}, (w3.alloc (.cells M2 58)).grownBy w5 (some w.heap.size) → True := ⟨trivial, fun _ => trivial⟩
          clear PK3
          go_wp2_with (first
            | (refine wpList_allocStore (cs := M2) rfl rfl 58 ?ho (.tmp 12) (.tmp 34) ?ho2 Try.zeroRs ?hz ?hx ?hy ?hn ?h1 ?_
               case ho => with_reducible rfl
               case ho2 => rfl
               case hz => rfl
               case hx => rfl
               case hy => rfl
               case hn => exact HZ2.out
               case h1 => exact HO2.out)
            | (refine wpList_loadBlk (g := w3.heap.size) (t := 58) (cs := M2) rfl 58 (.tmp 12) ?ho ?hx ?hA _ Try.underlying58 rfl ?hi ?_
               case ho => with_reducible rfl
               case hx => rfl
               case hA => exact blk_new _ _ _
               case hi => exact HI2.out)
            | (refine wpList_storeBlk (g := w.heap.size) (t := 58) (cs := M2) rfl 58 (.tmp 4) (.tmp 37) ?ho ?hx2 ?hy2 M2 PK4.m ?hi ?hs ?h1 ?_
               case ho => with_reducible rfl
               case hx2 => rfl
               case hy2 => rfl
               case hi => exact HI2.out
               case hs => first | exact HSZ.out | rfl
               case h1 => exact HO2.out
               intro w5 kb hg5
               have HP5 := Lib.hid (PK4.store kb hg5 hAm2)
               have HSZ5 := Lib.hid hg5.size
               have HD5 := Lib.hid (hd4.2 hg5)
               clear PK4 kb hg5))
          rw [← HM2.out] at HP5
          go_roundw
          case rel => exact ⟨k + 1, nx', L', A', c', by omega, by go_num, by omega, HP5.out.ses, HP5.out.m, HP5.out.r, HP5.out.sh, HC0.out, fun a ha => by have h1 := HA.out a ha; have h2 := HSZ5.out; have h3 := HSZ3.out; simp at h2; omega, HBnd.out, HP5.out.gr⟩
          case measure => simp [intOf]; omega
    · obtain rfl : k = dn := by omega
      have hrl : L'.length ≤ 1000 := by omega
      have htop := hS.2.lim
      have HA := Lib.hid hA'
      have HC0 := Lib.hid hc'
      have HBnd : Hid (nx' < 18446744073709551616) := Lib.hid hn'
      have HRC := Lib.hid (fun (V : World) (h : Sh6 V wr.heap.size A' L'.length L') => refCan_any A' L'.length c' L' nx' _ V h (by omega) hn' (by omega))
      have HCa := Lib.hid (fun (V : World) (h : Ses V g pre nx' L') => scan_any g pre nx' L' nx' V h hn')
      have hS0 : Ses wr.drew g pre nx' L' := ⟨hS.1, hS.2⟩
      have hM0 : Blk wr.drew w.heap.size 58 (rs nx' (.slice A' L'.length c')) := hM
      have hR0 : Blk wr.drew (w.heap.size + 1) 58 zRs := hR
      have hL0 : Sh6 wr.drew wr.heap.size A' L'.length L' := hL'
      have hG0 : w.grownBy wr.drew (some g) := grownBy_drew hG
      have hW0 : wr.heap.size ≤ wr.drew.heap.size := Nat.le_refl _
      generalize canB L' nx' = bq at *
      clear hS hM hR hL' hG hA' hc' hn'
      go_wp2_with fail
      by_cases hsp : nx' < 18446744073709543423
      · have hdl : decide ((18446744073709543423 : Int) ≤ (nx' : Int)) = false := by simp; omega
        have HSp := Lib.hid (fun (V : World) (h : Ses V g pre nx' L') => spent_no g pre nx' L' V h hsp)
        refine wp_region_held_drew (S := fun V => Ses V g pre nx' L' ∧ Blk V w.heap.size 58 (rs nx' (.slice A' L'.length c')) ∧ Sh6 V wr.heap.size A' L'.length L') (by kernel_rfl) ⟨hS0, hM0, hL0⟩ ?_
        intro hS9
        generalize hwd : wr.drew = W0 at *
        clear hwd
        refine wpAnyH_take (i := 0) (oi := ?o1) (v := .agg (rs nx' (.slice A' L'.length c'))) ?hio1 (by kernel_rfl) (by kernel_rfl) (by kernel_rfl) ?hQo1 ?hyo1 hS9 ?_
        case hio1 => (simp only [List.getElem?_toArray, List.getElem?_cons_succ, List.getElem?_cons_zero]; rfl)
        case hQo1 => exact fun _ _ _ h => h
        case hyo1 => exact yieldsIf_load_mid (by rfl) 58 (.tmp 4) rfl w.heap.size 0 rfl (rs nx' (.slice A' L'.length c')).toList _ (fun W hW => blk_range hW.2.1) Try.underlying58 rfl (by simpa using HI.out nx' A' L'.length c')
        try simp only [Act.put, List.setIfInBounds_toArray, List.set_cons_zero, List.set_cons_succ]
        refine wpAnyH_take (i := 1) (oi := ?o2) (v := .pointer (some ⟨g, 0, none⟩)) ?hio2 (by kernel_rfl) (by kernel_rfl) (by kernel_rfl) ?hQo2 ?hyo2 hS9 ?_
        case hio2 => (simp only [List.getElem?_toArray, List.getElem?_cons_succ, List.getElem?_cons_zero]; rfl)
        case hQo2 => exact fun _ _ _ h => h
        case hyo2 => exact Or.inl ⟨by rfl, fun W hW => by go_simp⟩
        try simp only [Act.put, List.setIfInBounds_toArray, List.set_cons_zero, List.set_cons_succ]
        refine wpAnyH_take (i := 3) (oi := ?o3) (v := .pointer (some ⟨w.heap.size, 34, none⟩)) ?hio3 (by kernel_rfl) (by kernel_rfl) (by kernel_rfl) ?hQo3 ?hyo3 hS9 ?_
        case hio3 => (simp only [List.getElem?_toArray, List.getElem?_cons_succ, List.getElem?_cons_zero]; rfl)
        case hQo3 => exact fun _ _ _ h => h
        case hyo3 => exact Or.inl ⟨by rfl, fun W hW => by go_simp⟩
        try simp only [Act.put, List.setIfInBounds_toArray, List.set_cons_zero, List.set_cons_succ]
        refine wpAnyH_take (i := 4) (oi := ?o4) (v := .int .u64 (nx' : Int)) ?hio4 (by kernel_rfl) (by kernel_rfl) (by kernel_rfl) ?hQo4 ?hyo4 hS9 ?_
        case hio4 => (simp only [List.getElem?_toArray, List.getElem?_cons_succ, List.getElem?_cons_zero]; rfl)
        case hQo4 => exact fun _ _ _ h => h
        case hyo4 =>
          refine Or.inl ⟨by rfl, ?_⟩
          intro W hW
          have hcW := HNX.out _ _ _ _ hW.2.1
          go_simp
        try simp only [Act.put, List.setIfInBounds_toArray, List.set_cons_zero, List.set_cons_succ]
        refine wpAnyH_ready (rs := [2]) (by kernel_rfl) (by simp) ?_
        refine AllReadyH.cons (o := ?o22) ?hoo22 (fun K hK => ?ho22) AllReadyH.nil
        case hoo22 => (simp only [List.getElem?_toArray, List.getElem?_cons_succ, List.getElem?_cons_zero]; rfl)
        case ho22 =>
          go_simp
          go_at_call 35
          with_reducible refine (HSp.out _ hS9.1).mono ?_
          rintro e w2 ⟨rfl, rfl⟩
          refine hK.out _ _ hS9 (fun _ => ?_)
          clear hK K
          try simp only [Act.put, List.setIfInBounds_toArray, List.set_cons_zero, List.set_cons_succ]
          refine wpAnyH_ready (rs := [5]) (by kernel_rfl) (by simp) ?_
          refine AllReadyH.cons (o := ?o21) ?hoo21 (fun K hK => ?ho21) AllReadyH.nil
          case hoo21 => (simp only [List.getElem?_toArray, List.getElem?_cons_succ, List.getElem?_cons_zero]; rfl)
          case ho21 =>
            go_simp
            go_at_call 23
            with_reducible refine (limit_any _).mono ?_
            rintro e w2 ⟨rfl, rfl⟩
            refine hK.out _ _ hS9 (fun _ => ?_)
            clear hK K
            try simp only [Act.put, List.setIfInBounds_toArray, List.set_cons_zero, List.set_cons_succ]
            refine wpAnyH_take (i := 6) (oi := ?o10) (v := .bool false) ?hio10 (by kernel_rfl) (by kernel_rfl) (by kernel_rfl) ?hQo10 ?hyo10 hS9 ?_
            case hio10 => (simp only [List.getElem?_toArray, List.getElem?_cons_succ, List.getElem?_cons_zero]; rfl)
            case hQo10 => exact fun _ _ _ h => h
            case hyo10 => exact Or.inl ⟨by rfl, fun W hW => by go_simp⟩
            try simp only [Act.put, List.setIfInBounds_toArray, List.set_cons_zero, List.set_cons_succ]
            refine wpAnyH_take (i := 7) (oi := ?o11) (v := .bool true) ?hio11 (by kernel_rfl) (by kernel_rfl) (by kernel_rfl) ?hQo11 ?hyo11 hS9 ?_
            case hio11 => (simp only [List.getElem?_toArray, List.getElem?_cons_succ, List.getElem?_cons_zero]; rfl)
            case hQo11 => exact fun _ _ _ h => h
            case hyo11 => exact Or.inl ⟨by rfl, fun W hW => by go_simp⟩
            try simp only [Act.put, List.setIfInBounds_toArray, List.set_cons_zero, List.set_cons_succ]
            refine wpAnyH_take (i := 8) (oi := ?o12) (v := .bool true) ?hio12 (by kernel_rfl) (by kernel_rfl) (by kernel_rfl) ?hQo12 ?hyo12 hS9 ?_
            case hio12 => (simp only [List.getElem?_toArray, List.getElem?_cons_succ, List.getElem?_cons_zero]; rfl)
            case hQo12 => exact fun _ _ _ h => h
            case hyo12 => exact Or.inl ⟨by rfl, fun W hW => by go_simp⟩
            try simp only [Act.put, List.setIfInBounds_toArray, List.set_cons_zero, List.set_cons_succ]
            refine wpAnyH_take (i := 9) (oi := ?o13) (v := .pointer (some ⟨g, 0, none⟩)) ?hio13 (by kernel_rfl) (by kernel_rfl) (by kernel_rfl) ?hQo13 ?hyo13 hS9 ?_
            case hio13 => (simp only [List.getElem?_toArray, List.getElem?_cons_succ, List.getElem?_cons_zero]; rfl)
            case hQo13 => exact fun _ _ _ h => h
            case hyo13 => exact Or.inl ⟨by rfl, fun W hW => by go_simp⟩
            try simp only [Act.put, List.setIfInBounds_toArray, List.set_cons_zero, List.set_cons_succ]
            refine wpAnyH_take (i := 10) (oi := ?o14) (v := .pointer (some ⟨w.heap.size, 34, none⟩)) ?hio14 (by kernel_rfl) (by kernel_rfl) (by kernel_rfl) ?hQo14 ?hyo14 hS9 ?_
            case hio14 => (simp only [List.getElem?_toArray, List.getElem?_cons_succ, List.getElem?_cons_zero]; rfl)
            case hQo14 => exact fun _ _ _ h => h
            case hyo14 => exact Or.inl ⟨by rfl, fun W hW => by go_simp⟩
            try simp only [Act.put, List.setIfInBounds_toArray, List.set_cons_zero, List.set_cons_succ]
            refine wpAnyH_take (i := 11) (oi := ?o15) (v := .int .u64 (nx' : Int)) ?hio15 (by kernel_rfl) (by kernel_rfl) (by kernel_rfl) ?hQo15 ?hyo15 hS9 ?_
            case hio15 => (simp only [List.getElem?_toArray, List.getElem?_cons_succ, List.getElem?_cons_zero]; rfl)
            case hQo15 => exact fun _ _ _ h => h
            case hyo15 =>
              refine Or.inl ⟨by rfl, ?_⟩
              intro W hW
              have hcW := HNX.out _ _ _ _ hW.2.1
              go_simp
            try simp only [Act.put, List.setIfInBounds_toArray, List.set_cons_zero, List.set_cons_succ]
            refine wpAnyH_take (i := 13) (oi := ?o16) (v := .pointer (some ⟨w.heap.size, 35, none⟩)) ?hio16 (by kernel_rfl) (by kernel_rfl) (by kernel_rfl) ?hQo16 ?hyo16 hS9 ?_
            case hio16 => (simp only [List.getElem?_toArray, List.getElem?_cons_succ, List.getElem?_cons_zero]; rfl)
            case hQo16 => exact fun _ _ _ h => h
            case hyo16 => exact Or.inl ⟨by rfl, fun W hW => by go_simp⟩
            try simp only [Act.put, List.setIfInBounds_toArray, List.set_cons_zero, List.set_cons_succ]
            refine wpAnyH_take (i := 14) (oi := ?o17) (v := .slice A' L'.length c') ?hio17 (by kernel_rfl) (by kernel_rfl) (by kernel_rfl) ?hQo17 ?hyo17 hS9 ?_
            case hio17 => (simp only [List.getElem?_toArray, List.getElem?_cons_succ, List.getElem?_cons_zero]; rfl)
            case hQo17 => exact fun _ _ _ h => h
            case hyo17 =>
              refine Or.inl ⟨by rfl, ?_⟩
              intro W hW
              have hcW := HTV.out _ _ _ _ hW.2.1
              go_simp
            try simp only [Act.put, List.setIfInBounds_toArray, List.set_cons_zero, List.set_cons_succ]
            refine wpAnyH_take (i := 15) (oi := ?o18) (v := .pointer (some ⟨w.heap.size, 34, none⟩)) ?hio18 (by kernel_rfl) (by kernel_rfl) (by kernel_rfl) ?hQo18 ?hyo18 hS9 ?_
            case hio18 => (simp only [List.getElem?_toArray, List.getElem?_cons_succ, List.getElem?_cons_zero]; rfl)
            case hQo18 => exact fun _ _ _ h => h
            case hyo18 => exact Or.inl ⟨by rfl, fun W hW => by go_simp⟩
            try simp only [Act.put, List.setIfInBounds_toArray, List.set_cons_zero, List.set_cons_succ]
            refine wpAnyH_take (i := 16) (oi := ?o19) (v := .int .u64 (nx' : Int)) ?hio19 (by kernel_rfl) (by kernel_rfl) (by kernel_rfl) ?hQo19 ?hyo19 hS9 ?_
            case hio19 => (simp only [List.getElem?_toArray, List.getElem?_cons_succ, List.getElem?_cons_zero]; rfl)
            case hQo19 => exact fun _ _ _ h => h
            case hyo19 =>
              refine Or.inl ⟨by rfl, ?_⟩
              intro W hW
              have hcW := HNX.out _ _ _ _ hW.2.1
              go_simp
            try simp only [Act.put, List.setIfInBounds_toArray, List.set_cons_zero, List.set_cons_succ]
            refine wpAnyH_ready (rs := [12]) (by kernel_rfl) (by simp) ?_
            refine AllReadyH.cons (o := ?o20) ?hoo20 (fun K hK => ?ho20) AllReadyH.nil
            case hoo20 => (simp only [List.getElem?_toArray, List.getElem?_cons_succ, List.getElem?_cons_zero]; rfl)
            case ho20 =>
              go_simp
              go_at_call 33
              with_reducible refine (HCa.out _ hS9.1).mono ?_
              rintro e w2 ⟨rfl, rfl⟩
              refine hK.out _ _ hS9 (fun _ => ?_)
              clear hK K
              try simp only [Act.put, List.setIfInBounds_toArray, List.set_cons_zero, List.set_cons_succ]
              refine wpAnyH_ready (rs := [17]) (by kernel_rfl) (by simp) ?_
              refine AllReadyH.cons (o := ?o9) ?hoo9 (fun K hK => ?ho9) AllReadyH.nil
              case hoo9 => (simp only [List.getElem?_toArray, List.getElem?_cons_succ, List.getElem?_cons_zero]; rfl)
              case ho9 =>
                go_simp
                go_at_call 14
                with_reducible refine (HRC.out _ hS9.2.2).mono ?_
                rintro e w2 ⟨rfl, rfl⟩
                refine hK.out _ _ hS9 (fun _ => ?_)
                clear hK K
                try simp only [Act.put, List.setIfInBounds_toArray, List.set_cons_zero, List.set_cons_succ]
                refine wpAnyH_take (i := 18) (oi := ?o6) (v := .bool true) ?hio6 (by kernel_rfl) (by kernel_rfl) (by kernel_rfl) ?hQo6 ?hyo6 hS9 ?_
                case hio6 => (simp only [List.getElem?_toArray, List.getElem?_cons_succ, List.getElem?_cons_zero]; rfl)
                case hQo6 => exact fun _ _ _ h => h
                case hyo6 => exact Or.inl ⟨by rfl, fun W hW => by go_simp⟩
                try simp only [Act.put, List.setIfInBounds_toArray, List.set_cons_zero, List.set_cons_succ]
                refine wpAnyH_take (i := 19) (oi := ?o7) (v := .bool true) ?hio7 (by kernel_rfl) (by kernel_rfl) (by kernel_rfl) ?hQo7 ?hyo7 hS9 ?_
                case hio7 => (simp only [List.getElem?_toArray, List.getElem?_cons_succ, List.getElem?_cons_zero]; rfl)
                case hQo7 => exact fun _ _ _ h => h
                case hyo7 => exact Or.inl ⟨by rfl, fun W hW => by go_simp⟩
                try simp only [Act.put, List.setIfInBounds_toArray, List.set_cons_zero, List.set_cons_succ]
                refine wpAnyH_ready (rs := [20]) (by kernel_rfl) (by simp) ?_
                refine AllReadyH.cons (o := ?o8) ?hoo8 (fun K hK => ?ho8) AllReadyH.nil
                case hoo8 => (simp only [List.getElem?_toArray, List.getElem?_cons_succ, List.getElem?_cons_zero]; rfl)
                case ho8 =>
                  refine step_storeBlk (g := w.heap.size + 1) (t := 58) (cs := rs nx' (.slice A' L'.length c')) rfl 58 (.tmp 6) (.tmp 73) rfl rfl rfl zRs hR0 (HI.out _ _ _ _) (by rw [HZ.out]; rfl) (HO.out _ _ _ _) ?_
                  intro w5 kb hg5
                  have hsz5 := hg5.size
                  have q1 : Ses w5 g pre nx' L' := hS0.gr hg5 (fun e => by injection e with e; omega)
                  have q2 : Blk w5 w.heap.size 58 (rs nx' (.slice A' L'.length c')) := blk_gr hM0 hg5 (fun e => by injection e with e; omega)
                  have q3 : Sh6 w5 w5.heap.size A' L'.length L' := sh6_gr hL0 hg5 hW0 (fun a ha e => by injection e with e; exact (HA.out a ha).2.2.1 e.symm)
                  have q4 : Sh6 w5 wr.heap.size A' L'.length L' := ⟨q3.1, fun hn => by
                    obtain ⟨b, off, e, hb, hc⟩ := q3.2 hn
                    exact ⟨b, off, e, (HA.out _ e).2.2.2, hc⟩⟩
                  have qg : w.grownBy w5 (some g) := grownBy_in hG0 hg5 (by omega)
                  refine hK.out _ _ ⟨q1, q2, q4⟩ (fun hS5 => ?_)
                  clear hK K hS5
                  try simp only [Act.put, List.setIfInBounds_toArray, List.set_cons_zero, List.set_cons_succ]
                  refine wpAnyH_take (i := 21) (oi := ?o5) (v := .bool true) ?hio5 (by kernel_rfl) (by kernel_rfl) (by kernel_rfl) ?hQo5 ?hyo5 (And.intro q1 (And.intro q2 q4)) ?_
                  case hio5 => (simp only [List.getElem?_toArray, List.getElem?_cons_succ, List.getElem?_cons_zero]; rfl)
                  case hQo5 => exact fun _ _ _ h => h
                  case hyo5 => exact Or.inl ⟨by rfl, fun W hW => by go_simp⟩
                  try simp only [Act.put, List.setIfInBounds_toArray, List.set_cons_zero, List.set_cons_succ]
                  refine wpAnyH_done (by kernel_rfl) ?_ _
                  have HX := Lib.hid (And.intro q1 (And.intro q3 qg))
                  clear q1 q2 q3 q4 qg hg5 hS0 hM0 hL0 hG0 hR0 hS9
                  go_wp2
                  refine bodyPost_blk2 rfl _ rfl kb Try.underlying58 rfl (HI.out _ _ _ _) rfl ⟨nx', L', A', c', rfl, HBnd.out, HX.out.1, HX.out.2.1, HC0.out, fun a ha => by have h1 := HA.out a ha; omega, by omega, HX.out.2.2⟩
        
      · have hsp : 18446744073709543423 ≤ nx' := by omega
        have hdl : decide ((18446744073709543423 : Int) ≤ (nx' : Int)) = true := by simp; omega
        have HSp := Lib.hid (fun (V : World) (h : Ses V g pre nx' L') => spent_yes g pre nx' L' V h hsp)
        refine wp_region_held_drew (S := fun V => Ses V g pre nx' L' ∧ Blk V w.heap.size 58 (rs nx' (.slice A' L'.length c')) ∧ Sh6 V wr.heap.size A' L'.length L') (by kernel_rfl) ⟨hS0, hM0, hL0⟩ ?_
        intro hS9
        generalize hwd : wr.drew = W0 at *
        clear hwd
        refine wpAnyH_take (i := 0) (oi := ?o23) (v := .agg (rs nx' (.slice A' L'.length c'))) ?hio23 (by kernel_rfl) (by kernel_rfl) (by kernel_rfl) ?hQo23 ?hyo23 hS9 ?_
        case hio23 => (simp only [List.getElem?_toArray, List.getElem?_cons_succ, List.getElem?_cons_zero]; rfl)
        case hQo23 => exact fun _ _ _ h => h
        case hyo23 => exact yieldsIf_load_mid (by rfl) 58 (.tmp 4) rfl w.heap.size 0 rfl (rs nx' (.slice A' L'.length c')).toList _ (fun W hW => blk_range hW.2.1) Try.underlying58 rfl (by simpa using HI.out nx' A' L'.length c')
        try simp only [Act.put, List.setIfInBounds_toArray, List.set_cons_zero, List.set_cons_succ]
        refine wpAnyH_take (i := 1) (oi := ?o24) (v := .pointer (some ⟨g, 0, none⟩)) ?hio24 (by kernel_rfl) (by kernel_rfl) (by kernel_rfl) ?hQo24 ?hyo24 hS9 ?_
        case hio24 => (simp only [List.getElem?_toArray, List.getElem?_cons_succ, List.getElem?_cons_zero]; rfl)
        case hQo24 => exact fun _ _ _ h => h
        case hyo24 => exact Or.inl ⟨by rfl, fun W hW => by go_simp⟩
        try simp only [Act.put, List.setIfInBounds_toArray, List.set_cons_zero, List.set_cons_succ]
        refine wpAnyH_take (i := 3) (oi := ?o25) (v := .pointer (some ⟨w.heap.size, 34, none⟩)) ?hio25 (by kernel_rfl) (by kernel_rfl) (by kernel_rfl) ?hQo25 ?hyo25 hS9 ?_
        case hio25 => (simp only [List.getElem?_toArray, List.getElem?_cons_succ, List.getElem?_cons_zero]; rfl)
        case hQo25 => exact fun _ _ _ h => h
        case hyo25 => exact Or.inl ⟨by rfl, fun W hW => by go_simp⟩
        try simp only [Act.put, List.setIfInBounds_toArray, List.set_cons_zero, List.set_cons_succ]
        refine wpAnyH_take (i := 4) (oi := ?o26) (v := .int .u64 (nx' : Int)) ?hio26 (by kernel_rfl) (by kernel_rfl) (by kernel_rfl) ?hQo26 ?hyo26 hS9 ?_
        case hio26 => (simp only [List.getElem?_toArray, List.getElem?_cons_succ, List.getElem?_cons_zero]; rfl)
        case hQo26 => exact fun _ _ _ h => h
        case hyo26 =>
          refine Or.inl ⟨by rfl, ?_⟩
          intro W hW
          have hcW := HNX.out _ _ _ _ hW.2.1
          go_simp
        try simp only [Act.put, List.setIfInBounds_toArray, List.set_cons_zero, List.set_cons_succ]
        refine wpAnyH_ready (rs := [2]) (by kernel_rfl) (by simp) ?_
        refine AllReadyH.cons (o := ?o44) ?hoo44 (fun K hK => ?ho44) AllReadyH.nil
        case hoo44 => (simp only [List.getElem?_toArray, List.getElem?_cons_succ, List.getElem?_cons_zero]; rfl)
        case ho44 =>
          go_simp
          go_at_call 35
          with_reducible refine (HSp.out _ hS9.1).mono ?_
          rintro e w2 ⟨rfl, rfl⟩
          refine hK.out _ _ hS9 (fun _ => ?_)
          clear hK K
          try simp only [Act.put, List.setIfInBounds_toArray, List.set_cons_zero, List.set_cons_succ]
          refine wpAnyH_ready (rs := [5]) (by kernel_rfl) (by simp) ?_
          refine AllReadyH.cons (o := ?o43) ?hoo43 (fun K hK => ?ho43) AllReadyH.nil
          case hoo43 => (simp only [List.getElem?_toArray, List.getElem?_cons_succ, List.getElem?_cons_zero]; rfl)
          case ho43 =>
            go_simp
            go_at_call 23
            with_reducible refine (limit_any _).mono ?_
            rintro e w2 ⟨rfl, rfl⟩
            refine hK.out _ _ hS9 (fun _ => ?_)
            clear hK K
            try simp only [Act.put, List.setIfInBounds_toArray, List.set_cons_zero, List.set_cons_succ]
            refine wpAnyH_take (i := 6) (oi := ?o32) (v := .bool true) ?hio32 (by kernel_rfl) (by kernel_rfl) (by kernel_rfl) ?hQo32 ?hyo32 hS9 ?_
            case hio32 => (simp only [List.getElem?_toArray, List.getElem?_cons_succ, List.getElem?_cons_zero]; rfl)
            case hQo32 => exact fun _ _ _ h => h
            case hyo32 => exact Or.inl ⟨by rfl, fun W hW => by go_simp⟩
            try simp only [Act.put, List.setIfInBounds_toArray, List.set_cons_zero, List.set_cons_succ]
            refine wpAnyH_take (i := 7) (oi := ?o33) (v := .bool true) ?hio33 (by kernel_rfl) (by kernel_rfl) (by kernel_rfl) ?hQo33 ?hyo33 hS9 ?_
            case hio33 => (simp only [List.getElem?_toArray, List.getElem?_cons_succ, List.getElem?_cons_zero]; rfl)
            case hQo33 => exact fun _ _ _ h => h
            case hyo33 => exact Or.inl ⟨by rfl, fun W hW => by go_simp⟩
            try simp only [Act.put, List.setIfInBounds_toArray, List.set_cons_zero, List.set_cons_succ]
            refine wpAnyH_take (i := 8) (oi := ?o34) (v := .bool true) ?hio34 (by kernel_rfl) (by kernel_rfl) (by kernel_rfl) ?hQo34 ?hyo34 hS9 ?_
            case hio34 => (simp only [List.getElem?_toArray, List.getElem?_cons_succ, List.getElem?_cons_zero]; rfl)
            case hQo34 => exact fun _ _ _ h => h
            case hyo34 => exact Or.inl ⟨by rfl, fun W hW => by go_simp⟩
            try simp only [Act.put, List.setIfInBounds_toArray, List.set_cons_zero, List.set_cons_succ]
            refine wpAnyH_take (i := 9) (oi := ?o35) (v := .pointer (some ⟨g, 0, none⟩)) ?hio35 (by kernel_rfl) (by kernel_rfl) (by kernel_rfl) ?hQo35 ?hyo35 hS9 ?_
            case hio35 => (simp only [List.getElem?_toArray, List.getElem?_cons_succ, List.getElem?_cons_zero]; rfl)
            case hQo35 => exact fun _ _ _ h => h
            case hyo35 => exact Or.inl ⟨by rfl, fun W hW => by go_simp⟩
            try simp only [Act.put, List.setIfInBounds_toArray, List.set_cons_zero, List.set_cons_succ]
            refine wpAnyH_take (i := 10) (oi := ?o36) (v := .pointer (some ⟨w.heap.size, 34, none⟩)) ?hio36 (by kernel_rfl) (by kernel_rfl) (by kernel_rfl) ?hQo36 ?hyo36 hS9 ?_
            case hio36 => (simp only [List.getElem?_toArray, List.getElem?_cons_succ, List.getElem?_cons_zero]; rfl)
            case hQo36 => exact fun _ _ _ h => h
            case hyo36 => exact Or.inl ⟨by rfl, fun W hW => by go_simp⟩
            try simp only [Act.put, List.setIfInBounds_toArray, List.set_cons_zero, List.set_cons_succ]
            refine wpAnyH_take (i := 11) (oi := ?o37) (v := .int .u64 (nx' : Int)) ?hio37 (by kernel_rfl) (by kernel_rfl) (by kernel_rfl) ?hQo37 ?hyo37 hS9 ?_
            case hio37 => (simp only [List.getElem?_toArray, List.getElem?_cons_succ, List.getElem?_cons_zero]; rfl)
            case hQo37 => exact fun _ _ _ h => h
            case hyo37 =>
              refine Or.inl ⟨by rfl, ?_⟩
              intro W hW
              have hcW := HNX.out _ _ _ _ hW.2.1
              go_simp
            try simp only [Act.put, List.setIfInBounds_toArray, List.set_cons_zero, List.set_cons_succ]
            refine wpAnyH_take (i := 13) (oi := ?o38) (v := .pointer (some ⟨w.heap.size, 35, none⟩)) ?hio38 (by kernel_rfl) (by kernel_rfl) (by kernel_rfl) ?hQo38 ?hyo38 hS9 ?_
            case hio38 => (simp only [List.getElem?_toArray, List.getElem?_cons_succ, List.getElem?_cons_zero]; rfl)
            case hQo38 => exact fun _ _ _ h => h
            case hyo38 => exact Or.inl ⟨by rfl, fun W hW => by go_simp⟩
            try simp only [Act.put, List.setIfInBounds_toArray, List.set_cons_zero, List.set_cons_succ]
            refine wpAnyH_take (i := 14) (oi := ?o39) (v := .slice A' L'.length c') ?hio39 (by kernel_rfl) (by kernel_rfl) (by kernel_rfl) ?hQo39 ?hyo39 hS9 ?_
            case hio39 => (simp only [List.getElem?_toArray, List.getElem?_cons_succ, List.getElem?_cons_zero]; rfl)
            case hQo39 => exact fun _ _ _ h => h
            case hyo39 =>
              refine Or.inl ⟨by rfl, ?_⟩
              intro W hW
              have hcW := HTV.out _ _ _ _ hW.2.1
              go_simp
            try simp only [Act.put, List.setIfInBounds_toArray, List.set_cons_zero, List.set_cons_succ]
            refine wpAnyH_take (i := 15) (oi := ?o40) (v := .pointer (some ⟨w.heap.size, 34, none⟩)) ?hio40 (by kernel_rfl) (by kernel_rfl) (by kernel_rfl) ?hQo40 ?hyo40 hS9 ?_
            case hio40 => (simp only [List.getElem?_toArray, List.getElem?_cons_succ, List.getElem?_cons_zero]; rfl)
            case hQo40 => exact fun _ _ _ h => h
            case hyo40 => exact Or.inl ⟨by rfl, fun W hW => by go_simp⟩
            try simp only [Act.put, List.setIfInBounds_toArray, List.set_cons_zero, List.set_cons_succ]
            refine wpAnyH_take (i := 16) (oi := ?o41) (v := .int .u64 (nx' : Int)) ?hio41 (by kernel_rfl) (by kernel_rfl) (by kernel_rfl) ?hQo41 ?hyo41 hS9 ?_
            case hio41 => (simp only [List.getElem?_toArray, List.getElem?_cons_succ, List.getElem?_cons_zero]; rfl)
            case hQo41 => exact fun _ _ _ h => h
            case hyo41 =>
              refine Or.inl ⟨by rfl, ?_⟩
              intro W hW
              have hcW := HNX.out _ _ _ _ hW.2.1
              go_simp
            try simp only [Act.put, List.setIfInBounds_toArray, List.set_cons_zero, List.set_cons_succ]
            refine wpAnyH_ready (rs := [12]) (by kernel_rfl) (by simp) ?_
            refine AllReadyH.cons (o := ?o42) ?hoo42 (fun K hK => ?ho42) AllReadyH.nil
            case hoo42 => (simp only [List.getElem?_toArray, List.getElem?_cons_succ, List.getElem?_cons_zero]; rfl)
            case ho42 =>
              go_simp
              go_at_call 33
              with_reducible refine (HCa.out _ hS9.1).mono ?_
              rintro e w2 ⟨rfl, rfl⟩
              refine hK.out _ _ hS9 (fun _ => ?_)
              clear hK K
              try simp only [Act.put, List.setIfInBounds_toArray, List.set_cons_zero, List.set_cons_succ]
              refine wpAnyH_ready (rs := [17]) (by kernel_rfl) (by simp) ?_
              refine AllReadyH.cons (o := ?o31) ?hoo31 (fun K hK => ?ho31) AllReadyH.nil
              case hoo31 => (simp only [List.getElem?_toArray, List.getElem?_cons_succ, List.getElem?_cons_zero]; rfl)
              case ho31 =>
                go_simp
                go_at_call 14
                with_reducible refine (HRC.out _ hS9.2.2).mono ?_
                rintro e w2 ⟨rfl, rfl⟩
                refine hK.out _ _ hS9 (fun _ => ?_)
                clear hK K
                try simp only [Act.put, List.setIfInBounds_toArray, List.set_cons_zero, List.set_cons_succ]
                refine wpAnyH_take (i := 18) (oi := ?o28) (v := .bool true) ?hio28 (by kernel_rfl) (by kernel_rfl) (by kernel_rfl) ?hQo28 ?hyo28 hS9 ?_
                case hio28 => (simp only [List.getElem?_toArray, List.getElem?_cons_succ, List.getElem?_cons_zero]; rfl)
                case hQo28 => exact fun _ _ _ h => h
                case hyo28 => exact Or.inl ⟨by rfl, fun W hW => by go_simp⟩
                try simp only [Act.put, List.setIfInBounds_toArray, List.set_cons_zero, List.set_cons_succ]
                refine wpAnyH_take (i := 19) (oi := ?o29) (v := .bool true) ?hio29 (by kernel_rfl) (by kernel_rfl) (by kernel_rfl) ?hQo29 ?hyo29 hS9 ?_
                case hio29 => (simp only [List.getElem?_toArray, List.getElem?_cons_succ, List.getElem?_cons_zero]; rfl)
                case hQo29 => exact fun _ _ _ h => h
                case hyo29 => exact Or.inl ⟨by rfl, fun W hW => by go_simp⟩
                try simp only [Act.put, List.setIfInBounds_toArray, List.set_cons_zero, List.set_cons_succ]
                refine wpAnyH_ready (rs := [20]) (by kernel_rfl) (by simp) ?_
                refine AllReadyH.cons (o := ?o30) ?hoo30 (fun K hK => ?ho30) AllReadyH.nil
                case hoo30 => (simp only [List.getElem?_toArray, List.getElem?_cons_succ, List.getElem?_cons_zero]; rfl)
                case ho30 =>
                  refine step_storeBlk (g := w.heap.size + 1) (t := 58) (cs := rs nx' (.slice A' L'.length c')) rfl 58 (.tmp 6) (.tmp 73) rfl rfl rfl zRs hR0 (HI.out _ _ _ _) (by rw [HZ.out]; rfl) (HO.out _ _ _ _) ?_
                  intro w5 kb hg5
                  have hsz5 := hg5.size
                  have q1 : Ses w5 g pre nx' L' := hS0.gr hg5 (fun e => by injection e with e; omega)
                  have q2 : Blk w5 w.heap.size 58 (rs nx' (.slice A' L'.length c')) := blk_gr hM0 hg5 (fun e => by injection e with e; omega)
                  have q3 : Sh6 w5 w5.heap.size A' L'.length L' := sh6_gr hL0 hg5 hW0 (fun a ha e => by injection e with e; exact (HA.out a ha).2.2.1 e.symm)
                  have q4 : Sh6 w5 wr.heap.size A' L'.length L' := ⟨q3.1, fun hn => by
                    obtain ⟨b, off, e, hb, hc⟩ := q3.2 hn
                    exact ⟨b, off, e, (HA.out _ e).2.2.2, hc⟩⟩
                  have qg : w.grownBy w5 (some g) := grownBy_in hG0 hg5 (by omega)
                  refine hK.out _ _ ⟨q1, q2, q4⟩ (fun hS5 => ?_)
                  clear hK K hS5
                  try simp only [Act.put, List.setIfInBounds_toArray, List.set_cons_zero, List.set_cons_succ]
                  refine wpAnyH_take (i := 21) (oi := ?o27) (v := .bool true) ?hio27 (by kernel_rfl) (by kernel_rfl) (by kernel_rfl) ?hQo27 ?hyo27 (And.intro q1 (And.intro q2 q4)) ?_
                  case hio27 => (simp only [List.getElem?_toArray, List.getElem?_cons_succ, List.getElem?_cons_zero]; rfl)
                  case hQo27 => exact fun _ _ _ h => h
                  case hyo27 => exact Or.inl ⟨by rfl, fun W hW => by go_simp⟩
                  try simp only [Act.put, List.setIfInBounds_toArray, List.set_cons_zero, List.set_cons_succ]
                  refine wpAnyH_done (by kernel_rfl) ?_ _
                  have HX := Lib.hid (And.intro q1 (And.intro q3 qg))
                  clear q1 q2 q3 q4 qg hg5 hS0 hM0 hL0 hG0 hR0 hS9
                  go_wp2
                  refine bodyPost_blk2 rfl _ rfl kb Try.underlying58 rfl (HI.out _ _ _ _) rfl ⟨nx', L', A', c', rfl, HBnd.out, HX.out.1, HX.out.2.1, HC0.out, fun a ha => by have h1 := HA.out a ha; omega, by omega, HX.out.2.2⟩

end Go.Proofs.Ytibpbgfliccacaa
