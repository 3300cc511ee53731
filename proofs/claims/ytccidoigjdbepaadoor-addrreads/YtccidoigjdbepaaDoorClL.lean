
/- Layer 9. Contract: colon.bytesOf. -/
import Derived.Test.YtccidoigjdbepaaDoorClJ
namespace Go.Proofs.YtccidoigjdbepaaDoor.Cl
open Go.RowKit Lin
set_option maxRecDepth 100000
set_option linter.unusedVariables false

/-- The bytes of groups. -/
def bOf (g : List Nat) : List UInt8 := g.flatMap fun n => [UInt8.ofNat (n / 256), UInt8.ofNat (n % 256)]
theorem bOf_len (g : List Nat) : (bOf g).length = 2 * g.length := by
  induction g with
  | nil => rfl
  | cons n t ih => simp only [bOf, List.flatMap_cons, List.length_append, List.length_cons, List.length_nil] at *; omega
/-- The bytes of the first k groups, noughts behind them. -/
def bAtK (g : List Nat) (k : Nat) : List UInt8 := bOf (g.take k) ++ List.replicate (16 - 2 * k) 0
theorem bAtK_set (g : List Nat) (hl : g.length = 8) (k n : Nat) (h : g[k]? = some n) :
    ((bAtK g k).set (2 * k) (UInt8.ofNat (n / 256))).set (2 * k + 1) (UInt8.ofNat (n % 256)) = bAtK g (k + 1) := by
  obtain ⟨hk, rfl⟩ := List.getElem?_eq_some_iff.1 h
  have hlen : (bOf (g.take k)).length = 2 * k := by rw [bOf_len, List.length_take]; omega
  unfold bAtK
  rw [List.set_append_right _ _ (by omega), hlen, Nat.sub_self, show 16 - 2 * k = (16 - 2 * (k + 1)) + 1 + 1 by omega, List.replicate_succ, List.replicate_succ, List.set_cons_zero,
    List.set_append_right _ _ (by omega), hlen, show 2 * k + 1 - 2 * k = 1 by omega, List.set_cons_succ, List.set_cons_zero, List.take_succ_eq_append_getElem hk]
  unfold bOf
  rw [List.flatMap_append, List.append_assoc]
  rfl
theorem bAtK_full (g : List Nat) (hl : g.length = 8) : bAtK g 8 = bOf g := by
  unfold bAtK
  rw [List.take_of_length_le (by omega)]
  simp
theorem bAtK_len (g : List Nat) (hl : g.length = 8) (k : Nat) (hk : k ≤ 8) : (bAtK g k).length = 16 := by
  unfold bAtK
  rw [List.length_append, bOf_len, List.length_take, List.length_replicate]
  omega

theorem idx_any (gs : List Nat) (hl : gs.length = 8) (k x : Nat) (hx : gs[k]? = some x) (W : World) :
    (Instr.index 95 (.agg (gs.map u16v).toArray) (.int .i64 (k : Int))).run Tryd.prog W = .ok (u16v x) W := by
  have hk : k < 8 := by have := (List.getElem?_eq_some_iff.1 hx).1; omega
  match gs, hl, hx with
  | [a, b, c, d, e, f, g, h], _, hx => exact idx8 a b c d e f g h k x hk hx W
theorem wrap_u8 (n : Nat) : IntKind.u8.wrap (n : Int) = ((UInt8.ofNat (n % 256)).toNat : Int) := by
  have h : IntKind.u8.wrap (n : Int) = (n : Int) % 256 := rfl
  rw [h]
  simp
theorem info16 : (Tryd.prog.info? 22).map (·.size) = some 16 := by kernel_rfl
theorem one_bytes (L : List UInt8) : ((L.map bv).toArray.all fun x => x.oneCell') = true := by
  rw [Array.all_eq_true']
  intro x hx
  simp only [List.mem_toArray, List.mem_map] at hx
  obtain ⟨y, _, rfl⟩ := hx
  rfl

set_option maxHeartbeats 1000000 in
theorem bytesOf_any (gs : List Nat) (hl : gs.length = 8) (hg : ∀ n ∈ gs, n < 65536) (w : World) :
    Calls Tryd.prog 87 #[.agg (gs.map u16v).toArray] w fun e w' => e = .returned (av (bOf gs)) ∧ Below w.heap.size w w' := by
  rw [← bAtK_full gs hl]
  have HS := Lib.hid (fun k n h => bAtK_set gs hl k n h)
  have HLn := Lib.hid (fun k hk => bAtK_len gs hl k hk)
  have HG := Lib.hid hg
  have sz : ((gs.map u16v).toArray).size = 8 := by simp [hl]
  have hi8 : (Tryd.prog.info? 95).map (·.size) = some ((gs.map u16v).toArray).size := by rw [sz]; exact Tryd.infoGroups
  have hb0 : bAtK gs 0 = List.replicate 16 0 := by unfold bAtK; simp [bOf]
  have HX := Lib.hid (fun k n h W => idx_any gs hl k n h W)
  have k0 : Blk (w.alloc (.cells (gs.map u16v).toArray 95)) w.heap.size 95 (gs.map u16v).toArray := blk_new _ _ _
  clear hg
  generalize (gs.map u16v).toArray = X at *
  go_enter Tryd.func87, Tryd.ntmps87
  go_wp2_with (first
    | (refine wpList_loadBlk (g := w.heap.size) (t := 95) (cs := X) rfl 95 (.tmp 1) ?ho ?hx ?hA _ Tryd.underlying95 rfl ?hi ?_
       case ho => with_reducible rfl
       case hx => rfl
       case hA => exact (k0.alloc _).alloc _
       case hi => exact hi8)
    | fail)
  have hzl : (List.replicate 16 (0 : UInt8)).length = 16 := rfl
  have k1 : Arr (((w.alloc (.cells X 95)).alloc (.cells ((List.replicate 16 (0 : UInt8)).map bv).toArray 22)).alloc (.cells ((List.replicate 16 (0 : UInt8)).map bv).toArray 22)) (w.heap.size + 1) 22 (List.replicate 16 0) := Arr.alloc (by unfold Arr; exact blk_new' _ _ _ _ (by simp)) _
  have k2 : Arr (((w.alloc (.cells X 95)).alloc (.cells ((List.replicate 16 (0 : UInt8)).map bv).toArray 22)).alloc (.cells ((List.replicate 16 (0 : UInt8)).map bv).toArray 22)) (w.heap.size + 2) 22 (List.replicate 16 0) := by unfold Arr; exact blk_new' _ _ _ _ (by simp)
  have b0 : Below w.heap.size w (((w.alloc (.cells X 95)).alloc (.cells ((List.replicate 16 (0 : UInt8)).map bv).toArray 22)).alloc (.cells ((List.replicate 16 (0 : UInt8)).map bv).toArray 22)) := (((Below.refl _ _).alloc (Nat.le_refl _) _).alloc (by simp) _).alloc (by simp; omega) _
  go_loopw [7] (fun i wr => ∃ k : Nat, k ≤ 8 ∧ i = .int .i64 (k : Int) ∧ Arr wr (w.heap.size + 1) 22 (List.replicate 16 0) ∧ Arr wr (w.heap.size + 2) 22 (bAtK gs k) ∧ Below w.heap.size w wr) (fun i _ => 8 - (intOf i).toNat)
  case atStart => exact ⟨0, Nat.zero_le _, rfl, k1, by rw [hb0]; exact k2, b0⟩
  case round =>
    clear k0 k1 k2 b0
    obtain ⟨k, hk, rfl, hrb, hkb, hbel⟩ := hrel
    have hbs := hbel.size
    by_cases hlt : k < 8
    · obtain ⟨n, hn⟩ : ∃ n, gs[k]? = some n := ⟨gs[k]'(by omega), List.getElem?_eq_getElem _⟩
      have hX := fun W => HX.out k n hn W
      have hset := HS.out k n hn
      have hn16 := HG.out n (List.mem_of_getElem? hn)
      have hl16 := HLn.out k hk
      have hv1 : IntKind.u8.wrap ((n : Int) / 256) = ((UInt8.ofNat (n / 256)).toNat : Int) := by
        rw [IntWalk.u8_in _ (by omega)]; simp; omega
      have hv2 : IntKind.u8.wrap (n : Int) = ((UInt8.ofNat (n % 256)).toNat : Int) := wrap_u8 n
      obtain ⟨c0, h0⟩ : ∃ c, (bAtK gs k)[2 * k]? = some c := ⟨(bAtK gs k)[2 * k]'(by omega), List.getElem?_eq_getElem _⟩
      obtain ⟨c1, h1⟩ : ∃ c, (bAtK gs k)[2 * k + 1]? = some c := ⟨(bAtK gs k)[2 * k + 1]'(by omega), List.getElem?_eq_getElem _⟩
      have e0 := hkb.byte h0
      have e1 := hkb.byte h1
      have f0 := hkb.frozen (2 * k)
      have f1 := hkb.frozen (2 * k + 1)
      have HT := Lib.hid (show Arr ((wr.setCell ⟨w.heap.size + 2, 2 * k, none⟩ (bv (UInt8.ofNat (n / 256)))).setCell ⟨w.heap.size + 2, 2 * k + 1, none⟩ (bv (UInt8.ofNat (n % 256)))) (w.heap.size + 2) 22 (bAtK gs (k + 1)) by
        have := (hkb.put (2 * k) (UInt8.ofNat (n / 256))).put (2 * k + 1) (UInt8.ofNat (n % 256))
        rw [hset] at this
        exact this)
      have HR := Lib.hid ((hrb.putOther ⟨w.heap.size + 2, 2 * k, none⟩ (bv (UInt8.ofNat (n / 256))) (by simp)).putOther ⟨w.heap.size + 2, 2 * k + 1, none⟩ (bv (UInt8.ofNat (n % 256))) (by simp))
      have HB := Lib.hid ((hbel.setCell (p := ⟨w.heap.size + 2, 2 * k, none⟩) (by show w.heap.size ≤ w.heap.size + 2; omega) (bv (UInt8.ofNat (n / 256)))).setCell (p := ⟨w.heap.size + 2, 2 * k + 1, none⟩) (by show w.heap.size ≤ w.heap.size + 2; omega) (bv (UInt8.ofNat (n % 256))))
      have i1 : (2 : Int) * (k : Int) < 16 := by omega
      have i2 : (0 : Int) ≤ 2 * (k : Int) := by omega
      have i3 : ((2 : Int) * (k : Int)).toNat = 2 * k := by omega
      have i4 : (2 : Int) * (k : Int) + 1 < 16 := by omega
      have i5 : (0 : Int) ≤ 2 * (k : Int) + 1 := by omega
      have i6 : ((2 : Int) * (k : Int) + 1).toNat = 2 * k + 1 := by omega
      have w1 : IntKind.i64.wrap (2 * (k : Int)) = 2 * (k : Int) := IntWalk.i64_in _ (by omega)
      have w2 : IntKind.i64.wrap (2 * (k : Int) + 1) = 2 * (k : Int) + 1 := IntWalk.i64_in _ (by omega)
      have i7 : 2 * k < 16 := by omega
      have i8 : 2 * k + 1 < 16 := by omega
      clear hset hn hkb hrb h0 h1
      generalize UInt8.ofNat (n / 256) = U at *
      generalize UInt8.ofNat (n % 256) = V at *
      go_wp2
      go_roundw
      case rel => exact ⟨k + 1, by omega, by go_num, HR.out, HT.out, HB.out⟩
      case measure => simp [intOf] <;> omega
    · obtain rfl : k = 8 := by omega
      have hl16 := HLn.out 8 (Nat.le_refl _)
      generalize hLq : bAtK gs 8 = L at *
      go_wp2_with (first
        | (refine wpList_loadArr (g := w.heap.size + 2) (t := 22) (l := L) rfl 22 5 (.tmp 3) ?ho ?hx hkb hl16 Tryd.underlying22 Tryd.infoB16 ?_
           case ho => with_reducible rfl
           case hx => rfl)
        | (refine wpList_storeBlk (g := w.heap.size + 1) (t := 22) (cs := (L.map bv).toArray) ?hw 22 (.tmp 2) (.tmp 24) ?ho ?hx2 ?hy2 ((List.replicate 16 (0 : UInt8)).map bv).toArray hrb.blk ?hi ?hs ?h1 ?_
           case ho => with_reducible rfl
           case hw => rfl
           case hx2 => rfl
           case hy2 => rfl
           case hi => rw [show ((L.map bv).toArray).size = 16 by simp [hl16]]; exact info16
           case hs => simp [hl16]
           case h1 => exact one_bytes L
           intro w5 k5 hg5
           have b5 : Below w.heap.size w w5 := hbel.grown hg5 hbel.size (fun j hj => by injection hj with hj; omega))
        | fail)
      refine bodyPost_blk rfl _ rfl k5 Tryd.underlying22 rfl (by rw [show ((L.map bv).toArray).size = 16 by simp [hl16]]; exact info16) rfl ⟨by rw [hLq], b5⟩
end Go.Proofs.YtccidoigjdbepaaDoor.Cl
