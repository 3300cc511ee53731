
/- Contracts: keys.Parse, ParseHex, ref07.Parse, ref07.ParseHex, given what the decoders answer. -/
import Derived.Test.YtfiagknmieegaaaKeyE
namespace Go.Proofs.Ytfiagknmieegaaa
open Go.RowKit

/-- A decoder says no. -/
def DecNo (f : FuncId) (s : List UInt8) (E : Int) : Prop := ∀ W : World, Calls Try.prog f #[sv s] W fun e w' => e = .returned (.tuple #[.slice none 0 0, .int .i64 E]) ∧ Below W.heap.size W w'
/-- A decoder answers bytes. -/
def DecYes (f : FuncId) (s L : List UInt8) : Prop := ∀ W : World, Calls Try.prog f #[sv s] W fun e w' => (∃ A c, e = .returned (.tuple #[.slice A L.length c, .int .i64 0]) ∧ Shows w' w'.heap.size A L.length L) ∧ Below W.heap.size W w'
/-- A key, and a number. -/
def KeyIs (f : FuncId) (s k : List UInt8) (E : Int) : Prop := ∀ W : World, Calls Try.prog f #[sv s] W fun e w' => e = .returned (.tuple #[av k, .int .i64 E]) ∧ Below W.heap.size W w'

theorem keysOf_any (A : Option Addr) (c : Nat) (l : List UInt8) (w : World) (hn : l.length ≤ 1000000) (h : Shows w w.heap.size A l.length l) :
    Calls Try.prog 54 #[.slice A l.length c] w fun e w' => e = .returned (.tuple #[av (ofKey l), .int .i64 (ofErr l)]) ∧ Below w.heap.size w w' := by
  unfold ofKey ofErr
  by_cases h1 : l.length < 32
  · rw [if_neg (by omega), if_pos h1]
    exact keysOf_bad A l.length c 3 w (.inl ⟨h1, rfl⟩) hn
  · by_cases h2 : 32 < l.length
    · rw [if_neg (by omega), if_neg h1, if_pos h2]
      exact keysOf_bad A l.length c 4 w (.inr ⟨h2, rfl⟩) hn
    · have h3 : l.length = 32 := by omega
      rw [if_pos h3, if_neg h1, if_neg h2]
      rw [h3] at h ⊢
      exact keysOf_ok A c l w h3 h

theorem refOf_any (A : Option Addr) (c : Nat) (l : List UInt8) (w : World) (hn : l.length ≤ 1000000) (h : Shows w w.heap.size A l.length l) :
    Calls Try.prog 60 #[.slice A l.length c] w fun e w' => e = .returned (.tuple #[av (ofKey l), .int .i64 (ofErr l)]) ∧ Below w.heap.size w w' := by
  unfold ofKey ofErr
  by_cases h1 : l.length < 32
  · rw [if_neg (by omega), if_pos h1]
    exact refOf_bad A l.length c 3 w (.inl ⟨h1, rfl⟩) hn
  · by_cases h2 : 32 < l.length
    · rw [if_neg (by omega), if_neg h1, if_pos h2]
      exact refOf_bad A l.length c 4 w (.inr ⟨h2, rfl⟩) hn
    · have h3 : l.length = 32 := by omega
      rw [if_pos h3, if_neg h1, if_neg h2]
      rw [h3] at h ⊢
      exact refOf_ok A c l w h3 h

theorem parse_no (s : List UInt8) (E : Int) (hE : (E != 0) = true) (h : DecNo 53 s E) : KeyIs 24 s key0 E := by
  intro w
  have H := Lib.hid h
  clear h
  go_enter Try.func24, Try.ntmps24
  go_wp2_with fail
  refine (H.out _).mono ?_; rintro e w1 ⟨rfl, hb1⟩
  have k0 := (blk_new w 44 (List.replicate 32 (Value.int .u8 0)).toArray).on hb1
  have hbw := Below.step (Below.refl w.heap.size w) (Nat.le_refl _) hb1
  clear hb1
  go_wp2_with (
    refine wpList_storeBlk (g := w.heap.size) (t := 44) (cs := (key0.map bv).toArray) rfl 44 _ _ rfl ?hx2 ?hy2 (List.replicate 32 (.int .u8 0)).toArray k0 ?hi ?hs ?h1 ?_
    case hx2 => rfl
    case hy2 => rfl
    case hi => exact Try.infoKey
    case hs => rfl
    case h1 => exact one_bytes key0
    intro w2 hB hg)
  refine bodyPost_blk2 rfl _ rfl hB Try.underlying44 rfl Try.infoKey rfl ⟨rfl, ?_⟩
  exact hbw.grown hg hbw.size (fun k hk => by injection hk with hk; omega)

theorem parse_yes (s L : List UInt8) (hn : L.length ≤ 1000000) (h : DecYes 53 s L) : KeyIs 24 s (ofKey L) (ofErr L) := by
  intro w
  have H := Lib.hid h
  have hkl := ofKey_len L
  clear h
  have HO := Lib.hid (fun A c w h => keysOf_any A c L w hn h)
  generalize ofKey L = K at *
  generalize ofErr L = E at *
  go_enter Try.func24, Try.ntmps24
  go_wp2_with fail
  refine (H.out _).mono ?_; rintro e w1 ⟨⟨A, c, rfl, hs1⟩, hb1⟩
  have k0 := (blk_new w 44 (List.replicate 32 (Value.int .u8 0)).toArray).on hb1
  have hbw := Below.step (Below.refl w.heap.size w) (Nat.le_refl _) hb1
  clear hb1
  go_wp2_with fail
  refine (HO.out A c _ hs1).mono ?_; rintro e w2 ⟨rfl, hb2⟩
  have k0 := k0.on hb2
  have hbw := Below.on hbw hbw.size hb2
  clear hb2 HO hs1
  go_wp2_with (
    refine wpList_storeBlk (g := w.heap.size) (t := 44) (cs := (K.map bv).toArray) rfl 44 _ _ rfl ?hx2 ?hy2 (List.replicate 32 (.int .u8 0)).toArray k0 ?hi ?hs ?h1 ?_
    case hx2 => rfl
    case hy2 => rfl
    case hi => (rw [Try.infoKey]; simp [hkl])
    case hs => simp [hkl]
    case h1 => exact one_bytes K
    intro w2 hB hg)
  refine bodyPost_blk2 rfl _ rfl hB Try.underlying44 rfl (by rw [Try.infoKey]; simp [hkl]) rfl ⟨rfl, ?_⟩
  exact hbw.grown hg hbw.size (fun k hk => by injection hk with hk; omega)

theorem parseHex_no (s : List UInt8) (E : Int) (hE : (E != 0) = true) (h : DecNo 55 s E) : KeyIs 25 s key0 E := by
  intro w
  have H := Lib.hid h
  clear h
  go_enter Try.func25, Try.ntmps25
  go_wp2_with fail
  refine (H.out _).mono ?_; rintro e w1 ⟨rfl, hb1⟩
  have k0 := (blk_new w 44 (List.replicate 32 (Value.int .u8 0)).toArray).on hb1
  have hbw := Below.step (Below.refl w.heap.size w) (Nat.le_refl _) hb1
  clear hb1
  go_wp2_with (
    refine wpList_storeBlk (g := w.heap.size) (t := 44) (cs := (key0.map bv).toArray) rfl 44 _ _ rfl ?hx2 ?hy2 (List.replicate 32 (.int .u8 0)).toArray k0 ?hi ?hs ?h1 ?_
    case hx2 => rfl
    case hy2 => rfl
    case hi => exact Try.infoKey
    case hs => rfl
    case h1 => exact one_bytes key0
    intro w2 hB hg)
  refine bodyPost_blk2 rfl _ rfl hB Try.underlying44 rfl Try.infoKey rfl ⟨rfl, ?_⟩
  exact hbw.grown hg hbw.size (fun k hk => by injection hk with hk; omega)

theorem parseHex_yes (s L : List UInt8) (hn : L.length ≤ 1000000) (h : DecYes 55 s L) : KeyIs 25 s (ofKey L) (ofErr L) := by
  intro w
  have H := Lib.hid h
  have hkl := ofKey_len L
  clear h
  have HO := Lib.hid (fun A c w h => keysOf_any A c L w hn h)
  generalize ofKey L = K at *
  generalize ofErr L = E at *
  go_enter Try.func25, Try.ntmps25
  go_wp2_with fail
  refine (H.out _).mono ?_; rintro e w1 ⟨⟨A, c, rfl, hs1⟩, hb1⟩
  have k0 := (blk_new w 44 (List.replicate 32 (Value.int .u8 0)).toArray).on hb1
  have hbw := Below.step (Below.refl w.heap.size w) (Nat.le_refl _) hb1
  clear hb1
  go_wp2_with fail
  refine (HO.out A c _ hs1).mono ?_; rintro e w2 ⟨rfl, hb2⟩
  have k0 := k0.on hb2
  have hbw := Below.on hbw hbw.size hb2
  clear hb2 HO hs1
  go_wp2_with (
    refine wpList_storeBlk (g := w.heap.size) (t := 44) (cs := (K.map bv).toArray) rfl 44 _ _ rfl ?hx2 ?hy2 (List.replicate 32 (.int .u8 0)).toArray k0 ?hi ?hs ?h1 ?_
    case hx2 => rfl
    case hy2 => rfl
    case hi => (rw [Try.infoKey]; simp [hkl])
    case hs => simp [hkl]
    case h1 => exact one_bytes K
    intro w2 hB hg)
  refine bodyPost_blk2 rfl _ rfl hB Try.underlying44 rfl (by rw [Try.infoKey]; simp [hkl]) rfl ⟨rfl, ?_⟩
  exact hbw.grown hg hbw.size (fun k hk => by injection hk with hk; omega)

theorem refParse_no (s : List UInt8) (E : Int) (hE : (E != 0) = true) (h : DecNo 59 s E) : KeyIs 30 s key0 E := by
  intro w
  have H := Lib.hid h
  clear h
  go_enter Try.func30, Try.ntmps30
  go_wp2_with fail
  refine (H.out _).mono ?_; rintro e w1 ⟨rfl, hb1⟩
  have k0 := (blk_new w 44 (List.replicate 32 (Value.int .u8 0)).toArray).on hb1
  have hbw := Below.step (Below.refl w.heap.size w) (Nat.le_refl _) hb1
  clear hb1
  go_wp2_with (
    refine wpList_storeBlk (g := w.heap.size) (t := 44) (cs := (key0.map bv).toArray) rfl 44 _ _ rfl ?hx2 ?hy2 (List.replicate 32 (.int .u8 0)).toArray k0 ?hi ?hs ?h1 ?_
    case hx2 => rfl
    case hy2 => rfl
    case hi => exact Try.infoKey
    case hs => rfl
    case h1 => exact one_bytes key0
    intro w2 hB hg)
  refine bodyPost_blk2 rfl _ rfl hB Try.underlying44 rfl Try.infoKey rfl ⟨rfl, ?_⟩
  exact hbw.grown hg hbw.size (fun k hk => by injection hk with hk; omega)

theorem refParse_yes (s L : List UInt8) (hn : L.length ≤ 1000000) (h : DecYes 59 s L) : KeyIs 30 s (ofKey L) (ofErr L) := by
  intro w
  have H := Lib.hid h
  have hkl := ofKey_len L
  clear h
  have HO := Lib.hid (fun A c w h => refOf_any A c L w hn h)
  generalize ofKey L = K at *
  generalize ofErr L = E at *
  go_enter Try.func30, Try.ntmps30
  go_wp2_with fail
  refine (H.out _).mono ?_; rintro e w1 ⟨⟨A, c, rfl, hs1⟩, hb1⟩
  have k0 := (blk_new w 44 (List.replicate 32 (Value.int .u8 0)).toArray).on hb1
  have hbw := Below.step (Below.refl w.heap.size w) (Nat.le_refl _) hb1
  clear hb1
  go_wp2_with fail
  refine (HO.out A c _ hs1).mono ?_; rintro e w2 ⟨rfl, hb2⟩
  have k0 := k0.on hb2
  have hbw := Below.on hbw hbw.size hb2
  clear hb2 HO hs1
  go_wp2_with (
    refine wpList_storeBlk (g := w.heap.size) (t := 44) (cs := (K.map bv).toArray) rfl 44 _ _ rfl ?hx2 ?hy2 (List.replicate 32 (.int .u8 0)).toArray k0 ?hi ?hs ?h1 ?_
    case hx2 => rfl
    case hy2 => rfl
    case hi => (rw [Try.infoKey]; simp [hkl])
    case hs => simp [hkl]
    case h1 => exact one_bytes K
    intro w2 hB hg)
  refine bodyPost_blk2 rfl _ rfl hB Try.underlying44 rfl (by rw [Try.infoKey]; simp [hkl]) rfl ⟨rfl, ?_⟩
  exact hbw.grown hg hbw.size (fun k hk => by injection hk with hk; omega)

theorem refParseHex_no (s : List UInt8) (E : Int) (hE : (E != 0) = true) (h : DecNo 61 s E) : KeyIs 31 s key0 E := by
  intro w
  have H := Lib.hid h
  clear h
  go_enter Try.func31, Try.ntmps31
  go_wp2_with fail
  refine (H.out _).mono ?_; rintro e w1 ⟨rfl, hb1⟩
  have k0 := (blk_new w 44 (List.replicate 32 (Value.int .u8 0)).toArray).on hb1
  have hbw := Below.step (Below.refl w.heap.size w) (Nat.le_refl _) hb1
  clear hb1
  go_wp2_with (
    refine wpList_storeBlk (g := w.heap.size) (t := 44) (cs := (key0.map bv).toArray) rfl 44 _ _ rfl ?hx2 ?hy2 (List.replicate 32 (.int .u8 0)).toArray k0 ?hi ?hs ?h1 ?_
    case hx2 => rfl
    case hy2 => rfl
    case hi => exact Try.infoKey
    case hs => rfl
    case h1 => exact one_bytes key0
    intro w2 hB hg)
  refine bodyPost_blk2 rfl _ rfl hB Try.underlying44 rfl Try.infoKey rfl ⟨rfl, ?_⟩
  exact hbw.grown hg hbw.size (fun k hk => by injection hk with hk; omega)

theorem refParseHex_yes (s L : List UInt8) (hn : L.length ≤ 1000000) (h : DecYes 61 s L) : KeyIs 31 s (ofKey L) (ofErr L) := by
  intro w
  have H := Lib.hid h
  have hkl := ofKey_len L
  clear h
  have HO := Lib.hid (fun A c w h => refOf_any A c L w hn h)
  generalize ofKey L = K at *
  generalize ofErr L = E at *
  go_enter Try.func31, Try.ntmps31
  go_wp2_with fail
  refine (H.out _).mono ?_; rintro e w1 ⟨⟨A, c, rfl, hs1⟩, hb1⟩
  have k0 := (blk_new w 44 (List.replicate 32 (Value.int .u8 0)).toArray).on hb1
  have hbw := Below.step (Below.refl w.heap.size w) (Nat.le_refl _) hb1
  clear hb1
  go_wp2_with fail
  refine (HO.out A c _ hs1).mono ?_; rintro e w2 ⟨rfl, hb2⟩
  have k0 := k0.on hb2
  have hbw := Below.on hbw hbw.size hb2
  clear hb2 HO hs1
  go_wp2_with (
    refine wpList_storeBlk (g := w.heap.size) (t := 44) (cs := (K.map bv).toArray) rfl 44 _ _ rfl ?hx2 ?hy2 (List.replicate 32 (.int .u8 0)).toArray k0 ?hi ?hs ?h1 ?_
    case hx2 => rfl
    case hy2 => rfl
    case hi => (rw [Try.infoKey]; simp [hkl])
    case hs => simp [hkl]
    case h1 => exact one_bytes K
    intro w2 hB hg)
  refine bodyPost_blk2 rfl _ rfl hB Try.underlying44 rfl (by rw [Try.infoKey]; simp [hkl]) rfl ⟨rfl, ?_⟩
  exact hbw.grown hg hbw.size (fun k hk => by injection hk with hk; omega)

end Go.Proofs.Ytfiagknmieegaaa
