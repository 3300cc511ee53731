
/- The walk of law07.KeysTexts. -/
import Derived.Test.YtfiagknmieegaaaKeyG
namespace Go.Proofs.Ytfiagknmieegaaa
open Go.RowKit

theorem walk_KeysTexts (k : List UInt8) (hk : k.length = 32) (w : World) :
    Calls Try.prog 6 #[av k] w fun e w' => e = .returned (.bool true) ∧ Below w.heap.size w w' := by
  have k1 := arr_new w 44 k
  have hb0 := (Below.refl w.heap.size w).alloc (Nat.le_refl _) (.cells (k.map bv).toArray 44)
  generalize hW : w.alloc (.cells (k.map bv).toArray 44) = W at *
  have HW := Lib.hid hW
  clear hW
  have HT := Lib.hid (fun W => keyText_any k hk W)
  have HH := Lib.hid (fun W => keyHex_any k hk W)
  have HP := Lib.hid (parse_text k hk)
  have HQ := Lib.hid (parseHex_text k hk)
  have HE := Lib.hid (fun A c W (h : Shows W W.heap.size A 32 k) => Six.refEncode_any A 32 c k W (by omega) h)
  have HF := Lib.hid (fun A c W (h : Shows W W.heap.size A 32 k) => Hex.refEncode_any A 32 c k W (by omega) h)
  generalize Six.enc k = S at *
  generalize Hex.hexEnc k = X at *
  go_enter Try.func6, Try.ntmps6
  go_wp2_with (
    rw [HW.out]
    refine wpList_loadArr (g := w.heap.size) (t := 44) rfl 44 5 _ rfl ?hx k1 hk Try.underlying44 Try.infoKey ?_
    case hx => rfl)
  refine (HT.out _).mono ?_; rintro e w1 ⟨rfl, hb1⟩
  have k1 := k1.on hb1
  have b1 := Below.on hb0 hb0.size hb1
  clear hb0 hb1 HW HT
  go_wp2_with (
    refine wpList_loadArr (g := w.heap.size) (t := 44) rfl 44 5 _ rfl ?hx k1 hk Try.underlying44 Try.infoKey ?_
    case hx => rfl)
  refine (HH.out _).mono ?_; rintro e w2 ⟨rfl, hb2⟩
  have k1 := k1.on hb2
  have b2 := Below.on b1 b1.size hb2
  clear b1 hb2 HH
  go_wp2_with fail
  refine (HP.out _).mono ?_; rintro e w3 ⟨rfl, hb3⟩
  have k1 := (k1.on hb3).alloc (.cells (k.map bv).toArray 44)
  have b3 := Below.on b2 b2.size hb3
  have k2 := arr_new w3 44 k
  have b3 := b3.alloc b3.size (.cells (k.map bv).toArray 44)
  clear b2 hb3 HP
  go_wp2_with (
    refine wpList_allocStore (cs := (k.map bv).toArray) rfl rfl 44 rfl (.tmp 5) (.tmp 16) ?ho2 Try.zeroKey rfl ?hx ?hy ?hn ?h1 ?_
    case ho2 => rfl
    case hx => rfl
    case hy => rfl
    case hn => simp [hk]
    case h1 => exact one_bytes k)
  generalize w3.heap.size = g2 at *
  generalize w3.alloc (.cells (k.map bv).toArray 44) = w4 at *
  refine (HQ.out _).mono ?_; rintro e w5 ⟨rfl, hb5⟩
  have k1 := (k1.on hb5).alloc (.cells (k.map bv).toArray 44)
  have k2 := (k2.on hb5).alloc (.cells (k.map bv).toArray 44)
  have b5 := Below.on b3 b3.size hb5
  have k3 := arr_new w5 44 k
  have b5 := b5.alloc b5.size (.cells (k.map bv).toArray 44)
  clear b3 hb5 HQ
  go_wp2_with (first
    | (refine wpList_allocStore (cs := (k.map bv).toArray) rfl rfl 44 rfl (.tmp 7) (.tmp 21) ?ho2 Try.zeroKey rfl ?hx ?hy ?hn ?h1 ?_
       case ho2 => rfl
       case hx => rfl
       case hy => rfl
       case hn => simp [hk]
       case h1 => exact one_bytes k)
    | (refine wpList_loadArr (g := w.heap.size) (t := 44) rfl 44 5 _ rfl ?hx k1 hk Try.underlying44 Try.infoKey ?_
       case hx => rfl))
  generalize w5.heap.size = g3 at *
  generalize w5.alloc (.cells (k.map bv).toArray 44) = w6 at *
  refine (refBytes_any k _ hk).mono ?_; rintro e w7 ⟨⟨v, rfl, ho7⟩, hb7⟩
  obtain ⟨A7, c7, rfl, _, _, s7⟩ := ho7.shows
  have k1 := k1.on hb7
  have k2 := k2.on hb7
  have k3 := k3.on hb7
  have b7 := Below.on b5 b5.size hb7
  clear b5 hb7 ho7
  go_wp2_with fail
  refine (HE.out _ _ _ s7).mono ?_; rintro e w8 ⟨rfl, hb8⟩
  have k1 := k1.on hb8
  have k2 := k2.on hb8
  have k3 := k3.on hb8
  have b8 := Below.on b7 b7.size hb8
  clear b7 hb8 s7 HE
  go_wp2_with (
    refine wpList_loadArr (g := w.heap.size) (t := 44) rfl 44 5 _ rfl ?hx k1 hk Try.underlying44 Try.infoKey ?_
    case hx => rfl)
  refine (refBytes_any k _ hk).mono ?_; rintro e w9 ⟨⟨v, rfl, ho9⟩, hb9⟩
  obtain ⟨A9, c9, rfl, _, _, s9⟩ := ho9.shows
  have k1 := k1.on hb9
  have k2 := k2.on hb9
  have k3 := k3.on hb9
  have b9 := Below.on b8 b8.size hb9
  clear b8 hb9 ho9
  go_wp2_with fail
  refine (HF.out _ _ _ s9).mono ?_; rintro e w10 ⟨rfl, hb10⟩
  have k1 := k1.on hb10
  have k2 := k2.on hb10
  have k3 := k3.on hb10
  have b10 := Below.on b9 b9.size hb10
  clear b9 hb10 s9 HF
  go_wp2_with (first
    | (refine wpList_loadArr (g := w.heap.size) (t := 44) rfl 44 5 _ rfl ?hx k1 hk Try.underlying44 Try.infoKey ?_
       case hx => rfl)
    | (refine wpList_loadArr (g := g2) (t := 44) rfl 44 5 _ rfl ?hx k2 hk Try.underlying44 Try.infoKey ?_
       case hx => rfl)
    | (refine wpList_loadArr (g := g3) (t := 44) rfl 44 5 _ rfl ?hx k3 hk Try.underlying44 Try.infoKey ?_
       case hx => rfl)
    | refine wpList_eqlArr (l := k) (l' := k) rfl 44 5 _ _ _ rfl _ rfl rfl rfl hk hk Try.underlying44 Try.underlying5 Try.sizeU8 Try.plainKey ?_)
  refine (alive7 _).mono ?_; rintro e w11 ⟨rfl, hb11⟩
  have b11 := Below.on b10 b10.size hb11
  go_wp2
  go_ret
  exact ⟨rfl, b11⟩

end Go.Proofs.Ytfiagknmieegaaa
