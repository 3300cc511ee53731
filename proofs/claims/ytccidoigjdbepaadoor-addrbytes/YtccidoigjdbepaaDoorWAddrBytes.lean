
/- The walk of law10.AddrBytes. -/
import Derived.Test.YtccidoigjdbepaaDoorZAx
import Derived.Test.YtccidoigjdbepaaDoorCxF
import Derived.Test.YtccidoigjdbepaaDoorWCidrOf
import Derived.Test.YtccidoigjdbepaaDoorZOpn
import Derived.Deep.RegionHeld
namespace Go.Proofs.YtccidoigjdbepaaDoor
open Go.RowKit Dec Lin Qd
set_option maxRecDepth 100000
set_option linter.unusedVariables false
set_option linter.unusedSimpArgs false

theorem Shows.on' {w w' : World} {A : Option Addr} {n : Nat} {l : List UInt8} (h : Shows w w.heap.size A n l) (hb : Below w.heap.size w w') : Shows w' w'.heap.size A n l := (h.below hb).up hb.size

set_option maxHeartbeats 8000000 in
theorem ab_no (v : Int) (l : List UInt8) (w : World) (hl : l.length = 16) (htab : Tab w) (hm : Cl.HasM w) (hok : okA v l = false) :
    Calls Tryd.prog 3 #[.agg (adv v l)] w fun e w' => e = .returned (.bool true) ∧ Below w.heap.size w w' := by
  have HM := Lib.hid hm
  have Htab := Lib.hid htab
  have hpos := hm.pos
  have hr1 := fun W => right_any v l hl W
  have hr2 := fun W => refRight_any v l hl W
  rw [hok] at hr1 hr2
  have HR1 := Lib.hid hr1
  have HR2 := Lib.hid hr2
  have HB1 := Lib.hid (fun W => abytes_any v l hl W)
  have HB2 := Lib.hid (fun W => @Go.Proofs.YtccidoigjdbepaaDoor.refBytes_any v l hl W)
  have HT1 := Lib.hid (fun W h => @Go.Proofs.YtccidoigjdbepaaDoor.text_any v l hl W h)
  have HT2 := Lib.hid (fun W => @Go.Proofs.YtccidoigjdbepaaDoor.refText_any v l hl W)
  have HW1 := Lib.hid (fun W => widthA_any v l hl W)
  have HW2 := Lib.hid (fun W => refWidthA_any v l hl W)
  have htl := txA_len v l hl
  have hz := Adr_size v l hl
  have x17 := adv_size v l hl
  have ox := adv_one v l
  have he := adr_eq v v l l hl hl
  rw [show (v == v && l == l) = true by simp] at he
  have hmm : sizeA v l ≤ maxLen := by have := sizeA_le v l; unfold maxLen; omega
  have k0 : Blk (w.alloc (.cells (adv v l) 24)) w.heap.size 24 (adv v l) := blk_new _ _ _
  have b0 : Below w.heap.size w (w.alloc (.cells (adv v l) 24)) := (Below.refl _ _).alloc (Nat.le_refl _) _
  clear hr1 hr2 hm htab htl hok
  unfold sv at HT1 HT2
  generalize ByteArray.mk ⟨txA v l⟩ = sT at *
  generalize hL : l.take (sizeA v l) = L at *
  generalize sizeA v l = m at *
  generalize adv v l = X at *
  go_enter Tryd.func3, Tryd.ntmps3
  go_wp2_with (first
    | (refine wpList_loadBlk (g := w.heap.size) (t := 24) (cs := X) ?hw 24 (.tmp 1) ?ho ?hx ?hA _ Tryd.underlying24 rfl ?hi ?_
       case hw => rfl
       case ho => with_reducible rfl
       case hx => rfl
       case hA => exact k0
       case hi => exact hz)
    | fail)
  refine (HR2.out _).mono ?_; rintro e w1 ⟨rfl, hb1⟩
  have k1 := k0.on (by exact hb1)
  have b1 := Below.on b0 b0.size (by exact hb1)
  clear hb1 k0 b0
  go_wp2_with (first
    | (refine wpList_loadBlk (g := w.heap.size) (t := 24) (cs := X) ?hw 24 (.tmp 1) ?ho ?hx ?hA _ Tryd.underlying24 rfl ?hi ?_
       case hw => rfl
       case ho => with_reducible rfl
       case hx => rfl
       case hA => exact k1
       case hi => exact hz)
    | fail)
  refine (HB1.out _).mono ?_; rintro e w2 ⟨x, rfl, ho1, hb2⟩
  have k2 := k1.on (by exact hb2)
  have b2 := Below.on b1 b1.size (by exact hb2)
  obtain ⟨A1, c1, rfl, _, _, s2⟩ := ho1.shows
  clear hb2 k1 b1 ho1
  go_wp2_with (first
    | (refine wpList_loadBlk (g := w.heap.size) (t := 24) (cs := X) ?hw 24 (.tmp 1) ?ho ?hx ?hA _ Tryd.underlying24 rfl ?hi ?_
       case hw => rfl
       case ho => with_reducible rfl
       case hx => rfl
       case hA => exact k2
       case hi => exact hz)
    | fail)
  refine (HT1.out _ (Htab.out.on b2)).mono ?_; rintro e w3 ⟨rfl, hb3⟩
  have k3 := k2.on (by exact hb3)
  have b3 := Below.on b2 b2.size (by exact hb3)
  have s3 : Shows w3 w3.heap.size A1 m L := (s2.below hb3).up hb3.size
  clear hb3 k2 b2 s2
  go_wp2_with fail
  have k10 : Blk w3.drew w.heap.size 24 X := k3
  have b10 : Below w.heap.size w w3.drew := b3.drew
  have s10 : Shows w3.drew w3.drew.heap.size A1 m L := s3
  clear k3 b3 s3
  refine wp_region_held_drew (S := fun W => Blk W w.heap.size 24 X) (by kernel_rfl) k10 ?_
  intro hS
  generalize w3.drew = w10 at *
  refine wpAnyH_take (i := 0) (oi := ?o1) (v := .agg X) ?hio1 (by kernel_rfl) (by kernel_rfl) (by kernel_rfl) ?hQo1 ?hyo1 hS ?_
  case hio1 => (simp only [List.getElem?_toArray, List.getElem?_cons_succ, List.getElem?_cons_zero]; rfl)
  case hQo1 => exact fun _ _ _ h => h
  case hyo1 => exact yieldsIf_load_mid (by rfl) 24 (.tmp 1) rfl w.heap.size 0 rfl X.toList _ (fun W hW => Blk.range0 hW) Tryd.underlying24 rfl (by simpa using hz)
  try simp only [Act.put, List.setIfInBounds_toArray, List.set_cons_zero, List.set_cons_succ]
  refine wpAnyH_take (i := 2) (oi := ?o2) (v := .bool false) ?hio2 (by kernel_rfl) (by kernel_rfl) (by kernel_rfl) ?hQo2 ?hyo2 hS ?_
  case hio2 => (simp only [List.getElem?_toArray, List.getElem?_cons_succ, List.getElem?_cons_zero]; rfl)
  case hQo2 => exact fun _ _ _ h => h
  case hyo2 => exact Or.inl ⟨by rfl, fun W hW => by go_simp⟩
  try simp only [Act.put, List.setIfInBounds_toArray, List.set_cons_zero, List.set_cons_succ]
  refine wpAnyH_ready (rs := [1]) (by kernel_rfl) (by simp) ?_
  refine AllReadyH.cons (o := ?o24) ?hoo24 (fun K hK => ?ho24) AllReadyH.nil
  case hoo24 => (simp only [List.getElem?_toArray, List.getElem?_cons_succ, List.getElem?_cons_zero]; rfl)
  case ho24 =>
    go_simp
    go_at_call 15
    with_reducible refine (HR1.out _).mono ?_
    rintro e w11 ⟨rfl, hb11⟩
    have k11 := k10.on hb11
    have s11 := Shows.on' s10 hb11
    have b11 := Below.on b10 b10.size hb11
    refine hK.out _ _ k11 (fun hS11 => ?_)
    clear hK K
    try simp only [Act.put, List.setIfInBounds_toArray, List.set_cons_zero, List.set_cons_succ]
    refine wpAnyH_take (i := 3) (oi := ?o19) (v := .bool false) ?hio19 (by kernel_rfl) (by kernel_rfl) (by kernel_rfl) ?hQo19 ?hyo19 hS11 ?_
    case hio19 => (simp only [List.getElem?_toArray, List.getElem?_cons_succ, List.getElem?_cons_zero]; rfl)
    case hQo19 => exact fun _ _ _ h => h
    case hyo19 => exact Or.inl ⟨by rfl, fun W hW => by go_simp⟩
    try simp only [Act.put, List.setIfInBounds_toArray, List.set_cons_zero, List.set_cons_succ]
    refine wpAnyH_take (i := 4) (oi := ?o20) (v := .bool false) ?hio20 (by kernel_rfl) (by kernel_rfl) (by kernel_rfl) ?hQo20 ?hyo20 hS11 ?_
    case hio20 => (simp only [List.getElem?_toArray, List.getElem?_cons_succ, List.getElem?_cons_zero]; rfl)
    case hQo20 => exact fun _ _ _ h => h
    case hyo20 => exact Or.inl ⟨by rfl, fun W hW => by go_simp⟩
    try simp only [Act.put, List.setIfInBounds_toArray, List.set_cons_zero, List.set_cons_succ]
    refine wpAnyH_take (i := 5) (oi := ?o21) (v := .slice A1 m c1) ?hio21 (by kernel_rfl) (by kernel_rfl) (by kernel_rfl) ?hQo21 ?hyo21 hS11 ?_
    case hio21 => (simp only [List.getElem?_toArray, List.getElem?_cons_succ, List.getElem?_cons_zero]; rfl)
    case hQo21 => exact fun _ _ _ h => h
    case hyo21 => exact Or.inl ⟨by rfl, fun W hW => by go_simp⟩
    try simp only [Act.put, List.setIfInBounds_toArray, List.set_cons_zero, List.set_cons_succ]
    refine wpAnyH_take (i := 6) (oi := ?o22) (v := .agg X) ?hio22 (by kernel_rfl) (by kernel_rfl) (by kernel_rfl) ?hQo22 ?hyo22 hS11 ?_
    case hio22 => (simp only [List.getElem?_toArray, List.getElem?_cons_succ, List.getElem?_cons_zero]; rfl)
    case hQo22 => exact fun _ _ _ h => h
    case hyo22 => exact yieldsIf_load_mid (by rfl) 24 (.tmp 1) rfl w.heap.size 0 rfl X.toList _ (fun W hW => Blk.range0 hW) Tryd.underlying24 rfl (by simpa using hz)
    try simp only [Act.put, List.setIfInBounds_toArray, List.set_cons_zero, List.set_cons_succ]
    refine wpAnyH_ready (rs := [7]) (by kernel_rfl) (by simp) ?_
    refine AllReadyH.cons (o := ?o23) ?hoo23 (fun K hK => ?ho23) AllReadyH.nil
    case hoo23 => (simp only [List.getElem?_toArray, List.getElem?_cons_succ, List.getElem?_cons_zero]; rfl)
    case ho23 =>
      go_simp
      go_at_call 17
      with_reducible refine (HB2.out _).mono ?_
      rintro e w12 ⟨y, rfl, ho2, hb12⟩
      have k12 := k11.on hb12
      have s12 := Shows.on' s11 hb12
      have b12 := Below.on b11 b11.size hb12
      obtain ⟨A2, c2, rfl, _, _, y12⟩ := ho2.shows
      refine hK.out _ _ k12 (fun hS12 => ?_)
      clear hK K
      try simp only [Act.put, List.setIfInBounds_toArray, List.set_cons_zero, List.set_cons_succ]
      refine wpAnyH_ready (rs := [8]) (by kernel_rfl) (by simp) ?_
      refine AllReadyH.cons (o := ?o18) ?hoo18 (fun K hK => ?ho18) AllReadyH.nil
      case hoo18 => (simp only [List.getElem?_toArray, List.getElem?_cons_succ, List.getElem?_cons_zero]; rfl)
      case ho18 =>
        go_simp
        go_at_call 16
        with_reducible refine (same_below A1 A2 m c1 c2 _ _ hmm s12 y12).mono ?_
        rintro e w13 ⟨rfl, hb13⟩
        have k13 := k12.on hb13
        have s13 := Shows.on' s12 hb13
        have b13 := Below.on b12 b12.size hb13
        refine hK.out _ _ k13 (fun hS13 => ?_)
        clear hK K
        try simp only [Act.put, List.setIfInBounds_toArray, List.set_cons_zero, List.set_cons_succ]
        refine wpAnyH_take (i := 9) (oi := ?o12) (v := .bool false) ?hio12 (by kernel_rfl) (by kernel_rfl) (by kernel_rfl) ?hQo12 ?hyo12 hS13 ?_
        case hio12 => (simp only [List.getElem?_toArray, List.getElem?_cons_succ, List.getElem?_cons_zero]; rfl)
        case hQo12 => exact fun _ _ _ h => h
        case hyo12 => exact Or.inl ⟨by rfl, fun W hW => by go_simp⟩
        try simp only [Act.put, List.setIfInBounds_toArray, List.set_cons_zero, List.set_cons_succ]
        refine wpAnyH_take (i := 10) (oi := ?o13) (v := .bool false) ?hio13 (by kernel_rfl) (by kernel_rfl) (by kernel_rfl) ?hQo13 ?hyo13 hS13 ?_
        case hio13 => (simp only [List.getElem?_toArray, List.getElem?_cons_succ, List.getElem?_cons_zero]; rfl)
        case hQo13 => exact fun _ _ _ h => h
        case hyo13 => exact Or.inl ⟨by rfl, fun W hW => by go_simp⟩
        try simp only [Act.put, List.setIfInBounds_toArray, List.set_cons_zero, List.set_cons_succ]
        refine wpAnyH_take (i := 11) (oi := ?o14) (v := .bool false) ?hio14 (by kernel_rfl) (by kernel_rfl) (by kernel_rfl) ?hQo14 ?hyo14 hS13 ?_
        case hio14 => (simp only [List.getElem?_toArray, List.getElem?_cons_succ, List.getElem?_cons_zero]; rfl)
        case hQo14 => exact fun _ _ _ h => h
        case hyo14 => exact Or.inl ⟨by rfl, fun W hW => by go_simp⟩
        try simp only [Act.put, List.setIfInBounds_toArray, List.set_cons_zero, List.set_cons_succ]
        refine wpAnyH_take (i := 12) (oi := ?o15) (v := .string sT) ?hio15 (by kernel_rfl) (by kernel_rfl) (by kernel_rfl) ?hQo15 ?hyo15 hS13 ?_
        case hio15 => (simp only [List.getElem?_toArray, List.getElem?_cons_succ, List.getElem?_cons_zero]; rfl)
        case hQo15 => exact fun _ _ _ h => h
        case hyo15 => exact Or.inl ⟨by rfl, fun W hW => by go_simp⟩
        try simp only [Act.put, List.setIfInBounds_toArray, List.set_cons_zero, List.set_cons_succ]
        refine wpAnyH_take (i := 13) (oi := ?o16) (v := .agg X) ?hio16 (by kernel_rfl) (by kernel_rfl) (by kernel_rfl) ?hQo16 ?hyo16 hS13 ?_
        case hio16 => (simp only [List.getElem?_toArray, List.getElem?_cons_succ, List.getElem?_cons_zero]; rfl)
        case hQo16 => exact fun _ _ _ h => h
        case hyo16 => exact yieldsIf_load_mid (by rfl) 24 (.tmp 1) rfl w.heap.size 0 rfl X.toList _ (fun W hW => Blk.range0 hW) Tryd.underlying24 rfl (by simpa using hz)
        try simp only [Act.put, List.setIfInBounds_toArray, List.set_cons_zero, List.set_cons_succ]
        refine wpAnyH_ready (rs := [14]) (by kernel_rfl) (by simp) ?_
        refine AllReadyH.cons (o := ?o17) ?hoo17 (fun K hK => ?ho17) AllReadyH.nil
        case hoo17 => (simp only [List.getElem?_toArray, List.getElem?_cons_succ, List.getElem?_cons_zero]; rfl)
        case ho17 =>
          go_simp
          go_at_call 18
          with_reducible refine (HT2.out _).mono ?_
          rintro e w14 ⟨rfl, hb14⟩
          have k14 := k13.on hb14
          have s14 := Shows.on' s13 hb14
          have b14 := Below.on b13 b13.size hb14
          refine hK.out _ _ k14 (fun hS14 => ?_)
          clear hK K
          try simp only [Act.put, List.setIfInBounds_toArray, List.set_cons_zero, List.set_cons_succ]
          refine wpAnyH_take (i := 15) (oi := ?o6) (v := .bool false) ?hio6 (by kernel_rfl) (by kernel_rfl) (by kernel_rfl) ?hQo6 ?hyo6 hS14 ?_
          case hio6 => (simp only [List.getElem?_toArray, List.getElem?_cons_succ, List.getElem?_cons_zero]; rfl)
          case hQo6 => exact fun _ _ _ h => h
          case hyo6 => exact Or.inl ⟨by rfl, fun W hW => by go_simp⟩
          try simp only [Act.put, List.setIfInBounds_toArray, List.set_cons_zero, List.set_cons_succ]
          refine wpAnyH_take (i := 16) (oi := ?o7) (v := .bool false) ?hio7 (by kernel_rfl) (by kernel_rfl) (by kernel_rfl) ?hQo7 ?hyo7 hS14 ?_
          case hio7 => (simp only [List.getElem?_toArray, List.getElem?_cons_succ, List.getElem?_cons_zero]; rfl)
          case hQo7 => exact fun _ _ _ h => h
          case hyo7 => exact Or.inl ⟨by rfl, fun W hW => by go_simp⟩
          try simp only [Act.put, List.setIfInBounds_toArray, List.set_cons_zero, List.set_cons_succ]
          refine wpAnyH_take (i := 17) (oi := ?o8) (v := .bool false) ?hio8 (by kernel_rfl) (by kernel_rfl) (by kernel_rfl) ?hQo8 ?hyo8 hS14 ?_
          case hio8 => (simp only [List.getElem?_toArray, List.getElem?_cons_succ, List.getElem?_cons_zero]; rfl)
          case hQo8 => exact fun _ _ _ h => h
          case hyo8 => exact Or.inl ⟨by rfl, fun W hW => by go_simp⟩
          try simp only [Act.put, List.setIfInBounds_toArray, List.set_cons_zero, List.set_cons_succ]
          refine wpAnyH_take (i := 18) (oi := ?o9) (v := .agg X) ?hio9 (by kernel_rfl) (by kernel_rfl) (by kernel_rfl) ?hQo9 ?hyo9 hS14 ?_
          case hio9 => (simp only [List.getElem?_toArray, List.getElem?_cons_succ, List.getElem?_cons_zero]; rfl)
          case hQo9 => exact fun _ _ _ h => h
          case hyo9 => exact yieldsIf_load_mid (by rfl) 24 (.tmp 1) rfl w.heap.size 0 rfl X.toList _ (fun W hW => Blk.range0 hW) Tryd.underlying24 rfl (by simpa using hz)
          try simp only [Act.put, List.setIfInBounds_toArray, List.set_cons_zero, List.set_cons_succ]
          refine wpAnyH_take (i := 20) (oi := ?o10) (v := .agg X) ?hio10 (by kernel_rfl) (by kernel_rfl) (by kernel_rfl) ?hQo10 ?hyo10 hS14 ?_
          case hio10 => (simp only [List.getElem?_toArray, List.getElem?_cons_succ, List.getElem?_cons_zero]; rfl)
          case hQo10 => exact fun _ _ _ h => h
          case hyo10 => exact yieldsIf_load_mid (by rfl) 24 (.tmp 1) rfl w.heap.size 0 rfl X.toList _ (fun W hW => Blk.range0 hW) Tryd.underlying24 rfl (by simpa using hz)
          try simp only [Act.put, List.setIfInBounds_toArray, List.set_cons_zero, List.set_cons_succ]
          refine wpAnyH_ready (rs := [19]) (by kernel_rfl) (by simp) ?_
          refine AllReadyH.cons (o := ?o11) ?hoo11 (fun K hK => ?ho11) AllReadyH.nil
          case hoo11 => (simp only [List.getElem?_toArray, List.getElem?_cons_succ, List.getElem?_cons_zero]; rfl)
          case ho11 =>
            go_simp
            go_at_call 19
            with_reducible refine (HW1.out _).mono ?_
            rintro e w15 ⟨rfl, hb15⟩
            have k15 := k14.on hb15
            have s15 := Shows.on' s14 hb15
            have b15 := Below.on b14 b14.size hb15
            refine hK.out _ _ k15 (fun hS15 => ?_)
            clear hK K
            try simp only [Act.put, List.setIfInBounds_toArray, List.set_cons_zero, List.set_cons_succ]
            refine wpAnyH_ready (rs := [21]) (by kernel_rfl) (by simp) ?_
            refine AllReadyH.cons (o := ?o5) ?hoo5 (fun K hK => ?ho5) AllReadyH.nil
            case hoo5 => (simp only [List.getElem?_toArray, List.getElem?_cons_succ, List.getElem?_cons_zero]; rfl)
            case ho5 =>
              go_simp
              go_at_call 20
              with_reducible refine (HW2.out _).mono ?_
              rintro e w16 ⟨rfl, hb16⟩
              have k16 := k15.on hb16
              have s16 := Shows.on' s15 hb16
              have b16 := Below.on b15 b15.size hb16
              refine hK.out _ _ k16 (fun hS16 => ?_)
              clear hK K
              try simp only [Act.put, List.setIfInBounds_toArray, List.set_cons_zero, List.set_cons_succ]
              refine wpAnyH_take (i := 22) (oi := ?o3) (v := .bool false) ?hio3 (by kernel_rfl) (by kernel_rfl) (by kernel_rfl) ?hQo3 ?hyo3 hS16 ?_
              case hio3 => (simp only [List.getElem?_toArray, List.getElem?_cons_succ, List.getElem?_cons_zero]; rfl)
              case hQo3 => exact fun _ _ _ h => h
              case hyo3 => exact Or.inl ⟨by rfl, fun W hW => by go_simp⟩
              try simp only [Act.put, List.setIfInBounds_toArray, List.set_cons_zero, List.set_cons_succ]
              refine wpAnyH_take (i := 23) (oi := ?o4) (v := .bool false) ?hio4 (by kernel_rfl) (by kernel_rfl) (by kernel_rfl) ?hQo4 ?hyo4 hS16 ?_
              case hio4 => (simp only [List.getElem?_toArray, List.getElem?_cons_succ, List.getElem?_cons_zero]; rfl)
              case hQo4 => exact fun _ _ _ h => h
              case hyo4 => exact Or.inl ⟨by rfl, fun W hW => by go_simp⟩
              try simp only [Act.put, List.setIfInBounds_toArray, List.set_cons_zero, List.set_cons_succ]
              refine wpAnyH_done (by kernel_rfl) ?_ _
              clear hS16
              go_wp2_with fail
              refine (alive10 _ (Htab.out.on b16)).mono ?_; rintro e wz ⟨rfl, hbz⟩
              have bz := Below.on b16 b16.size (by exact hbz)
              go_wp2
              go_ret
              exact ⟨rfl, bz⟩

set_option maxHeartbeats 8000000 in
theorem ab_4 (v : Int) (l : List UInt8) (w : World) (hl : l.length = 16) (htab : Tab w) (hm : Cl.HasM w) (hok : okA v l = true) (hv : v = 4) :
    Calls Tryd.prog 3 #[.agg (adv v l)] w fun e w' => e = .returned (.bool true) ∧ Below w.heap.size w w' := by
  have HM := Lib.hid hm
  have Htab := Lib.hid htab
  have hpos := hm.pos
  have hr1 := fun W => right_any v l hl W
  have hr2 := fun W => refRight_any v l hl W
  rw [hok] at hr1 hr2
  have HR1 := Lib.hid hr1
  have HR2 := Lib.hid hr2
  have HB1 := Lib.hid (fun W => abytes_any v l hl W)
  have HB2 := Lib.hid (fun W => @Go.Proofs.YtccidoigjdbepaaDoor.refBytes_any v l hl W)
  have HT1 := Lib.hid (fun W h => @Go.Proofs.YtccidoigjdbepaaDoor.text_any v l hl W h)
  have HT2 := Lib.hid (fun W => @Go.Proofs.YtccidoigjdbepaaDoor.refText_any v l hl W)
  have HW1 := Lib.hid (fun W => widthA_any v l hl W)
  have HW2 := Lib.hid (fun W => refWidthA_any v l hl W)
  have htl := txA_len v l hl
  have hz := Adr_size v l hl
  have x17 := adv_size v l hl
  have ox := adv_one v l
  have he := adr_eq v v l l hl hl
  rw [show (v == v && l == l) = true by simp] at he
  have hmm : sizeA v l ≤ maxLen := by have := sizeA_le v l; unfold maxLen; omega
  have h8 := fun W h => aparse_any (txA v l) (by omega) W h
  rw [(a_back v l hl hok).1, (a_back v l hl hok).2.1, (a_back v l hl hok).2.2] at h8
  have H8 := Lib.hid h8
  obtain ⟨a0, a1, a2, a3, r, hl4⟩ := list4 l (by omega)
  have HC := Lib.hid (fun (W : World) (g : Nat) (t : TypeId) (h : Blk W g t (adv v l)) => show W.cell? ⟨g, 0, none⟩ = some (.int .i64 v) ∧ W.cell? ⟨g, 1, none⟩ = some (bv a0) ∧ W.cell? ⟨g, 2, none⟩ = some (bv a1) ∧ W.cell? ⟨g, 3, none⟩ = some (bv a2) ∧ W.cell? ⟨g, 4, none⟩ = some (bv a3) from
    ⟨h.adv0, load1 h 0 a0 (by rw [hl4]; rfl), load1 h 1 a1 (by rw [hl4]; rfl), load1 h 2 a2 (by rw [hl4]; rfl), load1 h 3 a3 (by rw [hl4]; rfl)⟩)
  have h9 := fun W => four_any [a0, a1, a2, a3] rfl W
  have e4 : [a0, a1, a2, a3] ++ zb 12 = l := by
    subst hv
    obtain ⟨a, b, c, d, e⟩ := four_form l hl hok
    rw [hl4] at e
    injection e with e1 e
    injection e with e2 e
    injection e with e3 e
    injection e with e4 e
    rw [hl4, e]
    rfl
  rw [e4] at h9
  subst hv
  have H9 := Lib.hid h9
  have hs4 : sizeA 4 l = 4 := sizeA_4 l hok
  have h7 : ∀ (W : World) (A : Option Addr) (c : Nat), Shows W W.heap.size A 4 (l.take 4) → Calls Tryd.prog 22 #[.slice A 4 c] W fun e w' => e = .returned (.tuple #[.agg (adv 4 l), .int .i64 0]) ∧ Below W.heap.size W w' := by
    intro W A c h
    obtain ⟨b, off, rfl, _⟩ := h.2 (by omega)
    have := of4_any b off c (l.take 4) W h
    rwa [show l.take 4 ++ zb 12 = l by rw [← e4]; rfl] at this
  have H7 := Lib.hid h7
  rw [hs4] at hmm HB1 HB2 HW1 HW2
  clear h7 h9 e4 hs4
  clear hl4
  have k0 : Blk (w.alloc (.cells (adv 4 l) 24)) w.heap.size 24 (adv 4 l) := blk_new _ _ _
  have b0 : Below w.heap.size w (w.alloc (.cells (adv 4 l) 24)) := (Below.refl _ _).alloc (Nat.le_refl _) _
  clear hr1 hr2 hm htab htl hok h8
  unfold sv at HT1 HT2 H8
  generalize ByteArray.mk ⟨txA 4 l⟩ = sT at *
  generalize hL : l.take 4 = L at *
  generalize adv 4 l = X at *
  go_enter Tryd.func3, Tryd.ntmps3
  go_wp2_with (first
    | (refine wpList_loadBlk (g := w.heap.size) (t := 24) (cs := X) ?hw 24 (.tmp 1) ?ho ?hx ?hA _ Tryd.underlying24 rfl ?hi ?_
       case hw => rfl
       case ho => with_reducible rfl
       case hx => rfl
       case hA => exact k0
       case hi => exact hz)
    | fail)
  refine (HR2.out _).mono ?_; rintro e w1 ⟨rfl, hb1⟩
  have k1 := k0.on (by exact hb1)
  have b1 := Below.on b0 b0.size (by exact hb1)
  clear hb1 k0 b0
  go_wp2_with (first
    | (refine wpList_loadBlk (g := w.heap.size) (t := 24) (cs := X) ?hw 24 (.tmp 1) ?ho ?hx ?hA _ Tryd.underlying24 rfl ?hi ?_
       case hw => rfl
       case ho => with_reducible rfl
       case hx => rfl
       case hA => exact k1
       case hi => exact hz)
    | fail)
  refine (HB1.out _).mono ?_; rintro e w2 ⟨x, rfl, ho1, hb2⟩
  have k2 := k1.on (by exact hb2)
  have b2 := Below.on b1 b1.size (by exact hb2)
  obtain ⟨A1, c1, rfl, _, _, s2⟩ := ho1.shows
  clear hb2 k1 b1 ho1
  go_wp2_with (first
    | (refine wpList_loadBlk (g := w.heap.size) (t := 24) (cs := X) ?hw 24 (.tmp 1) ?ho ?hx ?hA _ Tryd.underlying24 rfl ?hi ?_
       case hw => rfl
       case ho => with_reducible rfl
       case hx => rfl
       case hA => exact k2
       case hi => exact hz)
    | fail)
  refine (HT1.out _ (Htab.out.on b2)).mono ?_; rintro e w3 ⟨rfl, hb3⟩
  have k3 := k2.on (by exact hb3)
  have b3 := Below.on b2 b2.size (by exact hb3)
  have s3 : Shows w3 w3.heap.size A1 4 L := (s2.below hb3).up hb3.size
  clear hb3 k2 b2 s2
  go_wp2_with fail
  have k10 : Blk w3.drew w.heap.size 24 X := k3
  have b10 : Below w.heap.size w w3.drew := b3.drew
  have s10 : Shows w3.drew w3.drew.heap.size A1 4 L := s3
  clear k3 b3 s3
  refine wp_region_held_drew (S := fun W => Blk W w.heap.size 24 X) (by kernel_rfl) k10 ?_
  intro hS
  generalize w3.drew = w10 at *
  refine wpAnyH_take (i := 0) (oi := ?o25) (v := .agg X) ?hio25 (by kernel_rfl) (by kernel_rfl) (by kernel_rfl) ?hQo25 ?hyo25 hS ?_
  case hio25 => (simp only [List.getElem?_toArray, List.getElem?_cons_succ, List.getElem?_cons_zero]; rfl)
  case hQo25 => exact fun _ _ _ h => h
  case hyo25 => exact yieldsIf_load_mid (by rfl) 24 (.tmp 1) rfl w.heap.size 0 rfl X.toList _ (fun W hW => Blk.range0 hW) Tryd.underlying24 rfl (by simpa using hz)
  try simp only [Act.put, List.setIfInBounds_toArray, List.set_cons_zero, List.set_cons_succ]
  refine wpAnyH_take (i := 2) (oi := ?o26) (v := .bool true) ?hio26 (by kernel_rfl) (by kernel_rfl) (by kernel_rfl) ?hQo26 ?hyo26 hS ?_
  case hio26 => (simp only [List.getElem?_toArray, List.getElem?_cons_succ, List.getElem?_cons_zero]; rfl)
  case hQo26 => exact fun _ _ _ h => h
  case hyo26 => exact Or.inl ⟨by rfl, fun W hW => by go_simp⟩
  try simp only [Act.put, List.setIfInBounds_toArray, List.set_cons_zero, List.set_cons_succ]
  refine wpAnyH_ready (rs := [1]) (by kernel_rfl) (by simp) ?_
  refine AllReadyH.cons (o := ?o48) ?hoo48 (fun K hK => ?ho48) AllReadyH.nil
  case hoo48 => (simp only [List.getElem?_toArray, List.getElem?_cons_succ, List.getElem?_cons_zero]; rfl)
  case ho48 =>
    go_simp
    go_at_call 15
    with_reducible refine (HR1.out _).mono ?_
    rintro e w11 ⟨rfl, hb11⟩
    have k11 := k10.on hb11
    have s11 := Shows.on' s10 hb11
    have b11 := Below.on b10 b10.size hb11
    refine hK.out _ _ k11 (fun hS11 => ?_)
    clear hK K
    try simp only [Act.put, List.setIfInBounds_toArray, List.set_cons_zero, List.set_cons_succ]
    refine wpAnyH_take (i := 3) (oi := ?o43) (v := .bool false) ?hio43 (by kernel_rfl) (by kernel_rfl) (by kernel_rfl) ?hQo43 ?hyo43 hS11 ?_
    case hio43 => (simp only [List.getElem?_toArray, List.getElem?_cons_succ, List.getElem?_cons_zero]; rfl)
    case hQo43 => exact fun _ _ _ h => h
    case hyo43 => exact Or.inl ⟨by rfl, fun W hW => by go_simp⟩
    try simp only [Act.put, List.setIfInBounds_toArray, List.set_cons_zero, List.set_cons_succ]
    refine wpAnyH_take (i := 4) (oi := ?o44) (v := .bool false) ?hio44 (by kernel_rfl) (by kernel_rfl) (by kernel_rfl) ?hQo44 ?hyo44 hS11 ?_
    case hio44 => (simp only [List.getElem?_toArray, List.getElem?_cons_succ, List.getElem?_cons_zero]; rfl)
    case hQo44 => exact fun _ _ _ h => h
    case hyo44 => exact Or.inl ⟨by rfl, fun W hW => by go_simp⟩
    try simp only [Act.put, List.setIfInBounds_toArray, List.set_cons_zero, List.set_cons_succ]
    refine wpAnyH_take (i := 5) (oi := ?o45) (v := .slice A1 4 c1) ?hio45 (by kernel_rfl) (by kernel_rfl) (by kernel_rfl) ?hQo45 ?hyo45 hS11 ?_
    case hio45 => (simp only [List.getElem?_toArray, List.getElem?_cons_succ, List.getElem?_cons_zero]; rfl)
    case hQo45 => exact fun _ _ _ h => h
    case hyo45 => exact Or.inl ⟨by rfl, fun W hW => by go_simp⟩
    try simp only [Act.put, List.setIfInBounds_toArray, List.set_cons_zero, List.set_cons_succ]
    refine wpAnyH_take (i := 6) (oi := ?o46) (v := .agg X) ?hio46 (by kernel_rfl) (by kernel_rfl) (by kernel_rfl) ?hQo46 ?hyo46 hS11 ?_
    case hio46 => (simp only [List.getElem?_toArray, List.getElem?_cons_succ, List.getElem?_cons_zero]; rfl)
    case hQo46 => exact fun _ _ _ h => h
    case hyo46 => exact yieldsIf_load_mid (by rfl) 24 (.tmp 1) rfl w.heap.size 0 rfl X.toList _ (fun W hW => Blk.range0 hW) Tryd.underlying24 rfl (by simpa using hz)
    try simp only [Act.put, List.setIfInBounds_toArray, List.set_cons_zero, List.set_cons_succ]
    refine wpAnyH_ready (rs := [7]) (by kernel_rfl) (by simp) ?_
    refine AllReadyH.cons (o := ?o47) ?hoo47 (fun K hK => ?ho47) AllReadyH.nil
    case hoo47 => (simp only [List.getElem?_toArray, List.getElem?_cons_succ, List.getElem?_cons_zero]; rfl)
    case ho47 =>
      go_simp
      go_at_call 17
      with_reducible refine (HB2.out _).mono ?_
      rintro e w12 ⟨y, rfl, ho2, hb12⟩
      have k12 := k11.on hb12
      have s12 := Shows.on' s11 hb12
      have b12 := Below.on b11 b11.size hb12
      obtain ⟨A2, c2, rfl, _, _, y12⟩ := ho2.shows
      refine hK.out _ _ k12 (fun hS12 => ?_)
      clear hK K
      try simp only [Act.put, List.setIfInBounds_toArray, List.set_cons_zero, List.set_cons_succ]
      refine wpAnyH_ready (rs := [8]) (by kernel_rfl) (by simp) ?_
      refine AllReadyH.cons (o := ?o42) ?hoo42 (fun K hK => ?ho42) AllReadyH.nil
      case hoo42 => (simp only [List.getElem?_toArray, List.getElem?_cons_succ, List.getElem?_cons_zero]; rfl)
      case ho42 =>
        go_simp
        go_at_call 16
        with_reducible refine (same_below A1 A2 4 c1 c2 _ _ hmm s12 y12).mono ?_
        rintro e w13 ⟨rfl, hb13⟩
        have k13 := k12.on hb13
        have s13 := Shows.on' s12 hb13
        have b13 := Below.on b12 b12.size hb13
        refine hK.out _ _ k13 (fun hS13 => ?_)
        clear hK K
        try simp only [Act.put, List.setIfInBounds_toArray, List.set_cons_zero, List.set_cons_succ]
        refine wpAnyH_take (i := 9) (oi := ?o36) (v := .bool false) ?hio36 (by kernel_rfl) (by kernel_rfl) (by kernel_rfl) ?hQo36 ?hyo36 hS13 ?_
        case hio36 => (simp only [List.getElem?_toArray, List.getElem?_cons_succ, List.getElem?_cons_zero]; rfl)
        case hQo36 => exact fun _ _ _ h => h
        case hyo36 => exact Or.inl ⟨by rfl, fun W hW => by go_simp⟩
        try simp only [Act.put, List.setIfInBounds_toArray, List.set_cons_zero, List.set_cons_succ]
        refine wpAnyH_take (i := 10) (oi := ?o37) (v := .bool false) ?hio37 (by kernel_rfl) (by kernel_rfl) (by kernel_rfl) ?hQo37 ?hyo37 hS13 ?_
        case hio37 => (simp only [List.getElem?_toArray, List.getElem?_cons_succ, List.getElem?_cons_zero]; rfl)
        case hQo37 => exact fun _ _ _ h => h
        case hyo37 => exact Or.inl ⟨by rfl, fun W hW => by go_simp⟩
        try simp only [Act.put, List.setIfInBounds_toArray, List.set_cons_zero, List.set_cons_succ]
        refine wpAnyH_take (i := 11) (oi := ?o38) (v := .bool false) ?hio38 (by kernel_rfl) (by kernel_rfl) (by kernel_rfl) ?hQo38 ?hyo38 hS13 ?_
        case hio38 => (simp only [List.getElem?_toArray, List.getElem?_cons_succ, List.getElem?_cons_zero]; rfl)
        case hQo38 => exact fun _ _ _ h => h
        case hyo38 => exact Or.inl ⟨by rfl, fun W hW => by go_simp⟩
        try simp only [Act.put, List.setIfInBounds_toArray, List.set_cons_zero, List.set_cons_succ]
        refine wpAnyH_take (i := 12) (oi := ?o39) (v := .string sT) ?hio39 (by kernel_rfl) (by kernel_rfl) (by kernel_rfl) ?hQo39 ?hyo39 hS13 ?_
        case hio39 => (simp only [List.getElem?_toArray, List.getElem?_cons_succ, List.getElem?_cons_zero]; rfl)
        case hQo39 => exact fun _ _ _ h => h
        case hyo39 => exact Or.inl ⟨by rfl, fun W hW => by go_simp⟩
        try simp only [Act.put, List.setIfInBounds_toArray, List.set_cons_zero, List.set_cons_succ]
        refine wpAnyH_take (i := 13) (oi := ?o40) (v := .agg X) ?hio40 (by kernel_rfl) (by kernel_rfl) (by kernel_rfl) ?hQo40 ?hyo40 hS13 ?_
        case hio40 => (simp only [List.getElem?_toArray, List.getElem?_cons_succ, List.getElem?_cons_zero]; rfl)
        case hQo40 => exact fun _ _ _ h => h
        case hyo40 => exact yieldsIf_load_mid (by rfl) 24 (.tmp 1) rfl w.heap.size 0 rfl X.toList _ (fun W hW => Blk.range0 hW) Tryd.underlying24 rfl (by simpa using hz)
        try simp only [Act.put, List.setIfInBounds_toArray, List.set_cons_zero, List.set_cons_succ]
        refine wpAnyH_ready (rs := [14]) (by kernel_rfl) (by simp) ?_
        refine AllReadyH.cons (o := ?o41) ?hoo41 (fun K hK => ?ho41) AllReadyH.nil
        case hoo41 => (simp only [List.getElem?_toArray, List.getElem?_cons_succ, List.getElem?_cons_zero]; rfl)
        case ho41 =>
          go_simp
          go_at_call 18
          with_reducible refine (HT2.out _).mono ?_
          rintro e w14 ⟨rfl, hb14⟩
          have k14 := k13.on hb14
          have s14 := Shows.on' s13 hb14
          have b14 := Below.on b13 b13.size hb14
          refine hK.out _ _ k14 (fun hS14 => ?_)
          clear hK K
          try simp only [Act.put, List.setIfInBounds_toArray, List.set_cons_zero, List.set_cons_succ]
          refine wpAnyH_take (i := 15) (oi := ?o30) (v := .bool false) ?hio30 (by kernel_rfl) (by kernel_rfl) (by kernel_rfl) ?hQo30 ?hyo30 hS14 ?_
          case hio30 => (simp only [List.getElem?_toArray, List.getElem?_cons_succ, List.getElem?_cons_zero]; rfl)
          case hQo30 => exact fun _ _ _ h => h
          case hyo30 => exact Or.inl ⟨by rfl, fun W hW => by go_simp⟩
          try simp only [Act.put, List.setIfInBounds_toArray, List.set_cons_zero, List.set_cons_succ]
          refine wpAnyH_take (i := 16) (oi := ?o31) (v := .bool false) ?hio31 (by kernel_rfl) (by kernel_rfl) (by kernel_rfl) ?hQo31 ?hyo31 hS14 ?_
          case hio31 => (simp only [List.getElem?_toArray, List.getElem?_cons_succ, List.getElem?_cons_zero]; rfl)
          case hQo31 => exact fun _ _ _ h => h
          case hyo31 => exact Or.inl ⟨by rfl, fun W hW => by go_simp⟩
          try simp only [Act.put, List.setIfInBounds_toArray, List.set_cons_zero, List.set_cons_succ]
          refine wpAnyH_take (i := 17) (oi := ?o32) (v := .bool false) ?hio32 (by kernel_rfl) (by kernel_rfl) (by kernel_rfl) ?hQo32 ?hyo32 hS14 ?_
          case hio32 => (simp only [List.getElem?_toArray, List.getElem?_cons_succ, List.getElem?_cons_zero]; rfl)
          case hQo32 => exact fun _ _ _ h => h
          case hyo32 => exact Or.inl ⟨by rfl, fun W hW => by go_simp⟩
          try simp only [Act.put, List.setIfInBounds_toArray, List.set_cons_zero, List.set_cons_succ]
          refine wpAnyH_take (i := 18) (oi := ?o33) (v := .agg X) ?hio33 (by kernel_rfl) (by kernel_rfl) (by kernel_rfl) ?hQo33 ?hyo33 hS14 ?_
          case hio33 => (simp only [List.getElem?_toArray, List.getElem?_cons_succ, List.getElem?_cons_zero]; rfl)
          case hQo33 => exact fun _ _ _ h => h
          case hyo33 => exact yieldsIf_load_mid (by rfl) 24 (.tmp 1) rfl w.heap.size 0 rfl X.toList _ (fun W hW => Blk.range0 hW) Tryd.underlying24 rfl (by simpa using hz)
          try simp only [Act.put, List.setIfInBounds_toArray, List.set_cons_zero, List.set_cons_succ]
          refine wpAnyH_take (i := 20) (oi := ?o34) (v := .agg X) ?hio34 (by kernel_rfl) (by kernel_rfl) (by kernel_rfl) ?hQo34 ?hyo34 hS14 ?_
          case hio34 => (simp only [List.getElem?_toArray, List.getElem?_cons_succ, List.getElem?_cons_zero]; rfl)
          case hQo34 => exact fun _ _ _ h => h
          case hyo34 => exact yieldsIf_load_mid (by rfl) 24 (.tmp 1) rfl w.heap.size 0 rfl X.toList _ (fun W hW => Blk.range0 hW) Tryd.underlying24 rfl (by simpa using hz)
          try simp only [Act.put, List.setIfInBounds_toArray, List.set_cons_zero, List.set_cons_succ]
          refine wpAnyH_ready (rs := [19]) (by kernel_rfl) (by simp) ?_
          refine AllReadyH.cons (o := ?o35) ?hoo35 (fun K hK => ?ho35) AllReadyH.nil
          case hoo35 => (simp only [List.getElem?_toArray, List.getElem?_cons_succ, List.getElem?_cons_zero]; rfl)
          case ho35 =>
            go_simp
            go_at_call 19
            with_reducible refine (HW1.out _).mono ?_
            rintro e w15 ⟨rfl, hb15⟩
            have k15 := k14.on hb15
            have s15 := Shows.on' s14 hb15
            have b15 := Below.on b14 b14.size hb15
            refine hK.out _ _ k15 (fun hS15 => ?_)
            clear hK K
            try simp only [Act.put, List.setIfInBounds_toArray, List.set_cons_zero, List.set_cons_succ]
            refine wpAnyH_ready (rs := [21]) (by kernel_rfl) (by simp) ?_
            refine AllReadyH.cons (o := ?o29) ?hoo29 (fun K hK => ?ho29) AllReadyH.nil
            case hoo29 => (simp only [List.getElem?_toArray, List.getElem?_cons_succ, List.getElem?_cons_zero]; rfl)
            case ho29 =>
              go_simp
              go_at_call 20
              with_reducible refine (HW2.out _).mono ?_
              rintro e w16 ⟨rfl, hb16⟩
              have k16 := k15.on hb16
              have s16 := Shows.on' s15 hb16
              have b16 := Below.on b15 b15.size hb16
              refine hK.out _ _ k16 (fun hS16 => ?_)
              clear hK K
              try simp only [Act.put, List.setIfInBounds_toArray, List.set_cons_zero, List.set_cons_succ]
              refine wpAnyH_take (i := 22) (oi := ?o27) (v := .bool false) ?hio27 (by kernel_rfl) (by kernel_rfl) (by kernel_rfl) ?hQo27 ?hyo27 hS16 ?_
              case hio27 => (simp only [List.getElem?_toArray, List.getElem?_cons_succ, List.getElem?_cons_zero]; rfl)
              case hQo27 => exact fun _ _ _ h => h
              case hyo27 => exact Or.inl ⟨by rfl, fun W hW => by go_simp⟩
              try simp only [Act.put, List.setIfInBounds_toArray, List.set_cons_zero, List.set_cons_succ]
              refine wpAnyH_take (i := 23) (oi := ?o28) (v := .bool false) ?hio28 (by kernel_rfl) (by kernel_rfl) (by kernel_rfl) ?hQo28 ?hyo28 hS16 ?_
              case hio28 => (simp only [List.getElem?_toArray, List.getElem?_cons_succ, List.getElem?_cons_zero]; rfl)
              case hQo28 => exact fun _ _ _ h => h
              case hyo28 => exact Or.inl ⟨by rfl, fun W hW => by go_simp⟩
              try simp only [Act.put, List.setIfInBounds_toArray, List.set_cons_zero, List.set_cons_succ]
              refine wpAnyH_done (by kernel_rfl) ?_ _
              clear hS16
              go_wp2_with fail
              refine (H7.out _ _ _ s16).mono ?_; rintro e w17 ⟨rfl, hb17⟩
              have k17 := (k16.on (by exact hb17)).alloc (.cells X 24)
              have p17 : Blk (w17.alloc (.cells X 24)) w17.heap.size 24 X := blk_new _ _ _
              have b17 := Below.on b16 b16.size (by exact hb17)
              have b17 := b17.alloc b17.size (.cells X 24)
              clear hb17 k16 b16 s16
              go_wp2_with (first
                | (refine wpList_allocStore (cs := X) rfl rfl 24 ?ho (.tmp 6) (.tmp 47) ?ho2 Tryd.zeroAddr rfl ?hx ?hy ?hn ?h1 ?_
                   case ho => with_reducible rfl
                   case ho2 => with_reducible rfl
                   case hx => rfl
                   case hy => rfl
                   case hn => exact x17
                   case h1 => exact ox)
                | fail)
              refine (H8.out _ (HM.out.on b17 hpos)).mono ?_; rintro e w18 ⟨rfl, hb18⟩
              have k18 := (k17.on (by exact hb18)).alloc (.cells X 24)
              have p18 := (p17.on (by exact hb18)).alloc (.cells X 24)
              have q18 : Blk (w18.alloc (.cells X 24)) w18.heap.size 24 X := blk_new _ _ _
              have b18 := Below.on b17 b17.size (by exact hb18)
              have b18 := b18.alloc b18.size (.cells X 24)
              obtain ⟨cv, c0, c1', c2', c3'⟩ := HC.out _ _ _ k18
              clear hb18 k17 b17 p17
              go_wp2_with (first
                | (refine wpList_allocStore (cs := X) rfl rfl 24 ?ho (.tmp 8) (.tmp 52) ?ho2 Tryd.zeroAddr rfl ?hx ?hy ?hn ?h1 ?_
                   case ho => with_reducible rfl
                   case ho2 => with_reducible rfl
                   case hx => rfl
                   case hy => rfl
                   case hn => exact x17
                   case h1 => exact ox)
                | fail)
              refine (H9.out _).mono ?_; rintro e w19 ⟨rfl, hb19⟩
              have k19 := (k18.on (by exact hb19)).alloc (.cells X 24)
              have p19 := (p18.on (by exact hb19)).alloc (.cells X 24)
              have q19 := (q18.on (by exact hb19)).alloc (.cells X 24)
              have o19 : Blk (w19.alloc (.cells X 24)) w19.heap.size 24 X := blk_new _ _ _
              have b19 := Below.on b18 b18.size (by exact hb19)
              have b19 := b19.alloc b19.size (.cells X 24)
              clear cv c0 c1' c2' c3'
              obtain ⟨cv, _⟩ := HC.out _ _ _ k19
              clear hb19 k18 b18 p18 q18
              go_wp2_with (first
                | (refine wpList_allocStore (cs := X) rfl rfl 24 ?ho (.tmp 10) (.tmp 67) ?ho2 Tryd.zeroAddr rfl ?hx ?hy ?hn ?h1 ?_
                   case ho => with_reducible rfl
                   case ho2 => with_reducible rfl
                   case hx => rfl
                   case hy => rfl
                   case hn => exact x17
                   case h1 => exact ox)
                | (refine wpList_loadBlk (g := w19.heap.size) (t := 24) (cs := X) ?hw 24 (.tmp 10) ?ho ?hx ?hA _ Tryd.underlying24 rfl ?hi ?_
                   case hw => rfl
                   case ho => with_reducible rfl
                   case hx => rfl
                   case hA => exact o19
                   case hi => exact hz)
                | (refine wpList_loadBlk (g := w.heap.size) (t := 24) (cs := X) ?hw 24 (.tmp 1) ?ho ?hx ?hA _ Tryd.underlying24 rfl ?hi ?_
                   case hw => rfl
                   case ho => with_reducible rfl
                   case hx => rfl
                   case hA => exact k19
                   case hi => exact hz)
                | (refine wpList_loadBlk (g := w17.heap.size) (t := 24) (cs := X) ?hw 24 (.tmp 6) ?ho ?hx ?hA _ Tryd.underlying24 rfl ?hi ?_
                   case hw => rfl
                   case ho => with_reducible rfl
                   case hx => rfl
                   case hA => exact p19
                   case hi => exact hz)
                | (refine wpList_loadBlk (g := w18.heap.size) (t := 24) (cs := X) ?hw 24 (.tmp 8) ?ho ?hx ?hA _ Tryd.underlying24 rfl ?hi ?_
                   case hw => rfl
                   case ho => with_reducible rfl
                   case hx => rfl
                   case hA => exact q19
                   case hi => exact hz)
                | (refine eqlAny (cs := X) (ds := X) (b := true) rfl 24 24 (.tmp 74) (.tmp 75) ?ho ?hx ?hy Tryd.plainAddr ?he ?_
                   case ho => with_reducible rfl
                   case hx => rfl
                   case hy => rfl
                   case he => exact he)
                | (refine eqlAny (cs := X) (ds := X) (b := true) rfl 24 24 (.tmp 78) (.tmp 79) ?ho ?hx ?hy Tryd.plainAddr ?he ?_
                   case ho => with_reducible rfl
                   case hx => rfl
                   case hy => rfl
                   case he => exact he)
                | (refine eqlAny (cs := X) (ds := X) (b := true) rfl 24 24 (.tmp 83) (.tmp 84) ?ho ?hx ?hy Tryd.plainAddr ?he ?_
                   case ho => with_reducible rfl
                   case hx => rfl
                   case hy => rfl
                   case he => exact he)
                | fail)
              refine (alive10 _ (Htab.out.on b19)).mono ?_; rintro e wz ⟨rfl, hbz⟩
              have bz := Below.on b19 b19.size (by exact hbz)
              go_wp2
              go_ret
              exact ⟨rfl, bz⟩

set_option maxHeartbeats 8000000 in
theorem ab_6 (v : Int) (l : List UInt8) (w : World) (hl : l.length = 16) (htab : Tab w) (hm : Cl.HasM w) (hok : okA v l = true) (hv : v = 6) :
    Calls Tryd.prog 3 #[.agg (adv v l)] w fun e w' => e = .returned (.bool true) ∧ Below w.heap.size w w' := by
  have HM := Lib.hid hm
  have Htab := Lib.hid htab
  have hpos := hm.pos
  have hr1 := fun W => right_any v l hl W
  have hr2 := fun W => refRight_any v l hl W
  rw [hok] at hr1 hr2
  have HR1 := Lib.hid hr1
  have HR2 := Lib.hid hr2
  have HB1 := Lib.hid (fun W => abytes_any v l hl W)
  have HB2 := Lib.hid (fun W => @Go.Proofs.YtccidoigjdbepaaDoor.refBytes_any v l hl W)
  have HT1 := Lib.hid (fun W h => @Go.Proofs.YtccidoigjdbepaaDoor.text_any v l hl W h)
  have HT2 := Lib.hid (fun W => @Go.Proofs.YtccidoigjdbepaaDoor.refText_any v l hl W)
  have HW1 := Lib.hid (fun W => widthA_any v l hl W)
  have HW2 := Lib.hid (fun W => refWidthA_any v l hl W)
  have htl := txA_len v l hl
  have hz := Adr_size v l hl
  have x17 := adv_size v l hl
  have ox := adv_one v l
  have he := adr_eq v v l l hl hl
  rw [show (v == v && l == l) = true by simp] at he
  have hmm : sizeA v l ≤ maxLen := by have := sizeA_le v l; unfold maxLen; omega
  have h8 := fun W h => aparse_any (txA v l) (by omega) W h
  rw [(a_back v l hl hok).1, (a_back v l hl hok).2.1, (a_back v l hl hok).2.2] at h8
  have H8 := Lib.hid h8
  obtain ⟨a0, a1, a2, a3, r, hl4⟩ := list4 l (by omega)
  have HC := Lib.hid (fun (W : World) (g : Nat) (t : TypeId) (h : Blk W g t (adv v l)) => show W.cell? ⟨g, 0, none⟩ = some (.int .i64 v) ∧ W.cell? ⟨g, 1, none⟩ = some (bv a0) ∧ W.cell? ⟨g, 2, none⟩ = some (bv a1) ∧ W.cell? ⟨g, 3, none⟩ = some (bv a2) ∧ W.cell? ⟨g, 4, none⟩ = some (bv a3) from
    ⟨h.adv0, load1 h 0 a0 (by rw [hl4]; rfl), load1 h 1 a1 (by rw [hl4]; rfl), load1 h 2 a2 (by rw [hl4]; rfl), load1 h 3 a3 (by rw [hl4]; rfl)⟩)
  have h9 := fun W => four_any [a0, a1, a2, a3] rfl W
  subst hv
  have H9 := Lib.hid h9
  have hs4 : sizeA 6 l = 16 := sizeA6 l
  have h7 : ∀ (W : World) (A : Option Addr) (c : Nat), Shows W W.heap.size A 16 (l.take 16) → Calls Tryd.prog 22 #[.slice A 16 c] W fun e w' => e = .returned (.tuple #[.agg (adv 6 l), .int .i64 0]) ∧ Below W.heap.size W w' := by
    intro W A c h
    obtain ⟨b, off, rfl, _⟩ := h.2 (by omega)
    have := of16_any b off c (l.take 16) W h
    rwa [show l.take 16 = l from List.take_of_length_le (by omega)] at this
  have H7 := Lib.hid h7
  have H6 := Lib.hid (fun W => addrSix_any l hl W)
  rw [hs4] at hmm HB1 HB2 HW1 HW2
  have hY17 : (adv 4 ([a0, a1, a2, a3] ++ zb 12)).size = 17 := adv_size _ _ rfl
  have oY := adv_one 4 ([a0, a1, a2, a3] ++ zb 12)
  have zY : (adv 4 ([a0, a1, a2, a3] ++ zb 12)).size = (adv 6 l).size := by rw [hY17, x17]
  have hr := fun (W : World) (g : Nat) (h : Blk W g 24 (adv 6 l)) => show W.rangeAt g 1 (l.map bv).toArray.toList from by have := h.advRange 16 (by omega); rw [List.take_of_length_le (by omega)] at this; exact this
  have HRg := Lib.hid hr
  have hi16 : (Tryd.prog.info? 22).map (·.size) = some ((l.map bv).toArray).size := by rw [show ((l.map bv).toArray).size = 16 by simp [hl]]; exact Tryd.infoA16
  clear h7 h9 hs4 hr
  generalize adv 4 ([a0, a1, a2, a3] ++ zb 12) = Y at *
  clear hl4
  have k0 : Blk (w.alloc (.cells (adv 6 l) 24)) w.heap.size 24 (adv 6 l) := blk_new _ _ _
  have b0 : Below w.heap.size w (w.alloc (.cells (adv 6 l) 24)) := (Below.refl _ _).alloc (Nat.le_refl _) _
  clear hr1 hr2 hm htab htl hok h8
  unfold sv at HT1 HT2 H8
  generalize ByteArray.mk ⟨txA 6 l⟩ = sT at *
  generalize hL : l.take 16 = L at *
  generalize adv 6 l = X at *
  go_enter Tryd.func3, Tryd.ntmps3
  go_wp2_with (first
    | (refine wpList_loadBlk (g := w.heap.size) (t := 24) (cs := X) ?hw 24 (.tmp 1) ?ho ?hx ?hA _ Tryd.underlying24 rfl ?hi ?_
       case hw => rfl
       case ho => with_reducible rfl
       case hx => rfl
       case hA => exact k0
       case hi => exact hz)
    | fail)
  refine (HR2.out _).mono ?_; rintro e w1 ⟨rfl, hb1⟩
  have k1 := k0.on (by exact hb1)
  have b1 := Below.on b0 b0.size (by exact hb1)
  clear hb1 k0 b0
  go_wp2_with (first
    | (refine wpList_loadBlk (g := w.heap.size) (t := 24) (cs := X) ?hw 24 (.tmp 1) ?ho ?hx ?hA _ Tryd.underlying24 rfl ?hi ?_
       case hw => rfl
       case ho => with_reducible rfl
       case hx => rfl
       case hA => exact k1
       case hi => exact hz)
    | fail)
  refine (HB1.out _).mono ?_; rintro e w2 ⟨x, rfl, ho1, hb2⟩
  have k2 := k1.on (by exact hb2)
  have b2 := Below.on b1 b1.size (by exact hb2)
  obtain ⟨A1, c1, rfl, _, _, s2⟩ := ho1.shows
  clear hb2 k1 b1 ho1
  go_wp2_with (first
    | (refine wpList_loadBlk (g := w.heap.size) (t := 24) (cs := X) ?hw 24 (.tmp 1) ?ho ?hx ?hA _ Tryd.underlying24 rfl ?hi ?_
       case hw => rfl
       case ho => with_reducible rfl
       case hx => rfl
       case hA => exact k2
       case hi => exact hz)
    | fail)
  refine (HT1.out _ (Htab.out.on b2)).mono ?_; rintro e w3 ⟨rfl, hb3⟩
  have k3 := k2.on (by exact hb3)
  have b3 := Below.on b2 b2.size (by exact hb3)
  have s3 : Shows w3 w3.heap.size A1 16 L := (s2.below hb3).up hb3.size
  clear hb3 k2 b2 s2
  go_wp2_with fail
  have k10 : Blk w3.drew w.heap.size 24 X := k3
  have b10 : Below w.heap.size w w3.drew := b3.drew
  have s10 : Shows w3.drew w3.drew.heap.size A1 16 L := s3
  clear k3 b3 s3
  refine wp_region_held_drew (S := fun W => Blk W w.heap.size 24 X) (by kernel_rfl) k10 ?_
  intro hS
  generalize w3.drew = w10 at *
  refine wpAnyH_take (i := 0) (oi := ?o49) (v := .agg X) ?hio49 (by kernel_rfl) (by kernel_rfl) (by kernel_rfl) ?hQo49 ?hyo49 hS ?_
  case hio49 => (simp only [List.getElem?_toArray, List.getElem?_cons_succ, List.getElem?_cons_zero]; rfl)
  case hQo49 => exact fun _ _ _ h => h
  case hyo49 => exact yieldsIf_load_mid (by rfl) 24 (.tmp 1) rfl w.heap.size 0 rfl X.toList _ (fun W hW => Blk.range0 hW) Tryd.underlying24 rfl (by simpa using hz)
  try simp only [Act.put, List.setIfInBounds_toArray, List.set_cons_zero, List.set_cons_succ]
  refine wpAnyH_take (i := 2) (oi := ?o50) (v := .bool true) ?hio50 (by kernel_rfl) (by kernel_rfl) (by kernel_rfl) ?hQo50 ?hyo50 hS ?_
  case hio50 => (simp only [List.getElem?_toArray, List.getElem?_cons_succ, List.getElem?_cons_zero]; rfl)
  case hQo50 => exact fun _ _ _ h => h
  case hyo50 => exact Or.inl ⟨by rfl, fun W hW => by go_simp⟩
  try simp only [Act.put, List.setIfInBounds_toArray, List.set_cons_zero, List.set_cons_succ]
  refine wpAnyH_ready (rs := [1]) (by kernel_rfl) (by simp) ?_
  refine AllReadyH.cons (o := ?o72) ?hoo72 (fun K hK => ?ho72) AllReadyH.nil
  case hoo72 => (simp only [List.getElem?_toArray, List.getElem?_cons_succ, List.getElem?_cons_zero]; rfl)
  case ho72 =>
    go_simp
    go_at_call 15
    with_reducible refine (HR1.out _).mono ?_
    rintro e w11 ⟨rfl, hb11⟩
    have k11 := k10.on hb11
    have s11 := Shows.on' s10 hb11
    have b11 := Below.on b10 b10.size hb11
    refine hK.out _ _ k11 (fun hS11 => ?_)
    clear hK K
    try simp only [Act.put, List.setIfInBounds_toArray, List.set_cons_zero, List.set_cons_succ]
    refine wpAnyH_take (i := 3) (oi := ?o67) (v := .bool false) ?hio67 (by kernel_rfl) (by kernel_rfl) (by kernel_rfl) ?hQo67 ?hyo67 hS11 ?_
    case hio67 => (simp only [List.getElem?_toArray, List.getElem?_cons_succ, List.getElem?_cons_zero]; rfl)
    case hQo67 => exact fun _ _ _ h => h
    case hyo67 => exact Or.inl ⟨by rfl, fun W hW => by go_simp⟩
    try simp only [Act.put, List.setIfInBounds_toArray, List.set_cons_zero, List.set_cons_succ]
    refine wpAnyH_take (i := 4) (oi := ?o68) (v := .bool false) ?hio68 (by kernel_rfl) (by kernel_rfl) (by kernel_rfl) ?hQo68 ?hyo68 hS11 ?_
    case hio68 => (simp only [List.getElem?_toArray, List.getElem?_cons_succ, List.getElem?_cons_zero]; rfl)
    case hQo68 => exact fun _ _ _ h => h
    case hyo68 => exact Or.inl ⟨by rfl, fun W hW => by go_simp⟩
    try simp only [Act.put, List.setIfInBounds_toArray, List.set_cons_zero, List.set_cons_succ]
    refine wpAnyH_take (i := 5) (oi := ?o69) (v := .slice A1 16 c1) ?hio69 (by kernel_rfl) (by kernel_rfl) (by kernel_rfl) ?hQo69 ?hyo69 hS11 ?_
    case hio69 => (simp only [List.getElem?_toArray, List.getElem?_cons_succ, List.getElem?_cons_zero]; rfl)
    case hQo69 => exact fun _ _ _ h => h
    case hyo69 => exact Or.inl ⟨by rfl, fun W hW => by go_simp⟩
    try simp only [Act.put, List.setIfInBounds_toArray, List.set_cons_zero, List.set_cons_succ]
    refine wpAnyH_take (i := 6) (oi := ?o70) (v := .agg X) ?hio70 (by kernel_rfl) (by kernel_rfl) (by kernel_rfl) ?hQo70 ?hyo70 hS11 ?_
    case hio70 => (simp only [List.getElem?_toArray, List.getElem?_cons_succ, List.getElem?_cons_zero]; rfl)
    case hQo70 => exact fun _ _ _ h => h
    case hyo70 => exact yieldsIf_load_mid (by rfl) 24 (.tmp 1) rfl w.heap.size 0 rfl X.toList _ (fun W hW => Blk.range0 hW) Tryd.underlying24 rfl (by simpa using hz)
    try simp only [Act.put, List.setIfInBounds_toArray, List.set_cons_zero, List.set_cons_succ]
    refine wpAnyH_ready (rs := [7]) (by kernel_rfl) (by simp) ?_
    refine AllReadyH.cons (o := ?o71) ?hoo71 (fun K hK => ?ho71) AllReadyH.nil
    case hoo71 => (simp only [List.getElem?_toArray, List.getElem?_cons_succ, List.getElem?_cons_zero]; rfl)
    case ho71 =>
      go_simp
      go_at_call 17
      with_reducible refine (HB2.out _).mono ?_
      rintro e w12 ⟨y, rfl, ho2, hb12⟩
      have k12 := k11.on hb12
      have s12 := Shows.on' s11 hb12
      have b12 := Below.on b11 b11.size hb12
      obtain ⟨A2, c2, rfl, _, _, y12⟩ := ho2.shows
      refine hK.out _ _ k12 (fun hS12 => ?_)
      clear hK K
      try simp only [Act.put, List.setIfInBounds_toArray, List.set_cons_zero, List.set_cons_succ]
      refine wpAnyH_ready (rs := [8]) (by kernel_rfl) (by simp) ?_
      refine AllReadyH.cons (o := ?o66) ?hoo66 (fun K hK => ?ho66) AllReadyH.nil
      case hoo66 => (simp only [List.getElem?_toArray, List.getElem?_cons_succ, List.getElem?_cons_zero]; rfl)
      case ho66 =>
        go_simp
        go_at_call 16
        with_reducible refine (same_below A1 A2 16 c1 c2 _ _ hmm s12 y12).mono ?_
        rintro e w13 ⟨rfl, hb13⟩
        have k13 := k12.on hb13
        have s13 := Shows.on' s12 hb13
        have b13 := Below.on b12 b12.size hb13
        refine hK.out _ _ k13 (fun hS13 => ?_)
        clear hK K
        try simp only [Act.put, List.setIfInBounds_toArray, List.set_cons_zero, List.set_cons_succ]
        refine wpAnyH_take (i := 9) (oi := ?o60) (v := .bool false) ?hio60 (by kernel_rfl) (by kernel_rfl) (by kernel_rfl) ?hQo60 ?hyo60 hS13 ?_
        case hio60 => (simp only [List.getElem?_toArray, List.getElem?_cons_succ, List.getElem?_cons_zero]; rfl)
        case hQo60 => exact fun _ _ _ h => h
        case hyo60 => exact Or.inl ⟨by rfl, fun W hW => by go_simp⟩
        try simp only [Act.put, List.setIfInBounds_toArray, List.set_cons_zero, List.set_cons_succ]
        refine wpAnyH_take (i := 10) (oi := ?o61) (v := .bool false) ?hio61 (by kernel_rfl) (by kernel_rfl) (by kernel_rfl) ?hQo61 ?hyo61 hS13 ?_
        case hio61 => (simp only [List.getElem?_toArray, List.getElem?_cons_succ, List.getElem?_cons_zero]; rfl)
        case hQo61 => exact fun _ _ _ h => h
        case hyo61 => exact Or.inl ⟨by rfl, fun W hW => by go_simp⟩
        try simp only [Act.put, List.setIfInBounds_toArray, List.set_cons_zero, List.set_cons_succ]
        refine wpAnyH_take (i := 11) (oi := ?o62) (v := .bool false) ?hio62 (by kernel_rfl) (by kernel_rfl) (by kernel_rfl) ?hQo62 ?hyo62 hS13 ?_
        case hio62 => (simp only [List.getElem?_toArray, List.getElem?_cons_succ, List.getElem?_cons_zero]; rfl)
        case hQo62 => exact fun _ _ _ h => h
        case hyo62 => exact Or.inl ⟨by rfl, fun W hW => by go_simp⟩
        try simp only [Act.put, List.setIfInBounds_toArray, List.set_cons_zero, List.set_cons_succ]
        refine wpAnyH_take (i := 12) (oi := ?o63) (v := .string sT) ?hio63 (by kernel_rfl) (by kernel_rfl) (by kernel_rfl) ?hQo63 ?hyo63 hS13 ?_
        case hio63 => (simp only [List.getElem?_toArray, List.getElem?_cons_succ, List.getElem?_cons_zero]; rfl)
        case hQo63 => exact fun _ _ _ h => h
        case hyo63 => exact Or.inl ⟨by rfl, fun W hW => by go_simp⟩
        try simp only [Act.put, List.setIfInBounds_toArray, List.set_cons_zero, List.set_cons_succ]
        refine wpAnyH_take (i := 13) (oi := ?o64) (v := .agg X) ?hio64 (by kernel_rfl) (by kernel_rfl) (by kernel_rfl) ?hQo64 ?hyo64 hS13 ?_
        case hio64 => (simp only [List.getElem?_toArray, List.getElem?_cons_succ, List.getElem?_cons_zero]; rfl)
        case hQo64 => exact fun _ _ _ h => h
        case hyo64 => exact yieldsIf_load_mid (by rfl) 24 (.tmp 1) rfl w.heap.size 0 rfl X.toList _ (fun W hW => Blk.range0 hW) Tryd.underlying24 rfl (by simpa using hz)
        try simp only [Act.put, List.setIfInBounds_toArray, List.set_cons_zero, List.set_cons_succ]
        refine wpAnyH_ready (rs := [14]) (by kernel_rfl) (by simp) ?_
        refine AllReadyH.cons (o := ?o65) ?hoo65 (fun K hK => ?ho65) AllReadyH.nil
        case hoo65 => (simp only [List.getElem?_toArray, List.getElem?_cons_succ, List.getElem?_cons_zero]; rfl)
        case ho65 =>
          go_simp
          go_at_call 18
          with_reducible refine (HT2.out _).mono ?_
          rintro e w14 ⟨rfl, hb14⟩
          have k14 := k13.on hb14
          have s14 := Shows.on' s13 hb14
          have b14 := Below.on b13 b13.size hb14
          refine hK.out _ _ k14 (fun hS14 => ?_)
          clear hK K
          try simp only [Act.put, List.setIfInBounds_toArray, List.set_cons_zero, List.set_cons_succ]
          refine wpAnyH_take (i := 15) (oi := ?o54) (v := .bool false) ?hio54 (by kernel_rfl) (by kernel_rfl) (by kernel_rfl) ?hQo54 ?hyo54 hS14 ?_
          case hio54 => (simp only [List.getElem?_toArray, List.getElem?_cons_succ, List.getElem?_cons_zero]; rfl)
          case hQo54 => exact fun _ _ _ h => h
          case hyo54 => exact Or.inl ⟨by rfl, fun W hW => by go_simp⟩
          try simp only [Act.put, List.setIfInBounds_toArray, List.set_cons_zero, List.set_cons_succ]
          refine wpAnyH_take (i := 16) (oi := ?o55) (v := .bool false) ?hio55 (by kernel_rfl) (by kernel_rfl) (by kernel_rfl) ?hQo55 ?hyo55 hS14 ?_
          case hio55 => (simp only [List.getElem?_toArray, List.getElem?_cons_succ, List.getElem?_cons_zero]; rfl)
          case hQo55 => exact fun _ _ _ h => h
          case hyo55 => exact Or.inl ⟨by rfl, fun W hW => by go_simp⟩
          try simp only [Act.put, List.setIfInBounds_toArray, List.set_cons_zero, List.set_cons_succ]
          refine wpAnyH_take (i := 17) (oi := ?o56) (v := .bool false) ?hio56 (by kernel_rfl) (by kernel_rfl) (by kernel_rfl) ?hQo56 ?hyo56 hS14 ?_
          case hio56 => (simp only [List.getElem?_toArray, List.getElem?_cons_succ, List.getElem?_cons_zero]; rfl)
          case hQo56 => exact fun _ _ _ h => h
          case hyo56 => exact Or.inl ⟨by rfl, fun W hW => by go_simp⟩
          try simp only [Act.put, List.setIfInBounds_toArray, List.set_cons_zero, List.set_cons_succ]
          refine wpAnyH_take (i := 18) (oi := ?o57) (v := .agg X) ?hio57 (by kernel_rfl) (by kernel_rfl) (by kernel_rfl) ?hQo57 ?hyo57 hS14 ?_
          case hio57 => (simp only [List.getElem?_toArray, List.getElem?_cons_succ, List.getElem?_cons_zero]; rfl)
          case hQo57 => exact fun _ _ _ h => h
          case hyo57 => exact yieldsIf_load_mid (by rfl) 24 (.tmp 1) rfl w.heap.size 0 rfl X.toList _ (fun W hW => Blk.range0 hW) Tryd.underlying24 rfl (by simpa using hz)
          try simp only [Act.put, List.setIfInBounds_toArray, List.set_cons_zero, List.set_cons_succ]
          refine wpAnyH_take (i := 20) (oi := ?o58) (v := .agg X) ?hio58 (by kernel_rfl) (by kernel_rfl) (by kernel_rfl) ?hQo58 ?hyo58 hS14 ?_
          case hio58 => (simp only [List.getElem?_toArray, List.getElem?_cons_succ, List.getElem?_cons_zero]; rfl)
          case hQo58 => exact fun _ _ _ h => h
          case hyo58 => exact yieldsIf_load_mid (by rfl) 24 (.tmp 1) rfl w.heap.size 0 rfl X.toList _ (fun W hW => Blk.range0 hW) Tryd.underlying24 rfl (by simpa using hz)
          try simp only [Act.put, List.setIfInBounds_toArray, List.set_cons_zero, List.set_cons_succ]
          refine wpAnyH_ready (rs := [19]) (by kernel_rfl) (by simp) ?_
          refine AllReadyH.cons (o := ?o59) ?hoo59 (fun K hK => ?ho59) AllReadyH.nil
          case hoo59 => (simp only [List.getElem?_toArray, List.getElem?_cons_succ, List.getElem?_cons_zero]; rfl)
          case ho59 =>
            go_simp
            go_at_call 19
            with_reducible refine (HW1.out _).mono ?_
            rintro e w15 ⟨rfl, hb15⟩
            have k15 := k14.on hb15
            have s15 := Shows.on' s14 hb15
            have b15 := Below.on b14 b14.size hb15
            refine hK.out _ _ k15 (fun hS15 => ?_)
            clear hK K
            try simp only [Act.put, List.setIfInBounds_toArray, List.set_cons_zero, List.set_cons_succ]
            refine wpAnyH_ready (rs := [21]) (by kernel_rfl) (by simp) ?_
            refine AllReadyH.cons (o := ?o53) ?hoo53 (fun K hK => ?ho53) AllReadyH.nil
            case hoo53 => (simp only [List.getElem?_toArray, List.getElem?_cons_succ, List.getElem?_cons_zero]; rfl)
            case ho53 =>
              go_simp
              go_at_call 20
              with_reducible refine (HW2.out _).mono ?_
              rintro e w16 ⟨rfl, hb16⟩
              have k16 := k15.on hb16
              have s16 := Shows.on' s15 hb16
              have b16 := Below.on b15 b15.size hb16
              refine hK.out _ _ k16 (fun hS16 => ?_)
              clear hK K
              try simp only [Act.put, List.setIfInBounds_toArray, List.set_cons_zero, List.set_cons_succ]
              refine wpAnyH_take (i := 22) (oi := ?o51) (v := .bool false) ?hio51 (by kernel_rfl) (by kernel_rfl) (by kernel_rfl) ?hQo51 ?hyo51 hS16 ?_
              case hio51 => (simp only [List.getElem?_toArray, List.getElem?_cons_succ, List.getElem?_cons_zero]; rfl)
              case hQo51 => exact fun _ _ _ h => h
              case hyo51 => exact Or.inl ⟨by rfl, fun W hW => by go_simp⟩
              try simp only [Act.put, List.setIfInBounds_toArray, List.set_cons_zero, List.set_cons_succ]
              refine wpAnyH_take (i := 23) (oi := ?o52) (v := .bool false) ?hio52 (by kernel_rfl) (by kernel_rfl) (by kernel_rfl) ?hQo52 ?hyo52 hS16 ?_
              case hio52 => (simp only [List.getElem?_toArray, List.getElem?_cons_succ, List.getElem?_cons_zero]; rfl)
              case hQo52 => exact fun _ _ _ h => h
              case hyo52 => exact Or.inl ⟨by rfl, fun W hW => by go_simp⟩
              try simp only [Act.put, List.setIfInBounds_toArray, List.set_cons_zero, List.set_cons_succ]
              refine wpAnyH_done (by kernel_rfl) ?_ _
              clear hS16
              go_wp2_with fail
              refine (H7.out _ _ _ s16).mono ?_; rintro e w17 ⟨rfl, hb17⟩
              have k17 := (k16.on (by exact hb17)).alloc (.cells X 24)
              have p17 : Blk (w17.alloc (.cells X 24)) w17.heap.size 24 X := blk_new _ _ _
              have b17 := Below.on b16 b16.size (by exact hb17)
              have b17 := b17.alloc b17.size (.cells X 24)
              have hn17 : w.heap.size < w17.heap.size := (k16.on (by exact hb17)).lt
              clear hb17 k16 b16 s16
              go_wp2_with (first
                | (refine wpList_allocStore (cs := X) rfl rfl 24 ?ho (.tmp 6) (.tmp 47) ?ho2 Tryd.zeroAddr rfl ?hx ?hy ?hn ?h1 ?_
                   case ho => with_reducible rfl
                   case ho2 => with_reducible rfl
                   case hx => rfl
                   case hy => rfl
                   case hn => exact x17
                   case h1 => exact ox)
                | fail)
              refine (H8.out _ (HM.out.on b17 hpos)).mono ?_; rintro e w18 ⟨rfl, hb18⟩
              have k18 := (k17.on (by exact hb18)).alloc (.cells X 24)
              have p18 := (p17.on (by exact hb18)).alloc (.cells X 24)
              have q18 : Blk (w18.alloc (.cells X 24)) w18.heap.size 24 X := blk_new _ _ _
              have b18 := Below.on b17 b17.size (by exact hb18)
              have b18 := b18.alloc b18.size (.cells X 24)
              obtain ⟨cv, c0, c1', c2', c3'⟩ := HC.out _ _ _ k18
              have hn18 : w17.heap.size < w18.heap.size := (p17.on (by exact hb18)).lt
              clear hb18 k17 b17 p17
              go_wp2_with (first
                | (refine wpList_allocStore (cs := X) rfl rfl 24 ?ho (.tmp 8) (.tmp 52) ?ho2 Tryd.zeroAddr rfl ?hx ?hy ?hn ?h1 ?_
                   case ho => with_reducible rfl
                   case ho2 => with_reducible rfl
                   case hx => rfl
                   case hy => rfl
                   case hn => exact x17
                   case h1 => exact ox)
                | fail)
              refine (H9.out _).mono ?_; rintro e w19 ⟨rfl, hb19⟩
              have k19 := (k18.on (by exact hb19)).alloc (.cells Y 24)
              have p19 := (p18.on (by exact hb19)).alloc (.cells Y 24)
              have q19 := (q18.on (by exact hb19)).alloc (.cells Y 24)
              have o19 : Blk (w19.alloc (.cells Y 24)) w19.heap.size 24 Y := blk_new _ _ _
              have b19 := Below.on b18 b18.size (by exact hb19)
              have b19 := b19.alloc b19.size (.cells Y 24)
              clear cv c0 c1' c2' c3'
              obtain ⟨cv, _⟩ := HC.out _ _ _ k19
              have hn19 : w18.heap.size < w19.heap.size := (q18.on (by exact hb19)).lt
              clear hb19 k18 b18 p18 q18
              have r19 := HRg.out _ _ k19
              go_wp2_with (first
                | (refine wpList_allocStore (cs := Y) rfl rfl 24 ?ho (.tmp 10) (.tmp 67) ?ho2 Tryd.zeroAddr rfl ?hx ?hy ?hn ?h1 ?_
                   case ho => with_reducible rfl
                   case ho2 => with_reducible rfl
                   case hx => rfl
                   case hy => rfl
                   case hn => exact hY17
                   case h1 => exact oY)
                | (refine wpList_loadPart (g := w.heap.size) ?hw 22 (.tmp 71) ?ho (1) ?hx (l.map bv).toArray _ r19 Tryd.underlying22 rfl ?hi ?_
                   case hw => rfl
                   case ho => with_reducible rfl
                   case hx => rfl
                   case hi => exact hi16)
                | fail)
              refine (H6.out _).mono ?_; rintro e w20 ⟨rfl, hb20⟩
              have k20 := k19.on (by exact hb20)
              have p20 := p19.on (by exact hb20)
              have q20 := q19.on (by exact hb20)
              have o20 := o19.on (by exact hb20)
              have b20 := Below.on b19 b19.size (by exact hb20)
              have hkl := k20.lt
              have n17 : w.heap.size < w17.heap.size := hn17
              have n18 : w17.heap.size < w18.heap.size := hn18
              have n19 : w18.heap.size < w19.heap.size := hn19
              clear hb20 k19 p19 q19 o19 b19 r19 cv
              go_wp2_with (first
                | (refine wpList_storeBlk (g := w19.heap.size) (t := 24) (cs := X) ?hw 24 (.tmp 10) (.tmp 73) ?ho ?hx2 ?hy2 Y o20 ?hi ?hs ?h1 ?_
                   case ho => with_reducible rfl
                   case hw => rfl
                   case hx2 => rfl
                   case hy2 => rfl
                   case hi => exact hz
                   case hs => exact zY
                   case h1 => exact ox
                   intro w21 o21 hg21
                   have b21 : Below w.heap.size w w21 := b20.grown hg21 b20.size (fun j hj => by injection hj with hj; omega)
                   have k21 := k20.grown hg21 (by omega)
                   have p21 := p20.grown hg21 (by omega)
                   have q21 := q20.grown hg21 (by omega))
                | (refine wpList_loadBlk (g := w19.heap.size) (t := 24) (cs := X) ?hw 24 (.tmp 10) ?ho ?hx ?hA _ Tryd.underlying24 rfl ?hi ?_
                   case hw => rfl
                   case ho => with_reducible rfl
                   case hx => rfl
                   case hA => exact o21
                   case hi => exact hz)
                | (refine wpList_loadBlk (g := w.heap.size) (t := 24) (cs := X) ?hw 24 (.tmp 1) ?ho ?hx ?hA _ Tryd.underlying24 rfl ?hi ?_
                   case hw => rfl
                   case ho => with_reducible rfl
                   case hx => rfl
                   case hA => exact k21
                   case hi => exact hz)
                | (refine wpList_loadBlk (g := w17.heap.size) (t := 24) (cs := X) ?hw 24 (.tmp 6) ?ho ?hx ?hA _ Tryd.underlying24 rfl ?hi ?_
                   case hw => rfl
                   case ho => with_reducible rfl
                   case hx => rfl
                   case hA => exact p21
                   case hi => exact hz)
                | (refine wpList_loadBlk (g := w18.heap.size) (t := 24) (cs := X) ?hw 24 (.tmp 8) ?ho ?hx ?hA _ Tryd.underlying24 rfl ?hi ?_
                   case hw => rfl
                   case ho => with_reducible rfl
                   case hx => rfl
                   case hA => exact q21
                   case hi => exact hz)
                | (refine eqlAny (cs := X) (ds := X) (b := true) rfl 24 24 (.tmp 74) (.tmp 75) ?ho ?hx ?hy Tryd.plainAddr ?he ?_
                   case ho => with_reducible rfl
                   case hx => rfl
                   case hy => rfl
                   case he => exact he)
                | (refine eqlAny (cs := X) (ds := X) (b := true) rfl 24 24 (.tmp 78) (.tmp 79) ?ho ?hx ?hy Tryd.plainAddr ?he ?_
                   case ho => with_reducible rfl
                   case hx => rfl
                   case hy => rfl
                   case he => exact he)
                | (refine eqlAny (cs := X) (ds := X) (b := true) rfl 24 24 (.tmp 83) (.tmp 84) ?ho ?hx ?hy Tryd.plainAddr ?he ?_
                   case ho => with_reducible rfl
                   case hx => rfl
                   case hy => rfl
                   case he => exact he)
                | fail)
              refine (alive10 _ (Htab.out.on b21)).mono ?_; rintro e wz ⟨rfl, hbz⟩
              have bz := Below.on b21 b21.size (by exact hbz)
              go_wp2
              go_ret
              exact ⟨rfl, bz⟩

theorem walk_AddrBytes (v : Int) (l : List UInt8) (w : World) (hv : in64 v) (hl : l.length = 16) (htab : Tab w) (hm : Cl.HasM w) :
    Calls Tryd.prog 3 #[.agg (adv v l)] w fun e w' => e = .returned (.bool true) ∧ Below w.heap.size w w' := by
  cases hok : okA v l with
  | false => exact ab_no v l w hl htab hm hok
  | true =>
    rcases okA_v v l hok with h | h
    · exact ab_4 v l w hl htab hm hok h
    · exact ab_6 v l w hl htab hm hok h
end Go.Proofs.YtccidoigjdbepaaDoor
