
/- Contract: icmpsix.Read. -/
import Derived.Test.YtkokgoodpibboaaIxB
import Derived.Test.YtkokgoodpibboaaNtC
namespace Go.Proofs.Ytkokgoodpibboaa
open Go.RowKit
set_option maxRecDepth 100000
set_option linter.unusedSimpArgs false
set_option linter.unusedVariables false

def tot6 (l : List UInt8) : Nat := n1 l / 65536 % 65536 + 40
def pr6 (l : List UInt8) : Nat := n1 l / 256 % 256
/-- What stands behind a head of family 6. -/
def rest6 (l : List UInt8) : List UInt8 := (l.drop 40).take (tot6 l - 40)
/-- Why bytes are no message of family 6. -/
def r6E (l : List UInt8) : Nat := if pE6 l = 0 then (if pr6 l = 58 then fE 1 0 (pre6 (src6 l) (dst6 l) (tot6 l - 40)) (rest6 l) else 9) else pE6 l
theorem pH6_eq {l : List UInt8} (h : pE6 l = 0) : pH6 l = hdL6 l := by unfold pH6; rw [if_pos h]
theorem pH6_cells {l : List UInt8} (h : pE6 l = 0) : (pH6 l)[1]? = some (.int .i64 40) ∧ (pH6 l)[2]? = some (.int .i64 (tot6 l : Int)) ∧ (pH6 l)[8]? = some (.int .i64 (pr6 l : Int)) := by
  rw [pH6_eq h]
  unfold hdL6 hd6
  exact ⟨hdv_num _ _ _ 1 _ rfl, hdv_num _ _ _ 2 _ rfl, hdv_num _ _ _ 8 _ rfl⟩
theorem pE6_facts {l : List UInt8} (h : pE6 l = 0) : 40 ≤ l.length ∧ tot6 l ≤ l.length ∧ n1 l / 1152921504606846976 = 6 := by
  have h40 := pH6_len h
  unfold pE6 at h
  rw [if_neg (by omega)] at h
  unfold wE6 at h
  split at h
  · rename_i hv
    split at h
    · cases h
    · rename_i ht
      exact ⟨h40, by unfold tot6; omega, hv⟩
  · cases h
theorem rest6_shows {w : World} {B b off n : Nat} {l : List UInt8} (h : Shows w B (some ⟨b, off, none⟩) n l) (hE : pE6 l = 0) : Shows w B (some ⟨b, off + 40, none⟩) (tot6 l - 40) (rest6 l) := by
  obtain ⟨h1, h2, _⟩ := pE6_facts hE
  have hl := h.len
  exact h.piece 40 (tot6 l - 40) (by omega)
theorem rest6_len {l : List UInt8} (hE : pE6 l = 0) : (rest6 l).length = tot6 l - 40 := by
  obtain ⟨h1, h2, _⟩ := pE6_facts hE
  simp [rest6]
  omega
theorem src6_len {l : List UInt8} (h : 40 ≤ l.length) : (src6 l).length = 16 := by simp [src6]; omega
theorem dst6_len {l : List UInt8} (h : 40 ≤ l.length) : (dst6 l).length = 16 := by simp [dst6]; omega

set_option maxHeartbeats 2000000 in
theorem read6_bad (A : Option Addr) (n c : Nat) (l : List UInt8) (w : World) (hn : n ≤ 100000) (hc : n ≤ c) (hcm : c ≤ maxLen) (hs : Shows w w.heap.size A n l) (hE : ¬ r6E l = 0) :
    Calls Try.prog 41 #[.slice A n c] w fun e w' => e = .returned (.tuple #[.slice none 0 0, .int .i64 (r6E l : Int)]) ∧ Below w.heap.size w w' := by
  have hz := (zero_of_info Try.zeroHead).1
  have hne : ¬ zH = #[] := by intro h; have := zH_size; rw [h] at this; cases this
  have HP := Lib.hid (parse6_any A n c l w (by omega) hc hcm hs)
  have hl := hs.len
  have hsz := pH6_size l
  have o1 := pH6_one l
  by_cases q0 : ¬ pE6 l = 0
  · have HF := Lib.hid (show r6E l = pE6 l by unfold r6E; rw [if_neg q0])
    clear hs hE
    generalize r6E l = RE at *
    generalize pH6 l = M at *
    generalize pE6 l = E0 at *
    have d0 : decide ((E0 : Int) = 0) = false := decide_eq_false (by omega)
    have d0' : (((E0 : Int)) == 0) = false := by simp; omega
    have d0'' : (((E0 : Int)) != 0) = true := by simp; omega
    go_enter Try.func41, Try.ntmps41
    go_wp2_with fail
    refine HP.out.mono ?_
    rintro e w1 ⟨rfl, hb1⟩
    have b2 : Below w.heap.size w (w1.alloc (.cells M 42)) := hb1.alloc hb1.size _
    have k2 : Blk (w1.alloc (.cells M 42)) w1.heap.size 42 M := blk_new _ _ _
    generalize hg1 : w1.heap.size = g1 at *
    go_wp2_with (first
        | (refine wpList_allocStore (cs := M) rfl rfl 42 ?ho (.tmp 4) (.tmp 9) ?ho2 Try.zeroHead ?hz ?hx ?hy ?hn ?h1 ?_
           case ho => with_reducible rfl
           case ho2 => rfl
           case hz => exact zH_size
           case hx => rfl
           case hy => rfl
           case hn => exact hsz
           case h1 => exact o1
           rw [hg1]))
    go_ret2
    exact ⟨by rw [HF.out]; rfl, b2⟩
  have q0' : pE6 l = 0 := by omega
  obtain ⟨m1, m2, m8⟩ := pH6_cells q0'
  obtain ⟨f1, f2, f3⟩ := pE6_facts q0'
  rw [hl] at f1 f2
  obtain ⟨b, off, rfl, hbb, _⟩ := hs.2 (by omega)
  have HSr := Lib.hid (fun (W : World) (hW : Below w.heap.size w W) => rest6_shows ((hs.below hW).up hW.size) q0')
  have hrl := rest6_len q0'
  have ms : (Try.prog.info? 42).map (·.size) = some (pH6 l).size := by rw [hsz]; exact Try.infoHead
  have HA := Lib.hid (fun (W : World) => show Calls Try.prog 85 #[.agg (pH6 l), .int .i64 ((tot6 l - 40 : Nat) : Int)] W fun e w' => ∃ A c L, e = .returned (.slice A 4 c) ∧ Parts w' w'.heap.size A 4 L ∧ joinP L = pre6 (src6 l) (dst6 l) (tot6 l - 40) ∧ Below W.heap.size W w' by
    rw [pH6_eq q0']
    unfold hdL6 hd6
    exact ahead_any _ (src6 l) (dst6 l) rfl (src6_len (by omega)) (dst6_len (by omega)) (tot6 l - 40) (by omega) W)
  rw [q0'] at HP
  have HR := Lib.hid (show r6E l = if pr6 l = 58 then fE 1 0 (pre6 (src6 l) (dst6 l) (tot6 l - 40)) (rest6 l) else 9 by unfold r6E; rw [if_pos q0'])
  have hJl := pre6_len (src6 l) (dst6 l) (tot6 l - 40) (src6_len (by omega)) (dst6_len (by omega))
  have h40 : 40 ≤ tot6 l := by unfold tot6; omega
  clear hs q0 q0' f3
  generalize rest6 l = R at *
  generalize r6E l = RE at *
  generalize pH6 l = M at *
  generalize pre6 (src6 l) (dst6 l) (tot6 l - 40) = J at *
  generalize tot6 l = T at *
  generalize pr6 l = P at *
  by_cases q1 : ¬ P = 58
  · have HF := Lib.hid (show RE = 9 by rw [HR.out, if_neg q1])
    clear HR hE
    have d1 : decide ((P : Int) = 58) = false := decide_eq_false (by omega)
    have d1' : (((P : Int)) == 58) = false := by simp; omega
    have d1'' : (((P : Int)) != 58) = true := by simp; omega
    go_enter Try.func41, Try.ntmps41
    go_wp2_with fail
    refine HP.out.mono ?_
    rintro e w1 ⟨rfl, hb1⟩
    have b2 : Below w.heap.size w (w1.alloc (.cells M 42)) := hb1.alloc hb1.size _
    have k2 : Blk (w1.alloc (.cells M 42)) w1.heap.size 42 M := blk_new _ _ _
    generalize hg1 : w1.heap.size = g1 at *
    have c1 := (k2.cellA 1).trans m1
    have c2 := (k2.cellA 2).trans m2
    have c8 := (k2.cellA 8).trans m8
    go_wp2_with (first
        | (refine wpList_allocStore (cs := M) rfl rfl 42 ?ho (.tmp 4) (.tmp 9) ?ho2 Try.zeroHead ?hz ?hx ?hy ?hn ?h1 ?_
           case ho => with_reducible rfl
           case ho2 => rfl
           case hz => exact zH_size
           case hx => rfl
           case hy => rfl
           case hn => exact hsz
           case h1 => exact o1
           rw [hg1]))
    go_ret2
    exact ⟨by rw [HF.out]; rfl, b2⟩
  obtain rfl : P = 58 := by omega
  have m8' : M[8]? = some (.int .i64 58) := m8
  clear m8
  have m8 := m8'
  clear m8'
  have hE' : ¬ fE 1 0 J R = 0 := by rw [HR.out, if_pos rfl] at hE; exact hE
  have HF := Lib.hid (show RE = fE 1 0 J R by rw [HR.out, if_pos rfl])
  clear HR hE
  have iST : (40 : Int) ≤ (T : Int) := by omega
  have iTc : (T : Int) ≤ (c : Int) := by omega
  obtain ⟨KN, hKN⟩ : ∃ KN : Nat, T - 40 = KN := ⟨_, rfl⟩
  have hKi : (T : Int) - 40 = (KN : Int) := by omega
  rw [hKN] at HSr HA hrl
  have hKw : IntKind.i64.wrap (KN : Int) = (KN : Int) := wrap_id KN (by omega)
  have iK : (KN : Int) ≤ 100000 := by omega
  by_cases q2 : c = 40
  · have HZ := Lib.hid (show KN = 0 by omega)
    have HNF := Lib.hid (fun (PA : Option Addr) (pc : Nat) (L : List Part) (W : World) (hp : Parts W W.heap.size PA 4 L) (hj : joinP L = J) (hW : Below w.heap.size w W) => show Calls Try.prog 84 #[.slice (some ⟨b, off, none⟩) 0 0, .int .u8 1, .int .u8 0, .slice PA 4 pc] W fun e w' => e = .returned (.tuple #[.slice none 0 0, .int .i64 (fE 1 0 J R : Int)]) ∧ Below W.heap.size W w' by
      have h := nfront_bad 1 0 (by omega) (by omega) (some ⟨b, off, none⟩) 0 0 R PA 4 pc L W (by omega) (by omega) (by simp [maxLen]) (by omega) (by rw [hj, hJl]; omega) ⟨by have := HZ.out; omega, fun h => absurd h (by omega)⟩ hp (by rw [hj]; exact hE')
      rw [hj] at h
      exact h)
    obtain rfl : T = 40 := by have := HZ.out; omega
    obtain rfl : KN = 0 := HZ.out
    subst q2
    clear hKw
    have hKw : IntKind.i64.wrap 0 = 0 := rfl
    have m2' : M[2]? = some (.int .i64 40) := m2
    clear m2 iK iST iTc
    have m2 := m2'
    clear m2'
    clear HZ HSr hE' hJl hKN hKi hrl
    generalize fE 1 0 J R = FF at *
    go_enter Try.func41, Try.ntmps41
    go_wp2_with fail
    refine HP.out.mono ?_
    rintro e w1 ⟨rfl, hb1⟩
    have b2 : Below w.heap.size w (w1.alloc (.cells M 42)) := hb1.alloc hb1.size _
    have k2 : Blk (w1.alloc (.cells M 42)) w1.heap.size 42 M := blk_new _ _ _
    generalize hg1 : w1.heap.size = g1 at *
    have c1 := (k2.cellA 1).trans m1
    have c2 := (k2.cellA 2).trans m2
    have c8 := (k2.cellA 8).trans m8
    go_wp2_with (first
        | (refine wpList_allocStore (cs := M) rfl rfl 42 ?ho (.tmp 4) (.tmp 9) ?ho2 Try.zeroHead ?hz ?hx ?hy ?hn ?h1 ?_
           case ho => with_reducible rfl
           case ho2 => rfl
           case hz => exact zH_size
           case hx => rfl
           case hy => rfl
           case hn => exact hsz
           case h1 => exact o1
           rw [hg1])
        | fail)
    generalize w1.alloc (.cells M 42) = W4 at *
    have qk : Below w.heap.size w W4.drew ∧ Blk W4.drew g1 42 M := ⟨b2.drew, k2⟩
    clear b2 k2 c1 c2 c8
    refine wp_region_held_drew (S := fun W => Below w.heap.size w W ∧ Blk W g1 42 M) (by kernel_rfl) qk ?_
    intro hS
    refine wpAnyH_take (i := 0) (oi := ?o6) (v := ?vo6) ?hio6 (by kernel_rfl) (by kernel_rfl) (by kernel_rfl) ?hQo6 ?hyo6 hS ?_
    case hio6 => (simp only [List.getElem?_toArray, List.getElem?_cons_succ, List.getElem?_cons_zero]; rfl)
    case hQo6 => exact fun _ _ _ h => h
    case hyo6 =>
      refine Or.inl ⟨by rfl, ?_⟩
      intro W hW
      go_simp
      first | done | with_reducible rfl
    try simp only [Act.put, List.setIfInBounds_toArray, List.set_cons_zero, List.set_cons_succ]
    refine wpAnyH_take (i := 1) (oi := ?o7) (v := ?vo7) ?hio7 (by kernel_rfl) (by kernel_rfl) (by kernel_rfl) ?hQo7 ?hyo7 hS ?_
    case hio7 => (simp only [List.getElem?_toArray, List.getElem?_cons_succ, List.getElem?_cons_zero]; rfl)
    case hQo7 => exact fun _ _ _ h => h
    case hyo7 =>
      refine Or.inl ⟨by rfl, ?_⟩
      intro W hW
      go_simp
      first | done | with_reducible rfl
    try simp only [Act.put, List.setIfInBounds_toArray, List.set_cons_zero, List.set_cons_succ]
    refine wpAnyH_take (i := 2) (oi := ?o8) (v := ?vo8) ?hio8 (by kernel_rfl) (by kernel_rfl) (by kernel_rfl) ?hQo8 ?hyo8 hS ?_
    case hio8 => (simp only [List.getElem?_toArray, List.getElem?_cons_succ, List.getElem?_cons_zero]; rfl)
    case hQo8 => exact fun _ _ _ h => h
    case hyo8 =>
      refine Or.inl ⟨by rfl, ?_⟩
      intro W hW
      have c1 := (hW.2.cellA 1).trans m1
      go_simp
      first | done | with_reducible rfl
    try simp only [Act.put, List.setIfInBounds_toArray, List.set_cons_zero, List.set_cons_succ]
    refine wpAnyH_take (i := 3) (oi := ?o9) (v := ?vo9) ?hio9 (by kernel_rfl) (by kernel_rfl) (by kernel_rfl) ?hQo9 ?hyo9 hS ?_
    case hio9 => (simp only [List.getElem?_toArray, List.getElem?_cons_succ, List.getElem?_cons_zero]; rfl)
    case hQo9 => exact fun _ _ _ h => h
    case hyo9 =>
      refine Or.inl ⟨by rfl, ?_⟩
      intro W hW
      go_simp
      first | done | with_reducible rfl
    try simp only [Act.put, List.setIfInBounds_toArray, List.set_cons_zero, List.set_cons_succ]
    refine wpAnyH_take (i := 4) (oi := ?o10) (v := ?vo10) ?hio10 (by kernel_rfl) (by kernel_rfl) (by kernel_rfl) ?hQo10 ?hyo10 hS ?_
    case hio10 => (simp only [List.getElem?_toArray, List.getElem?_cons_succ, List.getElem?_cons_zero]; rfl)
    case hQo10 => exact fun _ _ _ h => h
    case hyo10 =>
      refine Or.inl ⟨by rfl, ?_⟩
      intro W hW
      have c2 := (hW.2.cellA 2).trans m2
      go_simp
      first | done | with_reducible rfl
    try simp only [Act.put, List.setIfInBounds_toArray, List.set_cons_zero, List.set_cons_succ]
    refine wpAnyH_take (i := 5) (oi := ?o11) (v := ?vo11) ?hio11 (by kernel_rfl) (by kernel_rfl) (by kernel_rfl) ?hQo11 ?hyo11 hS ?_
    case hio11 => (simp only [List.getElem?_toArray, List.getElem?_cons_succ, List.getElem?_cons_zero]; rfl)
    case hQo11 => exact fun _ _ _ h => h
    case hyo11 =>
      refine Or.inl ⟨by rfl, ?_⟩
      intro W hW
      go_simp
      first | done | with_reducible rfl
    try simp only [Act.put, List.setIfInBounds_toArray, List.set_cons_zero, List.set_cons_succ]
    refine wpAnyH_take (i := 6) (oi := ?o12) (v := .agg M) ?hio12 (by kernel_rfl) (by kernel_rfl) (by kernel_rfl) ?hQo12 ?hyo12 hS ?_
    case hio12 => (simp only [List.getElem?_toArray, List.getElem?_cons_succ, List.getElem?_cons_zero]; rfl)
    case hQo12 => exact fun _ _ _ h => h
    case hyo12 => exact yieldsIf_load_mid (by rfl) 42 (.tmp 4) rfl g1 0 rfl M.toList _ (fun W hW => Blk.range0 hW.2) Try.underlying42 rfl (by simpa using ms)
    try simp only [Act.put, List.setIfInBounds_toArray, List.set_cons_zero, List.set_cons_succ]
    refine wpAnyH_take (i := 7) (oi := ?o13) (v := ?vo13) ?hio13 (by kernel_rfl) (by kernel_rfl) (by kernel_rfl) ?hQo13 ?hyo13 hS ?_
    case hio13 => (simp only [List.getElem?_toArray, List.getElem?_cons_succ, List.getElem?_cons_zero]; rfl)
    case hQo13 => exact fun _ _ _ h => h
    case hyo13 =>
      refine Or.inl ⟨by rfl, ?_⟩
      intro W hW
      go_simp
      first | done | with_reducible rfl
    try simp only [Act.put, List.setIfInBounds_toArray, List.set_cons_zero, List.set_cons_succ]
    refine wpAnyH_take (i := 8) (oi := ?o14) (v := ?vo14) ?hio14 (by kernel_rfl) (by kernel_rfl) (by kernel_rfl) ?hQo14 ?hyo14 hS ?_
    case hio14 => (simp only [List.getElem?_toArray, List.getElem?_cons_succ, List.getElem?_cons_zero]; rfl)
    case hQo14 => exact fun _ _ _ h => h
    case hyo14 =>
      refine Or.inl ⟨by rfl, ?_⟩
      intro W hW
      have c2 := (hW.2.cellA 2).trans m2
      go_simp
      first | done | with_reducible rfl
    try simp only [Act.put, List.setIfInBounds_toArray, List.set_cons_zero, List.set_cons_succ]
    refine wpAnyH_take (i := 9) (oi := ?o15) (v := ?vo15) ?hio15 (by kernel_rfl) (by kernel_rfl) (by kernel_rfl) ?hQo15 ?hyo15 hS ?_
    case hio15 => (simp only [List.getElem?_toArray, List.getElem?_cons_succ, List.getElem?_cons_zero]; rfl)
    case hQo15 => exact fun _ _ _ h => h
    case hyo15 =>
      refine Or.inl ⟨by rfl, ?_⟩
      intro W hW
      go_simp
      first | done | with_reducible rfl
    try simp only [Act.put, List.setIfInBounds_toArray, List.set_cons_zero, List.set_cons_succ]
    refine wpAnyH_take (i := 10) (oi := ?o16) (v := ?vo16) ?hio16 (by kernel_rfl) (by kernel_rfl) (by kernel_rfl) ?hQo16 ?hyo16 hS ?_
    case hio16 => (simp only [List.getElem?_toArray, List.getElem?_cons_succ, List.getElem?_cons_zero]; rfl)
    case hQo16 => exact fun _ _ _ h => h
    case hyo16 =>
      refine Or.inl ⟨by rfl, ?_⟩
      intro W hW
      have c1 := (hW.2.cellA 1).trans m1
      go_simp
      first | done | with_reducible rfl
    try simp only [Act.put, List.setIfInBounds_toArray, List.set_cons_zero, List.set_cons_succ]
    refine wpAnyH_take (i := 11) (oi := ?o17) (v := .int .i64 0) ?hio17 (by kernel_rfl) (by kernel_rfl) (by kernel_rfl) ?hQo17 ?hyo17 hS ?_
    case hio17 => (simp only [List.getElem?_toArray, List.getElem?_cons_succ, List.getElem?_cons_zero]; rfl)
    case hQo17 => exact fun _ _ _ h => h
    case hyo17 => exact Or.inl ⟨by rfl, fun W hW => by go_simp⟩
    try simp only [Act.put, List.setIfInBounds_toArray, List.set_cons_zero, List.set_cons_succ]
    refine wpAnyH_ready (rs := [12]) (by kernel_rfl) (by simp) ?_
    refine AllReadyH.cons (o := ?o18) ?hoo18 (fun K hK => ?ho18) AllReadyH.nil
    case hoo18 => (simp only [List.getElem?_toArray, List.getElem?_cons_succ, List.getElem?_cons_zero]; rfl)
    case ho18 =>
      go_simp
      go_at_call 85
      refine (HA.out _).mono ?_
      rintro e w5 ⟨A5, c5, L5, rfl, s5, j5, hb5⟩
      have b5 := Below.on qk.1 qk.1.size hb5
      have k5 := qk.2.on hb5
      refine hK.out _ _ ⟨b5, k5⟩ (fun _ => ?_)
      clear hK K hb5
      try simp only [Act.put, List.setIfInBounds_toArray, List.set_cons_zero, List.set_cons_succ]
      refine wpAnyH_ready (rs := [13]) (by kernel_rfl) (by simp) ?_
      refine AllReadyH.cons (o := ?o5) ?hoo5 (fun K hK => ?ho5) AllReadyH.nil
      case hoo5 => (simp only [List.getElem?_toArray, List.getElem?_cons_succ, List.getElem?_cons_zero]; rfl)
      case ho5 =>
        go_simp
        go_at_call 84
        refine (HNF.out A5 c5 L5 _ s5 j5 b5).mono ?_
        rintro e w6 ⟨rfl, hb6⟩
        have b6 := Below.on b5 b5.size hb6
        have q6 : Below w.heap.size w w6 ∧ Blk w6 g1 42 M := ⟨b6, k5.on hb6⟩
        refine hK.out _ _ q6 (fun _ => ?_)
        clear hK K hb6
        try simp only [Act.put, List.setIfInBounds_toArray, List.set_cons_zero, List.set_cons_succ]
        refine wpAnyH_take (i := 14) (oi := ?o1) (v := .slice none 0 0) ?hio1 (by kernel_rfl) (by kernel_rfl) (by kernel_rfl) ?hQo1 ?hyo1 q6 ?_
        case hio1 => (simp only [List.getElem?_toArray, List.getElem?_cons_succ, List.getElem?_cons_zero]; rfl)
        case hQo1 => exact fun _ _ _ h => h
        case hyo1 => exact Or.inl ⟨by rfl, fun W hW => by go_simp⟩
        try simp only [Act.put, List.setIfInBounds_toArray, List.set_cons_zero, List.set_cons_succ]
        refine wpAnyH_take (i := 15) (oi := ?o2) (v := .int .i64 (FF : Int)) ?hio2 (by kernel_rfl) (by kernel_rfl) (by kernel_rfl) ?hQo2 ?hyo2 q6 ?_
        case hio2 => (simp only [List.getElem?_toArray, List.getElem?_cons_succ, List.getElem?_cons_zero]; rfl)
        case hQo2 => exact fun _ _ _ h => h
        case hyo2 => exact Or.inl ⟨by rfl, fun W hW => by go_simp⟩
        try simp only [Act.put, List.setIfInBounds_toArray, List.set_cons_zero, List.set_cons_succ]
        refine wpAnyH_take (i := 16) (oi := ?o3) (v := .slice none 0 0) ?hio3 (by kernel_rfl) (by kernel_rfl) (by kernel_rfl) ?hQo3 ?hyo3 q6 ?_
        case hio3 => (simp only [List.getElem?_toArray, List.getElem?_cons_succ, List.getElem?_cons_zero]; rfl)
        case hQo3 => exact fun _ _ _ h => h
        case hyo3 => exact Or.inl ⟨by rfl, fun W hW => by go_simp⟩
        try simp only [Act.put, List.setIfInBounds_toArray, List.set_cons_zero, List.set_cons_succ]
        refine wpAnyH_take (i := 17) (oi := ?o4) (v := .int .i64 (FF : Int)) ?hio4 (by kernel_rfl) (by kernel_rfl) (by kernel_rfl) ?hQo4 ?hyo4 q6 ?_
        case hio4 => (simp only [List.getElem?_toArray, List.getElem?_cons_succ, List.getElem?_cons_zero]; rfl)
        case hQo4 => exact fun _ _ _ h => h
        case hyo4 => exact Or.inl ⟨by rfl, fun W hW => by go_simp⟩
        try simp only [Act.put, List.setIfInBounds_toArray, List.set_cons_zero, List.set_cons_succ]
        refine wpAnyH_done (by kernel_rfl) ?_ _
        go_wp2
        go_ret2
        exact ⟨by rw [HF.out]; rfl, b6⟩
  · have HNF := Lib.hid (fun (PA : Option Addr) (pc : Nat) (L : List Part) (W : World) (hp : Parts W W.heap.size PA 4 L) (hj : joinP L = J) (hW : Below w.heap.size w W) => show Calls Try.prog 84 #[.slice (some ⟨b, off + 40, none⟩) KN (c - 40), .int .u8 1, .int .u8 0, .slice PA 4 pc] W fun e w' => e = .returned (.tuple #[.slice none 0 0, .int .i64 (fE 1 0 J R : Int)]) ∧ Below W.heap.size W w' by
      have h := nfront_bad 1 0 (by omega) (by omega) (some ⟨b, off + 40, none⟩) KN (c - 40) R PA 4 pc L W (by omega) (by omega) (by omega) (by omega) (by rw [hj, hJl]; omega) (HSr.out W hW) hp (by rw [hj]; exact hE')
      rw [hj] at h
      exact h)
    clear HSr hE' hJl hrl
    generalize fE 1 0 J R = FF at *
    go_enter Try.func41, Try.ntmps41
    go_wp2_with fail
    refine HP.out.mono ?_
    rintro e w1 ⟨rfl, hb1⟩
    have b2 : Below w.heap.size w (w1.alloc (.cells M 42)) := hb1.alloc hb1.size _
    have k2 : Blk (w1.alloc (.cells M 42)) w1.heap.size 42 M := blk_new _ _ _
    generalize hg1 : w1.heap.size = g1 at *
    have c1 := (k2.cellA 1).trans m1
    have c2 := (k2.cellA 2).trans m2
    have c8 := (k2.cellA 8).trans m8
    go_wp2_with (first
        | (refine wpList_allocStore (cs := M) rfl rfl 42 ?ho (.tmp 4) (.tmp 9) ?ho2 Try.zeroHead ?hz ?hx ?hy ?hn ?h1 ?_
           case ho => with_reducible rfl
           case ho2 => rfl
           case hz => exact zH_size
           case hx => rfl
           case hy => rfl
           case hn => exact hsz
           case h1 => exact o1
           rw [hg1])
        | fail)
    generalize w1.alloc (.cells M 42) = W4 at *
    have qk : Below w.heap.size w W4.drew ∧ Blk W4.drew g1 42 M := ⟨b2.drew, k2⟩
    clear b2 k2 c1 c2 c8
    refine wp_region_held_drew (S := fun W => Below w.heap.size w W ∧ Blk W g1 42 M) (by kernel_rfl) qk ?_
    intro hS
    refine wpAnyH_take (i := 0) (oi := ?o24) (v := ?vo24) ?hio24 (by kernel_rfl) (by kernel_rfl) (by kernel_rfl) ?hQo24 ?hyo24 hS ?_
    case hio24 => (simp only [List.getElem?_toArray, List.getElem?_cons_succ, List.getElem?_cons_zero]; rfl)
    case hQo24 => exact fun _ _ _ h => h
    case hyo24 =>
      refine Or.inl ⟨by rfl, ?_⟩
      intro W hW
      go_simp
      first | done | with_reducible rfl
    try simp only [Act.put, List.setIfInBounds_toArray, List.set_cons_zero, List.set_cons_succ]
    refine wpAnyH_take (i := 1) (oi := ?o25) (v := ?vo25) ?hio25 (by kernel_rfl) (by kernel_rfl) (by kernel_rfl) ?hQo25 ?hyo25 hS ?_
    case hio25 => (simp only [List.getElem?_toArray, List.getElem?_cons_succ, List.getElem?_cons_zero]; rfl)
    case hQo25 => exact fun _ _ _ h => h
    case hyo25 =>
      refine Or.inl ⟨by rfl, ?_⟩
      intro W hW
      go_simp
      first | done | with_reducible rfl
    try simp only [Act.put, List.setIfInBounds_toArray, List.set_cons_zero, List.set_cons_succ]
    refine wpAnyH_take (i := 2) (oi := ?o26) (v := ?vo26) ?hio26 (by kernel_rfl) (by kernel_rfl) (by kernel_rfl) ?hQo26 ?hyo26 hS ?_
    case hio26 => (simp only [List.getElem?_toArray, List.getElem?_cons_succ, List.getElem?_cons_zero]; rfl)
    case hQo26 => exact fun _ _ _ h => h
    case hyo26 =>
      refine Or.inl ⟨by rfl, ?_⟩
      intro W hW
      have c1 := (hW.2.cellA 1).trans m1
      go_simp
      first | done | with_reducible rfl
    try simp only [Act.put, List.setIfInBounds_toArray, List.set_cons_zero, List.set_cons_succ]
    refine wpAnyH_take (i := 3) (oi := ?o27) (v := ?vo27) ?hio27 (by kernel_rfl) (by kernel_rfl) (by kernel_rfl) ?hQo27 ?hyo27 hS ?_
    case hio27 => (simp only [List.getElem?_toArray, List.getElem?_cons_succ, List.getElem?_cons_zero]; rfl)
    case hQo27 => exact fun _ _ _ h => h
    case hyo27 =>
      refine Or.inl ⟨by rfl, ?_⟩
      intro W hW
      go_simp
      first | done | with_reducible rfl
    try simp only [Act.put, List.setIfInBounds_toArray, List.set_cons_zero, List.set_cons_succ]
    refine wpAnyH_take (i := 4) (oi := ?o28) (v := ?vo28) ?hio28 (by kernel_rfl) (by kernel_rfl) (by kernel_rfl) ?hQo28 ?hyo28 hS ?_
    case hio28 => (simp only [List.getElem?_toArray, List.getElem?_cons_succ, List.getElem?_cons_zero]; rfl)
    case hQo28 => exact fun _ _ _ h => h
    case hyo28 =>
      refine Or.inl ⟨by rfl, ?_⟩
      intro W hW
      have c2 := (hW.2.cellA 2).trans m2
      go_simp
      first | done | with_reducible rfl
    try simp only [Act.put, List.setIfInBounds_toArray, List.set_cons_zero, List.set_cons_succ]
    refine wpAnyH_take (i := 5) (oi := ?o29) (v := ?vo29) ?hio29 (by kernel_rfl) (by kernel_rfl) (by kernel_rfl) ?hQo29 ?hyo29 hS ?_
    case hio29 => (simp only [List.getElem?_toArray, List.getElem?_cons_succ, List.getElem?_cons_zero]; rfl)
    case hQo29 => exact fun _ _ _ h => h
    case hyo29 =>
      refine Or.inl ⟨by rfl, ?_⟩
      intro W hW
      go_simp
      first | done | with_reducible rfl
    try simp only [Act.put, List.setIfInBounds_toArray, List.set_cons_zero, List.set_cons_succ]
    refine wpAnyH_take (i := 6) (oi := ?o30) (v := .agg M) ?hio30 (by kernel_rfl) (by kernel_rfl) (by kernel_rfl) ?hQo30 ?hyo30 hS ?_
    case hio30 => (simp only [List.getElem?_toArray, List.getElem?_cons_succ, List.getElem?_cons_zero]; rfl)
    case hQo30 => exact fun _ _ _ h => h
    case hyo30 => exact yieldsIf_load_mid (by rfl) 42 (.tmp 4) rfl g1 0 rfl M.toList _ (fun W hW => Blk.range0 hW.2) Try.underlying42 rfl (by simpa using ms)
    try simp only [Act.put, List.setIfInBounds_toArray, List.set_cons_zero, List.set_cons_succ]
    refine wpAnyH_take (i := 7) (oi := ?o31) (v := ?vo31) ?hio31 (by kernel_rfl) (by kernel_rfl) (by kernel_rfl) ?hQo31 ?hyo31 hS ?_
    case hio31 => (simp only [List.getElem?_toArray, List.getElem?_cons_succ, List.getElem?_cons_zero]; rfl)
    case hQo31 => exact fun _ _ _ h => h
    case hyo31 =>
      refine Or.inl ⟨by rfl, ?_⟩
      intro W hW
      go_simp
      first | done | with_reducible rfl
    try simp only [Act.put, List.setIfInBounds_toArray, List.set_cons_zero, List.set_cons_succ]
    refine wpAnyH_take (i := 8) (oi := ?o32) (v := ?vo32) ?hio32 (by kernel_rfl) (by kernel_rfl) (by kernel_rfl) ?hQo32 ?hyo32 hS ?_
    case hio32 => (simp only [List.getElem?_toArray, List.getElem?_cons_succ, List.getElem?_cons_zero]; rfl)
    case hQo32 => exact fun _ _ _ h => h
    case hyo32 =>
      refine Or.inl ⟨by rfl, ?_⟩
      intro W hW
      have c2 := (hW.2.cellA 2).trans m2
      go_simp
      first | done | with_reducible rfl
    try simp only [Act.put, List.setIfInBounds_toArray, List.set_cons_zero, List.set_cons_succ]
    refine wpAnyH_take (i := 9) (oi := ?o33) (v := ?vo33) ?hio33 (by kernel_rfl) (by kernel_rfl) (by kernel_rfl) ?hQo33 ?hyo33 hS ?_
    case hio33 => (simp only [List.getElem?_toArray, List.getElem?_cons_succ, List.getElem?_cons_zero]; rfl)
    case hQo33 => exact fun _ _ _ h => h
    case hyo33 =>
      refine Or.inl ⟨by rfl, ?_⟩
      intro W hW
      go_simp
      first | done | with_reducible rfl
    try simp only [Act.put, List.setIfInBounds_toArray, List.set_cons_zero, List.set_cons_succ]
    refine wpAnyH_take (i := 10) (oi := ?o34) (v := ?vo34) ?hio34 (by kernel_rfl) (by kernel_rfl) (by kernel_rfl) ?hQo34 ?hyo34 hS ?_
    case hio34 => (simp only [List.getElem?_toArray, List.getElem?_cons_succ, List.getElem?_cons_zero]; rfl)
    case hQo34 => exact fun _ _ _ h => h
    case hyo34 =>
      refine Or.inl ⟨by rfl, ?_⟩
      intro W hW
      have c1 := (hW.2.cellA 1).trans m1
      go_simp
      first | done | with_reducible rfl
    try simp only [Act.put, List.setIfInBounds_toArray, List.set_cons_zero, List.set_cons_succ]
    refine wpAnyH_take (i := 11) (oi := ?o35) (v := .int .i64 (KN : Int)) ?hio35 (by kernel_rfl) (by kernel_rfl) (by kernel_rfl) ?hQo35 ?hyo35 hS ?_
    case hio35 => (simp only [List.getElem?_toArray, List.getElem?_cons_succ, List.getElem?_cons_zero]; rfl)
    case hQo35 => exact fun _ _ _ h => h
    case hyo35 => exact Or.inl ⟨by rfl, fun W hW => by go_simp⟩
    try simp only [Act.put, List.setIfInBounds_toArray, List.set_cons_zero, List.set_cons_succ]
    refine wpAnyH_ready (rs := [12]) (by kernel_rfl) (by simp) ?_
    refine AllReadyH.cons (o := ?o36) ?hoo36 (fun K hK => ?ho36) AllReadyH.nil
    case hoo36 => (simp only [List.getElem?_toArray, List.getElem?_cons_succ, List.getElem?_cons_zero]; rfl)
    case ho36 =>
      go_simp
      go_at_call 85
      refine (HA.out _).mono ?_
      rintro e w5 ⟨A5, c5, L5, rfl, s5, j5, hb5⟩
      have b5 := Below.on qk.1 qk.1.size hb5
      have k5 := qk.2.on hb5
      refine hK.out _ _ ⟨b5, k5⟩ (fun _ => ?_)
      clear hK K hb5
      try simp only [Act.put, List.setIfInBounds_toArray, List.set_cons_zero, List.set_cons_succ]
      refine wpAnyH_ready (rs := [13]) (by kernel_rfl) (by simp) ?_
      refine AllReadyH.cons (o := ?o23) ?hoo23 (fun K hK => ?ho23) AllReadyH.nil
      case hoo23 => (simp only [List.getElem?_toArray, List.getElem?_cons_succ, List.getElem?_cons_zero]; rfl)
      case ho23 =>
        go_simp
        go_at_call 84
        refine (HNF.out A5 c5 L5 _ s5 j5 b5).mono ?_
        rintro e w6 ⟨rfl, hb6⟩
        have b6 := Below.on b5 b5.size hb6
        have q6 : Below w.heap.size w w6 ∧ Blk w6 g1 42 M := ⟨b6, k5.on hb6⟩
        refine hK.out _ _ q6 (fun _ => ?_)
        clear hK K hb6
        try simp only [Act.put, List.setIfInBounds_toArray, List.set_cons_zero, List.set_cons_succ]
        refine wpAnyH_take (i := 14) (oi := ?o19) (v := .slice none 0 0) ?hio19 (by kernel_rfl) (by kernel_rfl) (by kernel_rfl) ?hQo19 ?hyo19 q6 ?_
        case hio19 => (simp only [List.getElem?_toArray, List.getElem?_cons_succ, List.getElem?_cons_zero]; rfl)
        case hQo19 => exact fun _ _ _ h => h
        case hyo19 => exact Or.inl ⟨by rfl, fun W hW => by go_simp⟩
        try simp only [Act.put, List.setIfInBounds_toArray, List.set_cons_zero, List.set_cons_succ]
        refine wpAnyH_take (i := 15) (oi := ?o20) (v := .int .i64 (FF : Int)) ?hio20 (by kernel_rfl) (by kernel_rfl) (by kernel_rfl) ?hQo20 ?hyo20 q6 ?_
        case hio20 => (simp only [List.getElem?_toArray, List.getElem?_cons_succ, List.getElem?_cons_zero]; rfl)
        case hQo20 => exact fun _ _ _ h => h
        case hyo20 => exact Or.inl ⟨by rfl, fun W hW => by go_simp⟩
        try simp only [Act.put, List.setIfInBounds_toArray, List.set_cons_zero, List.set_cons_succ]
        refine wpAnyH_take (i := 16) (oi := ?o21) (v := .slice none 0 0) ?hio21 (by kernel_rfl) (by kernel_rfl) (by kernel_rfl) ?hQo21 ?hyo21 q6 ?_
        case hio21 => (simp only [List.getElem?_toArray, List.getElem?_cons_succ, List.getElem?_cons_zero]; rfl)
        case hQo21 => exact fun _ _ _ h => h
        case hyo21 => exact Or.inl ⟨by rfl, fun W hW => by go_simp⟩
        try simp only [Act.put, List.setIfInBounds_toArray, List.set_cons_zero, List.set_cons_succ]
        refine wpAnyH_take (i := 17) (oi := ?o22) (v := .int .i64 (FF : Int)) ?hio22 (by kernel_rfl) (by kernel_rfl) (by kernel_rfl) ?hQo22 ?hyo22 q6 ?_
        case hio22 => (simp only [List.getElem?_toArray, List.getElem?_cons_succ, List.getElem?_cons_zero]; rfl)
        case hQo22 => exact fun _ _ _ h => h
        case hyo22 => exact Or.inl ⟨by rfl, fun W hW => by go_simp⟩
        try simp only [Act.put, List.setIfInBounds_toArray, List.set_cons_zero, List.set_cons_succ]
        refine wpAnyH_done (by kernel_rfl) ?_ _
        go_wp2
        go_ret2
        exact ⟨by rw [HF.out]; rfl, b6⟩

set_option maxHeartbeats 2000000 in
theorem read6_ok (A : Option Addr) (n c : Nat) (l : List UInt8) (w : World) (hn : n ≤ 100000) (hc : n ≤ c) (hcm : c ≤ maxLen) (hs : Shows w w.heap.size A n l) (hE : r6E l = 0) :
    Calls Try.prog 41 #[.slice A n c] w fun e w' => ∃ v, e = .returned (.tuple #[v, .int .i64 0]) ∧ Own w' w.heap.size v (tot6 l - 40 - 8) ((rest6 l).drop 8) ∧ Below w.heap.size w w' := by
  have hz := (zero_of_info Try.zeroHead).1
  have hne : ¬ zH = #[] := by intro h; have := zH_size; rw [h] at this; cases this
  have HP := Lib.hid (parse6_any A n c l w (by omega) hc hcm hs)
  have hl := hs.len
  have hsz := pH6_size l
  have o1 := pH6_one l
  have q0' : pE6 l = 0 := by
    unfold r6E at hE
    split at hE
    · assumption
    · exact hE
  obtain ⟨m1, m2, m8⟩ := pH6_cells q0'
  obtain ⟨f1, f2, f3⟩ := pE6_facts q0'
  rw [hl] at f1 f2
  obtain ⟨b, off, rfl, hbb, _⟩ := hs.2 (by omega)
  have HSr := Lib.hid (fun (W : World) (hW : Below w.heap.size w W) => rest6_shows ((hs.below hW).up hW.size) q0')
  have hrl := rest6_len q0'
  have ms : (Try.prog.info? 42).map (·.size) = some (pH6 l).size := by rw [hsz]; exact Try.infoHead
  have HA := Lib.hid (fun (W : World) => show Calls Try.prog 85 #[.agg (pH6 l), .int .i64 ((tot6 l - 40 : Nat) : Int)] W fun e w' => ∃ A c L, e = .returned (.slice A 4 c) ∧ Parts w' w'.heap.size A 4 L ∧ joinP L = pre6 (src6 l) (dst6 l) (tot6 l - 40) ∧ Below W.heap.size W w' by
    rw [pH6_eq q0']
    unfold hdL6 hd6
    exact ahead_any _ (src6 l) (dst6 l) rfl (src6_len (by omega)) (dst6_len (by omega)) (tot6 l - 40) (by omega) W)
  rw [q0'] at HP
  have hJl := pre6_len (src6 l) (dst6 l) (tot6 l - 40) (src6_len (by omega)) (dst6_len (by omega))
  have h40 : 40 ≤ tot6 l := by unfold tot6; omega
  have hF : pr6 l = 58 ∧ fE 1 0 (pre6 (src6 l) (dst6 l) (tot6 l - 40)) (rest6 l) = 0 := by
    unfold r6E at hE
    rw [if_pos q0'] at hE
    split at hE
    · exact ⟨by assumption, hE⟩
    · cases hE
  obtain ⟨e8, hF⟩ := hF
  rw [e8] at m8
  have m8' : (pH6 l)[8]? = some (.int .i64 58) := m8
  clear m8
  have m8 := m8'
  clear m8'
  have h8 : 8 ≤ tot6 l - 40 := by
    unfold fE at hF
    rw [hrl] at hF
    split at hF
    · cases hF
    · omega
  clear hs hE e8 q0' f3
  generalize rest6 l = R at *
  generalize pH6 l = M at *
  generalize pre6 (src6 l) (dst6 l) (tot6 l - 40) = J at *
  generalize tot6 l = T at *
  have q2 : ¬ c = 40 := by omega
  have iST : (40 : Int) ≤ (T : Int) := by omega
  have iTc : (T : Int) ≤ (c : Int) := by omega
  obtain ⟨KN, hKN⟩ : ∃ KN : Nat, T - 40 = KN := ⟨_, rfl⟩
  have hKi : (T : Int) - 40 = (KN : Int) := by omega
  rw [hKN] at HSr HA hrl h8
  have hKw : IntKind.i64.wrap (KN : Int) = (KN : Int) := wrap_id KN (by omega)
  rw [hKN]
  have iK : (KN : Int) ≤ 100000 := by omega
  have HNF := Lib.hid (fun (PA : Option Addr) (pc : Nat) (L : List Part) (W : World) (hp : Parts W W.heap.size PA 4 L) (hj : joinP L = J) (hW : Below w.heap.size w W) => nfront_ok 1 0 (by omega) (by omega) (some ⟨b, off + 40, none⟩) KN (c - 40) R PA 4 pc L W (by omega) (by omega) (by omega) (by omega) (by rw [hj, hJl]; omega) (HSr.out W hW) hp (by rw [hj]; exact hF))
  clear HSr hF hJl hrl
  generalize hD : R.drop 8 = D at *
  clear hD
  go_enter Try.func41, Try.ntmps41
  go_wp2_with fail
  refine HP.out.mono ?_
  rintro e w1 ⟨rfl, hb1⟩
  have b2 : Below w.heap.size w (w1.alloc (.cells M 42)) := hb1.alloc hb1.size _
  have k2 : Blk (w1.alloc (.cells M 42)) w1.heap.size 42 M := blk_new _ _ _
  generalize hg1 : w1.heap.size = g1 at *
  have c1 := (k2.cellA 1).trans m1
  have c2 := (k2.cellA 2).trans m2
  have c8 := (k2.cellA 8).trans m8
  go_wp2_with (first
      | (refine wpList_allocStore (cs := M) rfl rfl 42 ?ho (.tmp 4) (.tmp 9) ?ho2 Try.zeroHead ?hz ?hx ?hy ?hn ?h1 ?_
         case ho => with_reducible rfl
         case ho2 => rfl
         case hz => exact zH_size
         case hx => rfl
         case hy => rfl
         case hn => exact hsz
         case h1 => exact o1
         rw [hg1])
        | fail)
  generalize w1.alloc (.cells M 42) = W4 at *
  have qk : Below w.heap.size w W4.drew ∧ Blk W4.drew g1 42 M := ⟨b2.drew, k2⟩
  clear b2 k2 c1 c2 c8
  refine wp_region_held_drew (S := fun W => Below w.heap.size w W ∧ Blk W g1 42 M) (by kernel_rfl) qk ?_
  intro hS
  refine wpAnyH_take (i := 0) (oi := ?o42) (v := ?vo42) ?hio42 (by kernel_rfl) (by kernel_rfl) (by kernel_rfl) ?hQo42 ?hyo42 hS ?_
  case hio42 => (simp only [List.getElem?_toArray, List.getElem?_cons_succ, List.getElem?_cons_zero]; rfl)
  case hQo42 => exact fun _ _ _ h => h
  case hyo42 =>
    refine Or.inl ⟨by rfl, ?_⟩
    intro W hW
    go_simp
    first | done | with_reducible rfl
  try simp only [Act.put, List.setIfInBounds_toArray, List.set_cons_zero, List.set_cons_succ]
  refine wpAnyH_take (i := 1) (oi := ?o43) (v := ?vo43) ?hio43 (by kernel_rfl) (by kernel_rfl) (by kernel_rfl) ?hQo43 ?hyo43 hS ?_
  case hio43 => (simp only [List.getElem?_toArray, List.getElem?_cons_succ, List.getElem?_cons_zero]; rfl)
  case hQo43 => exact fun _ _ _ h => h
  case hyo43 =>
    refine Or.inl ⟨by rfl, ?_⟩
    intro W hW
    go_simp
    first | done | with_reducible rfl
  try simp only [Act.put, List.setIfInBounds_toArray, List.set_cons_zero, List.set_cons_succ]
  refine wpAnyH_take (i := 2) (oi := ?o44) (v := ?vo44) ?hio44 (by kernel_rfl) (by kernel_rfl) (by kernel_rfl) ?hQo44 ?hyo44 hS ?_
  case hio44 => (simp only [List.getElem?_toArray, List.getElem?_cons_succ, List.getElem?_cons_zero]; rfl)
  case hQo44 => exact fun _ _ _ h => h
  case hyo44 =>
    refine Or.inl ⟨by rfl, ?_⟩
    intro W hW
    have c1 := (hW.2.cellA 1).trans m1
    go_simp
    first | done | with_reducible rfl
  try simp only [Act.put, List.setIfInBounds_toArray, List.set_cons_zero, List.set_cons_succ]
  refine wpAnyH_take (i := 3) (oi := ?o45) (v := ?vo45) ?hio45 (by kernel_rfl) (by kernel_rfl) (by kernel_rfl) ?hQo45 ?hyo45 hS ?_
  case hio45 => (simp only [List.getElem?_toArray, List.getElem?_cons_succ, List.getElem?_cons_zero]; rfl)
  case hQo45 => exact fun _ _ _ h => h
  case hyo45 =>
    refine Or.inl ⟨by rfl, ?_⟩
    intro W hW
    go_simp
    first | done | with_reducible rfl
  try simp only [Act.put, List.setIfInBounds_toArray, List.set_cons_zero, List.set_cons_succ]
  refine wpAnyH_take (i := 4) (oi := ?o46) (v := ?vo46) ?hio46 (by kernel_rfl) (by kernel_rfl) (by kernel_rfl) ?hQo46 ?hyo46 hS ?_
  case hio46 => (simp only [List.getElem?_toArray, List.getElem?_cons_succ, List.getElem?_cons_zero]; rfl)
  case hQo46 => exact fun _ _ _ h => h
  case hyo46 =>
    refine Or.inl ⟨by rfl, ?_⟩
    intro W hW
    have c2 := (hW.2.cellA 2).trans m2
    go_simp
    first | done | with_reducible rfl
  try simp only [Act.put, List.setIfInBounds_toArray, List.set_cons_zero, List.set_cons_succ]
  refine wpAnyH_take (i := 5) (oi := ?o47) (v := ?vo47) ?hio47 (by kernel_rfl) (by kernel_rfl) (by kernel_rfl) ?hQo47 ?hyo47 hS ?_
  case hio47 => (simp only [List.getElem?_toArray, List.getElem?_cons_succ, List.getElem?_cons_zero]; rfl)
  case hQo47 => exact fun _ _ _ h => h
  case hyo47 =>
    refine Or.inl ⟨by rfl, ?_⟩
    intro W hW
    go_simp
    first | done | with_reducible rfl
  try simp only [Act.put, List.setIfInBounds_toArray, List.set_cons_zero, List.set_cons_succ]
  refine wpAnyH_take (i := 6) (oi := ?o48) (v := .agg M) ?hio48 (by kernel_rfl) (by kernel_rfl) (by kernel_rfl) ?hQo48 ?hyo48 hS ?_
  case hio48 => (simp only [List.getElem?_toArray, List.getElem?_cons_succ, List.getElem?_cons_zero]; rfl)
  case hQo48 => exact fun _ _ _ h => h
  case hyo48 => exact yieldsIf_load_mid (by rfl) 42 (.tmp 4) rfl g1 0 rfl M.toList _ (fun W hW => Blk.range0 hW.2) Try.underlying42 rfl (by simpa using ms)
  try simp only [Act.put, List.setIfInBounds_toArray, List.set_cons_zero, List.set_cons_succ]
  refine wpAnyH_take (i := 7) (oi := ?o49) (v := ?vo49) ?hio49 (by kernel_rfl) (by kernel_rfl) (by kernel_rfl) ?hQo49 ?hyo49 hS ?_
  case hio49 => (simp only [List.getElem?_toArray, List.getElem?_cons_succ, List.getElem?_cons_zero]; rfl)
  case hQo49 => exact fun _ _ _ h => h
  case hyo49 =>
    refine Or.inl ⟨by rfl, ?_⟩
    intro W hW
    go_simp
    first | done | with_reducible rfl
  try simp only [Act.put, List.setIfInBounds_toArray, List.set_cons_zero, List.set_cons_succ]
  refine wpAnyH_take (i := 8) (oi := ?o50) (v := ?vo50) ?hio50 (by kernel_rfl) (by kernel_rfl) (by kernel_rfl) ?hQo50 ?hyo50 hS ?_
  case hio50 => (simp only [List.getElem?_toArray, List.getElem?_cons_succ, List.getElem?_cons_zero]; rfl)
  case hQo50 => exact fun _ _ _ h => h
  case hyo50 =>
    refine Or.inl ⟨by rfl, ?_⟩
    intro W hW
    have c2 := (hW.2.cellA 2).trans m2
    go_simp
    first | done | with_reducible rfl
  try simp only [Act.put, List.setIfInBounds_toArray, List.set_cons_zero, List.set_cons_succ]
  refine wpAnyH_take (i := 9) (oi := ?o51) (v := ?vo51) ?hio51 (by kernel_rfl) (by kernel_rfl) (by kernel_rfl) ?hQo51 ?hyo51 hS ?_
  case hio51 => (simp only [List.getElem?_toArray, List.getElem?_cons_succ, List.getElem?_cons_zero]; rfl)
  case hQo51 => exact fun _ _ _ h => h
  case hyo51 =>
    refine Or.inl ⟨by rfl, ?_⟩
    intro W hW
    go_simp
    first | done | with_reducible rfl
  try simp only [Act.put, List.setIfInBounds_toArray, List.set_cons_zero, List.set_cons_succ]
  refine wpAnyH_take (i := 10) (oi := ?o52) (v := ?vo52) ?hio52 (by kernel_rfl) (by kernel_rfl) (by kernel_rfl) ?hQo52 ?hyo52 hS ?_
  case hio52 => (simp only [List.getElem?_toArray, List.getElem?_cons_succ, List.getElem?_cons_zero]; rfl)
  case hQo52 => exact fun _ _ _ h => h
  case hyo52 =>
    refine Or.inl ⟨by rfl, ?_⟩
    intro W hW
    have c1 := (hW.2.cellA 1).trans m1
    go_simp
    first | done | with_reducible rfl
  try simp only [Act.put, List.setIfInBounds_toArray, List.set_cons_zero, List.set_cons_succ]
  refine wpAnyH_take (i := 11) (oi := ?o53) (v := .int .i64 (KN : Int)) ?hio53 (by kernel_rfl) (by kernel_rfl) (by kernel_rfl) ?hQo53 ?hyo53 hS ?_
  case hio53 => (simp only [List.getElem?_toArray, List.getElem?_cons_succ, List.getElem?_cons_zero]; rfl)
  case hQo53 => exact fun _ _ _ h => h
  case hyo53 => exact Or.inl ⟨by rfl, fun W hW => by go_simp⟩
  try simp only [Act.put, List.setIfInBounds_toArray, List.set_cons_zero, List.set_cons_succ]
  refine wpAnyH_ready (rs := [12]) (by kernel_rfl) (by simp) ?_
  refine AllReadyH.cons (o := ?o54) ?hoo54 (fun K hK => ?ho54) AllReadyH.nil
  case hoo54 => (simp only [List.getElem?_toArray, List.getElem?_cons_succ, List.getElem?_cons_zero]; rfl)
  case ho54 =>
    go_simp
    go_at_call 85
    refine (HA.out _).mono ?_
    rintro e w5 ⟨A5, c5, L5, rfl, s5, j5, hb5⟩
    have b5 := Below.on qk.1 qk.1.size hb5
    have k5 := qk.2.on hb5
    refine hK.out _ _ ⟨b5, k5⟩ (fun _ => ?_)
    clear hK K hb5
    try simp only [Act.put, List.setIfInBounds_toArray, List.set_cons_zero, List.set_cons_succ]
    refine wpAnyH_ready (rs := [13]) (by kernel_rfl) (by simp) ?_
    refine AllReadyH.cons (o := ?o41) ?hoo41 (fun K hK => ?ho41) AllReadyH.nil
    case hoo41 => (simp only [List.getElem?_toArray, List.getElem?_cons_succ, List.getElem?_cons_zero]; rfl)
    case ho41 =>
      go_simp
      go_at_call 84
      refine (HNF.out A5 c5 L5 _ s5 j5 b5).mono ?_
      rintro e w6 ⟨v6, rfl, ho6, hb6⟩
      have b6 := Below.on b5 b5.size hb6
      have o6 := ho6.base (b' := w.heap.size) b5.size
      have q6 : Below w.heap.size w w6 ∧ Blk w6 g1 42 M := ⟨b6, k5.on hb6⟩
      refine hK.out _ _ q6 (fun _ => ?_)
      clear hK K hb6
      try simp only [Act.put, List.setIfInBounds_toArray, List.set_cons_zero, List.set_cons_succ]
      refine wpAnyH_take (i := 14) (oi := ?o37) (v := v6) ?hio37 (by kernel_rfl) (by kernel_rfl) (by kernel_rfl) ?hQo37 ?hyo37 q6 ?_
      case hio37 => (simp only [List.getElem?_toArray, List.getElem?_cons_succ, List.getElem?_cons_zero]; rfl)
      case hQo37 => exact fun _ _ _ h => h
      case hyo37 => exact Or.inl ⟨by rfl, fun W hW => by go_simp⟩
      try simp only [Act.put, List.setIfInBounds_toArray, List.set_cons_zero, List.set_cons_succ]
      refine wpAnyH_take (i := 15) (oi := ?o38) (v := .int .i64 0) ?hio38 (by kernel_rfl) (by kernel_rfl) (by kernel_rfl) ?hQo38 ?hyo38 q6 ?_
      case hio38 => (simp only [List.getElem?_toArray, List.getElem?_cons_succ, List.getElem?_cons_zero]; rfl)
      case hQo38 => exact fun _ _ _ h => h
      case hyo38 => exact Or.inl ⟨by rfl, fun W hW => by go_simp⟩
      try simp only [Act.put, List.setIfInBounds_toArray, List.set_cons_zero, List.set_cons_succ]
      refine wpAnyH_take (i := 16) (oi := ?o39) (v := v6) ?hio39 (by kernel_rfl) (by kernel_rfl) (by kernel_rfl) ?hQo39 ?hyo39 q6 ?_
      case hio39 => (simp only [List.getElem?_toArray, List.getElem?_cons_succ, List.getElem?_cons_zero]; rfl)
      case hQo39 => exact fun _ _ _ h => h
      case hyo39 => exact Or.inl ⟨by rfl, fun W hW => by go_simp⟩
      try simp only [Act.put, List.setIfInBounds_toArray, List.set_cons_zero, List.set_cons_succ]
      refine wpAnyH_take (i := 17) (oi := ?o40) (v := .int .i64 0) ?hio40 (by kernel_rfl) (by kernel_rfl) (by kernel_rfl) ?hQo40 ?hyo40 q6 ?_
      case hio40 => (simp only [List.getElem?_toArray, List.getElem?_cons_succ, List.getElem?_cons_zero]; rfl)
      case hQo40 => exact fun _ _ _ h => h
      case hyo40 => exact Or.inl ⟨by rfl, fun W hW => by go_simp⟩
      try simp only [Act.put, List.setIfInBounds_toArray, List.set_cons_zero, List.set_cons_succ]
      refine wpAnyH_done (by kernel_rfl) ?_ _
      go_wp2
      go_ret2
      exact ⟨v6, rfl, o6, b6⟩

end Go.Proofs.Ytkokgoodpibboaa
