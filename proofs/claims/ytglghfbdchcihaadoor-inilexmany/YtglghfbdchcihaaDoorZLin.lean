
/- Out of the texts LinN, LinA, LinB. -/
import Derived.WalkKit
import Derived.Lib.Bytealg
import Derived.Test.YtglghfbdchcihaaDoorGen
import Derived.Deep.QuietTactic
import Derived.BigQuiet
import Derived.WalkSpells
import Derived.WalkLawsBesides
import Derived.Outline
import Derived.Laws.StandIn
/- LinN -/
namespace Go.Proofs.YtglghfbdchcihaaDoor.Lin

/-- What stands between the separators. -/
def parts (sep : UInt8) : List UInt8 → List (List UInt8)
  | [] => [[]]
  | c :: t => if c = sep then [] :: parts sep t else (match parts sep t with | [] => [[c]] | h :: r => (c :: h) :: r)

theorem parts_ne (sep : UInt8) (l : List UInt8) : ∃ h r, parts sep l = h :: r := by
  cases l with
  | nil => exact ⟨_, _, rfl⟩
  | cons c t =>
    unfold parts
    split
    · exact ⟨_, _, rfl⟩
    · split <;> exact ⟨_, _, rfl⟩

theorem parts_no (sep : UInt8) (l : List UInt8) (h : sep ∉ l) : parts sep l = [l] := by
  induction l with
  | nil => rfl
  | cons c t ih =>
    simp only [List.mem_cons, not_or] at h
    unfold parts
    rw [if_neg (fun e => h.1 e.symm), ih h.2]

theorem parts_yes (sep : UInt8) (a b : List UInt8) (h : sep ∉ a) : parts sep (a ++ sep :: b) = a :: parts sep b := by
  induction a with
  | nil => simp [parts]
  | cons c t ih =>
    simp only [List.mem_cons, not_or] at h
    rw [List.cons_append, parts, if_neg (fun e => h.1 e.symm), ih h.2]

theorem parts_len (sep : UInt8) (l : List UInt8) : (parts sep l).length ≤ l.length + 1 := by
  induction l with
  | nil => simp [parts]
  | cons c t ih =>
    unfold parts
    split
    · simp; exact ih
    · obtain ⟨h, r, e⟩ := parts_ne sep t
      rw [e] at ih ⊢
      simp at *
      omega

/-- A text has a separator, or none. -/
theorem cut_cases (sep : UInt8) (l : List UInt8) : sep ∉ l ∨ ∃ a b, l = a ++ sep :: b ∧ sep ∉ a := by
  induction l with
  | nil => exact .inl (by simp)
  | cons c t ih =>
    by_cases h : c = sep
    · exact .inr ⟨[], t, by rw [h]; rfl, by simp⟩
    · rcases ih with h' | ⟨a, b, e, h'⟩
      · refine .inl ?_
        simp only [List.mem_cons, not_or]
        exact ⟨fun x => h x.symm, h'⟩
      · refine .inr ⟨c :: a, b, by rw [e]; rfl, ?_⟩
        simp only [List.mem_cons, not_or]
        exact ⟨fun x => h x.symm, h'⟩

theorem index_no (sep : UInt8) (l : List UInt8) (h : sep ∉ l) : Lib.indexByte l sep = -1 := by
  induction l with
  | nil => rfl
  | cons c t ih =>
    simp only [List.mem_cons, not_or] at h
    have hc : (c == sep) = false := by rw [beq_eq_false_iff_ne]; exact fun e => h.1 e.symm
    simp [Lib.indexByte, hc, ih h.2]

theorem index_yes (sep : UInt8) (a b : List UInt8) (h : sep ∉ a) : Lib.indexByte (a ++ sep :: b) sep = (a.length : Int) := by
  induction a with
  | nil => simp [Lib.indexByte]
  | cons c t ih =>
    simp only [List.mem_cons, not_or] at h
    have hc : (c == sep) = false := by rw [beq_eq_false_iff_ne]; exact fun e => h.1 e.symm
    have hne : ((t.length : Int) == -1) = false := by rw [beq_eq_false_iff_ne]; omega
    rw [List.cons_append]
    simp only [Lib.indexByte, hc, ih h.2, hne]
    simp

end Go.Proofs.YtglghfbdchcihaaDoor.Lin

/- LinA -/
namespace Go.Proofs.YtglghfbdchcihaaDoor.Lin
open Go.RowKit
set_option maxRecDepth 100000

theorem run_index (s : ByteArray) (c : Int) (w : World) :
    (callFunc 71 #[.string s, .int .u8 c]).run Tryd.prog w = .ok (.value (.int .i64 (Lib.indexByte s.data.toList c.toNat.toUInt8))) w := by
  rw [run_callFunc_indexByte Tryd.func71 (by kernel_rfl) (by kernel_rfl) (by kernel_rfl) (by kernel_rfl), Lib.run_indexByteString]
  rfl

theorem indexByte_any (s : ByteArray) (c : UInt8) (w : World) :
    Calls Tryd.prog 34 #[.string s, .int .u8 (c.toNat : Int)] w fun e w' => e = .returned (.int .i64 (Lib.indexByte s.data.toList c)) ∧ w = w' := by
  have hi := run_index s (c.toNat : Int) w
  rw [show (c.toNat : Int).toNat.toUInt8 = c by simp] at hi
  go_enter Tryd.func34, Tryd.ntmps34
  go_wp2
  go_ret
  exact ⟨rfl, rfl⟩

theorem cut_no (l : List UInt8) (sep : UInt8) (w : World) (h : sep ∉ l) :
    Calls Tryd.prog 24 #[sv l, .int .u8 (sep.toNat : Int)] w fun e w' => e = .returned (.tuple #[sv l, sv [], .bool false]) ∧ w = w' := by
  have H := Lib.hid (index_no sep l h)
  go_enter Tryd.func24, Tryd.ntmps24
  go_wp2_with fail
  refine (indexByte_any _ _ _).mono ?_; rintro e w1 ⟨rfl, rfl⟩
  rw [H.out]
  go_wp2
  go_ret3
  exact ⟨rfl, rfl⟩

theorem cut_walk (s : ByteArray) (k : Nat) (sep : UInt8) (w : World) (hi : Lib.indexByte s.data.toList sep = (k : Int)) (hk : k < s.size) (hn : s.size ≤ 1000000000) :
    Calls Tryd.prog 24 #[.string s, .int .u8 (sep.toNat : Int)] w fun e w' => e = .returned (.tuple #[.string (s.extract 0 k), .string (s.extract (k + 1) s.size), .bool true]) ∧ Below w.heap.size w w' := by
  have H := Lib.hid hi
  clear hi
  have d0 : decide ((k : Int) < 0) = false := by simp
  have hw : IntKind.i64.wrap ((k : Int) + 1) = (k : Int) + 1 := IntWalk.i64_in _ (by omega)
  have h0 : (0 : Int) ≤ (k : Int) + 1 := by omega
  have ht : ((k : Int) + 1).toNat = k + 1 := by omega
  have hk1 : (k : Int) ≤ (s.size : Int) := by omega
  have hk2 : (k : Int) + 1 ≤ (s.size : Int) := by omega
  go_enter Tryd.func24, Tryd.ntmps24
  go_wp2_with fail
  refine (indexByte_any _ _ _).mono ?_; rintro e w1 ⟨rfl, rfl⟩
  rw [H.out]
  go_wp2
  go_quiet (fail)
  go_wp2
  go_ret3
  exact ⟨rfl, below_draw (Below.refl _ _) _⟩

theorem cut_yes (a b : List UInt8) (sep : UInt8) (w : World) (h : sep ∉ a) (hn : (a ++ sep :: b).length ≤ 1000000000) :
    Calls Tryd.prog 24 #[sv (a ++ sep :: b), .int .u8 (sep.toNat : Int)] w fun e w' => e = .returned (.tuple #[sv a, sv b, .bool true]) ∧ Below w.heap.size w w' := by
  have Ha : (ByteArray.mk ⟨a ++ sep :: b⟩).extract 0 a.length = ⟨⟨a⟩⟩ := by rw [text_cut]; simp
  have Hb : (ByteArray.mk ⟨a ++ sep :: b⟩).extract (a.length + 1) (ByteArray.mk ⟨a ++ sep :: b⟩).size = ⟨⟨b⟩⟩ := by
    have e : List.take (ByteArray.mk ⟨a ++ sep :: b⟩).size (a ++ sep :: b) = a ++ sep :: b := List.take_of_length_le (Nat.le_refl _)
    rw [text_cut, e, show a ++ sep :: b = (a ++ [sep]) ++ b by simp, show a.length + 1 = (a ++ [sep]).length by simp, List.drop_left]
  have := cut_walk ⟨⟨a ++ sep :: b⟩⟩ a.length sep w (index_yes sep a b h) (by show a.length < (a ++ sep :: b).length; simp) hn
  rw [Ha, Hb] at this
  exact this

/-- What a cut comes to, whether there is a separator or not. -/
theorem cut_any (l : List UInt8) (sep : UInt8) (hn : l.length ≤ 1000000) : ∃ (a b : List UInt8) (more : Bool), (parts sep l = a :: if more then parts sep b else []) ∧ (more = true → b.length < l.length) ∧ b.length ≤ l.length ∧
      ∀ W : World, Calls Tryd.prog 24 #[sv l, .int .u8 (sep.toNat : Int)] W fun e w' => e = .returned (.tuple #[sv a, sv b, .bool more]) ∧ Below W.heap.size W w' := by
  rcases cut_cases sep l with h | ⟨a, b, rfl, h⟩
  · exact ⟨l, [], false, by rw [parts_no sep l h]; rfl, (fun h => by cases h), by simp, fun W => (cut_no l sep W h).mono fun _ _ ⟨he, hw⟩ => ⟨he, hw ▸ Below.refl _ _⟩⟩
  · exact ⟨a, b, true, by rw [parts_yes sep a b h]; rfl, (fun _ => by simp; omega), by simp; omega, fun W => cut_yes a b sep W h (by omega)⟩

/-- How much is left to be cut. -/
def leftOf : Value → Value → Nat
  | .string s, .bool true => s.size + 1
  | _, _ => 0

theorem parts_any (l : List UInt8) (sep : UInt8) (w : World) (hn : l.length ≤ 1000000) :
    Calls Tryd.prog 23 #[sv l, .int .u8 (sep.toNat : Int)] w fun e w' => (∃ v, e = .returned v ∧ OwnS w' w.heap.size v (parts sep l).length (parts sep l)) ∧ Below w.heap.size w w' := by
  have hpl := parts_len sep l
  obtain ⟨a0, b0, m0, hp0, hb0, hb0', hc0⟩ := cut_any l sep hn
  have H0 := Lib.hid hc0
  have HP0 := Lib.hid hp0
  have Hpl := Lib.hid hpl
  clear hc0 hp0 hb0 hpl
  go_enter Tryd.func23, Tryd.ntmps23
  go_wp2_with fail
  refine (H0.out _).mono ?_; rintro e w1 ⟨rfl, hb1⟩
  go_wp2_with fail
  go_loopw [5, 6, 7, 8] (fun v x y z wr => ∃ (done : List (List UInt8)) (a b : List UInt8) (more : Bool), x = sv a ∧ y = sv b ∧ z = .bool more ∧
      Hid (parts sep l = done ++ a :: if more then parts sep b else []) ∧ b.length ≤ l.length ∧ OwnS wr w.heap.size v done.length done ∧ Below w.heap.size w wr)
    (fun _ _ y z _ => leftOf y z)
  case atStart => exact ⟨[], a0, b0, m0, rfl, rfl, rfl, HP0.out, hb0', World.ownsRow_nil _ _ _ _, hb1⟩
  case round =>
    clear hb1
    obtain ⟨done, a, b, more, rfl, rfl, rfl, HP, hbl, hown, hbel⟩ := hrel
    have hdl : done.length + 1 ≤ 1000001 := by
      have h1 := Hpl.out
      rw [HP.out] at h1
      simp at h1
      omega
    have hsz := hbel.size
    cases more with
    | false =>
      go_wp2_with (at_builtin; refine wpList_apps _ rfl _ _ rfl w.heap.size _ _ _ rfl (hown.alloc _) ⟨wr.heap.size, 0, none⟩ 1 a rfl (one_new _ _ _ _ rfl) (by omega) (by simp; omega) ?_; intro v' w2 hown' hgrow)
      have hb1 : Below w.heap.size w w2 := by
        refine Below.grown ?_ hgrow ?_ (fun g hg => (hown.lt g hg).1)
        · exact hbel.alloc hsz _
        · simp; omega
      clear hgrow
      go_wp2
      go_ret
      have hp := HP.out
      simp only [Bool.false_eq_true, if_false] at hp
      exact ⟨⟨_, rfl, by rw [hp]; simpa using hown'⟩, hb1⟩
    | true =>
      obtain ⟨a2, b2, m2, hp2, hb2, hb2', hc2⟩ := cut_any b sep (by omega)
      have H2 := Lib.hid hc2
      have HP2 := Lib.hid hp2
      have HB2 := Lib.hid hb2
      clear hc2 hp2 hb2
      go_wp2_with (at_builtin; refine wpList_apps _ rfl _ _ rfl w.heap.size _ _ _ rfl (hown.alloc _) ⟨wr.heap.size, 0, none⟩ 1 a rfl (one_new _ _ _ _ rfl) (by omega) (by simp; omega) ?_; intro v' w2 hown' hgrow)
      have hb1 : Below w.heap.size w w2 := by
        refine Below.grown ?_ hgrow ?_ (fun g hg => (hown.lt g hg).1)
        · exact hbel.alloc hsz _
        · simp; omega
      clear hgrow
      go_wp2_with fail
      refine (H2.out _).mono ?_; rintro e w3 ⟨rfl, hb3⟩
      go_wp2
      go_roundw
      case rel =>
        refine ⟨done ++ [a], a2, b2, m2, rfl, rfl, rfl, ?_, by omega, ?_, Below.on hb1 hb1.size hb3⟩
        · have hp := HP.out
          simp only [if_true] at hp
          rw [hp, HP2.out]
          show _ = _
          simp
        · have e : (done ++ [a]).length = done.length + 1 := by simp
          have h3 : w2.grownBy w3 none := ⟨hb3.os, hb3.tape, hb3.output, hb3.size, fun k hk _ => hb3.block k hk⟩
          rw [e]
          exact hown'.kept h3 (by cases hv : v'.ownBlock <;> simp)
      case measure =>
        have hm := HB2.out
        cases m2 with
        | false => simp [leftOf]
        | true => have := hm rfl; simp [leftOf]; exact this

end Go.Proofs.YtglghfbdchcihaaDoor.Lin

/- LinB -/
namespace Go.Proofs.YtglghfbdchcihaaDoor.Lin
open Go.RowKit
set_option maxRecDepth 100000

theorem byte_at (s : ByteArray) (i : Nat) (c : UInt8) (h : s.data.toList[i]? = some c) : ∀ h' : i < s.size, s[i]'h' = c := by
  intro h'
  obtain ⟨_, e⟩ := List.getElem?_eq_some_iff.1 h
  exact e
theorem byte_ne {x c : UInt8} (h : x ≠ c) : ((x.toNat : Int) == (c.toNat : Int)) = false := by
  rw [beq_eq_false_iff_ne]; exact fun e => h (UInt8.toNat_inj.1 (Int.ofNat.inj e))

/-- The state of the reference's loop: what is done, and where the part that is open began. -/
def Open (sep : UInt8) (l : List UInt8) (fr k : Nat) (done : List (List UInt8)) : Prop :=
  parts sep l = done ++ parts sep (l.drop fr) ∧ sep ∉ (l.take k).drop fr

theorem Open.start (sep : UInt8) (l : List UInt8) : Open sep l 0 0 [] := ⟨rfl, by simp⟩

theorem Open.skip {sep : UInt8} {l : List UInt8} {fr k : Nat} {done : List (List UInt8)} (h : Open sep l fr k done) (c : UInt8) (hc : l[k]? = some c) (hne : c ≠ sep) : Open sep l fr (k + 1) done := by
  refine ⟨h.1, ?_⟩
  obtain ⟨hk, rfl⟩ := List.getElem?_eq_some_iff.1 hc
  rw [List.take_succ_eq_append_getElem hk]
  intro hm
  have hm2 := List.mem_of_mem_drop hm
  by_cases hf : fr ≤ (l.take k).length
  · rw [List.drop_append_of_le_length hf] at hm
    rcases List.mem_append.1 hm with h1 | h1
    · exact h.2 h1
    · simp at h1; exact hne h1.symm
  · rw [List.drop_append, List.drop_of_length_le (by omega), List.nil_append] at hm
    have := List.mem_of_mem_drop hm
    simp at this
    exact hne this.symm

theorem Open.hit {sep : UInt8} {l : List UInt8} {fr k : Nat} {done : List (List UInt8)} (h : Open sep l fr k done) (hf : fr ≤ k) (hc : l[k]? = some sep) :
    Open sep l (k + 1) (k + 1) (done ++ [(l.take k).drop fr]) := by
  obtain ⟨hk, e⟩ := List.getElem?_eq_some_iff.1 hc
  refine ⟨?_, by rw [List.drop_of_length_le (by simp; omega)]; simp⟩
  have hs : l.drop fr = (l.take k).drop fr ++ sep :: l.drop (k + 1) := by
    have h1 : l = l.take k ++ sep :: l.drop (k + 1) := by
      rw [← e, ← List.drop_eq_getElem_cons hk, List.take_append_drop]
    conv => lhs; rw [h1]
    rw [List.drop_append_of_le_length (by simp; omega)]
  rw [h.1, hs, parts_yes sep _ _ h.2]
  simp

theorem Open.last {sep : UInt8} {l : List UInt8} {fr : Nat} {done : List (List UInt8)} (h : Open sep l fr l.length done) : parts sep l = done ++ [l.drop fr] := by
  have h2 := h.2
  rw [List.take_of_length_le (Nat.le_refl _)] at h2
  rw [h.1, parts_no sep _ h2]

theorem refParts_any (l : List UInt8) (sep : UInt8) (w : World) (hn : l.length ≤ 1000000) :
    Calls Tryd.prog 28 #[sv l, .int .u8 (sep.toNat : Int)] w fun e w' => (∃ v, e = .returned v ∧ OwnS w' w.heap.size v (parts sep l).length (parts sep l)) ∧ Below w.heap.size w w' := by
  have Hpl := Lib.hid (parts_len sep l)
  have Hcut := Lib.hid (text_cut l)
  have hsz : (ByteArray.mk ⟨l⟩).size = l.length := rfl
  have Hat := Lib.hid (fun i c => byte_at (ByteArray.mk ⟨l⟩) i c)
  have HL := Lib.hid (show (ByteArray.mk ⟨l⟩).data.toList = l from rfl)
  unfold sv
  generalize ByteArray.mk ⟨l⟩ = s at *
  generalize hN : l.length = N at *
  have HN := Lib.hid hN
  clear hN
  go_enter Tryd.func28, Tryd.ntmps28
  go_wp2
  go_loopw [5, 6, 7] (fun x v i wr => ∃ (fr k : Nat) (done : List (List UInt8)), fr ≤ k ∧ k ≤ N ∧ x = .int .i64 (fr : Int) ∧ i = .int .i64 (k : Int) ∧ Open sep l fr k done ∧ OwnS wr w.heap.size v done.length done ∧ Below w.heap.size w wr)
    (fun _ _ i _ => N - (intOf i).toNat)
  case atStart => exact ⟨0, 0, [], Nat.le_refl _, Nat.zero_le _, rfl, rfl, Open.start sep l, World.ownsRow_nil _ _ _ _, Below.refl _ _⟩
  case round =>
    obtain ⟨fr, k, done, hfk, hkN, rfl, rfl, hop, hown, hbel⟩ := hrel
    have Hop := Lib.hid hop
    have hdl : done.length ≤ 1000001 := by
      have h1 := Hpl.out
      rw [hop.1] at h1
      simp at h1
      omega
    have hsz2 := hbel.size
    clear hop
    by_cases hlt : k < N
    · obtain ⟨c, hc⟩ : ∃ c, l[k]? = some c := ⟨l[k]'(by rw [HN.out]; exact hlt), List.getElem?_eq_getElem _⟩
      have Hc := Lib.hid hc
      have ha := Hat.out k c (by rw [HL.out]; exact hc)
      clear hc
      by_cases hcs : c = sep
      · subst hcs
        have HE := Lib.hid (Hcut.out fr k)
        go_wp2_with (at_builtin; refine wpList_apps _ rfl _ _ rfl w.heap.size _ _ _ rfl (hown.alloc _) ⟨wr.heap.size, 0, none⟩ 1 ((l.take k).drop fr) rfl (by rw [HE.out]; exact one_new _ _ _ _ rfl) (by omega) (by simp; omega) ?_; intro v' w2 hown' hgrow)
        have hb1 : Below w.heap.size w w2 := by
          refine Below.grown ?_ hgrow ?_ (fun g hg => (hown.lt g hg).1)
          · exact hbel.alloc hsz2 _
          · simp; omega
        clear hgrow
        go_wp2
        go_roundw
        case rel => exact ⟨k + 1, k + 1, done ++ [(l.take k).drop fr], by omega, by omega, by go_num, by go_num, Hop.out.hit hfk Hc.out, by simpa using hown', hb1⟩
        case measure => simp [intOf] <;> omega
      · have hne := byte_ne hcs
        go_wp2
        go_roundw
        case rel => exact ⟨fr, k + 1, done, by omega, by omega, rfl, by go_num, Hop.out.skip c Hc.out hcs, hown, hbel⟩
        case measure => simp [intOf] <;> omega
    · obtain rfl : k = N := by omega
      have HE := Lib.hid (show s.extract fr k = ⟨⟨l.drop fr⟩⟩ by rw [Hcut.out, List.take_of_length_le (Nat.le_of_eq HN.out)])
      have HF := Lib.hid (Open.last (fr := fr) (done := done) (sep := sep) (l := l) (by rw [HN.out]; exact Hop.out))
      go_wp2_with (at_builtin; refine wpList_apps _ rfl _ _ rfl w.heap.size _ _ _ rfl (hown.alloc _) ⟨wr.heap.size, 0, none⟩ 1 (l.drop fr) rfl (by rw [HE.out]; exact one_new _ _ _ _ rfl) (by omega) (by simp; omega) ?_; intro v' w2 hown' hgrow)
      have hb1 : Below w.heap.size w w2 := by
        refine Below.grown ?_ hgrow ?_ (fun g hg => (hown.lt g hg).1)
        · exact hbel.alloc hsz2 _
        · simp; omega
      clear hgrow
      go_wp2
      go_ret
      exact ⟨⟨_, rfl, by rw [HF.out]; simpa using hown'⟩, hb1⟩

end Go.Proofs.YtglghfbdchcihaaDoor.Lin
