
/- Contracts: ref06.Parts, Same; lines.Loose, ref06.Loose, lines.Split. -/
import Derived.Test.YtccidoigjdbepaaDoorLinA
namespace Go.Proofs.YtccidoigjdbepaaDoor.Lin
open Go.RowKit
set_option maxRecDepth 100000

theorem byte_at (s : ByteArray) (i : Nat) (c : UInt8) (h : s.data.toList[i]? = some c) : ∀ h' : i < s.size, s[i]'h' = c := by
  intro h'
  obtain ⟨_, e⟩ := List.getElem?_eq_some_iff.1 h
  exact e
theorem byte_ne {x c : UInt8} (h : x ≠ c) : ((x.toNat : Int) == (c.toNat : Int)) = false := by
  rw [beq_eq_false_iff_ne]; exact fun e => h (UInt8.toNat_inj.1 (Int.ofNat.inj e))

/-- The state of the reference's loop: what is done, and where the part that is open began. -/
def Open (sep : UInt8) (l : List UInt8) (fr k : Nat) (done : List (List UInt8)) : Prop :=
  parts sep l = done ++ parts sep (l.drop fr) ∧ sep ∉ (l.take k).drop fr

theorem Open.start (sep : UInt8) (l : List UInt8) : Open sep l 0 0 [] := ⟨rfl, by simp⟩

theorem Open.skip {sep : UInt8} {l : List UInt8} {fr k : Nat} {done : List (List UInt8)} (h : Open sep l fr k done) (c : UInt8) (hc : l[k]? = some c) (hne : c ≠ sep) : Open sep l fr (k + 1) done := by
  refine ⟨h.1, ?_⟩
  obtain ⟨hk, rfl⟩ := List.getElem?_eq_some_iff.1 hc
  rw [List.take_succ_eq_append_getElem hk]
  intro hm
  have hm2 := List.mem_of_mem_drop hm
  by_cases hf : fr ≤ (l.take k).length
  · rw [List.drop_append_of_le_length hf] at hm
    rcases List.mem_append.1 hm with h1 | h1
    · exact h.2 h1
    · simp at h1; exact hne h1.symm
  · rw [List.drop_append, List.drop_of_length_le (by omega), List.nil_append] at hm
    have := List.mem_of_mem_drop hm
    simp at this
    exact hne this.symm

theorem Open.hit {sep : UInt8} {l : List UInt8} {fr k : Nat} {done : List (List UInt8)} (h : Open sep l fr k done) (hf : fr ≤ k) (hc : l[k]? = some sep) :
    Open sep l (k + 1) (k + 1) (done ++ [(l.take k).drop fr]) := by
  obtain ⟨hk, e⟩ := List.getElem?_eq_some_iff.1 hc
  refine ⟨?_, by rw [List.drop_of_length_le (by simp; omega)]; simp⟩
  have hs : l.drop fr = (l.take k).drop fr ++ sep :: l.drop (k + 1) := by
    have h1 : l = l.take k ++ sep :: l.drop (k + 1) := by
      rw [← e, ← List.drop_eq_getElem_cons hk, List.take_append_drop]
    conv => lhs; rw [h1]
    rw [List.drop_append_of_le_length (by simp; omega)]
  rw [h.1, hs, parts_yes sep _ _ h.2]
  simp

theorem Open.last {sep : UInt8} {l : List UInt8} {fr : Nat} {done : List (List UInt8)} (h : Open sep l fr l.length done) : parts sep l = done ++ [l.drop fr] := by
  have h2 := h.2
  rw [List.take_of_length_le (Nat.le_refl _)] at h2
  rw [h.1, parts_no sep _ h2]

theorem refParts_any (l : List UInt8) (sep : UInt8) (w : World) (hn : l.length ≤ 1000000) :
    Calls Tryd.prog 63 #[sv l, .int .u8 (sep.toNat : Int)] w fun e w' => (∃ v, e = .returned v ∧ OwnS w' w.heap.size v (parts sep l).length (parts sep l)) ∧ Below w.heap.size w w' := by
  have Hpl := Lib.hid (parts_len sep l)
  have Hcut := Lib.hid (text_cut l)
  have hsz : (ByteArray.mk ⟨l⟩).size = l.length := rfl
  have Hat := Lib.hid (fun i c => byte_at (ByteArray.mk ⟨l⟩) i c)
  have HL := Lib.hid (show (ByteArray.mk ⟨l⟩).data.toList = l from rfl)
  unfold sv
  generalize ByteArray.mk ⟨l⟩ = s at *
  generalize hN : l.length = N at *
  have HN := Lib.hid hN
  clear hN
  go_enter Tryd.func63, Tryd.ntmps63
  go_wp2
  go_loopw [5, 6, 7] (fun x v i wr => ∃ (fr k : Nat) (done : List (List UInt8)), fr ≤ k ∧ k ≤ N ∧ x = .int .i64 (fr : Int) ∧ i = .int .i64 (k : Int) ∧ Open sep l fr k done ∧ OwnS wr w.heap.size v done.length done ∧ Below w.heap.size w wr)
    (fun _ _ i _ => N - (intOf i).toNat)
  case atStart => exact ⟨0, 0, [], Nat.le_refl _, Nat.zero_le _, rfl, rfl, Open.start sep l, World.ownsRow_nil _ _ _ _, Below.refl _ _⟩
  case round =>
    obtain ⟨fr, k, done, hfk, hkN, rfl, rfl, hop, hown, hbel⟩ := hrel
    have Hop := Lib.hid hop
    have hdl : done.length ≤ 1000001 := by
      have h1 := Hpl.out
      rw [hop.1] at h1
      simp at h1
      omega
    have hsz2 := hbel.size
    clear hop
    by_cases hlt : k < N
    · obtain ⟨c, hc⟩ : ∃ c, l[k]? = some c := ⟨l[k]'(by rw [HN.out]; exact hlt), List.getElem?_eq_getElem _⟩
      have Hc := Lib.hid hc
      have ha := Hat.out k c (by rw [HL.out]; exact hc)
      clear hc
      by_cases hcs : c = sep
      · subst hcs
        have HE := Lib.hid (Hcut.out fr k)
        go_wp2_with (at_builtin; refine wpList_apps _ rfl _ _ rfl w.heap.size _ _ _ rfl (hown.alloc _) ⟨wr.heap.size, 0, none⟩ 1 ((l.take k).drop fr) rfl (by rw [HE.out]; exact one_new _ _ _ _ rfl) (by omega) (by simp; omega) ?_; intro v' w2 hown' hgrow)
        have hb1 : Below w.heap.size w w2 := by
          refine Below.grown ?_ hgrow ?_ (fun g hg => (hown.lt g hg).1)
          · exact hbel.alloc hsz2 _
          · simp; omega
        clear hgrow
        go_wp2
        go_roundw
        case rel => exact ⟨k + 1, k + 1, done ++ [(l.take k).drop fr], by omega, by omega, by go_num, by go_num, Hop.out.hit hfk Hc.out, by simpa using hown', hb1⟩
        case measure => simp [intOf] <;> omega
      · have hne := byte_ne hcs
        go_wp2
        go_roundw
        case rel => exact ⟨fr, k + 1, done, by omega, by omega, rfl, by go_num, Hop.out.skip c Hc.out hcs, hown, hbel⟩
        case measure => simp [intOf] <;> omega
    · obtain rfl : k = N := by omega
      have HE := Lib.hid (show s.extract fr k = ⟨⟨l.drop fr⟩⟩ by rw [Hcut.out, List.take_of_length_le (Nat.le_of_eq HN.out)])
      have HF := Lib.hid (Open.last (fr := fr) (done := done) (sep := sep) (l := l) (by rw [HN.out]; exact Hop.out))
      go_wp2_with (at_builtin; refine wpList_apps _ rfl _ _ rfl w.heap.size _ _ _ rfl (hown.alloc _) ⟨wr.heap.size, 0, none⟩ 1 (l.drop fr) rfl (by rw [HE.out]; exact one_new _ _ _ _ rfl) (by omega) (by simp; omega) ?_; intro v' w2 hown' hgrow)
      have hb1 : Below w.heap.size w w2 := by
        refine Below.grown ?_ hgrow ?_ (fun g hg => (hown.lt g hg).1)
        · exact hbel.alloc hsz2 _
        · simp; omega
      clear hgrow
      go_wp2
      go_ret
      exact ⟨⟨_, rfl, by rw [HF.out]; simpa using hown'⟩, hb1⟩

end Go.Proofs.YtccidoigjdbepaaDoor.Lin
