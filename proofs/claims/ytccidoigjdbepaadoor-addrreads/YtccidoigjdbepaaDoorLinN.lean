
/- Plain mathematics of layer 6: texts in parts. No program. -/
import Derived.WalkKit
import Derived.Lib.Bytealg
namespace Go.Proofs.YtccidoigjdbepaaDoor.Lin

/-- What stands between the separators. -/
def parts (sep : UInt8) : List UInt8 → List (List UInt8)
  | [] => [[]]
  | c :: t => if c = sep then [] :: parts sep t else (match parts sep t with | [] => [[c]] | h :: r => (c :: h) :: r)

theorem parts_ne (sep : UInt8) (l : List UInt8) : ∃ h r, parts sep l = h :: r := by
  cases l with
  | nil => exact ⟨_, _, rfl⟩
  | cons c t =>
    unfold parts
    split
    · exact ⟨_, _, rfl⟩
    · split <;> exact ⟨_, _, rfl⟩

theorem parts_no (sep : UInt8) (l : List UInt8) (h : sep ∉ l) : parts sep l = [l] := by
  induction l with
  | nil => rfl
  | cons c t ih =>
    simp only [List.mem_cons, not_or] at h
    unfold parts
    rw [if_neg (fun e => h.1 e.symm), ih h.2]

theorem parts_yes (sep : UInt8) (a b : List UInt8) (h : sep ∉ a) : parts sep (a ++ sep :: b) = a :: parts sep b := by
  induction a with
  | nil => simp [parts]
  | cons c t ih =>
    simp only [List.mem_cons, not_or] at h
    rw [List.cons_append, parts, if_neg (fun e => h.1 e.symm), ih h.2]

theorem parts_len (sep : UInt8) (l : List UInt8) : (parts sep l).length ≤ l.length + 1 := by
  induction l with
  | nil => simp [parts]
  | cons c t ih =>
    unfold parts
    split
    · simp; exact ih
    · obtain ⟨h, r, e⟩ := parts_ne sep t
      rw [e] at ih ⊢
      simp at *
      omega

/-- A text has a separator, or none. -/
theorem cut_cases (sep : UInt8) (l : List UInt8) : sep ∉ l ∨ ∃ a b, l = a ++ sep :: b ∧ sep ∉ a := by
  induction l with
  | nil => exact .inl (by simp)
  | cons c t ih =>
    by_cases h : c = sep
    · exact .inr ⟨[], t, by rw [h]; rfl, by simp⟩
    · rcases ih with h' | ⟨a, b, e, h'⟩
      · refine .inl ?_
        simp only [List.mem_cons, not_or]
        exact ⟨fun x => h x.symm, h'⟩
      · refine .inr ⟨c :: a, b, by rw [e]; rfl, ?_⟩
        simp only [List.mem_cons, not_or]
        exact ⟨fun x => h x.symm, h'⟩

theorem index_no (sep : UInt8) (l : List UInt8) (h : sep ∉ l) : Lib.indexByte l sep = -1 := by
  induction l with
  | nil => rfl
  | cons c t ih =>
    simp only [List.mem_cons, not_or] at h
    have hc : (c == sep) = false := by rw [beq_eq_false_iff_ne]; exact fun e => h.1 e.symm
    simp [Lib.indexByte, hc, ih h.2]

theorem index_yes (sep : UInt8) (a b : List UInt8) (h : sep ∉ a) : Lib.indexByte (a ++ sep :: b) sep = (a.length : Int) := by
  induction a with
  | nil => simp [Lib.indexByte]
  | cons c t ih =>
    simp only [List.mem_cons, not_or] at h
    have hc : (c == sep) = false := by rw [beq_eq_false_iff_ne]; exact fun e => h.1 e.symm
    have hne : ((t.length : Int) == -1) = false := by rw [beq_eq_false_iff_ne]; omega
    rw [List.cons_append]
    simp only [Lib.indexByte, hc, ih h.2, hne]
    simp

end Go.Proofs.YtccidoigjdbepaaDoor.Lin
