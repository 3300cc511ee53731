
/- law30.alive, and the walks of law30. -/
import Derived.Test.YtibpbgfliccacaaSesE
namespace Go.Proofs.Ytibpbgfliccacaa
open Go.RowKit
set_option linter.unusedSimpArgs false

/-- A key of one byte. -/
def keyN (x : UInt8) : List UInt8 := x :: List.replicate 31 0
theorem keyN_len (x : UInt8) : (keyN x).length = 32 := rfl
theorem Try.plainKey30 : Try.prog.eqGuardType Try.prog.depth 54 = false := by kernel_rfl
theorem av_key1 : av (keyN 1) = .agg #[.int .u8 1, .int .u8 0, .int .u8 0, .int .u8 0, .int .u8 0, .int .u8 0, .int .u8 0, .int .u8 0, .int .u8 0, .int .u8 0, .int .u8 0, .int .u8 0, .int .u8 0, .int .u8 0, .int .u8 0, .int .u8 0, .int .u8 0, .int .u8 0, .int .u8 0, .int .u8 0, .int .u8 0, .int .u8 0, .int .u8 0, .int .u8 0, .int .u8 0, .int .u8 0, .int .u8 0, .int .u8 0, .int .u8 0, .int .u8 0, .int .u8 0, .int .u8 0] := rfl
theorem av_key3 : av (keyN 3) = .agg #[.int .u8 3, .int .u8 0, .int .u8 0, .int .u8 0, .int .u8 0, .int .u8 0, .int .u8 0, .int .u8 0, .int .u8 0, .int .u8 0, .int .u8 0, .int .u8 0, .int .u8 0, .int .u8 0, .int .u8 0, .int .u8 0, .int .u8 0, .int .u8 0, .int .u8 0, .int .u8 0, .int .u8 0, .int .u8 0, .int .u8 0, .int .u8 0, .int .u8 0, .int .u8 0, .int .u8 0, .int .u8 0, .int .u8 0, .int .u8 0, .int .u8 0, .int .u8 0] := rfl

theorem wpList_loadRange {P : Program} {w : World} {ops : Array Oper} {rest : List Oper} {o : Oper} {a : Act} {Q : Exit → Act → World → Prop} (g : Nat) (hw : Region.wanted o (yielded ops a.tmps) = true) (ty : TypeId) (x : Operand) (ho : o.op = .load ty x)
    (off : Nat) (hx : a.eval x = .pointer (some ⟨g, off, none⟩)) (cs : Array Value) (d : TypeDesc) (hc : w.rangeAt g off cs.toList)
    (hu : P.underlying ty = some d) (hd : d.isRow = true) (hi : (P.info? ty).map (·.size) = some cs.size)
    (h : wpList P ops Q rest (a.put o.dst (.agg cs)) w) : wpList P ops Q (o :: rest) a w :=
  wpList_on hw (wp_load_mid ty x ho g off hx cs.toList d hc hu hd (by simpa using hi) h)
theorem ses_key {w : World} {g nx : Nat} {kb : List UInt8} {lo re : Int} {L : List Nat} (h : Ses w g (preK kb lo re) nx L) : w.rangeAt g 0 (kb.map bv).toArray.toList := fun j v hv => by
  rw [Nat.zero_add]
  refine h.fore j v ?_
  unfold preK
  have hv' : (kb.map bv)[j]? = some v := hv
  obtain ⟨hj, _⟩ := List.getElem?_eq_some_iff.1 hv'
  rw [List.getElem?_append_left hj]
  exact hv'
theorem ses_lo {w : World} {g nx : Nat} {kb : List UInt8} {lo re : Int} {L : List Nat} (h : Ses w g (preK kb lo re) nx L) (hk : kb.length = 32) : w.cell? ⟨g, 32, none⟩ = some (.int .u32 lo) ∧ w.cell? ⟨g, 33, none⟩ = some (.int .u32 re) := by
  refine ⟨h.fore 32 _ ?_, h.fore 33 _ ?_⟩
  · unfold preK; rw [List.getElem?_append_right (by simp [hk]), List.length_map, hk]; rfl
  · unfold preK; rw [List.getElem?_append_right (by simp [hk]), List.length_map, hk]; rfl

/-- What stands ahead in the document's zero session. -/
def preZ : List Value := List.replicate 32 (Value.int .u8 0) ++ [Value.int .u32 0, Value.int .u32 0]
theorem preZ_one : ∀ v ∈ preZ, v.oneCell' = true := by decide
theorem Ses.base {w w' : World} {g nx : Nat} {pre : List Value} {L : List Nat} {a : World} (_ : Ses w g pre nx L) (b : Below a.heap.size a w) (hg : w.grownBy w' (some g)) (hge : a.heap.size ≤ g) : Below a.heap.size a w' :=
  Below.grown b hg b.size (fun k hk => by injection hk with hk; omega)

set_option maxRecDepth 100000 in
set_option maxHeartbeats 1000000 in
theorem alive30 (w : World) : Calls Try.prog 28 #[] w fun e w' => e = .returned (.bool true) ∧ Below w.heap.size w w' := by
  have HNew := snew_any (keyN 1) rfl 1 2 7 w
  rw [av_key1] at HNew
  go_enter Try.func28, Try.ntmps28
  go_wp2_with fail
  refine HNew.mono ?_
  rintro e w1 ⟨g, rfl, hge, hS, b1⟩
  clear HNew
  go_wp2_with fail
  refine (send_ok g _ 7 _ _ hS (by decide +kernel)).mono ?_
  rintro e w2 ⟨rfl, hS2, hg2⟩
  have b2 := hS.base b1 hg2 hge
  clear hS b1 hg2
  go_wp2_with fail
  refine (send_ok g _ 8 _ _ hS2 (by decide +kernel)).mono ?_
  rintro e w3 ⟨rfl, hS3, hg3⟩
  have b3 := hS2.base b2 hg3 hge
  clear hS2 b2 hg3
  go_wp2_with fail
  refine (stake_any g _ 9 _ 5 _ hS3 (by decide +kernel)).mono ?_
  rintro e w4 ⟨rfl, hS4, hg4⟩
  rw [show codeT [] 5 = 0 from by decide +kernel]
  rw [show takeL [] 5 = [5] from by decide +kernel] at hS4
  have b4 := hS3.base b3 hg4 hge
  clear hS3 b3 hg4
  go_wp2_with fail
  refine (stake_any g _ 9 _ 5 _ hS4 (by decide +kernel)).mono ?_
  rintro e w5 ⟨rfl, hS5, hg5⟩
  rw [show codeT [5] 5 = 16 from by decide +kernel]
  have b5 := hS4.base b4 hg5 hge
  obtain ⟨c1, c2⟩ := ses_lo hS5 rfl
  clear hS4 b4 hg5 hS5
  go_wp2
  go_ret
  exact ⟨rfl, b5⟩

end Go.Proofs.Ytibpbgfliccacaa
