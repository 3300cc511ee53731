/-
  No cell of these rows narrows 'for every input' (looked for: loops, veiled, ifaces, maps, wideKeys, modest, calm, conditions, laid).
  DERIVED. THE GIVEN ROWS OF THIS SEAT. 6 by the template 'for every input the law returns true; each argument reads behind the call as it read before'; 0 by the template 'total and deterministic' (their statements: YtmnkikkffmhnjabTotals.lean).
  GIVEN WITH THE SEED: the statements are not yours to turn. If you find one false, say at which input.
  Laid BY PROGRAM, IN A SANDBOX (cutbox-rows.mjs): the forced cells as the released guide's own fill.sh prints them over the translation e5b5202e7ad0a97a… (all of the seat's roots in one cut). By AI agents, Wed Nov 11 2026. No macro, syntax, notation, axiom, sorry.
-/
import Derived.Test.YtmnkikkffmhnjabChecked
import GoSem.Claim
import GoSem.ClaimJoined
import GoSem.ClaimMapViews
import Derived.JoinedTies
import Derived.KernelRfl
namespace Go.Proofs.Ytmnkikkffmhnjab
/- THE CELL 'sum', in the pinned program and in every row, IS THE sha256 OF THE DUMP (.gsa) THAT YtmnkikkffmhnjabProg.lean LOADS. Nothing in Lean hashes anything: it is a label: what it is worth is what the hold of that sum in a sandbox is worth. -/
noncomputable def Try.pinned : Pinned := { name := "ytmnkikkffmhnjab", sum := "e5b5202e7ad0a97a541e828eb3c8c0acdbfd553764c532cd465e61846ff51d82", checked := Try.checked }
namespace Rows
def none {H : Type} : Left H := { results := [], args := [] }

/-- 'crawlwaylaw05.HexesBack': WHATEVER THE INPUT: true; the input reads as it did. -/
def hexesBackSpec : ChangeSpec := { name := "hexesBack", fn := fun _ => fun
  | [d] => { results := [.lit (.bool true)], args := [d] }
  | _ => none }
def hexesBackRow : OpenClaim := { program := "ytmnkikkffmhnjab", sum := "e5b5202e7ad0a97a541e828eb3c8c0acdbfd553764c532cd465e61846ff51d82", func := "crawlway/crawlwaylaw05.HexesBack", spec := "hexesBack", inPlace := ["internal/bytealg.IndexByteString"], apart := false }
def HexesBackSaid : Prop := hexesBackRow.holds Try.pinned (OpenSpec.ofChange hexesBackSpec)

/-- ITS FALSE NEIGHBOUR: 'it returns false'. Refute it at one input. -/
def hexesBackWrong : ChangeSpec := { name := "hexesBack", fn := fun _ => fun
  | [d] => { results := [.lit (.bool false)], args := [d] }
  | _ => none }
def HexesBackWrongFalsely : Prop := hexesBackRow.holds Try.pinned (OpenSpec.ofChange hexesBackWrong)

/-- 'crawlwaylaw05.HexesReads': WHATEVER THE INPUT: true; the input reads as it did. -/
def hexesReadsSpec : ChangeSpec := { name := "hexesReads", fn := fun _ => fun
  | [d] => { results := [.lit (.bool true)], args := [d] }
  | _ => none }
def hexesReadsRow : OpenClaim := { program := "ytmnkikkffmhnjab", sum := "e5b5202e7ad0a97a541e828eb3c8c0acdbfd553764c532cd465e61846ff51d82", func := "crawlway/crawlwaylaw05.HexesReads", spec := "hexesReads", inPlace := ["internal/bytealg.IndexByteString"], apart := false }
def HexesReadsSaid : Prop := hexesReadsRow.holds Try.pinned (OpenSpec.ofChange hexesReadsSpec)

/-- ITS FALSE NEIGHBOUR: 'it returns false'. Refute it at one input. -/
def hexesReadsWrong : ChangeSpec := { name := "hexesReads", fn := fun _ => fun
  | [d] => { results := [.lit (.bool false)], args := [d] }
  | _ => none }
def HexesReadsWrongFalsely : Prop := hexesReadsRow.holds Try.pinned (OpenSpec.ofChange hexesReadsWrong)

/-- 'crawlwaylaw05.HexesGroups': WHATEVER THE INPUT: true; the input reads as it did. -/
def hexesGroupsSpec : ChangeSpec := { name := "hexesGroups", fn := fun _ => fun
  | [d1, d2] => { results := [.lit (.bool true)], args := [d1, d2] }
  | _ => none }
def hexesGroupsRow : OpenClaim := { program := "ytmnkikkffmhnjab", sum := "e5b5202e7ad0a97a541e828eb3c8c0acdbfd553764c532cd465e61846ff51d82", func := "crawlway/crawlwaylaw05.HexesGroups", spec := "hexesGroups", inPlace := ["internal/bytealg.IndexByteString"], recurses := true, apart := false }
def HexesGroupsSaid : Prop := hexesGroupsRow.holds Try.pinned (OpenSpec.ofChange hexesGroupsSpec)

/-- ITS FALSE NEIGHBOUR: 'it returns false'. Refute it at one input. -/
def hexesGroupsWrong : ChangeSpec := { name := "hexesGroups", fn := fun _ => fun
  | [d1, d2] => { results := [.lit (.bool false)], args := [d1, d2] }
  | _ => none }
def HexesGroupsWrongFalsely : Prop := hexesGroupsRow.holds Try.pinned (OpenSpec.ofChange hexesGroupsWrong)

/-- 'crawlwaylaw06.LinesSplit': WHATEVER THE INPUT: true; the input reads as it did. -/
def linesSplitSpec : ChangeSpec := { name := "linesSplit", fn := fun _ => fun
  | [d] => { results := [.lit (.bool true)], args := [d] }
  | _ => none }
def linesSplitRow : OpenClaim := { program := "ytmnkikkffmhnjab", sum := "e5b5202e7ad0a97a541e828eb3c8c0acdbfd553764c532cd465e61846ff51d82", func := "crawlway/crawlwaylaw06.LinesSplit", spec := "linesSplit", inPlace := ["internal/bytealg.IndexByteString", "internal/abi.NoEscape"], apart := false }
def LinesSplitSaid : Prop := linesSplitRow.holds Try.pinned (OpenSpec.ofChange linesSplitSpec)

/-- ITS FALSE NEIGHBOUR: 'it returns false'. Refute it at one input. -/
def linesSplitWrong : ChangeSpec := { name := "linesSplit", fn := fun _ => fun
  | [d] => { results := [.lit (.bool false)], args := [d] }
  | _ => none }
def LinesSplitWrongFalsely : Prop := linesSplitRow.holds Try.pinned (OpenSpec.ofChange linesSplitWrong)

/-- 'crawlwaylaw06.LinesJoin': WHATEVER THE INPUT: true; the input reads as it did. -/
def linesJoinSpec : ChangeSpec := { name := "linesJoin", fn := fun _ => fun
  | [d] => { results := [.lit (.bool true)], args := [d] }
  | _ => none }
def linesJoinRow : OpenClaim := { program := "ytmnkikkffmhnjab", sum := "e5b5202e7ad0a97a541e828eb3c8c0acdbfd553764c532cd465e61846ff51d82", func := "crawlway/crawlwaylaw06.LinesJoin", spec := "linesJoin", inPlace := ["internal/bytealg.IndexByteString", "internal/abi.NoEscape"], apart := false }
def LinesJoinSaid : Prop := linesJoinRow.holds Try.pinned (OpenSpec.ofChange linesJoinSpec)

/-- ITS FALSE NEIGHBOUR: 'it returns false'. Refute it at one input. -/
def linesJoinWrong : ChangeSpec := { name := "linesJoin", fn := fun _ => fun
  | [d] => { results := [.lit (.bool false)], args := [d] }
  | _ => none }
def LinesJoinWrongFalsely : Prop := linesJoinRow.holds Try.pinned (OpenSpec.ofChange linesJoinWrong)

/-- 'crawlwaylaw06.LinesCut': WHATEVER THE INPUT: true; the input reads as it did. -/
def linesCutSpec : ChangeSpec := { name := "linesCut", fn := fun _ => fun
  | [d1, d2] => { results := [.lit (.bool true)], args := [d1, d2] }
  | _ => none }
def linesCutRow : OpenClaim := { program := "ytmnkikkffmhnjab", sum := "e5b5202e7ad0a97a541e828eb3c8c0acdbfd553764c532cd465e61846ff51d82", func := "crawlway/crawlwaylaw06.LinesCut", spec := "linesCut", inPlace := ["internal/bytealg.IndexByteString"], apart := false }
def LinesCutSaid : Prop := linesCutRow.holds Try.pinned (OpenSpec.ofChange linesCutSpec)

/-- ITS FALSE NEIGHBOUR: 'it returns false'. Refute it at one input. -/
def linesCutWrong : ChangeSpec := { name := "linesCut", fn := fun _ => fun
  | [d1, d2] => { results := [.lit (.bool false)], args := [d1, d2] }
  | _ => none }
def LinesCutWrongFalsely : Prop := linesCutRow.holds Try.pinned (OpenSpec.ofChange linesCutWrong)

/- THE SECOND FORM. 'bulk': how many values and letters a reading holds, each counted each time it is reached (what is shared counts as often as it is met; a slice's spare places count too). A statement '..UptoSaid' is the law's where the arguments, and the package variables that the reading takes, are together of bulk at most 1048576: NARROWER than '..Said'. Prove '..Said' where nothing that the law and all that it calls make is longer than what came in: it says more and counts as full. Else prove '..UptoSaid'. A law counts once. -/
mutual
def uptoBulk {H : Type} : DataW H → Nat
  | .lit (.string bytes) => bytes.length + 1
  | .lit _ => 1
  | .nil => 1
  | .ptr d => uptoBulk d + 1
  | .slice elems spare => uptoBulkAll elems + uptoBulkAll spare + 1
  | .agg parts => uptoBulkAll parts + 1
  | .iface _ d => uptoBulk d + 1
  | .map entries => uptoBulkEntries entries + 1
  | .held _ => 1
def uptoBulkAll {H : Type} : List (DataW H) → Nat
  | [] => 0
  | d :: r => uptoBulk d + uptoBulkAll r
def uptoBulkEntries {H : Type} : List (Lit × DataW H) → Nat
  | [] => 0
  | x :: r => uptoBulkEntry x + uptoBulkEntries r
def uptoBulkEntry {H : Type} : Lit × DataW H → Nat
  | (.string bytes, d) => bytes.length + uptoBulk d + 1
  | (_, d) => uptoBulk d + 1
 end
def uptoSmall : (H : Type) → List (DataW H) → Bool := fun _ ds => decide (uptoBulkAll ds ≤ 1048576)
def OpenSpec.upto (s : _root_.Go.ChangeSpec) : _root_.Go.OpenSpec := { _root_.Go.OpenSpec.ofChange s with cond := some uptoSmall }

/-- 'crawlwaylaw05.HexesBack', WHERE WHAT IT READS IS OF BULK AT MOST 1048576: true; the input reads as it did. -/
def hexesBackUptoRow : OpenClaim := { program := "ytmnkikkffmhnjab", sum := "e5b5202e7ad0a97a541e828eb3c8c0acdbfd553764c532cd465e61846ff51d82", func := "crawlway/crawlwaylaw05.HexesBack", spec := "hexesBack", inPlace := ["internal/bytealg.IndexByteString"], apart := false, narrowed := true }
def HexesBackUptoSaid : Prop := hexesBackUptoRow.holds Try.pinned (OpenSpec.upto hexesBackSpec)

/-- 'crawlwaylaw05.HexesReads', WHERE WHAT IT READS IS OF BULK AT MOST 1048576: true; the input reads as it did. -/
def hexesReadsUptoRow : OpenClaim := { program := "ytmnkikkffmhnjab", sum := "e5b5202e7ad0a97a541e828eb3c8c0acdbfd553764c532cd465e61846ff51d82", func := "crawlway/crawlwaylaw05.HexesReads", spec := "hexesReads", inPlace := ["internal/bytealg.IndexByteString"], apart := false, narrowed := true }
def HexesReadsUptoSaid : Prop := hexesReadsUptoRow.holds Try.pinned (OpenSpec.upto hexesReadsSpec)

/-- 'crawlwaylaw05.HexesGroups', WHERE WHAT IT READS IS OF BULK AT MOST 1048576: true; the input reads as it did. -/
def hexesGroupsUptoRow : OpenClaim := { program := "ytmnkikkffmhnjab", sum := "e5b5202e7ad0a97a541e828eb3c8c0acdbfd553764c532cd465e61846ff51d82", func := "crawlway/crawlwaylaw05.HexesGroups", spec := "hexesGroups", inPlace := ["internal/bytealg.IndexByteString"], recurses := true, apart := false, narrowed := true }
def HexesGroupsUptoSaid : Prop := hexesGroupsUptoRow.holds Try.pinned (OpenSpec.upto hexesGroupsSpec)

/-- 'crawlwaylaw06.LinesSplit', WHERE WHAT IT READS IS OF BULK AT MOST 1048576: true; the input reads as it did. -/
def linesSplitUptoRow : OpenClaim := { program := "ytmnkikkffmhnjab", sum := "e5b5202e7ad0a97a541e828eb3c8c0acdbfd553764c532cd465e61846ff51d82", func := "crawlway/crawlwaylaw06.LinesSplit", spec := "linesSplit", inPlace := ["internal/bytealg.IndexByteString", "internal/abi.NoEscape"], apart := false, narrowed := true }
def LinesSplitUptoSaid : Prop := linesSplitUptoRow.holds Try.pinned (OpenSpec.upto linesSplitSpec)

/-- 'crawlwaylaw06.LinesJoin', WHERE WHAT IT READS IS OF BULK AT MOST 1048576: true; the input reads as it did. -/
def linesJoinUptoRow : OpenClaim := { program := "ytmnkikkffmhnjab", sum := "e5b5202e7ad0a97a541e828eb3c8c0acdbfd553764c532cd465e61846ff51d82", func := "crawlway/crawlwaylaw06.LinesJoin", spec := "linesJoin", inPlace := ["internal/bytealg.IndexByteString", "internal/abi.NoEscape"], apart := false, narrowed := true }
def LinesJoinUptoSaid : Prop := linesJoinUptoRow.holds Try.pinned (OpenSpec.upto linesJoinSpec)

/-- 'crawlwaylaw06.LinesCut', WHERE WHAT IT READS IS OF BULK AT MOST 1048576: true; the input reads as it did. -/
def linesCutUptoRow : OpenClaim := { program := "ytmnkikkffmhnjab", sum := "e5b5202e7ad0a97a541e828eb3c8c0acdbfd553764c532cd465e61846ff51d82", func := "crawlway/crawlwaylaw06.LinesCut", spec := "linesCut", inPlace := ["internal/bytealg.IndexByteString"], apart := false, narrowed := true }
def LinesCutUptoSaid : Prop := linesCutUptoRow.holds Try.pinned (OpenSpec.upto linesCutSpec)

end Rows
end Go.Proofs.Ytmnkikkffmhnjab
