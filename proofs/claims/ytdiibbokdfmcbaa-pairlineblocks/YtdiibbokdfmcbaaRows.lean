/-
  No cell of these rows narrows 'for every input' (looked for: loops, veiled, ifaces, maps, wideKeys, modest, calm, conditions, laid).
  DERIVED. THE GIVEN ROWS OF THIS SEAT. 4 by the template 'for every input the law returns true; each argument reads behind the call as it read before'; 0 by the template 'total and deterministic' (their statements: YtdiibbokdfmcbaaTotals.lean).
  GIVEN WITH THE SEED: the statements are not yours to turn. If you find one false, say at which input.
  Laid BY PROGRAM, IN A SANDBOX (cutbox-rows.mjs): the forced cells as the released guide's own fill.sh prints them over the translation e7ece4a711ac4c7a… (all of the seat's roots in one cut). By AI agents, Wed Nov 11 2026. No macro, syntax, notation, axiom, sorry.
-/
import Derived.Test.YtdiibbokdfmcbaaChecked
import GoSem.Claim
import GoSem.ClaimJoined
import GoSem.ClaimMapViews
import Derived.JoinedTies
import Derived.KernelRfl
namespace Go.Proofs.Ytdiibbokdfmcbaa
/- THE CELL 'sum', in the pinned program and in every row, IS THE sha256 OF THE DUMP (.gsa) THAT YtdiibbokdfmcbaaProg.lean LOADS. Nothing in Lean hashes anything: it is a label: what it is worth is what the hold of that sum in a sandbox is worth. -/
noncomputable def Try.pinned : Pinned := { name := "ytdiibbokdfmcbaa", sum := "e7ece4a711ac4c7ab3a5401e72b0b4c614c54d0ae3dfb8c7fce3df17404b72e2", checked := Try.checked }
namespace Rows
def none {H : Type} : Left H := { results := [], args := [] }

/-- 'crawlwaylaw36.PairlineLines': WHATEVER THE INPUT: true; the input reads as it did. -/
def pairlineLinesSpec : ChangeSpec := { name := "pairlineLines", fn := fun _ => fun
  | [d1, d2, d3] => { results := [.lit (.bool true)], args := [d1, d2, d3] }
  | _ => none }
def pairlineLinesRow : OpenClaim := { program := "ytdiibbokdfmcbaa", sum := "e7ece4a711ac4c7ab3a5401e72b0b4c614c54d0ae3dfb8c7fce3df17404b72e2", func := "crawlway/crawlwaylaw36.PairlineLines", spec := "pairlineLines", inPlace := ["internal/bytealg.IndexByteString"], unfollowed := true, recurses := true, apart := false }
def PairlineLinesSaid : Prop := pairlineLinesRow.holds Try.pinned (OpenSpec.ofChange pairlineLinesSpec)

/-- ITS FALSE NEIGHBOUR: 'it returns false'. Refute it at one input. -/
def pairlineLinesWrong : ChangeSpec := { name := "pairlineLines", fn := fun _ => fun
  | [d1, d2, d3] => { results := [.lit (.bool false)], args := [d1, d2, d3] }
  | _ => none }
def PairlineLinesWrongFalsely : Prop := pairlineLinesRow.holds Try.pinned (OpenSpec.ofChange pairlineLinesWrong)

/-- 'crawlwaylaw36.PairlineBlocks': WHATEVER THE INPUT: true; the input reads as it did. -/
def pairlineBlocksSpec : ChangeSpec := { name := "pairlineBlocks", fn := fun _ => fun
  | [d] => { results := [.lit (.bool true)], args := [d] }
  | _ => none }
def pairlineBlocksRow : OpenClaim := { program := "ytdiibbokdfmcbaa", sum := "e7ece4a711ac4c7ab3a5401e72b0b4c614c54d0ae3dfb8c7fce3df17404b72e2", func := "crawlway/crawlwaylaw36.PairlineBlocks", spec := "pairlineBlocks", inPlace := ["internal/bytealg.IndexByteString", "internal/abi.NoEscape"], unfollowed := true, recurses := true, apart := false }
def PairlineBlocksSaid : Prop := pairlineBlocksRow.holds Try.pinned (OpenSpec.ofChange pairlineBlocksSpec)

/-- ITS FALSE NEIGHBOUR: 'it returns false'. Refute it at one input. -/
def pairlineBlocksWrong : ChangeSpec := { name := "pairlineBlocks", fn := fun _ => fun
  | [d] => { results := [.lit (.bool false)], args := [d] }
  | _ => none }
def PairlineBlocksWrongFalsely : Prop := pairlineBlocksRow.holds Try.pinned (OpenSpec.ofChange pairlineBlocksWrong)

/-- 'crawlwaylaw36.PairlineReads': WHATEVER THE INPUT: true; the input reads as it did. -/
def pairlineReadsSpec : ChangeSpec := { name := "pairlineReads", fn := fun _ => fun
  | [d] => { results := [.lit (.bool true)], args := [d] }
  | _ => none }
def pairlineReadsRow : OpenClaim := { program := "ytdiibbokdfmcbaa", sum := "e7ece4a711ac4c7ab3a5401e72b0b4c614c54d0ae3dfb8c7fce3df17404b72e2", func := "crawlway/crawlwaylaw36.PairlineReads", spec := "pairlineReads", inPlace := ["internal/bytealg.IndexByteString", "internal/abi.NoEscape"], unfollowed := true, recurses := true, apart := false }
def PairlineReadsSaid : Prop := pairlineReadsRow.holds Try.pinned (OpenSpec.ofChange pairlineReadsSpec)

/-- ITS FALSE NEIGHBOUR: 'it returns false'. Refute it at one input. -/
def pairlineReadsWrong : ChangeSpec := { name := "pairlineReads", fn := fun _ => fun
  | [d] => { results := [.lit (.bool false)], args := [d] }
  | _ => none }
def PairlineReadsWrongFalsely : Prop := pairlineReadsRow.holds Try.pinned (OpenSpec.ofChange pairlineReadsWrong)

/-- 'crawlwaylaw36.PairlineMany': WHATEVER THE INPUT: true; the input reads as it did. -/
def pairlineManySpec : ChangeSpec := { name := "pairlineMany", fn := fun _ => fun
  | [d] => { results := [.lit (.bool true)], args := [d] }
  | _ => none }
def pairlineManyRow : OpenClaim := { program := "ytdiibbokdfmcbaa", sum := "e7ece4a711ac4c7ab3a5401e72b0b4c614c54d0ae3dfb8c7fce3df17404b72e2", func := "crawlway/crawlwaylaw36.PairlineMany", spec := "pairlineMany", inPlace := ["internal/bytealg.IndexByteString", "internal/abi.NoEscape"], unfollowed := true, recurses := true, apart := false }
def PairlineManySaid : Prop := pairlineManyRow.holds Try.pinned (OpenSpec.ofChange pairlineManySpec)

/-- ITS FALSE NEIGHBOUR: 'it returns false'. Refute it at one input. -/
def pairlineManyWrong : ChangeSpec := { name := "pairlineMany", fn := fun _ => fun
  | [d] => { results := [.lit (.bool false)], args := [d] }
  | _ => none }
def PairlineManyWrongFalsely : Prop := pairlineManyRow.holds Try.pinned (OpenSpec.ofChange pairlineManyWrong)

/- THE SECOND FORM. 'bulk': how many values and letters a reading holds, each counted each time it is reached (what is shared counts as often as it is met; a slice's spare places count too). A statement '..UptoSaid' is the law's where the arguments, and the package variables that the reading takes, are together of bulk at most 1048576: NARROWER than '..Said'. Prove '..Said' where nothing that the law and all that it calls make is longer than what came in: it says more and counts as full. Else prove '..UptoSaid'. A law counts once. -/
mutual
def uptoBulk {H : Type} : DataW H → Nat
  | .lit (.string bytes) => bytes.length + 1
  | .lit _ => 1
  | .nil => 1
  | .ptr d => uptoBulk d + 1
  | .slice elems spare => uptoBulkAll elems + uptoBulkAll spare + 1
  | .agg parts => uptoBulkAll parts + 1
  | .iface _ d => uptoBulk d + 1
  | .map entries => uptoBulkEntries entries + 1
  | .held _ => 1
def uptoBulkAll {H : Type} : List (DataW H) → Nat
  | [] => 0
  | d :: r => uptoBulk d + uptoBulkAll r
def uptoBulkEntries {H : Type} : List (Lit × DataW H) → Nat
  | [] => 0
  | x :: r => uptoBulkEntry x + uptoBulkEntries r
def uptoBulkEntry {H : Type} : Lit × DataW H → Nat
  | (.string bytes, d) => bytes.length + uptoBulk d + 1
  | (_, d) => uptoBulk d + 1
 end
def uptoSmall : (H : Type) → List (DataW H) → Bool := fun _ ds => decide (uptoBulkAll ds ≤ 1048576)
def OpenSpec.upto (s : _root_.Go.ChangeSpec) : _root_.Go.OpenSpec := { _root_.Go.OpenSpec.ofChange s with cond := some uptoSmall }

/-- 'crawlwaylaw36.PairlineLines', WHERE WHAT IT READS IS OF BULK AT MOST 1048576: true; the input reads as it did. -/
def pairlineLinesUptoRow : OpenClaim := { program := "ytdiibbokdfmcbaa", sum := "e7ece4a711ac4c7ab3a5401e72b0b4c614c54d0ae3dfb8c7fce3df17404b72e2", func := "crawlway/crawlwaylaw36.PairlineLines", spec := "pairlineLines", inPlace := ["internal/bytealg.IndexByteString"], unfollowed := true, recurses := true, apart := false, narrowed := true }
def PairlineLinesUptoSaid : Prop := pairlineLinesUptoRow.holds Try.pinned (OpenSpec.upto pairlineLinesSpec)

/-- 'crawlwaylaw36.PairlineBlocks', WHERE WHAT IT READS IS OF BULK AT MOST 1048576: true; the input reads as it did. -/
def pairlineBlocksUptoRow : OpenClaim := { program := "ytdiibbokdfmcbaa", sum := "e7ece4a711ac4c7ab3a5401e72b0b4c614c54d0ae3dfb8c7fce3df17404b72e2", func := "crawlway/crawlwaylaw36.PairlineBlocks", spec := "pairlineBlocks", inPlace := ["internal/bytealg.IndexByteString", "internal/abi.NoEscape"], unfollowed := true, recurses := true, apart := false, narrowed := true }
def PairlineBlocksUptoSaid : Prop := pairlineBlocksUptoRow.holds Try.pinned (OpenSpec.upto pairlineBlocksSpec)

/-- 'crawlwaylaw36.PairlineReads', WHERE WHAT IT READS IS OF BULK AT MOST 1048576: true; the input reads as it did. -/
def pairlineReadsUptoRow : OpenClaim := { program := "ytdiibbokdfmcbaa", sum := "e7ece4a711ac4c7ab3a5401e72b0b4c614c54d0ae3dfb8c7fce3df17404b72e2", func := "crawlway/crawlwaylaw36.PairlineReads", spec := "pairlineReads", inPlace := ["internal/bytealg.IndexByteString", "internal/abi.NoEscape"], unfollowed := true, recurses := true, apart := false, narrowed := true }
def PairlineReadsUptoSaid : Prop := pairlineReadsUptoRow.holds Try.pinned (OpenSpec.upto pairlineReadsSpec)

/-- 'crawlwaylaw36.PairlineMany', WHERE WHAT IT READS IS OF BULK AT MOST 1048576: true; the input reads as it did. -/
def pairlineManyUptoRow : OpenClaim := { program := "ytdiibbokdfmcbaa", sum := "e7ece4a711ac4c7ab3a5401e72b0b4c614c54d0ae3dfb8c7fce3df17404b72e2", func := "crawlway/crawlwaylaw36.PairlineMany", spec := "pairlineMany", inPlace := ["internal/bytealg.IndexByteString", "internal/abi.NoEscape"], unfollowed := true, recurses := true, apart := false, narrowed := true }
def PairlineManyUptoSaid : Prop := pairlineManyUptoRow.holds Try.pinned (OpenSpec.upto pairlineManySpec)

end Rows
end Go.Proofs.Ytdiibbokdfmcbaa
