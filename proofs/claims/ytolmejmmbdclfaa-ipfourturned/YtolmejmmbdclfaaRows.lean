/-
  No cell of these rows narrows 'for every input' (looked for: loops, veiled, ifaces, maps, wideKeys, modest, calm, conditions, laid).
  DERIVED. THE GIVEN ROWS OF THIS SEAT. 7 by the template 'for every input the law returns true; each argument reads behind the call as it read before'; 0 by the template 'total and deterministic' (their statements: YtolmejmmbdclfaaTotals.lean).
  GIVEN WITH THE SEED: the statements are not yours to turn. If you find one false, say at which input.
  Laid BY PROGRAM, IN A SANDBOX (cutbox-rows.mjs): the forced cells as the released guide's own fill.sh prints them over the translation 6f150f2269ff6826… (all of the seat's roots in one cut). By AI agents, Wed Nov 11 2026. No macro, syntax, notation, axiom, sorry.
-/
import Derived.Test.YtolmejmmbdclfaaChecked
import GoSem.Claim
import GoSem.ClaimJoined
import GoSem.ClaimMapViews
import Derived.JoinedTies
import Derived.KernelRfl
namespace Go.Proofs.Ytolmejmmbdclfaa
/- THE CELL 'sum', in the pinned program and in every row, IS THE sha256 OF THE DUMP (.gsa) THAT YtolmejmmbdclfaaProg.lean LOADS. Nothing in Lean hashes anything: it is a label: what it is worth is what the hold of that sum in a sandbox is worth. -/
noncomputable def Try.pinned : Pinned := { name := "ytolmejmmbdclfaa", sum := "6f150f2269ff6826529dd671e53e4c88c64bf96082a3a0512b318e4c6d0bfb07", checked := Try.checked }
namespace Rows
def none {H : Type} : Left H := { results := [], args := [] }

/-- 'crawlwaylaw18.OnesumOf': WHATEVER THE INPUT: true; the input reads as it did. -/
def onesumOfSpec : ChangeSpec := { name := "onesumOf", fn := fun _ => fun
  | [d] => { results := [.lit (.bool true)], args := [d] }
  | _ => none }
def onesumOfRow : OpenClaim := { program := "ytolmejmmbdclfaa", sum := "6f150f2269ff6826529dd671e53e4c88c64bf96082a3a0512b318e4c6d0bfb07", func := "crawlway/crawlwaylaw18.OnesumOf", spec := "onesumOf", apart := false }
def OnesumOfSaid : Prop := onesumOfRow.holds Try.pinned (OpenSpec.ofChange onesumOfSpec)

/-- ITS FALSE NEIGHBOUR: 'it returns false'. Refute it at one input. -/
def onesumOfWrong : ChangeSpec := { name := "onesumOf", fn := fun _ => fun
  | [d] => { results := [.lit (.bool false)], args := [d] }
  | _ => none }
def OnesumOfWrongFalsely : Prop := onesumOfRow.holds Try.pinned (OpenSpec.ofChange onesumOfWrong)

/-- 'crawlwaylaw18.OnesumAdd': WHATEVER THE INPUT: true; the input reads as it did. -/
def onesumAddSpec : ChangeSpec := { name := "onesumAdd", fn := fun _ => fun
  | [d1, d2, d3] => { results := [.lit (.bool true)], args := [d1, d2, d3] }
  | _ => none }
def onesumAddRow : OpenClaim := { program := "ytolmejmmbdclfaa", sum := "6f150f2269ff6826529dd671e53e4c88c64bf96082a3a0512b318e4c6d0bfb07", func := "crawlway/crawlwaylaw18.OnesumAdd", spec := "onesumAdd", apart := false }
def OnesumAddSaid : Prop := onesumAddRow.holds Try.pinned (OpenSpec.ofChange onesumAddSpec)

/-- ITS FALSE NEIGHBOUR: 'it returns false'. Refute it at one input. -/
def onesumAddWrong : ChangeSpec := { name := "onesumAdd", fn := fun _ => fun
  | [d1, d2, d3] => { results := [.lit (.bool false)], args := [d1, d2, d3] }
  | _ => none }
def OnesumAddWrongFalsely : Prop := onesumAddRow.holds Try.pinned (OpenSpec.ofChange onesumAddWrong)

/-- 'crawlwaylaw18.OnesumCheck': WHATEVER THE INPUT: true; the input reads as it did. -/
def onesumCheckSpec : ChangeSpec := { name := "onesumCheck", fn := fun _ => fun
  | [d1, d2, d3] => { results := [.lit (.bool true)], args := [d1, d2, d3] }
  | _ => none }
def onesumCheckRow : OpenClaim := { program := "ytolmejmmbdclfaa", sum := "6f150f2269ff6826529dd671e53e4c88c64bf96082a3a0512b318e4c6d0bfb07", func := "crawlway/crawlwaylaw18.OnesumCheck", spec := "onesumCheck", apart := false }
def OnesumCheckSaid : Prop := onesumCheckRow.holds Try.pinned (OpenSpec.ofChange onesumCheckSpec)

/-- ITS FALSE NEIGHBOUR: 'it returns false'. Refute it at one input. -/
def onesumCheckWrong : ChangeSpec := { name := "onesumCheck", fn := fun _ => fun
  | [d1, d2, d3] => { results := [.lit (.bool false)], args := [d1, d2, d3] }
  | _ => none }
def OnesumCheckWrongFalsely : Prop := onesumCheckRow.holds Try.pinned (OpenSpec.ofChange onesumCheckWrong)

/-- 'crawlwaylaw19.IpfourReads': WHATEVER THE INPUT: true; the input reads as it did. -/
def ipfourReadsSpec : ChangeSpec := { name := "ipfourReads", fn := fun _ => fun
  | [d] => { results := [.lit (.bool true)], args := [d] }
  | _ => none }
def ipfourReadsRow : OpenClaim := { program := "ytolmejmmbdclfaa", sum := "6f150f2269ff6826529dd671e53e4c88c64bf96082a3a0512b318e4c6d0bfb07", func := "crawlway/crawlwaylaw19.IpfourReads", spec := "ipfourReads", apart := false }
def IpfourReadsSaid : Prop := ipfourReadsRow.holds Try.pinned (OpenSpec.ofChange ipfourReadsSpec)

/-- ITS FALSE NEIGHBOUR: 'it returns false'. Refute it at one input. -/
def ipfourReadsWrong : ChangeSpec := { name := "ipfourReads", fn := fun _ => fun
  | [d] => { results := [.lit (.bool false)], args := [d] }
  | _ => none }
def IpfourReadsWrongFalsely : Prop := ipfourReadsRow.holds Try.pinned (OpenSpec.ofChange ipfourReadsWrong)

/-- 'crawlwaylaw19.IpfourPuts': WHATEVER THE INPUT: true; the input reads as it did. -/
def ipfourPutsSpec : ChangeSpec := { name := "ipfourPuts", fn := fun _ => fun
  | [d1, d2] => { results := [.lit (.bool true)], args := [d1, d2] }
  | _ => none }
def ipfourPutsRow : OpenClaim := { program := "ytolmejmmbdclfaa", sum := "6f150f2269ff6826529dd671e53e4c88c64bf96082a3a0512b318e4c6d0bfb07", func := "crawlway/crawlwaylaw19.IpfourPuts", spec := "ipfourPuts", apart := false }
def IpfourPutsSaid : Prop := ipfourPutsRow.holds Try.pinned (OpenSpec.ofChange ipfourPutsSpec)

/-- ITS FALSE NEIGHBOUR: 'it returns false'. Refute it at one input. -/
def ipfourPutsWrong : ChangeSpec := { name := "ipfourPuts", fn := fun _ => fun
  | [d1, d2] => { results := [.lit (.bool false)], args := [d1, d2] }
  | _ => none }
def IpfourPutsWrongFalsely : Prop := ipfourPutsRow.holds Try.pinned (OpenSpec.ofChange ipfourPutsWrong)

/-- 'crawlwaylaw19.IpfourTurned': WHATEVER THE INPUT: true; the input reads as it did. -/
def ipfourTurnedSpec : ChangeSpec := { name := "ipfourTurned", fn := fun _ => fun
  | [d1, d2] => { results := [.lit (.bool true)], args := [d1, d2] }
  | _ => none }
def ipfourTurnedRow : OpenClaim := { program := "ytolmejmmbdclfaa", sum := "6f150f2269ff6826529dd671e53e4c88c64bf96082a3a0512b318e4c6d0bfb07", func := "crawlway/crawlwaylaw19.IpfourTurned", spec := "ipfourTurned", apart := false }
def IpfourTurnedSaid : Prop := ipfourTurnedRow.holds Try.pinned (OpenSpec.ofChange ipfourTurnedSpec)

/-- ITS FALSE NEIGHBOUR: 'it returns false'. Refute it at one input. -/
def ipfourTurnedWrong : ChangeSpec := { name := "ipfourTurned", fn := fun _ => fun
  | [d1, d2] => { results := [.lit (.bool false)], args := [d1, d2] }
  | _ => none }
def IpfourTurnedWrongFalsely : Prop := ipfourTurnedRow.holds Try.pinned (OpenSpec.ofChange ipfourTurnedWrong)

/-- 'crawlwaylaw19.IpfourLong': WHATEVER THE INPUT: true; the input reads as it did. -/
def ipfourLongSpec : ChangeSpec := { name := "ipfourLong", fn := fun _ => fun
  | [d] => { results := [.lit (.bool true)], args := [d] }
  | _ => none }
def ipfourLongRow : OpenClaim := { program := "ytolmejmmbdclfaa", sum := "6f150f2269ff6826529dd671e53e4c88c64bf96082a3a0512b318e4c6d0bfb07", func := "crawlway/crawlwaylaw19.IpfourLong", spec := "ipfourLong", apart := false }
def IpfourLongSaid : Prop := ipfourLongRow.holds Try.pinned (OpenSpec.ofChange ipfourLongSpec)

/-- ITS FALSE NEIGHBOUR: 'it returns false'. Refute it at one input. -/
def ipfourLongWrong : ChangeSpec := { name := "ipfourLong", fn := fun _ => fun
  | [d] => { results := [.lit (.bool false)], args := [d] }
  | _ => none }
def IpfourLongWrongFalsely : Prop := ipfourLongRow.holds Try.pinned (OpenSpec.ofChange ipfourLongWrong)

/- THE SECOND FORM. 'bulk': how many values and letters a reading holds, each counted each time it is reached (what is shared counts as often as it is met; a slice's spare places count too). A statement '..UptoSaid' is the law's where the arguments, and the package variables that the reading takes, are together of bulk at most 1048576: NARROWER than '..Said'. Prove '..Said' where nothing that the law and all that it calls make is longer than what came in: it says more and counts as full. Else prove '..UptoSaid'. A law counts once. -/
mutual
def uptoBulk {H : Type} : DataW H → Nat
  | .lit (.string bytes) => bytes.length + 1
  | .lit _ => 1
  | .nil => 1
  | .ptr d => uptoBulk d + 1
  | .slice elems spare => uptoBulkAll elems + uptoBulkAll spare + 1
  | .agg parts => uptoBulkAll parts + 1
  | .iface _ d => uptoBulk d + 1
  | .map entries => uptoBulkEntries entries + 1
  | .held _ => 1
def uptoBulkAll {H : Type} : List (DataW H) → Nat
  | [] => 0
  | d :: r => uptoBulk d + uptoBulkAll r
def uptoBulkEntries {H : Type} : List (Lit × DataW H) → Nat
  | [] => 0
  | x :: r => uptoBulkEntry x + uptoBulkEntries r
def uptoBulkEntry {H : Type} : Lit × DataW H → Nat
  | (.string bytes, d) => bytes.length + uptoBulk d + 1
  | (_, d) => uptoBulk d + 1
 end
def uptoSmall : (H : Type) → List (DataW H) → Bool := fun _ ds => decide (uptoBulkAll ds ≤ 1048576)
def OpenSpec.upto (s : _root_.Go.ChangeSpec) : _root_.Go.OpenSpec := { _root_.Go.OpenSpec.ofChange s with cond := some uptoSmall }

/-- 'crawlwaylaw18.OnesumOf', WHERE WHAT IT READS IS OF BULK AT MOST 1048576: true; the input reads as it did. -/
def onesumOfUptoRow : OpenClaim := { program := "ytolmejmmbdclfaa", sum := "6f150f2269ff6826529dd671e53e4c88c64bf96082a3a0512b318e4c6d0bfb07", func := "crawlway/crawlwaylaw18.OnesumOf", spec := "onesumOf", apart := false, narrowed := true }
def OnesumOfUptoSaid : Prop := onesumOfUptoRow.holds Try.pinned (OpenSpec.upto onesumOfSpec)

/-- 'crawlwaylaw18.OnesumAdd', WHERE WHAT IT READS IS OF BULK AT MOST 1048576: true; the input reads as it did. -/
def onesumAddUptoRow : OpenClaim := { program := "ytolmejmmbdclfaa", sum := "6f150f2269ff6826529dd671e53e4c88c64bf96082a3a0512b318e4c6d0bfb07", func := "crawlway/crawlwaylaw18.OnesumAdd", spec := "onesumAdd", apart := false, narrowed := true }
def OnesumAddUptoSaid : Prop := onesumAddUptoRow.holds Try.pinned (OpenSpec.upto onesumAddSpec)

/-- 'crawlwaylaw18.OnesumCheck', WHERE WHAT IT READS IS OF BULK AT MOST 1048576: true; the input reads as it did. -/
def onesumCheckUptoRow : OpenClaim := { program := "ytolmejmmbdclfaa", sum := "6f150f2269ff6826529dd671e53e4c88c64bf96082a3a0512b318e4c6d0bfb07", func := "crawlway/crawlwaylaw18.OnesumCheck", spec := "onesumCheck", apart := false, narrowed := true }
def OnesumCheckUptoSaid : Prop := onesumCheckUptoRow.holds Try.pinned (OpenSpec.upto onesumCheckSpec)

/-- 'crawlwaylaw19.IpfourReads', WHERE WHAT IT READS IS OF BULK AT MOST 1048576: true; the input reads as it did. -/
def ipfourReadsUptoRow : OpenClaim := { program := "ytolmejmmbdclfaa", sum := "6f150f2269ff6826529dd671e53e4c88c64bf96082a3a0512b318e4c6d0bfb07", func := "crawlway/crawlwaylaw19.IpfourReads", spec := "ipfourReads", apart := false, narrowed := true }
def IpfourReadsUptoSaid : Prop := ipfourReadsUptoRow.holds Try.pinned (OpenSpec.upto ipfourReadsSpec)

/-- 'crawlwaylaw19.IpfourPuts', WHERE WHAT IT READS IS OF BULK AT MOST 1048576: true; the input reads as it did. -/
def ipfourPutsUptoRow : OpenClaim := { program := "ytolmejmmbdclfaa", sum := "6f150f2269ff6826529dd671e53e4c88c64bf96082a3a0512b318e4c6d0bfb07", func := "crawlway/crawlwaylaw19.IpfourPuts", spec := "ipfourPuts", apart := false, narrowed := true }
def IpfourPutsUptoSaid : Prop := ipfourPutsUptoRow.holds Try.pinned (OpenSpec.upto ipfourPutsSpec)

/-- 'crawlwaylaw19.IpfourTurned', WHERE WHAT IT READS IS OF BULK AT MOST 1048576: true; the input reads as it did. -/
def ipfourTurnedUptoRow : OpenClaim := { program := "ytolmejmmbdclfaa", sum := "6f150f2269ff6826529dd671e53e4c88c64bf96082a3a0512b318e4c6d0bfb07", func := "crawlway/crawlwaylaw19.IpfourTurned", spec := "ipfourTurned", apart := false, narrowed := true }
def IpfourTurnedUptoSaid : Prop := ipfourTurnedUptoRow.holds Try.pinned (OpenSpec.upto ipfourTurnedSpec)

/-- 'crawlwaylaw19.IpfourLong', WHERE WHAT IT READS IS OF BULK AT MOST 1048576: true; the input reads as it did. -/
def ipfourLongUptoRow : OpenClaim := { program := "ytolmejmmbdclfaa", sum := "6f150f2269ff6826529dd671e53e4c88c64bf96082a3a0512b318e4c6d0bfb07", func := "crawlway/crawlwaylaw19.IpfourLong", spec := "ipfourLong", apart := false, narrowed := true }
def IpfourLongUptoSaid : Prop := ipfourLongUptoRow.holds Try.pinned (OpenSpec.upto ipfourLongSpec)

end Rows
end Go.Proofs.Ytolmejmmbdclfaa
