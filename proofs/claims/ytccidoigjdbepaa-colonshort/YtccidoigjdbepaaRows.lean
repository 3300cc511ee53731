/-
  No cell of these rows narrows 'for every input' (looked for: loops, veiled, ifaces, maps, wideKeys, modest, calm, conditions, laid).
  DERIVED. THE GIVEN ROWS OF THIS SEAT. 3 by the template 'for every input the law returns true; each argument reads behind the call as it read before'; 0 by the template 'total and deterministic' (their statements: YtccidoigjdbepaaTotals.lean).
  GIVEN WITH THE SEED: the statements are not yours to turn. If you find one false, say at which input.
  Laid BY PROGRAM, IN A SANDBOX (cutbox-rows.mjs): the forced cells as the released guide's own fill.sh prints them over the translation a70bdb48b9439a75… (all of the seat's roots in one cut). By AI agents, Wed Nov 11 2026. No macro, syntax, notation, axiom, sorry.
-/
import Derived.Test.YtccidoigjdbepaaChecked
import GoSem.Claim
import GoSem.ClaimJoined
import GoSem.ClaimMapViews
import Derived.JoinedTies
import Derived.KernelRfl
namespace Go.Proofs.Ytccidoigjdbepaa
/- THE CELL 'sum', in the pinned program and in every row, IS THE sha256 OF THE DUMP (.gsa) THAT YtccidoigjdbepaaProg.lean LOADS. Nothing in Lean hashes anything: it is a label: what it is worth is what the hold of that sum in a sandbox is worth. -/
noncomputable def Try.pinned : Pinned := { name := "ytccidoigjdbepaa", sum := "a70bdb48b9439a75b2eb2dbda582cd512d75c0935378576878ee145f7e048b11", checked := Try.checked }
namespace Rows
def none {H : Type} : Left H := { results := [], args := [] }

/-- 'crawlwaylaw09.ColonBack': WHATEVER THE INPUT: true; the input reads as it did. -/
def colonBackSpec : ChangeSpec := { name := "colonBack", fn := fun _ => fun
  | [d] => { results := [.lit (.bool true)], args := [d] }
  | _ => none }
def colonBackRow : OpenClaim := { program := "ytccidoigjdbepaa", sum := "a70bdb48b9439a75b2eb2dbda582cd512d75c0935378576878ee145f7e048b11", func := "crawlway/crawlwaylaw09.ColonBack", spec := "colonBack", inPlace := ["internal/abi.NoEscape", "internal/bytealg.MakeNoZero", "internal/bytealg.IndexByteString", "internal/bytealg.IndexString"], recurses := true, named := ["internal/bytealg.MaxLen"], apart := false }
def ColonBackSaid : Prop := colonBackRow.holds Try.pinned (OpenSpec.ofChange colonBackSpec)

/-- ITS FALSE NEIGHBOUR: 'it returns false'. Refute it at one input. -/
def colonBackWrong : ChangeSpec := { name := "colonBack", fn := fun _ => fun
  | [d] => { results := [.lit (.bool false)], args := [d] }
  | _ => none }
def ColonBackWrongFalsely : Prop := colonBackRow.holds Try.pinned (OpenSpec.ofChange colonBackWrong)

/-- 'crawlwaylaw09.ColonReads': WHATEVER THE INPUT: true; the input reads as it did. -/
def colonReadsSpec : ChangeSpec := { name := "colonReads", fn := fun _ => fun
  | [d] => { results := [.lit (.bool true)], args := [d] }
  | _ => none }
def colonReadsRow : OpenClaim := { program := "ytccidoigjdbepaa", sum := "a70bdb48b9439a75b2eb2dbda582cd512d75c0935378576878ee145f7e048b11", func := "crawlway/crawlwaylaw09.ColonReads", spec := "colonReads", inPlace := ["internal/bytealg.IndexByteString", "internal/bytealg.IndexString", "internal/abi.NoEscape", "internal/bytealg.MakeNoZero"], named := ["internal/bytealg.MaxLen"], apart := false }
def ColonReadsSaid : Prop := colonReadsRow.holds Try.pinned (OpenSpec.ofChange colonReadsSpec)

/-- ITS FALSE NEIGHBOUR: 'it returns false'. Refute it at one input. -/
def colonReadsWrong : ChangeSpec := { name := "colonReads", fn := fun _ => fun
  | [d] => { results := [.lit (.bool false)], args := [d] }
  | _ => none }
def ColonReadsWrongFalsely : Prop := colonReadsRow.holds Try.pinned (OpenSpec.ofChange colonReadsWrong)

/-- 'crawlwaylaw09.ColonShort': WHATEVER THE INPUT: true; the input reads as it did. -/
def colonShortSpec : ChangeSpec := { name := "colonShort", fn := fun _ => fun
  | [d] => { results := [.lit (.bool true)], args := [d] }
  | _ => none }
def colonShortRow : OpenClaim := { program := "ytccidoigjdbepaa", sum := "a70bdb48b9439a75b2eb2dbda582cd512d75c0935378576878ee145f7e048b11", func := "crawlway/crawlwaylaw09.ColonShort", spec := "colonShort", inPlace := ["internal/bytealg.IndexByteString", "internal/bytealg.IndexString", "internal/abi.NoEscape", "internal/bytealg.MakeNoZero"], named := ["internal/bytealg.MaxLen"], apart := false }
def ColonShortSaid : Prop := colonShortRow.holds Try.pinned (OpenSpec.ofChange colonShortSpec)

/-- ITS FALSE NEIGHBOUR: 'it returns false'. Refute it at one input. -/
def colonShortWrong : ChangeSpec := { name := "colonShort", fn := fun _ => fun
  | [d] => { results := [.lit (.bool false)], args := [d] }
  | _ => none }
def ColonShortWrongFalsely : Prop := colonShortRow.holds Try.pinned (OpenSpec.ofChange colonShortWrong)

/- THE SECOND FORM. 'bulk': how many values and letters a reading holds, each counted each time it is reached (what is shared counts as often as it is met; a slice's spare places count too). A statement '..UptoSaid' is the law's where the arguments, and the package variables that the reading takes, are together of bulk at most 1048576: NARROWER than '..Said'. Prove '..Said' where nothing that the law and all that it calls make is longer than what came in: it says more and counts as full. Else prove '..UptoSaid'. A law counts once. -/
mutual
def uptoBulk {H : Type} : DataW H → Nat
  | .lit (.string bytes) => bytes.length + 1
  | .lit _ => 1
  | .nil => 1
  | .ptr d => uptoBulk d + 1
  | .slice elems spare => uptoBulkAll elems + uptoBulkAll spare + 1
  | .agg parts => uptoBulkAll parts + 1
  | .iface _ d => uptoBulk d + 1
  | .map entries => uptoBulkEntries entries + 1
  | .held _ => 1
def uptoBulkAll {H : Type} : List (DataW H) → Nat
  | [] => 0
  | d :: r => uptoBulk d + uptoBulkAll r
def uptoBulkEntries {H : Type} : List (Lit × DataW H) → Nat
  | [] => 0
  | x :: r => uptoBulkEntry x + uptoBulkEntries r
def uptoBulkEntry {H : Type} : Lit × DataW H → Nat
  | (.string bytes, d) => bytes.length + uptoBulk d + 1
  | (_, d) => uptoBulk d + 1
 end
def uptoSmall : (H : Type) → List (DataW H) → Bool := fun _ ds => decide (uptoBulkAll ds ≤ 1048576)
def OpenSpec.upto (s : _root_.Go.ChangeSpec) : _root_.Go.OpenSpec := { _root_.Go.OpenSpec.ofChange s with cond := some uptoSmall }

/-- 'crawlwaylaw09.ColonBack', WHERE WHAT IT READS IS OF BULK AT MOST 1048576: true; the input reads as it did. -/
def colonBackUptoRow : OpenClaim := { program := "ytccidoigjdbepaa", sum := "a70bdb48b9439a75b2eb2dbda582cd512d75c0935378576878ee145f7e048b11", func := "crawlway/crawlwaylaw09.ColonBack", spec := "colonBack", inPlace := ["internal/abi.NoEscape", "internal/bytealg.MakeNoZero", "internal/bytealg.IndexByteString", "internal/bytealg.IndexString"], recurses := true, named := ["internal/bytealg.MaxLen"], apart := false, narrowed := true }
def ColonBackUptoSaid : Prop := colonBackUptoRow.holds Try.pinned (OpenSpec.upto colonBackSpec)

/-- 'crawlwaylaw09.ColonReads', WHERE WHAT IT READS IS OF BULK AT MOST 1048576: true; the input reads as it did. -/
def colonReadsUptoRow : OpenClaim := { program := "ytccidoigjdbepaa", sum := "a70bdb48b9439a75b2eb2dbda582cd512d75c0935378576878ee145f7e048b11", func := "crawlway/crawlwaylaw09.ColonReads", spec := "colonReads", inPlace := ["internal/bytealg.IndexByteString", "internal/bytealg.IndexString", "internal/abi.NoEscape", "internal/bytealg.MakeNoZero"], named := ["internal/bytealg.MaxLen"], apart := false, narrowed := true }
def ColonReadsUptoSaid : Prop := colonReadsUptoRow.holds Try.pinned (OpenSpec.upto colonReadsSpec)

/-- 'crawlwaylaw09.ColonShort', WHERE WHAT IT READS IS OF BULK AT MOST 1048576: true; the input reads as it did. -/
def colonShortUptoRow : OpenClaim := { program := "ytccidoigjdbepaa", sum := "a70bdb48b9439a75b2eb2dbda582cd512d75c0935378576878ee145f7e048b11", func := "crawlway/crawlwaylaw09.ColonShort", spec := "colonShort", inPlace := ["internal/bytealg.IndexByteString", "internal/bytealg.IndexString", "internal/abi.NoEscape", "internal/bytealg.MakeNoZero"], named := ["internal/bytealg.MaxLen"], apart := false, narrowed := true }
def ColonShortUptoSaid : Prop := colonShortUptoRow.holds Try.pinned (OpenSpec.upto colonShortSpec)

end Rows
end Go.Proofs.Ytccidoigjdbepaa
