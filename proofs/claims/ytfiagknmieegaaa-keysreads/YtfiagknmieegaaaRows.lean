/-
  No cell of these rows narrows 'for every input' (looked for: loops, veiled, ifaces, maps, wideKeys, modest, calm, conditions, laid).
  DERIVED. THE GIVEN ROWS OF THIS SEAT. 9 by the template 'for every input the law returns true; each argument reads behind the call as it read before'; 0 by the template 'total and deterministic' (their statements: YtfiagknmieegaaaTotals.lean).
  GIVEN WITH THE SEED: the statements are not yours to turn. If you find one false, say at which input.
  Laid BY PROGRAM, IN A SANDBOX (cutbox-rows.mjs): the forced cells as the released guide's own fill.sh prints them over the translation 4adf3c7c62c4c052… (all of the seat's roots in one cut). By AI agents, Wed Nov 11 2026. No macro, syntax, notation, axiom, sorry.
-/
import Derived.Test.YtfiagknmieegaaaChecked
import GoSem.Claim
import GoSem.ClaimJoined
import GoSem.ClaimMapViews
import Derived.JoinedTies
import Derived.KernelRfl
namespace Go.Proofs.Ytfiagknmieegaaa
/- THE CELL 'sum', in the pinned program and in every row, IS THE sha256 OF THE DUMP (.gsa) THAT YtfiagknmieegaaaProg.lean LOADS. Nothing in Lean hashes anything: it is a label: what it is worth is what the hold of that sum in a sandbox is worth. -/
noncomputable def Try.pinned : Pinned := { name := "ytfiagknmieegaaa", sum := "4adf3c7c62c4c05221c9300073e803905523a21bf0759482858d0d29af93ff78", checked := Try.checked }
namespace Rows
def none {H : Type} : Left H := { results := [], args := [] }

/-- 'crawlwaylaw02.TakerPlays': WHATEVER THE INPUT: true; the input reads as it did. -/
def takerPlaysSpec : ChangeSpec := { name := "takerPlays", fn := fun _ => fun
  | [d1, d2] => { results := [.lit (.bool true)], args := [d1, d2] }
  | _ => none }
def takerPlaysRow : OpenClaim := { program := "ytfiagknmieegaaa", sum := "4adf3c7c62c4c05221c9300073e803905523a21bf0759482858d0d29af93ff78", func := "crawlway/crawlwaylaw02.TakerPlays", spec := "takerPlays", unfollowed := true, recurses := true, apart := false }
def TakerPlaysSaid : Prop := takerPlaysRow.holds Try.pinned (OpenSpec.ofChange takerPlaysSpec)

/-- ITS FALSE NEIGHBOUR: 'it returns false'. Refute it at one input. -/
def takerPlaysWrong : ChangeSpec := { name := "takerPlays", fn := fun _ => fun
  | [d1, d2] => { results := [.lit (.bool false)], args := [d1, d2] }
  | _ => none }
def TakerPlaysWrongFalsely : Prop := takerPlaysRow.holds Try.pinned (OpenSpec.ofChange takerPlaysWrong)

/-- 'crawlwaylaw02.TakerOwn': WHATEVER THE INPUT: true; the input reads as it did. -/
def takerOwnSpec : ChangeSpec := { name := "takerOwn", fn := fun _ => fun
  | [d1, d2] => { results := [.lit (.bool true)], args := [d1, d2] }
  | _ => none }
def takerOwnRow : OpenClaim := { program := "ytfiagknmieegaaa", sum := "4adf3c7c62c4c05221c9300073e803905523a21bf0759482858d0d29af93ff78", func := "crawlway/crawlwaylaw02.TakerOwn", spec := "takerOwn", unfollowed := true, recurses := true, apart := false }
def TakerOwnSaid : Prop := takerOwnRow.holds Try.pinned (OpenSpec.ofChange takerOwnSpec)

/-- ITS FALSE NEIGHBOUR: 'it returns false'. Refute it at one input. -/
def takerOwnWrong : ChangeSpec := { name := "takerOwn", fn := fun _ => fun
  | [d1, d2] => { results := [.lit (.bool false)], args := [d1, d2] }
  | _ => none }
def TakerOwnWrongFalsely : Prop := takerOwnRow.holds Try.pinned (OpenSpec.ofChange takerOwnWrong)

/-- 'crawlwaylaw02.TakerNobody': WHATEVER THE INPUT: true; the input reads as it did. -/
def takerNobodySpec : ChangeSpec := { name := "takerNobody", fn := fun _ => fun
  | [d] => { results := [.lit (.bool true)], args := [d] }
  | _ => none }
def takerNobodyRow : OpenClaim := { program := "ytfiagknmieegaaa", sum := "4adf3c7c62c4c05221c9300073e803905523a21bf0759482858d0d29af93ff78", func := "crawlway/crawlwaylaw02.TakerNobody", spec := "takerNobody", unfollowed := true, recurses := true, apart := false }
def TakerNobodySaid : Prop := takerNobodyRow.holds Try.pinned (OpenSpec.ofChange takerNobodySpec)

/-- ITS FALSE NEIGHBOUR: 'it returns false'. Refute it at one input. -/
def takerNobodyWrong : ChangeSpec := { name := "takerNobody", fn := fun _ => fun
  | [d] => { results := [.lit (.bool false)], args := [d] }
  | _ => none }
def TakerNobodyWrongFalsely : Prop := takerNobodyRow.holds Try.pinned (OpenSpec.ofChange takerNobodyWrong)

/-- 'crawlwaylaw07.KeysTexts': WHATEVER THE INPUT: true; the input reads as it did. -/
def keysTextsSpec : ChangeSpec := { name := "keysTexts", fn := fun _ => fun
  | [d] => { results := [.lit (.bool true)], args := [d] }
  | _ => none }
def keysTextsRow : OpenClaim := { program := "ytfiagknmieegaaa", sum := "4adf3c7c62c4c05221c9300073e803905523a21bf0759482858d0d29af93ff78", func := "crawlway/crawlwaylaw07.KeysTexts", spec := "keysTexts", inPlace := ["internal/bytealg.IndexByteString"], apart := false }
def KeysTextsSaid : Prop := keysTextsRow.holds Try.pinned (OpenSpec.ofChange keysTextsSpec)

/-- ITS FALSE NEIGHBOUR: 'it returns false'. Refute it at one input. -/
def keysTextsWrong : ChangeSpec := { name := "keysTexts", fn := fun _ => fun
  | [d] => { results := [.lit (.bool false)], args := [d] }
  | _ => none }
def KeysTextsWrongFalsely : Prop := keysTextsRow.holds Try.pinned (OpenSpec.ofChange keysTextsWrong)

/-- 'crawlwaylaw07.KeysReads': WHATEVER THE INPUT: true; the input reads as it did. -/
def keysReadsSpec : ChangeSpec := { name := "keysReads", fn := fun _ => fun
  | [d] => { results := [.lit (.bool true)], args := [d] }
  | _ => none }
def keysReadsRow : OpenClaim := { program := "ytfiagknmieegaaa", sum := "4adf3c7c62c4c05221c9300073e803905523a21bf0759482858d0d29af93ff78", func := "crawlway/crawlwaylaw07.KeysReads", spec := "keysReads", inPlace := ["internal/bytealg.IndexByteString"], apart := false }
def KeysReadsSaid : Prop := keysReadsRow.holds Try.pinned (OpenSpec.ofChange keysReadsSpec)

/-- ITS FALSE NEIGHBOUR: 'it returns false'. Refute it at one input. -/
def keysReadsWrong : ChangeSpec := { name := "keysReads", fn := fun _ => fun
  | [d] => { results := [.lit (.bool false)], args := [d] }
  | _ => none }
def KeysReadsWrongFalsely : Prop := keysReadsRow.holds Try.pinned (OpenSpec.ofChange keysReadsWrong)

/-- 'crawlwaylaw07.KeysOrder': WHATEVER THE INPUT: true; the input reads as it did. -/
def keysOrderSpec : ChangeSpec := { name := "keysOrder", fn := fun _ => fun
  | [d1, d2] => { results := [.lit (.bool true)], args := [d1, d2] }
  | _ => none }
def keysOrderRow : OpenClaim := { program := "ytfiagknmieegaaa", sum := "4adf3c7c62c4c05221c9300073e803905523a21bf0759482858d0d29af93ff78", func := "crawlway/crawlwaylaw07.KeysOrder", spec := "keysOrder", inPlace := ["internal/bytealg.Compare"], apart := false }
def KeysOrderSaid : Prop := keysOrderRow.holds Try.pinned (OpenSpec.ofChange keysOrderSpec)

/-- ITS FALSE NEIGHBOUR: 'it returns false'. Refute it at one input. -/
def keysOrderWrong : ChangeSpec := { name := "keysOrder", fn := fun _ => fun
  | [d1, d2] => { results := [.lit (.bool false)], args := [d1, d2] }
  | _ => none }
def KeysOrderWrongFalsely : Prop := keysOrderRow.holds Try.pinned (OpenSpec.ofChange keysOrderWrong)

/-- 'crawlwaylaw09.ColonBack': WHATEVER THE INPUT: true; the input reads as it did. -/
def colonBackSpec : ChangeSpec := { name := "colonBack", fn := fun _ => fun
  | [d] => { results := [.lit (.bool true)], args := [d] }
  | _ => none }
def colonBackRow : OpenClaim := { program := "ytfiagknmieegaaa", sum := "4adf3c7c62c4c05221c9300073e803905523a21bf0759482858d0d29af93ff78", func := "crawlway/crawlwaylaw09.ColonBack", spec := "colonBack", inPlace := ["internal/abi.NoEscape", "internal/bytealg.MakeNoZero", "internal/bytealg.IndexByteString", "internal/bytealg.IndexString"], recurses := true, named := ["internal/bytealg.MaxLen"], apart := false }
def ColonBackSaid : Prop := colonBackRow.holds Try.pinned (OpenSpec.ofChange colonBackSpec)

/-- ITS FALSE NEIGHBOUR: 'it returns false'. Refute it at one input. -/
def colonBackWrong : ChangeSpec := { name := "colonBack", fn := fun _ => fun
  | [d] => { results := [.lit (.bool false)], args := [d] }
  | _ => none }
def ColonBackWrongFalsely : Prop := colonBackRow.holds Try.pinned (OpenSpec.ofChange colonBackWrong)

/-- 'crawlwaylaw09.ColonReads': WHATEVER THE INPUT: true; the input reads as it did. -/
def colonReadsSpec : ChangeSpec := { name := "colonReads", fn := fun _ => fun
  | [d] => { results := [.lit (.bool true)], args := [d] }
  | _ => none }
def colonReadsRow : OpenClaim := { program := "ytfiagknmieegaaa", sum := "4adf3c7c62c4c05221c9300073e803905523a21bf0759482858d0d29af93ff78", func := "crawlway/crawlwaylaw09.ColonReads", spec := "colonReads", inPlace := ["internal/bytealg.IndexByteString", "internal/bytealg.IndexString", "internal/abi.NoEscape", "internal/bytealg.MakeNoZero"], named := ["internal/bytealg.MaxLen"], apart := false }
def ColonReadsSaid : Prop := colonReadsRow.holds Try.pinned (OpenSpec.ofChange colonReadsSpec)

/-- ITS FALSE NEIGHBOUR: 'it returns false'. Refute it at one input. -/
def colonReadsWrong : ChangeSpec := { name := "colonReads", fn := fun _ => fun
  | [d] => { results := [.lit (.bool false)], args := [d] }
  | _ => none }
def ColonReadsWrongFalsely : Prop := colonReadsRow.holds Try.pinned (OpenSpec.ofChange colonReadsWrong)

/-- 'crawlwaylaw09.ColonShort': WHATEVER THE INPUT: true; the input reads as it did. -/
def colonShortSpec : ChangeSpec := { name := "colonShort", fn := fun _ => fun
  | [d] => { results := [.lit (.bool true)], args := [d] }
  | _ => none }
def colonShortRow : OpenClaim := { program := "ytfiagknmieegaaa", sum := "4adf3c7c62c4c05221c9300073e803905523a21bf0759482858d0d29af93ff78", func := "crawlway/crawlwaylaw09.ColonShort", spec := "colonShort", inPlace := ["internal/bytealg.IndexByteString", "internal/bytealg.IndexString", "internal/abi.NoEscape", "internal/bytealg.MakeNoZero"], named := ["internal/bytealg.MaxLen"], apart := false }
def ColonShortSaid : Prop := colonShortRow.holds Try.pinned (OpenSpec.ofChange colonShortSpec)

/-- ITS FALSE NEIGHBOUR: 'it returns false'. Refute it at one input. -/
def colonShortWrong : ChangeSpec := { name := "colonShort", fn := fun _ => fun
  | [d] => { results := [.lit (.bool false)], args := [d] }
  | _ => none }
def ColonShortWrongFalsely : Prop := colonShortRow.holds Try.pinned (OpenSpec.ofChange colonShortWrong)

/- THE SECOND FORM. 'bulk': how many values and letters a reading holds, each counted each time it is reached (what is shared counts as often as it is met; a slice's spare places count too). A statement '..UptoSaid' is the law's where the arguments, and the package variables that the reading takes, are together of bulk at most 1048576: NARROWER than '..Said'. Prove '..Said' where nothing that the law and all that it calls make is longer than what came in: it says more and counts as full. Else prove '..UptoSaid'. A law counts once. -/
mutual
def uptoBulk {H : Type} : DataW H → Nat
  | .lit (.string bytes) => bytes.length + 1
  | .lit _ => 1
  | .nil => 1
  | .ptr d => uptoBulk d + 1
  | .slice elems spare => uptoBulkAll elems + uptoBulkAll spare + 1
  | .agg parts => uptoBulkAll parts + 1
  | .iface _ d => uptoBulk d + 1
  | .map entries => uptoBulkEntries entries + 1
  | .held _ => 1
def uptoBulkAll {H : Type} : List (DataW H) → Nat
  | [] => 0
  | d :: r => uptoBulk d + uptoBulkAll r
def uptoBulkEntries {H : Type} : List (Lit × DataW H) → Nat
  | [] => 0
  | x :: r => uptoBulkEntry x + uptoBulkEntries r
def uptoBulkEntry {H : Type} : Lit × DataW H → Nat
  | (.string bytes, d) => bytes.length + uptoBulk d + 1
  | (_, d) => uptoBulk d + 1
 end
def uptoSmall : (H : Type) → List (DataW H) → Bool := fun _ ds => decide (uptoBulkAll ds ≤ 1048576)
def OpenSpec.upto (s : _root_.Go.ChangeSpec) : _root_.Go.OpenSpec := { _root_.Go.OpenSpec.ofChange s with cond := some uptoSmall }

/-- 'crawlwaylaw02.TakerPlays', WHERE WHAT IT READS IS OF BULK AT MOST 1048576: true; the input reads as it did. -/
def takerPlaysUptoRow : OpenClaim := { program := "ytfiagknmieegaaa", sum := "4adf3c7c62c4c05221c9300073e803905523a21bf0759482858d0d29af93ff78", func := "crawlway/crawlwaylaw02.TakerPlays", spec := "takerPlays", unfollowed := true, recurses := true, apart := false, narrowed := true }
def TakerPlaysUptoSaid : Prop := takerPlaysUptoRow.holds Try.pinned (OpenSpec.upto takerPlaysSpec)

/-- 'crawlwaylaw02.TakerOwn', WHERE WHAT IT READS IS OF BULK AT MOST 1048576: true; the input reads as it did. -/
def takerOwnUptoRow : OpenClaim := { program := "ytfiagknmieegaaa", sum := "4adf3c7c62c4c05221c9300073e803905523a21bf0759482858d0d29af93ff78", func := "crawlway/crawlwaylaw02.TakerOwn", spec := "takerOwn", unfollowed := true, recurses := true, apart := false, narrowed := true }
def TakerOwnUptoSaid : Prop := takerOwnUptoRow.holds Try.pinned (OpenSpec.upto takerOwnSpec)

/-- 'crawlwaylaw02.TakerNobody', WHERE WHAT IT READS IS OF BULK AT MOST 1048576: true; the input reads as it did. -/
def takerNobodyUptoRow : OpenClaim := { program := "ytfiagknmieegaaa", sum := "4adf3c7c62c4c05221c9300073e803905523a21bf0759482858d0d29af93ff78", func := "crawlway/crawlwaylaw02.TakerNobody", spec := "takerNobody", unfollowed := true, recurses := true, apart := false, narrowed := true }
def TakerNobodyUptoSaid : Prop := takerNobodyUptoRow.holds Try.pinned (OpenSpec.upto takerNobodySpec)

/-- 'crawlwaylaw07.KeysTexts', WHERE WHAT IT READS IS OF BULK AT MOST 1048576: true; the input reads as it did. -/
def keysTextsUptoRow : OpenClaim := { program := "ytfiagknmieegaaa", sum := "4adf3c7c62c4c05221c9300073e803905523a21bf0759482858d0d29af93ff78", func := "crawlway/crawlwaylaw07.KeysTexts", spec := "keysTexts", inPlace := ["internal/bytealg.IndexByteString"], apart := false, narrowed := true }
def KeysTextsUptoSaid : Prop := keysTextsUptoRow.holds Try.pinned (OpenSpec.upto keysTextsSpec)

/-- 'crawlwaylaw07.KeysReads', WHERE WHAT IT READS IS OF BULK AT MOST 1048576: true; the input reads as it did. -/
def keysReadsUptoRow : OpenClaim := { program := "ytfiagknmieegaaa", sum := "4adf3c7c62c4c05221c9300073e803905523a21bf0759482858d0d29af93ff78", func := "crawlway/crawlwaylaw07.KeysReads", spec := "keysReads", inPlace := ["internal/bytealg.IndexByteString"], apart := false, narrowed := true }
def KeysReadsUptoSaid : Prop := keysReadsUptoRow.holds Try.pinned (OpenSpec.upto keysReadsSpec)

/-- 'crawlwaylaw07.KeysOrder', WHERE WHAT IT READS IS OF BULK AT MOST 1048576: true; the input reads as it did. -/
def keysOrderUptoRow : OpenClaim := { program := "ytfiagknmieegaaa", sum := "4adf3c7c62c4c05221c9300073e803905523a21bf0759482858d0d29af93ff78", func := "crawlway/crawlwaylaw07.KeysOrder", spec := "keysOrder", inPlace := ["internal/bytealg.Compare"], apart := false, narrowed := true }
def KeysOrderUptoSaid : Prop := keysOrderUptoRow.holds Try.pinned (OpenSpec.upto keysOrderSpec)

/-- 'crawlwaylaw09.ColonBack', WHERE WHAT IT READS IS OF BULK AT MOST 1048576: true; the input reads as it did. -/
def colonBackUptoRow : OpenClaim := { program := "ytfiagknmieegaaa", sum := "4adf3c7c62c4c05221c9300073e803905523a21bf0759482858d0d29af93ff78", func := "crawlway/crawlwaylaw09.ColonBack", spec := "colonBack", inPlace := ["internal/abi.NoEscape", "internal/bytealg.MakeNoZero", "internal/bytealg.IndexByteString", "internal/bytealg.IndexString"], recurses := true, named := ["internal/bytealg.MaxLen"], apart := false, narrowed := true }
def ColonBackUptoSaid : Prop := colonBackUptoRow.holds Try.pinned (OpenSpec.upto colonBackSpec)

/-- 'crawlwaylaw09.ColonReads', WHERE WHAT IT READS IS OF BULK AT MOST 1048576: true; the input reads as it did. -/
def colonReadsUptoRow : OpenClaim := { program := "ytfiagknmieegaaa", sum := "4adf3c7c62c4c05221c9300073e803905523a21bf0759482858d0d29af93ff78", func := "crawlway/crawlwaylaw09.ColonReads", spec := "colonReads", inPlace := ["internal/bytealg.IndexByteString", "internal/bytealg.IndexString", "internal/abi.NoEscape", "internal/bytealg.MakeNoZero"], named := ["internal/bytealg.MaxLen"], apart := false, narrowed := true }
def ColonReadsUptoSaid : Prop := colonReadsUptoRow.holds Try.pinned (OpenSpec.upto colonReadsSpec)

/-- 'crawlwaylaw09.ColonShort', WHERE WHAT IT READS IS OF BULK AT MOST 1048576: true; the input reads as it did. -/
def colonShortUptoRow : OpenClaim := { program := "ytfiagknmieegaaa", sum := "4adf3c7c62c4c05221c9300073e803905523a21bf0759482858d0d29af93ff78", func := "crawlway/crawlwaylaw09.ColonShort", spec := "colonShort", inPlace := ["internal/bytealg.IndexByteString", "internal/bytealg.IndexString", "internal/abi.NoEscape", "internal/bytealg.MakeNoZero"], named := ["internal/bytealg.MaxLen"], apart := false, narrowed := true }
def ColonShortUptoSaid : Prop := colonShortUptoRow.holds Try.pinned (OpenSpec.upto colonShortSpec)

end Rows
end Go.Proofs.Ytfiagknmieegaaa
