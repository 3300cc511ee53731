/-
  No cell of these rows narrows 'for every input' (looked for: loops, veiled, ifaces, maps, wideKeys, modest, calm, conditions, laid).
  DERIVED. THE GIVEN ROWS OF THIS SEAT. 10 by the template 'for every input the law returns true; each argument reads behind the call as it read before'; 0 by the template 'total and deterministic' (their statements: YtkokgoodpibboaaTotals.lean).
  GIVEN WITH THE SEED: the statements are not yours to turn. If you find one false, say at which input.
  Laid BY PROGRAM, IN A SANDBOX (cutbox-rows.mjs): the forced cells as the released guide's own fill.sh prints them over the translation f004c305eefba8dc… (all of the seat's roots in one cut). By AI agents, Wed Nov 11 2026. No macro, syntax, notation, axiom, sorry.
-/
import Derived.Test.YtkokgoodpibboaaChecked
import GoSem.Claim
import GoSem.ClaimJoined
import GoSem.ClaimMapViews
import Derived.JoinedTies
import Derived.KernelRfl
namespace Go.Proofs.Ytkokgoodpibboaa
/- THE CELL 'sum', in the pinned program and in every row, IS THE sha256 OF THE DUMP (.gsa) THAT YtkokgoodpibboaaProg.lean LOADS. Nothing in Lean hashes anything: it is a label: what it is worth is what the hold of that sum in a sandbox is worth. -/
noncomputable def Try.pinned : Pinned := { name := "ytkokgoodpibboaa", sum := "f004c305eefba8dc61617923150d470cadf35ca126c4a8cbe1b6112b6c02ef5f", checked := Try.checked }
namespace Rows
def none {H : Type} : Left H := { results := [], args := [] }

/-- 'crawlwaylaw32.ChangeRight': WHATEVER THE INPUT: true; the input reads as it did. -/
def changeRightSpec : ChangeSpec := { name := "changeRight", fn := fun _ => fun
  | [d] => { results := [.lit (.bool true)], args := [d] }
  | _ => none }
def changeRightRow : OpenClaim := { program := "ytkokgoodpibboaa", sum := "f004c305eefba8dc61617923150d470cadf35ca126c4a8cbe1b6112b6c02ef5f", func := "crawlway/crawlwaylaw32.ChangeRight", spec := "changeRight", unfollowed := true, recurses := true, apart := false }
def ChangeRightSaid : Prop := changeRightRow.holds Try.pinned (OpenSpec.ofChange changeRightSpec)

/-- ITS FALSE NEIGHBOUR: 'it returns false'. Refute it at one input. -/
def changeRightWrong : ChangeSpec := { name := "changeRight", fn := fun _ => fun
  | [d] => { results := [.lit (.bool false)], args := [d] }
  | _ => none }
def ChangeRightWrongFalsely : Prop := changeRightRow.holds Try.pinned (OpenSpec.ofChange changeRightWrong)

/-- 'crawlwaylaw32.ChangeNormal': WHATEVER THE INPUT: true; the input reads as it did. -/
def changeNormalSpec : ChangeSpec := { name := "changeNormal", fn := fun _ => fun
  | [d] => { results := [.lit (.bool true)], args := [d] }
  | _ => none }
def changeNormalRow : OpenClaim := { program := "ytkokgoodpibboaa", sum := "f004c305eefba8dc61617923150d470cadf35ca126c4a8cbe1b6112b6c02ef5f", func := "crawlway/crawlwaylaw32.ChangeNormal", spec := "changeNormal", unfollowed := true, recurses := true, apart := false }
def ChangeNormalSaid : Prop := changeNormalRow.holds Try.pinned (OpenSpec.ofChange changeNormalSpec)

/-- ITS FALSE NEIGHBOUR: 'it returns false'. Refute it at one input. -/
def changeNormalWrong : ChangeSpec := { name := "changeNormal", fn := fun _ => fun
  | [d] => { results := [.lit (.bool false)], args := [d] }
  | _ => none }
def ChangeNormalWrongFalsely : Prop := changeNormalRow.holds Try.pinned (OpenSpec.ofChange changeNormalWrong)

/-- 'crawlwaylaw32.ChangeSame': WHATEVER THE INPUT: true; the input reads as it did. -/
def changeSameSpec : ChangeSpec := { name := "changeSame", fn := fun _ => fun
  | [d1, d2] => { results := [.lit (.bool true)], args := [d1, d2] }
  | _ => none }
def changeSameRow : OpenClaim := { program := "ytkokgoodpibboaa", sum := "f004c305eefba8dc61617923150d470cadf35ca126c4a8cbe1b6112b6c02ef5f", func := "crawlway/crawlwaylaw32.ChangeSame", spec := "changeSame", unfollowed := true, recurses := true, apart := false }
def ChangeSameSaid : Prop := changeSameRow.holds Try.pinned (OpenSpec.ofChange changeSameSpec)

/-- ITS FALSE NEIGHBOUR: 'it returns false'. Refute it at one input. -/
def changeSameWrong : ChangeSpec := { name := "changeSame", fn := fun _ => fun
  | [d1, d2] => { results := [.lit (.bool false)], args := [d1, d2] }
  | _ => none }
def ChangeSameWrongFalsely : Prop := changeSameRow.holds Try.pinned (OpenSpec.ofChange changeSameWrong)

/-- 'crawlwaylaw19.IpfourPuts': WHATEVER THE INPUT: true; the input reads as it did. -/
def ipfourPutsSpec : ChangeSpec := { name := "ipfourPuts", fn := fun _ => fun
  | [d1, d2] => { results := [.lit (.bool true)], args := [d1, d2] }
  | _ => none }
def ipfourPutsRow : OpenClaim := { program := "ytkokgoodpibboaa", sum := "f004c305eefba8dc61617923150d470cadf35ca126c4a8cbe1b6112b6c02ef5f", func := "crawlway/crawlwaylaw19.IpfourPuts", spec := "ipfourPuts", apart := false }
def IpfourPutsSaid : Prop := ipfourPutsRow.holds Try.pinned (OpenSpec.ofChange ipfourPutsSpec)

/-- ITS FALSE NEIGHBOUR: 'it returns false'. Refute it at one input. -/
def ipfourPutsWrong : ChangeSpec := { name := "ipfourPuts", fn := fun _ => fun
  | [d1, d2] => { results := [.lit (.bool false)], args := [d1, d2] }
  | _ => none }
def IpfourPutsWrongFalsely : Prop := ipfourPutsRow.holds Try.pinned (OpenSpec.ofChange ipfourPutsWrong)

/-- 'crawlwaylaw20.IpsixPuts': WHATEVER THE INPUT: true; the input reads as it did. -/
def ipsixPutsSpec : ChangeSpec := { name := "ipsixPuts", fn := fun _ => fun
  | [d1, d2] => { results := [.lit (.bool true)], args := [d1, d2] }
  | _ => none }
def ipsixPutsRow : OpenClaim := { program := "ytkokgoodpibboaa", sum := "f004c305eefba8dc61617923150d470cadf35ca126c4a8cbe1b6112b6c02ef5f", func := "crawlway/crawlwaylaw20.IpsixPuts", spec := "ipsixPuts", apart := false }
def IpsixPutsSaid : Prop := ipsixPutsRow.holds Try.pinned (OpenSpec.ofChange ipsixPutsSpec)

/-- ITS FALSE NEIGHBOUR: 'it returns false'. Refute it at one input. -/
def ipsixPutsWrong : ChangeSpec := { name := "ipsixPuts", fn := fun _ => fun
  | [d1, d2] => { results := [.lit (.bool false)], args := [d1, d2] }
  | _ => none }
def IpsixPutsWrongFalsely : Prop := ipsixPutsRow.holds Try.pinned (OpenSpec.ofChange ipsixPutsWrong)

/-- 'crawlwaylaw22.IcmpfourTells': WHATEVER THE INPUT: true; the input reads as it did. -/
def icmpfourTellsSpec : ChangeSpec := { name := "icmpfourTells", fn := fun _ => fun
  | [d] => { results := [.lit (.bool true)], args := [d] }
  | _ => none }
def icmpfourTellsRow : OpenClaim := { program := "ytkokgoodpibboaa", sum := "f004c305eefba8dc61617923150d470cadf35ca126c4a8cbe1b6112b6c02ef5f", func := "crawlway/crawlwaylaw22.IcmpfourTells", spec := "icmpfourTells", apart := false }
def IcmpfourTellsSaid : Prop := icmpfourTellsRow.holds Try.pinned (OpenSpec.ofChange icmpfourTellsSpec)

/-- ITS FALSE NEIGHBOUR: 'it returns false'. Refute it at one input. -/
def icmpfourTellsWrong : ChangeSpec := { name := "icmpfourTells", fn := fun _ => fun
  | [d] => { results := [.lit (.bool false)], args := [d] }
  | _ => none }
def IcmpfourTellsWrongFalsely : Prop := icmpfourTellsRow.holds Try.pinned (OpenSpec.ofChange icmpfourTellsWrong)

/-- 'crawlwaylaw23.IcmpsixTells': WHATEVER THE INPUT: true; the input reads as it did. -/
def icmpsixTellsSpec : ChangeSpec := { name := "icmpsixTells", fn := fun _ => fun
  | [d] => { results := [.lit (.bool true)], args := [d] }
  | _ => none }
def icmpsixTellsRow : OpenClaim := { program := "ytkokgoodpibboaa", sum := "f004c305eefba8dc61617923150d470cadf35ca126c4a8cbe1b6112b6c02ef5f", func := "crawlway/crawlwaylaw23.IcmpsixTells", spec := "icmpsixTells", apart := false }
def IcmpsixTellsSaid : Prop := icmpsixTellsRow.holds Try.pinned (OpenSpec.ofChange icmpsixTellsSpec)

/-- ITS FALSE NEIGHBOUR: 'it returns false'. Refute it at one input. -/
def icmpsixTellsWrong : ChangeSpec := { name := "icmpsixTells", fn := fun _ => fun
  | [d] => { results := [.lit (.bool false)], args := [d] }
  | _ => none }
def IcmpsixTellsWrongFalsely : Prop := icmpsixTellsRow.holds Try.pinned (OpenSpec.ofChange icmpsixTellsWrong)

/-- 'crawlwaylaw23.IcmpsixReads': WHATEVER THE INPUT: true; the input reads as it did. -/
def icmpsixReadsSpec : ChangeSpec := { name := "icmpsixReads", fn := fun _ => fun
  | [d] => { results := [.lit (.bool true)], args := [d] }
  | _ => none }
def icmpsixReadsRow : OpenClaim := { program := "ytkokgoodpibboaa", sum := "f004c305eefba8dc61617923150d470cadf35ca126c4a8cbe1b6112b6c02ef5f", func := "crawlway/crawlwaylaw23.IcmpsixReads", spec := "icmpsixReads", apart := false }
def IcmpsixReadsSaid : Prop := icmpsixReadsRow.holds Try.pinned (OpenSpec.ofChange icmpsixReadsSpec)

/-- ITS FALSE NEIGHBOUR: 'it returns false'. Refute it at one input. -/
def icmpsixReadsWrong : ChangeSpec := { name := "icmpsixReads", fn := fun _ => fun
  | [d] => { results := [.lit (.bool false)], args := [d] }
  | _ => none }
def IcmpsixReadsWrongFalsely : Prop := icmpsixReadsRow.holds Try.pinned (OpenSpec.ofChange icmpsixReadsWrong)

/-- 'crawlwaylaw24.RefuseAnswers': WHATEVER THE INPUT: true; the input reads as it did. -/
def refuseAnswersSpec : ChangeSpec := { name := "refuseAnswers", fn := fun _ => fun
  | [d] => { results := [.lit (.bool true)], args := [d] }
  | _ => none }
def refuseAnswersRow : OpenClaim := { program := "ytkokgoodpibboaa", sum := "f004c305eefba8dc61617923150d470cadf35ca126c4a8cbe1b6112b6c02ef5f", func := "crawlway/crawlwaylaw24.RefuseAnswers", spec := "refuseAnswers", unfollowed := true, recurses := true, apart := false }
def RefuseAnswersSaid : Prop := refuseAnswersRow.holds Try.pinned (OpenSpec.ofChange refuseAnswersSpec)

/-- ITS FALSE NEIGHBOUR: 'it returns false'. Refute it at one input. -/
def refuseAnswersWrong : ChangeSpec := { name := "refuseAnswers", fn := fun _ => fun
  | [d] => { results := [.lit (.bool false)], args := [d] }
  | _ => none }
def RefuseAnswersWrongFalsely : Prop := refuseAnswersRow.holds Try.pinned (OpenSpec.ofChange refuseAnswersWrong)

/-- 'crawlwaylaw24.RefuseOnce': WHATEVER THE INPUT: true; the input reads as it did. -/
def refuseOnceSpec : ChangeSpec := { name := "refuseOnce", fn := fun _ => fun
  | [d] => { results := [.lit (.bool true)], args := [d] }
  | _ => none }
def refuseOnceRow : OpenClaim := { program := "ytkokgoodpibboaa", sum := "f004c305eefba8dc61617923150d470cadf35ca126c4a8cbe1b6112b6c02ef5f", func := "crawlway/crawlwaylaw24.RefuseOnce", spec := "refuseOnce", unfollowed := true, recurses := true, apart := false }
def RefuseOnceSaid : Prop := refuseOnceRow.holds Try.pinned (OpenSpec.ofChange refuseOnceSpec)

/-- ITS FALSE NEIGHBOUR: 'it returns false'. Refute it at one input. -/
def refuseOnceWrong : ChangeSpec := { name := "refuseOnce", fn := fun _ => fun
  | [d] => { results := [.lit (.bool false)], args := [d] }
  | _ => none }
def RefuseOnceWrongFalsely : Prop := refuseOnceRow.holds Try.pinned (OpenSpec.ofChange refuseOnceWrong)

/- THE SECOND FORM. 'bulk': how many values and letters a reading holds, each counted each time it is reached (what is shared counts as often as it is met; a slice's spare places count too). A statement '..UptoSaid' is the law's where the arguments, and the package variables that the reading takes, are together of bulk at most 1048576: NARROWER than '..Said'. Prove '..Said' where nothing that the law and all that it calls make is longer than what came in: it says more and counts as full. Else prove '..UptoSaid'. A law counts once. -/
mutual
def uptoBulk {H : Type} : DataW H → Nat
  | .lit (.string bytes) => bytes.length + 1
  | .lit _ => 1
  | .nil => 1
  | .ptr d => uptoBulk d + 1
  | .slice elems spare => uptoBulkAll elems + uptoBulkAll spare + 1
  | .agg parts => uptoBulkAll parts + 1
  | .iface _ d => uptoBulk d + 1
  | .map entries => uptoBulkEntries entries + 1
  | .held _ => 1
def uptoBulkAll {H : Type} : List (DataW H) → Nat
  | [] => 0
  | d :: r => uptoBulk d + uptoBulkAll r
def uptoBulkEntries {H : Type} : List (Lit × DataW H) → Nat
  | [] => 0
  | x :: r => uptoBulkEntry x + uptoBulkEntries r
def uptoBulkEntry {H : Type} : Lit × DataW H → Nat
  | (.string bytes, d) => bytes.length + uptoBulk d + 1
  | (_, d) => uptoBulk d + 1
 end
def uptoSmall : (H : Type) → List (DataW H) → Bool := fun _ ds => decide (uptoBulkAll ds ≤ 1048576)
def OpenSpec.upto (s : _root_.Go.ChangeSpec) : _root_.Go.OpenSpec := { _root_.Go.OpenSpec.ofChange s with cond := some uptoSmall }

/-- 'crawlwaylaw32.ChangeRight', WHERE WHAT IT READS IS OF BULK AT MOST 1048576: true; the input reads as it did. -/
def changeRightUptoRow : OpenClaim := { program := "ytkokgoodpibboaa", sum := "f004c305eefba8dc61617923150d470cadf35ca126c4a8cbe1b6112b6c02ef5f", func := "crawlway/crawlwaylaw32.ChangeRight", spec := "changeRight", unfollowed := true, recurses := true, apart := false, narrowed := true }
def ChangeRightUptoSaid : Prop := changeRightUptoRow.holds Try.pinned (OpenSpec.upto changeRightSpec)

/-- 'crawlwaylaw32.ChangeNormal', WHERE WHAT IT READS IS OF BULK AT MOST 1048576: true; the input reads as it did. -/
def changeNormalUptoRow : OpenClaim := { program := "ytkokgoodpibboaa", sum := "f004c305eefba8dc61617923150d470cadf35ca126c4a8cbe1b6112b6c02ef5f", func := "crawlway/crawlwaylaw32.ChangeNormal", spec := "changeNormal", unfollowed := true, recurses := true, apart := false, narrowed := true }
def ChangeNormalUptoSaid : Prop := changeNormalUptoRow.holds Try.pinned (OpenSpec.upto changeNormalSpec)

/-- 'crawlwaylaw32.ChangeSame', WHERE WHAT IT READS IS OF BULK AT MOST 1048576: true; the input reads as it did. -/
def changeSameUptoRow : OpenClaim := { program := "ytkokgoodpibboaa", sum := "f004c305eefba8dc61617923150d470cadf35ca126c4a8cbe1b6112b6c02ef5f", func := "crawlway/crawlwaylaw32.ChangeSame", spec := "changeSame", unfollowed := true, recurses := true, apart := false, narrowed := true }
def ChangeSameUptoSaid : Prop := changeSameUptoRow.holds Try.pinned (OpenSpec.upto changeSameSpec)

/-- 'crawlwaylaw19.IpfourPuts', WHERE WHAT IT READS IS OF BULK AT MOST 1048576: true; the input reads as it did. -/
def ipfourPutsUptoRow : OpenClaim := { program := "ytkokgoodpibboaa", sum := "f004c305eefba8dc61617923150d470cadf35ca126c4a8cbe1b6112b6c02ef5f", func := "crawlway/crawlwaylaw19.IpfourPuts", spec := "ipfourPuts", apart := false, narrowed := true }
def IpfourPutsUptoSaid : Prop := ipfourPutsUptoRow.holds Try.pinned (OpenSpec.upto ipfourPutsSpec)

/-- 'crawlwaylaw20.IpsixPuts', WHERE WHAT IT READS IS OF BULK AT MOST 1048576: true; the input reads as it did. -/
def ipsixPutsUptoRow : OpenClaim := { program := "ytkokgoodpibboaa", sum := "f004c305eefba8dc61617923150d470cadf35ca126c4a8cbe1b6112b6c02ef5f", func := "crawlway/crawlwaylaw20.IpsixPuts", spec := "ipsixPuts", apart := false, narrowed := true }
def IpsixPutsUptoSaid : Prop := ipsixPutsUptoRow.holds Try.pinned (OpenSpec.upto ipsixPutsSpec)

/-- 'crawlwaylaw22.IcmpfourTells', WHERE WHAT IT READS IS OF BULK AT MOST 1048576: true; the input reads as it did. -/
def icmpfourTellsUptoRow : OpenClaim := { program := "ytkokgoodpibboaa", sum := "f004c305eefba8dc61617923150d470cadf35ca126c4a8cbe1b6112b6c02ef5f", func := "crawlway/crawlwaylaw22.IcmpfourTells", spec := "icmpfourTells", apart := false, narrowed := true }
def IcmpfourTellsUptoSaid : Prop := icmpfourTellsUptoRow.holds Try.pinned (OpenSpec.upto icmpfourTellsSpec)

/-- 'crawlwaylaw23.IcmpsixTells', WHERE WHAT IT READS IS OF BULK AT MOST 1048576: true; the input reads as it did. -/
def icmpsixTellsUptoRow : OpenClaim := { program := "ytkokgoodpibboaa", sum := "f004c305eefba8dc61617923150d470cadf35ca126c4a8cbe1b6112b6c02ef5f", func := "crawlway/crawlwaylaw23.IcmpsixTells", spec := "icmpsixTells", apart := false, narrowed := true }
def IcmpsixTellsUptoSaid : Prop := icmpsixTellsUptoRow.holds Try.pinned (OpenSpec.upto icmpsixTellsSpec)

/-- 'crawlwaylaw23.IcmpsixReads', WHERE WHAT IT READS IS OF BULK AT MOST 1048576: true; the input reads as it did. -/
def icmpsixReadsUptoRow : OpenClaim := { program := "ytkokgoodpibboaa", sum := "f004c305eefba8dc61617923150d470cadf35ca126c4a8cbe1b6112b6c02ef5f", func := "crawlway/crawlwaylaw23.IcmpsixReads", spec := "icmpsixReads", apart := false, narrowed := true }
def IcmpsixReadsUptoSaid : Prop := icmpsixReadsUptoRow.holds Try.pinned (OpenSpec.upto icmpsixReadsSpec)

/-- 'crawlwaylaw24.RefuseAnswers', WHERE WHAT IT READS IS OF BULK AT MOST 1048576: true; the input reads as it did. -/
def refuseAnswersUptoRow : OpenClaim := { program := "ytkokgoodpibboaa", sum := "f004c305eefba8dc61617923150d470cadf35ca126c4a8cbe1b6112b6c02ef5f", func := "crawlway/crawlwaylaw24.RefuseAnswers", spec := "refuseAnswers", unfollowed := true, recurses := true, apart := false, narrowed := true }
def RefuseAnswersUptoSaid : Prop := refuseAnswersUptoRow.holds Try.pinned (OpenSpec.upto refuseAnswersSpec)

/-- 'crawlwaylaw24.RefuseOnce', WHERE WHAT IT READS IS OF BULK AT MOST 1048576: true; the input reads as it did. -/
def refuseOnceUptoRow : OpenClaim := { program := "ytkokgoodpibboaa", sum := "f004c305eefba8dc61617923150d470cadf35ca126c4a8cbe1b6112b6c02ef5f", func := "crawlway/crawlwaylaw24.RefuseOnce", spec := "refuseOnce", unfollowed := true, recurses := true, apart := false, narrowed := true }
def RefuseOnceUptoSaid : Prop := refuseOnceUptoRow.holds Try.pinned (OpenSpec.upto refuseOnceSpec)

end Rows
end Go.Proofs.Ytkokgoodpibboaa
