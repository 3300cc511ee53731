/-
  No cell of these rows narrows 'for every input' (looked for: loops, veiled, ifaces, maps, wideKeys, modest, calm, conditions, laid).
  DERIVED. THE GIVEN ROWS OF THIS SEAT. 10 by the template 'for every input the law returns true; each argument reads behind the call as it read before'; 0 by the template 'total and deterministic' (their statements: YtibpbgfliccacaaTotals.lean).
  GIVEN WITH THE SEED: the statements are not yours to turn. If you find one false, say at which input.
  Laid BY PROGRAM, IN A SANDBOX (cutbox-rows.mjs): the forced cells as the released guide's own fill.sh prints them over the translation 3c6addb3a43e9c90… (all of the seat's roots in one cut). By AI agents, Wed Nov 11 2026. No macro, syntax, notation, axiom, sorry.
-/
import Derived.Test.YtibpbgfliccacaaChecked
import GoSem.Claim
import GoSem.ClaimJoined
import GoSem.ClaimMapViews
import Derived.JoinedTies
import Derived.KernelRfl
namespace Go.Proofs.Ytibpbgfliccacaa
/- THE CELL 'sum', in the pinned program and in every row, IS THE sha256 OF THE DUMP (.gsa) THAT YtibpbgfliccacaaProg.lean LOADS. Nothing in Lean hashes anything: it is a label: what it is worth is what the hold of that sum in a sandbox is worth. -/
noncomputable def Try.pinned : Pinned := { name := "ytibpbgfliccacaa", sum := "3c6addb3a43e9c9036b05b0d9fc45588cb3353459ebdf1f2f010f0b15c054c09", checked := Try.checked }
namespace Rows
def none {H : Type} : Left H := { results := [], args := [] }

/-- 'crawlwaylaw28.ReplayPlays': WHATEVER THE INPUT: true; the input reads as it did. -/
def replayPlaysSpec : ChangeSpec := { name := "replayPlays", fn := fun _ => fun
  | [d1, d2] => { results := [.lit (.bool true)], args := [d1, d2] }
  | _ => none }
def replayPlaysRow : OpenClaim := { program := "ytibpbgfliccacaa", sum := "3c6addb3a43e9c9036b05b0d9fc45588cb3353459ebdf1f2f010f0b15c054c09", func := "crawlway/crawlwaylaw28.ReplayPlays", spec := "replayPlays", apart := false }
def ReplayPlaysSaid : Prop := replayPlaysRow.holds Try.pinned (OpenSpec.ofChange replayPlaysSpec)

/-- ITS FALSE NEIGHBOUR: 'it returns false'. Refute it at one input. -/
def replayPlaysWrong : ChangeSpec := { name := "replayPlays", fn := fun _ => fun
  | [d1, d2] => { results := [.lit (.bool false)], args := [d1, d2] }
  | _ => none }
def ReplayPlaysWrongFalsely : Prop := replayPlaysRow.holds Try.pinned (OpenSpec.ofChange replayPlaysWrong)

/-- 'crawlwaylaw28.ReplayOnce': WHATEVER THE INPUT: true; the input reads as it did. -/
def replayOnceSpec : ChangeSpec := { name := "replayOnce", fn := fun _ => fun
  | [d1, d2, d3] => { results := [.lit (.bool true)], args := [d1, d2, d3] }
  | _ => none }
def replayOnceRow : OpenClaim := { program := "ytibpbgfliccacaa", sum := "3c6addb3a43e9c9036b05b0d9fc45588cb3353459ebdf1f2f010f0b15c054c09", func := "crawlway/crawlwaylaw28.ReplayOnce", spec := "replayOnce", apart := false }
def ReplayOnceSaid : Prop := replayOnceRow.holds Try.pinned (OpenSpec.ofChange replayOnceSpec)

/-- ITS FALSE NEIGHBOUR: 'it returns false'. Refute it at one input. -/
def replayOnceWrong : ChangeSpec := { name := "replayOnce", fn := fun _ => fun
  | [d1, d2, d3] => { results := [.lit (.bool false)], args := [d1, d2, d3] }
  | _ => none }
def ReplayOnceWrongFalsely : Prop := replayOnceRow.holds Try.pinned (OpenSpec.ofChange replayOnceWrong)

/-- 'crawlwaylaw28.ReplayOrder': WHATEVER THE INPUT: true; the input reads as it did. -/
def replayOrderSpec : ChangeSpec := { name := "replayOrder", fn := fun _ => fun
  | [d1, d2] => { results := [.lit (.bool true)], args := [d1, d2] }
  | _ => none }
def replayOrderRow : OpenClaim := { program := "ytibpbgfliccacaa", sum := "3c6addb3a43e9c9036b05b0d9fc45588cb3353459ebdf1f2f010f0b15c054c09", func := "crawlway/crawlwaylaw28.ReplayOrder", spec := "replayOrder", apart := false }
def ReplayOrderSaid : Prop := replayOrderRow.holds Try.pinned (OpenSpec.ofChange replayOrderSpec)

/-- ITS FALSE NEIGHBOUR: 'it returns false'. Refute it at one input. -/
def replayOrderWrong : ChangeSpec := { name := "replayOrder", fn := fun _ => fun
  | [d1, d2] => { results := [.lit (.bool false)], args := [d1, d2] }
  | _ => none }
def ReplayOrderWrongFalsely : Prop := replayOrderRow.holds Try.pinned (OpenSpec.ofChange replayOrderWrong)

/-- 'crawlwaylaw28.ReplayNobody': WHATEVER THE INPUT: true; the input reads as it did. -/
def replayNobodySpec : ChangeSpec := { name := "replayNobody", fn := fun _ => fun
  | [d] => { results := [.lit (.bool true)], args := [d] }
  | _ => none }
def replayNobodyRow : OpenClaim := { program := "ytibpbgfliccacaa", sum := "3c6addb3a43e9c9036b05b0d9fc45588cb3353459ebdf1f2f010f0b15c054c09", func := "crawlway/crawlwaylaw28.ReplayNobody", spec := "replayNobody", apart := false }
def ReplayNobodySaid : Prop := replayNobodyRow.holds Try.pinned (OpenSpec.ofChange replayNobodySpec)

/-- ITS FALSE NEIGHBOUR: 'it returns false'. Refute it at one input. -/
def replayNobodyWrong : ChangeSpec := { name := "replayNobody", fn := fun _ => fun
  | [d] => { results := [.lit (.bool false)], args := [d] }
  | _ => none }
def ReplayNobodyWrongFalsely : Prop := replayNobodyRow.holds Try.pinned (OpenSpec.ofChange replayNobodyWrong)

/-- 'crawlwaylaw29.CounterNext': WHATEVER THE INPUT: true; the input reads as it did. -/
def counterNextSpec : ChangeSpec := { name := "counterNext", fn := fun _ => fun
  | [d1, d2] => { results := [.lit (.bool true)], args := [d1, d2] }
  | _ => none }
def counterNextRow : OpenClaim := { program := "ytibpbgfliccacaa", sum := "3c6addb3a43e9c9036b05b0d9fc45588cb3353459ebdf1f2f010f0b15c054c09", func := "crawlway/crawlwaylaw29.CounterNext", spec := "counterNext", apart := false }
def CounterNextSaid : Prop := counterNextRow.holds Try.pinned (OpenSpec.ofChange counterNextSpec)

/-- ITS FALSE NEIGHBOUR: 'it returns false'. Refute it at one input. -/
def counterNextWrong : ChangeSpec := { name := "counterNext", fn := fun _ => fun
  | [d1, d2] => { results := [.lit (.bool false)], args := [d1, d2] }
  | _ => none }
def CounterNextWrongFalsely : Prop := counterNextRow.holds Try.pinned (OpenSpec.ofChange counterNextWrong)

/-- 'crawlwaylaw29.CounterSum': WHATEVER THE INPUT: true; the input reads as it did. -/
def counterSumSpec : ChangeSpec := { name := "counterSum", fn := fun _ => fun
  | [d1, d2] => { results := [.lit (.bool true)], args := [d1, d2] }
  | _ => none }
def counterSumRow : OpenClaim := { program := "ytibpbgfliccacaa", sum := "3c6addb3a43e9c9036b05b0d9fc45588cb3353459ebdf1f2f010f0b15c054c09", func := "crawlway/crawlwaylaw29.CounterSum", spec := "counterSum", apart := false }
def CounterSumSaid : Prop := counterSumRow.holds Try.pinned (OpenSpec.ofChange counterSumSpec)

/-- ITS FALSE NEIGHBOUR: 'it returns false'. Refute it at one input. -/
def counterSumWrong : ChangeSpec := { name := "counterSum", fn := fun _ => fun
  | [d1, d2] => { results := [.lit (.bool false)], args := [d1, d2] }
  | _ => none }
def CounterSumWrongFalsely : Prop := counterSumRow.holds Try.pinned (OpenSpec.ofChange counterSumWrong)

/-- 'crawlwaylaw29.CounterNobody': WHATEVER THE INPUT: true; the input reads as it did. -/
def counterNobodySpec : ChangeSpec := { name := "counterNobody", fn := fun _ => fun
  | [d] => { results := [.lit (.bool true)], args := [d] }
  | _ => none }
def counterNobodyRow : OpenClaim := { program := "ytibpbgfliccacaa", sum := "3c6addb3a43e9c9036b05b0d9fc45588cb3353459ebdf1f2f010f0b15c054c09", func := "crawlway/crawlwaylaw29.CounterNobody", spec := "counterNobody", apart := false }
def CounterNobodySaid : Prop := counterNobodyRow.holds Try.pinned (OpenSpec.ofChange counterNobodySpec)

/-- ITS FALSE NEIGHBOUR: 'it returns false'. Refute it at one input. -/
def counterNobodyWrong : ChangeSpec := { name := "counterNobody", fn := fun _ => fun
  | [d] => { results := [.lit (.bool false)], args := [d] }
  | _ => none }
def CounterNobodyWrongFalsely : Prop := counterNobodyRow.holds Try.pinned (OpenSpec.ofChange counterNobodyWrong)

/-- 'crawlwaylaw30.SessionPlays': WHATEVER THE INPUT: true; the input reads as it did. -/
def sessionPlaysSpec : ChangeSpec := { name := "sessionPlays", fn := fun _ => fun
  | [d1, d2, d3] => { results := [.lit (.bool true)], args := [d1, d2, d3] }
  | _ => none }
def sessionPlaysRow : OpenClaim := { program := "ytibpbgfliccacaa", sum := "3c6addb3a43e9c9036b05b0d9fc45588cb3353459ebdf1f2f010f0b15c054c09", func := "crawlway/crawlwaylaw30.SessionPlays", spec := "sessionPlays", apart := false }
def SessionPlaysSaid : Prop := sessionPlaysRow.holds Try.pinned (OpenSpec.ofChange sessionPlaysSpec)

/-- ITS FALSE NEIGHBOUR: 'it returns false'. Refute it at one input. -/
def sessionPlaysWrong : ChangeSpec := { name := "sessionPlays", fn := fun _ => fun
  | [d1, d2, d3] => { results := [.lit (.bool false)], args := [d1, d2, d3] }
  | _ => none }
def SessionPlaysWrongFalsely : Prop := sessionPlaysRow.holds Try.pinned (OpenSpec.ofChange sessionPlaysWrong)

/-- 'crawlwaylaw30.SessionCopies': WHATEVER THE INPUT: true; the input reads as it did. -/
def sessionCopiesSpec : ChangeSpec := { name := "sessionCopies", fn := fun _ => fun
  | [d1, d2, d3] => { results := [.lit (.bool true)], args := [d1, d2, d3] }
  | _ => none }
def sessionCopiesRow : OpenClaim := { program := "ytibpbgfliccacaa", sum := "3c6addb3a43e9c9036b05b0d9fc45588cb3353459ebdf1f2f010f0b15c054c09", func := "crawlway/crawlwaylaw30.SessionCopies", spec := "sessionCopies", apart := false }
def SessionCopiesSaid : Prop := sessionCopiesRow.holds Try.pinned (OpenSpec.ofChange sessionCopiesSpec)

/-- ITS FALSE NEIGHBOUR: 'it returns false'. Refute it at one input. -/
def sessionCopiesWrong : ChangeSpec := { name := "sessionCopies", fn := fun _ => fun
  | [d1, d2, d3] => { results := [.lit (.bool false)], args := [d1, d2, d3] }
  | _ => none }
def SessionCopiesWrongFalsely : Prop := sessionCopiesRow.holds Try.pinned (OpenSpec.ofChange sessionCopiesWrong)

/-- 'crawlwaylaw30.SessionNobody': WHATEVER THE INPUT: true; the input reads as it did. -/
def sessionNobodySpec : ChangeSpec := { name := "sessionNobody", fn := fun _ => fun
  | [d1, d2] => { results := [.lit (.bool true)], args := [d1, d2] }
  | _ => none }
def sessionNobodyRow : OpenClaim := { program := "ytibpbgfliccacaa", sum := "3c6addb3a43e9c9036b05b0d9fc45588cb3353459ebdf1f2f010f0b15c054c09", func := "crawlway/crawlwaylaw30.SessionNobody", spec := "sessionNobody", apart := false }
def SessionNobodySaid : Prop := sessionNobodyRow.holds Try.pinned (OpenSpec.ofChange sessionNobodySpec)

/-- ITS FALSE NEIGHBOUR: 'it returns false'. Refute it at one input. -/
def sessionNobodyWrong : ChangeSpec := { name := "sessionNobody", fn := fun _ => fun
  | [d1, d2] => { results := [.lit (.bool false)], args := [d1, d2] }
  | _ => none }
def SessionNobodyWrongFalsely : Prop := sessionNobodyRow.holds Try.pinned (OpenSpec.ofChange sessionNobodyWrong)

/- THE SECOND FORM. 'bulk': how many values and letters a reading holds, each counted each time it is reached (what is shared counts as often as it is met; a slice's spare places count too). A statement '..UptoSaid' is the law's where the arguments, and the package variables that the reading takes, are together of bulk at most 1048576: NARROWER than '..Said'. Prove '..Said' where nothing that the law and all that it calls make is longer than what came in: it says more and counts as full. Else prove '..UptoSaid'. A law counts once. -/
mutual
def uptoBulk {H : Type} : DataW H → Nat
  | .lit (.string bytes) => bytes.length + 1
  | .lit _ => 1
  | .nil => 1
  | .ptr d => uptoBulk d + 1
  | .slice elems spare => uptoBulkAll elems + uptoBulkAll spare + 1
  | .agg parts => uptoBulkAll parts + 1
  | .iface _ d => uptoBulk d + 1
  | .map entries => uptoBulkEntries entries + 1
  | .held _ => 1
def uptoBulkAll {H : Type} : List (DataW H) → Nat
  | [] => 0
  | d :: r => uptoBulk d + uptoBulkAll r
def uptoBulkEntries {H : Type} : List (Lit × DataW H) → Nat
  | [] => 0
  | x :: r => uptoBulkEntry x + uptoBulkEntries r
def uptoBulkEntry {H : Type} : Lit × DataW H → Nat
  | (.string bytes, d) => bytes.length + uptoBulk d + 1
  | (_, d) => uptoBulk d + 1
 end
def uptoSmall : (H : Type) → List (DataW H) → Bool := fun _ ds => decide (uptoBulkAll ds ≤ 1048576)
def OpenSpec.upto (s : _root_.Go.ChangeSpec) : _root_.Go.OpenSpec := { _root_.Go.OpenSpec.ofChange s with cond := some uptoSmall }

/-- 'crawlwaylaw28.ReplayPlays', WHERE WHAT IT READS IS OF BULK AT MOST 1048576: true; the input reads as it did. -/
def replayPlaysUptoRow : OpenClaim := { program := "ytibpbgfliccacaa", sum := "3c6addb3a43e9c9036b05b0d9fc45588cb3353459ebdf1f2f010f0b15c054c09", func := "crawlway/crawlwaylaw28.ReplayPlays", spec := "replayPlays", apart := false, narrowed := true }
def ReplayPlaysUptoSaid : Prop := replayPlaysUptoRow.holds Try.pinned (OpenSpec.upto replayPlaysSpec)

/-- 'crawlwaylaw28.ReplayOnce', WHERE WHAT IT READS IS OF BULK AT MOST 1048576: true; the input reads as it did. -/
def replayOnceUptoRow : OpenClaim := { program := "ytibpbgfliccacaa", sum := "3c6addb3a43e9c9036b05b0d9fc45588cb3353459ebdf1f2f010f0b15c054c09", func := "crawlway/crawlwaylaw28.ReplayOnce", spec := "replayOnce", apart := false, narrowed := true }
def ReplayOnceUptoSaid : Prop := replayOnceUptoRow.holds Try.pinned (OpenSpec.upto replayOnceSpec)

/-- 'crawlwaylaw28.ReplayOrder', WHERE WHAT IT READS IS OF BULK AT MOST 1048576: true; the input reads as it did. -/
def replayOrderUptoRow : OpenClaim := { program := "ytibpbgfliccacaa", sum := "3c6addb3a43e9c9036b05b0d9fc45588cb3353459ebdf1f2f010f0b15c054c09", func := "crawlway/crawlwaylaw28.ReplayOrder", spec := "replayOrder", apart := false, narrowed := true }
def ReplayOrderUptoSaid : Prop := replayOrderUptoRow.holds Try.pinned (OpenSpec.upto replayOrderSpec)

/-- 'crawlwaylaw28.ReplayNobody', WHERE WHAT IT READS IS OF BULK AT MOST 1048576: true; the input reads as it did. -/
def replayNobodyUptoRow : OpenClaim := { program := "ytibpbgfliccacaa", sum := "3c6addb3a43e9c9036b05b0d9fc45588cb3353459ebdf1f2f010f0b15c054c09", func := "crawlway/crawlwaylaw28.ReplayNobody", spec := "replayNobody", apart := false, narrowed := true }
def ReplayNobodyUptoSaid : Prop := replayNobodyUptoRow.holds Try.pinned (OpenSpec.upto replayNobodySpec)

/-- 'crawlwaylaw29.CounterNext', WHERE WHAT IT READS IS OF BULK AT MOST 1048576: true; the input reads as it did. -/
def counterNextUptoRow : OpenClaim := { program := "ytibpbgfliccacaa", sum := "3c6addb3a43e9c9036b05b0d9fc45588cb3353459ebdf1f2f010f0b15c054c09", func := "crawlway/crawlwaylaw29.CounterNext", spec := "counterNext", apart := false, narrowed := true }
def CounterNextUptoSaid : Prop := counterNextUptoRow.holds Try.pinned (OpenSpec.upto counterNextSpec)

/-- 'crawlwaylaw29.CounterSum', WHERE WHAT IT READS IS OF BULK AT MOST 1048576: true; the input reads as it did. -/
def counterSumUptoRow : OpenClaim := { program := "ytibpbgfliccacaa", sum := "3c6addb3a43e9c9036b05b0d9fc45588cb3353459ebdf1f2f010f0b15c054c09", func := "crawlway/crawlwaylaw29.CounterSum", spec := "counterSum", apart := false, narrowed := true }
def CounterSumUptoSaid : Prop := counterSumUptoRow.holds Try.pinned (OpenSpec.upto counterSumSpec)

/-- 'crawlwaylaw29.CounterNobody', WHERE WHAT IT READS IS OF BULK AT MOST 1048576: true; the input reads as it did. -/
def counterNobodyUptoRow : OpenClaim := { program := "ytibpbgfliccacaa", sum := "3c6addb3a43e9c9036b05b0d9fc45588cb3353459ebdf1f2f010f0b15c054c09", func := "crawlway/crawlwaylaw29.CounterNobody", spec := "counterNobody", apart := false, narrowed := true }
def CounterNobodyUptoSaid : Prop := counterNobodyUptoRow.holds Try.pinned (OpenSpec.upto counterNobodySpec)

/-- 'crawlwaylaw30.SessionPlays', WHERE WHAT IT READS IS OF BULK AT MOST 1048576: true; the input reads as it did. -/
def sessionPlaysUptoRow : OpenClaim := { program := "ytibpbgfliccacaa", sum := "3c6addb3a43e9c9036b05b0d9fc45588cb3353459ebdf1f2f010f0b15c054c09", func := "crawlway/crawlwaylaw30.SessionPlays", spec := "sessionPlays", apart := false, narrowed := true }
def SessionPlaysUptoSaid : Prop := sessionPlaysUptoRow.holds Try.pinned (OpenSpec.upto sessionPlaysSpec)

/-- 'crawlwaylaw30.SessionCopies', WHERE WHAT IT READS IS OF BULK AT MOST 1048576: true; the input reads as it did. -/
def sessionCopiesUptoRow : OpenClaim := { program := "ytibpbgfliccacaa", sum := "3c6addb3a43e9c9036b05b0d9fc45588cb3353459ebdf1f2f010f0b15c054c09", func := "crawlway/crawlwaylaw30.SessionCopies", spec := "sessionCopies", apart := false, narrowed := true }
def SessionCopiesUptoSaid : Prop := sessionCopiesUptoRow.holds Try.pinned (OpenSpec.upto sessionCopiesSpec)

/-- 'crawlwaylaw30.SessionNobody', WHERE WHAT IT READS IS OF BULK AT MOST 1048576: true; the input reads as it did. -/
def sessionNobodyUptoRow : OpenClaim := { program := "ytibpbgfliccacaa", sum := "3c6addb3a43e9c9036b05b0d9fc45588cb3353459ebdf1f2f010f0b15c054c09", func := "crawlway/crawlwaylaw30.SessionNobody", spec := "sessionNobody", apart := false, narrowed := true }
def SessionNobodyUptoSaid : Prop := sessionNobodyUptoRow.holds Try.pinned (OpenSpec.upto sessionNobodySpec)

end Rows
end Go.Proofs.Ytibpbgfliccacaa
