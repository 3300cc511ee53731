/-
  No cell of these rows narrows 'for every input' (looked for: loops, veiled, ifaces, maps, wideKeys, modest, calm, conditions, laid).
  DERIVED. THE GIVEN ROWS OF THIS SEAT. 6 by the template 'for every input the law returns true; each argument reads behind the call as it read before'; 0 by the template 'total and deterministic' (their statements: YtffdgknfllpnoaaTotals.lean).
  GIVEN WITH THE SEED: the statements are not yours to turn. If you find one false, say at which input.
  Laid BY PROGRAM, IN A SANDBOX (cutbox-rows.mjs): the forced cells as the released guide's own fill.sh prints them over the translation a8471135a1fda409… (all of the seat's roots in one cut). By AI agents, Wed Nov 11 2026. No macro, syntax, notation, axiom, sorry.
-/
import Derived.Test.YtffdgknfllpnoaaChecked
import GoSem.Claim
import GoSem.ClaimJoined
import GoSem.ClaimMapViews
import Derived.JoinedTies
import Derived.KernelRfl
namespace Go.Proofs.Ytffdgknfllpnoaa
/- THE CELL 'sum', in the pinned program and in every row, IS THE sha256 OF THE DUMP (.gsa) THAT YtffdgknfllpnoaaProg.lean LOADS. Nothing in Lean hashes anything: it is a label: what it is worth is what the hold of that sum in a sandbox is worth. -/
noncomputable def Try.pinned : Pinned := { name := "ytffdgknfllpnoaa", sum := "a8471135a1fda409d287a4d4274690233e1a134f9ad99d2059b4a90087ce2632", checked := Try.checked }
namespace Rows
def none {H : Type} : Left H := { results := [], args := [] }

/-- 'crawlwaylaw13.InitialBack': WHATEVER THE INPUT: true; the input reads as it did. -/
def initialBackSpec : ChangeSpec := { name := "initialBack", fn := fun _ => fun
  | [d] => { results := [.lit (.bool true)], args := [d] }
  | _ => none }
def initialBackRow : OpenClaim := { program := "ytffdgknfllpnoaa", sum := "a8471135a1fda409d287a4d4274690233e1a134f9ad99d2059b4a90087ce2632", func := "crawlway/crawlwaylaw13.InitialBack", spec := "initialBack", unfollowed := true, recurses := true, apart := false }
def InitialBackSaid : Prop := initialBackRow.holds Try.pinned (OpenSpec.ofChange initialBackSpec)

/-- ITS FALSE NEIGHBOUR: 'it returns false'. Refute it at one input. -/
def initialBackWrong : ChangeSpec := { name := "initialBack", fn := fun _ => fun
  | [d] => { results := [.lit (.bool false)], args := [d] }
  | _ => none }
def InitialBackWrongFalsely : Prop := initialBackRow.holds Try.pinned (OpenSpec.ofChange initialBackWrong)

/-- 'crawlwaylaw13.InitialReads': WHATEVER THE INPUT: true; the input reads as it did. -/
def initialReadsSpec : ChangeSpec := { name := "initialReads", fn := fun _ => fun
  | [d] => { results := [.lit (.bool true)], args := [d] }
  | _ => none }
def initialReadsRow : OpenClaim := { program := "ytffdgknfllpnoaa", sum := "a8471135a1fda409d287a4d4274690233e1a134f9ad99d2059b4a90087ce2632", func := "crawlway/crawlwaylaw13.InitialReads", spec := "initialReads", unfollowed := true, recurses := true, apart := false }
def InitialReadsSaid : Prop := initialReadsRow.holds Try.pinned (OpenSpec.ofChange initialReadsSpec)

/-- ITS FALSE NEIGHBOUR: 'it returns false'. Refute it at one input. -/
def initialReadsWrong : ChangeSpec := { name := "initialReads", fn := fun _ => fun
  | [d] => { results := [.lit (.bool false)], args := [d] }
  | _ => none }
def InitialReadsWrongFalsely : Prop := initialReadsRow.holds Try.pinned (OpenSpec.ofChange initialReadsWrong)

/-- 'crawlwaylaw14.AnswerBack': WHATEVER THE INPUT: true; the input reads as it did. -/
def answerBackSpec : ChangeSpec := { name := "answerBack", fn := fun _ => fun
  | [d] => { results := [.lit (.bool true)], args := [d] }
  | _ => none }
def answerBackRow : OpenClaim := { program := "ytffdgknfllpnoaa", sum := "a8471135a1fda409d287a4d4274690233e1a134f9ad99d2059b4a90087ce2632", func := "crawlway/crawlwaylaw14.AnswerBack", spec := "answerBack", unfollowed := true, recurses := true, apart := false }
def AnswerBackSaid : Prop := answerBackRow.holds Try.pinned (OpenSpec.ofChange answerBackSpec)

/-- ITS FALSE NEIGHBOUR: 'it returns false'. Refute it at one input. -/
def answerBackWrong : ChangeSpec := { name := "answerBack", fn := fun _ => fun
  | [d] => { results := [.lit (.bool false)], args := [d] }
  | _ => none }
def AnswerBackWrongFalsely : Prop := answerBackRow.holds Try.pinned (OpenSpec.ofChange answerBackWrong)

/-- 'crawlwaylaw14.AnswerReads': WHATEVER THE INPUT: true; the input reads as it did. -/
def answerReadsSpec : ChangeSpec := { name := "answerReads", fn := fun _ => fun
  | [d] => { results := [.lit (.bool true)], args := [d] }
  | _ => none }
def answerReadsRow : OpenClaim := { program := "ytffdgknfllpnoaa", sum := "a8471135a1fda409d287a4d4274690233e1a134f9ad99d2059b4a90087ce2632", func := "crawlway/crawlwaylaw14.AnswerReads", spec := "answerReads", unfollowed := true, recurses := true, apart := false }
def AnswerReadsSaid : Prop := answerReadsRow.holds Try.pinned (OpenSpec.ofChange answerReadsSpec)

/-- ITS FALSE NEIGHBOUR: 'it returns false'. Refute it at one input. -/
def answerReadsWrong : ChangeSpec := { name := "answerReads", fn := fun _ => fun
  | [d] => { results := [.lit (.bool false)], args := [d] }
  | _ => none }
def AnswerReadsWrongFalsely : Prop := answerReadsRow.holds Try.pinned (OpenSpec.ofChange answerReadsWrong)

/-- 'crawlwaylaw15.CookieBack': WHATEVER THE INPUT: true; the input reads as it did. -/
def cookieBackSpec : ChangeSpec := { name := "cookieBack", fn := fun _ => fun
  | [d] => { results := [.lit (.bool true)], args := [d] }
  | _ => none }
def cookieBackRow : OpenClaim := { program := "ytffdgknfllpnoaa", sum := "a8471135a1fda409d287a4d4274690233e1a134f9ad99d2059b4a90087ce2632", func := "crawlway/crawlwaylaw15.CookieBack", spec := "cookieBack", unfollowed := true, recurses := true, apart := false }
def CookieBackSaid : Prop := cookieBackRow.holds Try.pinned (OpenSpec.ofChange cookieBackSpec)

/-- ITS FALSE NEIGHBOUR: 'it returns false'. Refute it at one input. -/
def cookieBackWrong : ChangeSpec := { name := "cookieBack", fn := fun _ => fun
  | [d] => { results := [.lit (.bool false)], args := [d] }
  | _ => none }
def CookieBackWrongFalsely : Prop := cookieBackRow.holds Try.pinned (OpenSpec.ofChange cookieBackWrong)

/-- 'crawlwaylaw15.CookieReads': WHATEVER THE INPUT: true; the input reads as it did. -/
def cookieReadsSpec : ChangeSpec := { name := "cookieReads", fn := fun _ => fun
  | [d] => { results := [.lit (.bool true)], args := [d] }
  | _ => none }
def cookieReadsRow : OpenClaim := { program := "ytffdgknfllpnoaa", sum := "a8471135a1fda409d287a4d4274690233e1a134f9ad99d2059b4a90087ce2632", func := "crawlway/crawlwaylaw15.CookieReads", spec := "cookieReads", unfollowed := true, recurses := true, apart := false }
def CookieReadsSaid : Prop := cookieReadsRow.holds Try.pinned (OpenSpec.ofChange cookieReadsSpec)

/-- ITS FALSE NEIGHBOUR: 'it returns false'. Refute it at one input. -/
def cookieReadsWrong : ChangeSpec := { name := "cookieReads", fn := fun _ => fun
  | [d] => { results := [.lit (.bool false)], args := [d] }
  | _ => none }
def CookieReadsWrongFalsely : Prop := cookieReadsRow.holds Try.pinned (OpenSpec.ofChange cookieReadsWrong)

/- THE SECOND FORM. 'bulk': how many values and letters a reading holds, each counted each time it is reached (what is shared counts as often as it is met; a slice's spare places count too). A statement '..UptoSaid' is the law's where the arguments, and the package variables that the reading takes, are together of bulk at most 1048576: NARROWER than '..Said'. Prove '..Said' where nothing that the law and all that it calls make is longer than what came in: it says more and counts as full. Else prove '..UptoSaid'. A law counts once. -/
mutual
def uptoBulk {H : Type} : DataW H → Nat
  | .lit (.string bytes) => bytes.length + 1
  | .lit _ => 1
  | .nil => 1
  | .ptr d => uptoBulk d + 1
  | .slice elems spare => uptoBulkAll elems + uptoBulkAll spare + 1
  | .agg parts => uptoBulkAll parts + 1
  | .iface _ d => uptoBulk d + 1
  | .map entries => uptoBulkEntries entries + 1
  | .held _ => 1
def uptoBulkAll {H : Type} : List (DataW H) → Nat
  | [] => 0
  | d :: r => uptoBulk d + uptoBulkAll r
def uptoBulkEntries {H : Type} : List (Lit × DataW H) → Nat
  | [] => 0
  | x :: r => uptoBulkEntry x + uptoBulkEntries r
def uptoBulkEntry {H : Type} : Lit × DataW H → Nat
  | (.string bytes, d) => bytes.length + uptoBulk d + 1
  | (_, d) => uptoBulk d + 1
 end
def uptoSmall : (H : Type) → List (DataW H) → Bool := fun _ ds => decide (uptoBulkAll ds ≤ 1048576)
def OpenSpec.upto (s : _root_.Go.ChangeSpec) : _root_.Go.OpenSpec := { _root_.Go.OpenSpec.ofChange s with cond := some uptoSmall }

/-- 'crawlwaylaw13.InitialBack', WHERE WHAT IT READS IS OF BULK AT MOST 1048576: true; the input reads as it did. -/
def initialBackUptoRow : OpenClaim := { program := "ytffdgknfllpnoaa", sum := "a8471135a1fda409d287a4d4274690233e1a134f9ad99d2059b4a90087ce2632", func := "crawlway/crawlwaylaw13.InitialBack", spec := "initialBack", unfollowed := true, recurses := true, apart := false, narrowed := true }
def InitialBackUptoSaid : Prop := initialBackUptoRow.holds Try.pinned (OpenSpec.upto initialBackSpec)

/-- 'crawlwaylaw13.InitialReads', WHERE WHAT IT READS IS OF BULK AT MOST 1048576: true; the input reads as it did. -/
def initialReadsUptoRow : OpenClaim := { program := "ytffdgknfllpnoaa", sum := "a8471135a1fda409d287a4d4274690233e1a134f9ad99d2059b4a90087ce2632", func := "crawlway/crawlwaylaw13.InitialReads", spec := "initialReads", unfollowed := true, recurses := true, apart := false, narrowed := true }
def InitialReadsUptoSaid : Prop := initialReadsUptoRow.holds Try.pinned (OpenSpec.upto initialReadsSpec)

/-- 'crawlwaylaw14.AnswerBack', WHERE WHAT IT READS IS OF BULK AT MOST 1048576: true; the input reads as it did. -/
def answerBackUptoRow : OpenClaim := { program := "ytffdgknfllpnoaa", sum := "a8471135a1fda409d287a4d4274690233e1a134f9ad99d2059b4a90087ce2632", func := "crawlway/crawlwaylaw14.AnswerBack", spec := "answerBack", unfollowed := true, recurses := true, apart := false, narrowed := true }
def AnswerBackUptoSaid : Prop := answerBackUptoRow.holds Try.pinned (OpenSpec.upto answerBackSpec)

/-- 'crawlwaylaw14.AnswerReads', WHERE WHAT IT READS IS OF BULK AT MOST 1048576: true; the input reads as it did. -/
def answerReadsUptoRow : OpenClaim := { program := "ytffdgknfllpnoaa", sum := "a8471135a1fda409d287a4d4274690233e1a134f9ad99d2059b4a90087ce2632", func := "crawlway/crawlwaylaw14.AnswerReads", spec := "answerReads", unfollowed := true, recurses := true, apart := false, narrowed := true }
def AnswerReadsUptoSaid : Prop := answerReadsUptoRow.holds Try.pinned (OpenSpec.upto answerReadsSpec)

/-- 'crawlwaylaw15.CookieBack', WHERE WHAT IT READS IS OF BULK AT MOST 1048576: true; the input reads as it did. -/
def cookieBackUptoRow : OpenClaim := { program := "ytffdgknfllpnoaa", sum := "a8471135a1fda409d287a4d4274690233e1a134f9ad99d2059b4a90087ce2632", func := "crawlway/crawlwaylaw15.CookieBack", spec := "cookieBack", unfollowed := true, recurses := true, apart := false, narrowed := true }
def CookieBackUptoSaid : Prop := cookieBackUptoRow.holds Try.pinned (OpenSpec.upto cookieBackSpec)

/-- 'crawlwaylaw15.CookieReads', WHERE WHAT IT READS IS OF BULK AT MOST 1048576: true; the input reads as it did. -/
def cookieReadsUptoRow : OpenClaim := { program := "ytffdgknfllpnoaa", sum := "a8471135a1fda409d287a4d4274690233e1a134f9ad99d2059b4a90087ce2632", func := "crawlway/crawlwaylaw15.CookieReads", spec := "cookieReads", unfollowed := true, recurses := true, apart := false, narrowed := true }
def CookieReadsUptoSaid : Prop := cookieReadsUptoRow.holds Try.pinned (OpenSpec.upto cookieReadsSpec)

end Rows
end Go.Proofs.Ytffdgknfllpnoaa
