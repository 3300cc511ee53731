/-
  DERIVED. GIVEN WITH THE SEED: THE CARDS: each row of YtglghfbdchcihaaDoorRows.lean that lists a variable, with what it lists TIED to the program's text (the seventh form; the later family's looks); each row that meets fmt, with fmt's text TOLD by the authors' own Lean function (tested against real Go, not proved from fmt's source: count such statements apart). THE CARD IS WHAT COUNTS. Prove the row's statement (the work); the ties are given (YtglghfbdchcihaaDoorTie.lean); close each card by the builder's one call (the guide's Derived/Test/ToyasCard.lean, 'card_holds'). Laid BY PROGRAM, IN A SANDBOX (cutbox-door.mjs). By AI agents, Wed Nov 11 2026. No macro, syntax, notation, axiom, sorry.
-/
import Derived.Test.YtglghfbdchcihaaDoorRows
import GoSem.ClaimSeven
namespace Go.Proofs.YtglghfbdchcihaaDoor
namespace Rows

/-- THE TIED CARD OF 'crawlwaylaw42.InilexReads'. -/
def inilexReadsCard : Claim7 := { stood := { row := inilexReadsRow, standIns := [], harness := (true, "a374346fa6499a459a4969e0d60f11b43399ab578de76b8a3d15ad40407e41d0"), looks := false }, kinds := [], alts := [], laidByText := true, laidKinds := [.data, .pinned], laidTests := true, laidLooks := .later }
def InilexReadsCardSaid : Prop := Claim7.holds Tryd.pinned (.plain (OpenSpec.ofChange inilexReadsSpec)) inilexReadsCard

/-- THE TIED CARD OF 'crawlwaylaw42.InilexMany'. -/
def inilexManyCard : Claim7 := { stood := { row := inilexManyRow, standIns := [], harness := (true, "a374346fa6499a459a4969e0d60f11b43399ab578de76b8a3d15ad40407e41d0"), looks := false }, kinds := [], alts := [], laidByText := true, laidKinds := [.data, .pinned], laidTests := true, laidLooks := .later }
def InilexManyCardSaid : Prop := Claim7.holds Tryd.pinned (.plain (OpenSpec.ofChange inilexManySpec)) inilexManyCard

/-- THE TIED CARD OF 'crawlwaylaw44.IniwriteSame'. -/
def iniwriteSameCard : Claim7 := { stood := { row := iniwriteSameRow, standIns := [], harness := (true, "a374346fa6499a459a4969e0d60f11b43399ab578de76b8a3d15ad40407e41d0"), looks := false }, kinds := [], alts := [], laidByText := true, laidKinds := [.data, .data, .data], laidTests := true, laidLooks := .later }
def IniwriteSameCardSaid : Prop := Claim7.holds Tryd.pinned (.plain (OpenSpec.ofChange iniwriteSameSpec)) iniwriteSameCard

/-- THE SECOND FORM's CARD OF 'crawlwaylaw42.InilexReads'. -/
def inilexReadsUptoCard : Claim7 := { stood := { row := inilexReadsUptoRow, standIns := [], harness := (true, "a374346fa6499a459a4969e0d60f11b43399ab578de76b8a3d15ad40407e41d0"), looks := false }, kinds := [], alts := [], laidByText := true, laidKinds := [.data, .pinned], laidTests := true, laidLooks := .later }
def InilexReadsUptoCardSaid : Prop := Claim7.holds Tryd.pinned (.plain (OpenSpec.upto inilexReadsSpec)) inilexReadsUptoCard

/-- THE SECOND FORM's CARD OF 'crawlwaylaw42.InilexMany'. -/
def inilexManyUptoCard : Claim7 := { stood := { row := inilexManyUptoRow, standIns := [], harness := (true, "a374346fa6499a459a4969e0d60f11b43399ab578de76b8a3d15ad40407e41d0"), looks := false }, kinds := [], alts := [], laidByText := true, laidKinds := [.data, .pinned], laidTests := true, laidLooks := .later }
def InilexManyUptoCardSaid : Prop := Claim7.holds Tryd.pinned (.plain (OpenSpec.upto inilexManySpec)) inilexManyUptoCard

/-- THE SECOND FORM's CARD OF 'crawlwaylaw44.IniwriteSame'. -/
def iniwriteSameUptoCard : Claim7 := { stood := { row := iniwriteSameUptoRow, standIns := [], harness := (true, "a374346fa6499a459a4969e0d60f11b43399ab578de76b8a3d15ad40407e41d0"), looks := false }, kinds := [], alts := [], laidByText := true, laidKinds := [.data, .data, .data], laidTests := true, laidLooks := .later }
def IniwriteSameUptoCardSaid : Prop := Claim7.holds Tryd.pinned (.plain (OpenSpec.upto iniwriteSameSpec)) iniwriteSameUptoCard
end Rows
end Go.Proofs.YtglghfbdchcihaaDoor
