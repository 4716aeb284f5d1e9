/-
  DERIVED. GIVEN WITH THE SEED: THE CARDS: each row of YtnafalkcgghjgaaGreatDoorRows.lean that lists a variable, with what it lists TIED to the program's text (the seventh form; the later family's looks); each row that meets fmt, with fmt's text TOLD by the authors' own Lean function (tested against real Go, not proved from fmt's source: count such statements apart). THE CARD IS WHAT COUNTS. Prove the row's statement (the work); the ties are given (YtnafalkcgghjgaaGreatDoorTie.lean); close each card by the builder's one call (the guide's Derived/Test/ToyasCard.lean, 'card_holds'). Laid BY PROGRAM, IN A SANDBOX (cutbox-door.mjs). By AI agents, Wed Nov 11 2026. No macro, syntax, notation, axiom, sorry.
-/
import Derived.Test.YtnafalkcgghjgaaGreatDoorRows
import GoSem.ClaimSeven
namespace Go.Proofs.YtnafalkcgghjgaaGreatDoor
namespace Rows

/-- THE TIED CARD OF 'strongroomlaw08.ShelfPlays'. -/
def shelfPlaysCard : Claim7 := { stood := { row := shelfPlaysRow, standIns := [], harness := (true, "6fd85e21264fb8f5d6a7739dc9528525e97b2eb9f19e70d35414b6e16557796b"), looks := false }, kinds := [], alts := [], laidByText := true, laidKinds := [.data, .pinned], laidTests := true, laidLooks := .later }
def ShelfPlaysCardSaid : Prop := Claim7.holds Tryz.pinned (.plain (OpenSpec.ofChange shelfPlaysSpec)) shelfPlaysCard

/-- THE TIED CARD OF 'strongroomlaw08.ShelfWhole'. -/
def shelfWholeCard : Claim7 := { stood := { row := shelfWholeRow, standIns := [], harness := (true, "6fd85e21264fb8f5d6a7739dc9528525e97b2eb9f19e70d35414b6e16557796b"), looks := false }, kinds := [], alts := [], laidByText := true, laidKinds := [.data, .pinned], laidTests := true, laidLooks := .later }
def ShelfWholeCardSaid : Prop := Claim7.holds Tryz.pinned (.plain (OpenSpec.ofChange shelfWholeSpec)) shelfWholeCard

/-- THE TIED CARD OF 'strongroomlaw08.ShelfRanges'. -/
def shelfRangesCard : Claim7 := { stood := { row := shelfRangesRow, standIns := [], harness := (true, "6fd85e21264fb8f5d6a7739dc9528525e97b2eb9f19e70d35414b6e16557796b"), looks := false }, kinds := [], alts := [], laidByText := true, laidKinds := [.data, .pinned], laidTests := true, laidLooks := .later }
def ShelfRangesCardSaid : Prop := Claim7.holds Tryz.pinned (.plain (OpenSpec.ofChange shelfRangesSpec)) shelfRangesCard

/-- THE TIED CARD OF 'strongroomlaw08.ShelfReads'. -/
def shelfReadsCard : Claim7 := { stood := { row := shelfReadsRow, standIns := [], harness := (true, "6fd85e21264fb8f5d6a7739dc9528525e97b2eb9f19e70d35414b6e16557796b"), looks := false }, kinds := [], alts := [], laidByText := true, laidKinds := [.data, .pinned], laidTests := true, laidLooks := .later }
def ShelfReadsCardSaid : Prop := Claim7.holds Tryz.pinned (.plain (OpenSpec.ofChange shelfReadsSpec)) shelfReadsCard

/-- THE TIED CARD OF 'strongroomlaw08.ShelfNils'. -/
def shelfNilsCard : Claim7 := { stood := { row := shelfNilsRow, standIns := [], harness := (true, "6fd85e21264fb8f5d6a7739dc9528525e97b2eb9f19e70d35414b6e16557796b"), looks := false }, kinds := [], alts := [], laidByText := true, laidKinds := [.data, .pinned], laidTests := true, laidLooks := .later }
def ShelfNilsCardSaid : Prop := Claim7.holds Tryz.pinned (.plain (OpenSpec.ofChange shelfNilsSpec)) shelfNilsCard

/-- THE SECOND FORM's CARD OF 'strongroomlaw08.ShelfPlays'. -/
def shelfPlaysUptoCard : Claim7 := { stood := { row := shelfPlaysUptoRow, standIns := [], harness := (true, "6fd85e21264fb8f5d6a7739dc9528525e97b2eb9f19e70d35414b6e16557796b"), looks := false }, kinds := [], alts := [], laidByText := true, laidKinds := [.data, .pinned], laidTests := true, laidLooks := .later }
def ShelfPlaysUptoCardSaid : Prop := Claim7.holds Tryz.pinned (.plain (OpenSpec.upto shelfPlaysSpec)) shelfPlaysUptoCard

/-- THE SECOND FORM's CARD OF 'strongroomlaw08.ShelfWhole'. -/
def shelfWholeUptoCard : Claim7 := { stood := { row := shelfWholeUptoRow, standIns := [], harness := (true, "6fd85e21264fb8f5d6a7739dc9528525e97b2eb9f19e70d35414b6e16557796b"), looks := false }, kinds := [], alts := [], laidByText := true, laidKinds := [.data, .pinned], laidTests := true, laidLooks := .later }
def ShelfWholeUptoCardSaid : Prop := Claim7.holds Tryz.pinned (.plain (OpenSpec.upto shelfWholeSpec)) shelfWholeUptoCard

/-- THE SECOND FORM's CARD OF 'strongroomlaw08.ShelfRanges'. -/
def shelfRangesUptoCard : Claim7 := { stood := { row := shelfRangesUptoRow, standIns := [], harness := (true, "6fd85e21264fb8f5d6a7739dc9528525e97b2eb9f19e70d35414b6e16557796b"), looks := false }, kinds := [], alts := [], laidByText := true, laidKinds := [.data, .pinned], laidTests := true, laidLooks := .later }
def ShelfRangesUptoCardSaid : Prop := Claim7.holds Tryz.pinned (.plain (OpenSpec.upto shelfRangesSpec)) shelfRangesUptoCard

/-- THE SECOND FORM's CARD OF 'strongroomlaw08.ShelfReads'. -/
def shelfReadsUptoCard : Claim7 := { stood := { row := shelfReadsUptoRow, standIns := [], harness := (true, "6fd85e21264fb8f5d6a7739dc9528525e97b2eb9f19e70d35414b6e16557796b"), looks := false }, kinds := [], alts := [], laidByText := true, laidKinds := [.data, .pinned], laidTests := true, laidLooks := .later }
def ShelfReadsUptoCardSaid : Prop := Claim7.holds Tryz.pinned (.plain (OpenSpec.upto shelfReadsSpec)) shelfReadsUptoCard

/-- THE SECOND FORM's CARD OF 'strongroomlaw08.ShelfNils'. -/
def shelfNilsUptoCard : Claim7 := { stood := { row := shelfNilsUptoRow, standIns := [], harness := (true, "6fd85e21264fb8f5d6a7739dc9528525e97b2eb9f19e70d35414b6e16557796b"), looks := false }, kinds := [], alts := [], laidByText := true, laidKinds := [.data, .pinned], laidTests := true, laidLooks := .later }
def ShelfNilsUptoCardSaid : Prop := Claim7.holds Tryz.pinned (.plain (OpenSpec.upto shelfNilsSpec)) shelfNilsUptoCard
end Rows
end Go.Proofs.YtnafalkcgghjgaaGreatDoor
