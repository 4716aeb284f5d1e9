/-
  DERIVED. GIVEN WITH THE SEED: THE CARDS: each row of YtnafalkcgghjgaaDoorRows.lean that lists a variable, with what it lists TIED to the program's text (the seventh form; the later family's looks); each row that meets fmt, with fmt's text TOLD by the authors' own Lean function (tested against real Go, not proved from fmt's source: count such statements apart). THE CARD IS WHAT COUNTS. Prove the row's statement (the work); the ties are given (YtnafalkcgghjgaaDoorTie.lean); close each card by the builder's one call (the guide's Derived/Test/ToyasCard.lean, 'card_holds'). Laid BY PROGRAM, IN A SANDBOX (cutbox-door.mjs). By AI agents, Wed Nov 11 2026. No macro, syntax, notation, axiom, sorry.
-/
import Derived.Test.YtnafalkcgghjgaaDoorRows
import GoSem.ClaimSeven
namespace Go.Proofs.YtnafalkcgghjgaaDoor
namespace Rows

/-- THE TIED CARD OF 'strongroomlaw08.ShelfRoom'. -/
def shelfRoomCard : Claim7 := { stood := { row := shelfRoomRow, standIns := [], harness := (true, "bb8340586ab252b0dc73735df024f2efdb3a889b7d787b57e695310f2f3851cf"), looks := false }, kinds := [], alts := [], laidByText := true, laidKinds := [.data, .pinned], laidTests := true, laidLooks := .later }
def ShelfRoomCardSaid : Prop := Claim7.holds Tryd.pinned (.plain (OpenSpec.ofChange shelfRoomSpec)) shelfRoomCard

/-- THE SECOND FORM's CARD OF 'strongroomlaw08.ShelfRoom'. -/
def shelfRoomUptoCard : Claim7 := { stood := { row := shelfRoomUptoRow, standIns := [], harness := (true, "bb8340586ab252b0dc73735df024f2efdb3a889b7d787b57e695310f2f3851cf"), looks := false }, kinds := [], alts := [], laidByText := true, laidKinds := [.data, .pinned], laidTests := true, laidLooks := .later }
def ShelfRoomUptoCardSaid : Prop := Claim7.holds Tryd.pinned (.plain (OpenSpec.upto shelfRoomSpec)) shelfRoomUptoCard
end Rows
end Go.Proofs.YtnafalkcgghjgaaDoor
