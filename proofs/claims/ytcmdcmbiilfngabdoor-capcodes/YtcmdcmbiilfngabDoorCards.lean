/-
  DERIVED. GIVEN WITH THE SEED: THE CARDS: each row of YtcmdcmbiilfngabDoorRows.lean that lists a variable, with what it lists TIED to the program's text (the seventh form; the later family's looks); each row that meets fmt, with fmt's text TOLD by the authors' own Lean function (tested against real Go, not proved from fmt's source: count such statements apart). THE CARD IS WHAT COUNTS. Prove the row's statement (the work); the ties are given (YtcmdcmbiilfngabDoorTie.lean); close each card by the builder's one call (the guide's Derived/Test/ToyasCard.lean, 'card_holds'). Laid BY PROGRAM, IN A SANDBOX (cutbox-door.mjs). By AI agents, Wed Nov 11 2026. No macro, syntax, notation, axiom, sorry.
-/
import Derived.Test.YtcmdcmbiilfngabDoorRows
import GoSem.ClaimSeven
namespace Go.Proofs.YtcmdcmbiilfngabDoor
namespace Rows

/-- THE TIED CARD OF 'strongroomlaw12.CapCodes'. -/
def capCodesCard : Claim7 := { stood := { row := capCodesRow, standIns := [], harness := (true, "d8378c81383a22ffb7a6c43f532fa97d0b93ba3414f9c544ed98eea4832311bb"), looks := false }, kinds := [], alts := [], laidByText := true, laidKinds := [.data, .data], laidTests := true, laidLooks := .later }
def CapCodesCardSaid : Prop := Claim7.holds Tryd.pinned (.plain (OpenSpec.ofChange capCodesSpec)) capCodesCard

/-- THE SECOND FORM's CARD OF 'strongroomlaw12.CapCodes'. -/
def capCodesUptoCard : Claim7 := { stood := { row := capCodesUptoRow, standIns := [], harness := (true, "d8378c81383a22ffb7a6c43f532fa97d0b93ba3414f9c544ed98eea4832311bb"), looks := false }, kinds := [], alts := [], laidByText := true, laidKinds := [.data, .data], laidTests := true, laidLooks := .later }
def CapCodesUptoCardSaid : Prop := Claim7.holds Tryd.pinned (.plain (OpenSpec.upto capCodesSpec)) capCodesUptoCard
end Rows
end Go.Proofs.YtcmdcmbiilfngabDoor
