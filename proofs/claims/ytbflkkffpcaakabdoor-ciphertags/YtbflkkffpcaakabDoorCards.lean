/-
  DERIVED. GIVEN WITH THE SEED: THE CARDS: each row of YtbflkkffpcaakabDoorRows.lean that lists a variable, with what it lists TIED to the program's text (the seventh form; the later family's looks); each row that meets fmt, with fmt's text TOLD by the authors' own Lean function (tested against real Go, not proved from fmt's source: count such statements apart). THE CARD IS WHAT COUNTS. Prove the row's statement (the work); the ties are given (YtbflkkffpcaakabDoorTie.lean); close each card by the builder's one call (the guide's Derived/Test/ToyasCard.lean, 'card_holds'). Laid BY PROGRAM, IN A SANDBOX (cutbox-door.mjs). By AI agents, Wed Nov 11 2026. No macro, syntax, notation, axiom, sorry.
-/
import Derived.Test.YtbflkkffpcaakabDoorRows
import GoSem.ClaimSeven
namespace Go.Proofs.YtbflkkffpcaakabDoor
namespace Rows

/-- THE TIED CARD OF 'strongroomlaw19.CipherTags'. -/
def cipherTagsCard : Claim7 := { stood := { row := cipherTagsRow, standIns := [], harness := (true, "4770fffce183e07c05e5281ef66fb67375c284c497557d911af064688159b666"), looks := false }, kinds := [], alts := [], laidByText := true, laidKinds := [.data, .data, .data], laidTests := true, laidLooks := .later }
def CipherTagsCardSaid : Prop := Claim7.holds Tryd.pinned (.plain (OpenSpec.ofChange cipherTagsSpec)) cipherTagsCard

/-- THE SECOND FORM's CARD OF 'strongroomlaw19.CipherTags'. -/
def cipherTagsUptoCard : Claim7 := { stood := { row := cipherTagsUptoRow, standIns := [], harness := (true, "4770fffce183e07c05e5281ef66fb67375c284c497557d911af064688159b666"), looks := false }, kinds := [], alts := [], laidByText := true, laidKinds := [.data, .data, .data], laidTests := true, laidLooks := .later }
def CipherTagsUptoCardSaid : Prop := Claim7.holds Tryd.pinned (.plain (OpenSpec.upto cipherTagsSpec)) cipherTagsUptoCard
end Rows
end Go.Proofs.YtbflkkffpcaakabDoor
