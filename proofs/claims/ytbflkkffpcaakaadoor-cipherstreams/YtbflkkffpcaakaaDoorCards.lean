/-
  DERIVED. GIVEN WITH THE SEED: THE CARDS: each row of YtbflkkffpcaakaaDoorRows.lean that lists a variable, with what it lists TIED to the program's text (the seventh form; the later family's looks); each row that meets fmt, with fmt's text TOLD by the authors' own Lean function (tested against real Go, not proved from fmt's source: count such statements apart). THE CARD IS WHAT COUNTS. Prove the row's statement (the work); the ties are given (YtbflkkffpcaakaaDoorTie.lean); close each card by the builder's one call (the guide's Derived/Test/ToyasCard.lean, 'card_holds'). Laid BY PROGRAM, IN A SANDBOX (cutbox-door.mjs). By AI agents, Wed Nov 11 2026. No macro, syntax, notation, axiom, sorry.
-/
import Derived.Test.YtbflkkffpcaakaaDoorRows
import GoSem.ClaimSeven
namespace Go.Proofs.YtbflkkffpcaakaaDoor
namespace Rows

/-- THE TIED CARD OF 'strongroomlaw19.CipherQuarters'. -/
def cipherQuartersCard : Claim7 := { stood := { row := cipherQuartersRow, standIns := [], harness := (true, "5ccb16b7e0cb60b80580de2bab98876517c1699cf189ae00d24e90f07a20ea85"), looks := false }, kinds := [], alts := [], laidByText := true, laidKinds := [.data, .data, .data], laidTests := true, laidLooks := .later }
def CipherQuartersCardSaid : Prop := Claim7.holds Tryd.pinned (.plain (OpenSpec.ofChange cipherQuartersSpec)) cipherQuartersCard

/-- THE TIED CARD OF 'strongroomlaw19.CipherBlocks'. -/
def cipherBlocksCard : Claim7 := { stood := { row := cipherBlocksRow, standIns := [], harness := (true, "5ccb16b7e0cb60b80580de2bab98876517c1699cf189ae00d24e90f07a20ea85"), looks := false }, kinds := [], alts := [], laidByText := true, laidKinds := [.data, .data, .data], laidTests := true, laidLooks := .later }
def CipherBlocksCardSaid : Prop := Claim7.holds Tryd.pinned (.plain (OpenSpec.ofChange cipherBlocksSpec)) cipherBlocksCard

/-- THE TIED CARD OF 'strongroomlaw19.CipherHides'. -/
def cipherHidesCard : Claim7 := { stood := { row := cipherHidesRow, standIns := [], harness := (true, "5ccb16b7e0cb60b80580de2bab98876517c1699cf189ae00d24e90f07a20ea85"), looks := false }, kinds := [], alts := [], laidByText := true, laidKinds := [.data, .data, .data], laidTests := true, laidLooks := .later }
def CipherHidesCardSaid : Prop := Claim7.holds Tryd.pinned (.plain (OpenSpec.ofChange cipherHidesSpec)) cipherHidesCard

/-- THE TIED CARD OF 'strongroomlaw19.CipherStreams'. -/
def cipherStreamsCard : Claim7 := { stood := { row := cipherStreamsRow, standIns := [], harness := (true, "5ccb16b7e0cb60b80580de2bab98876517c1699cf189ae00d24e90f07a20ea85"), looks := false }, kinds := [], alts := [], laidByText := true, laidKinds := [.data, .data, .data], laidTests := true, laidLooks := .later }
def CipherStreamsCardSaid : Prop := Claim7.holds Tryd.pinned (.plain (OpenSpec.ofChange cipherStreamsSpec)) cipherStreamsCard

/-- THE TIED CARD OF 'strongroomlaw19.CipherSeals'. -/
def cipherSealsCard : Claim7 := { stood := { row := cipherSealsRow, standIns := [], harness := (true, "5ccb16b7e0cb60b80580de2bab98876517c1699cf189ae00d24e90f07a20ea85"), looks := false }, kinds := [], alts := [], laidByText := true, laidKinds := [.data, .data, .data], laidTests := true, laidLooks := .later }
def CipherSealsCardSaid : Prop := Claim7.holds Tryd.pinned (.plain (OpenSpec.ofChange cipherSealsSpec)) cipherSealsCard

/-- THE TIED CARD OF 'strongroomlaw19.CipherOpens'. -/
def cipherOpensCard : Claim7 := { stood := { row := cipherOpensRow, standIns := [], harness := (true, "5ccb16b7e0cb60b80580de2bab98876517c1699cf189ae00d24e90f07a20ea85"), looks := false }, kinds := [], alts := [], laidByText := true, laidKinds := [.data, .data, .data], laidTests := true, laidLooks := .later }
def CipherOpensCardSaid : Prop := Claim7.holds Tryd.pinned (.plain (OpenSpec.ofChange cipherOpensSpec)) cipherOpensCard

/-- THE SECOND FORM's CARD OF 'strongroomlaw19.CipherQuarters'. -/
def cipherQuartersUptoCard : Claim7 := { stood := { row := cipherQuartersUptoRow, standIns := [], harness := (true, "5ccb16b7e0cb60b80580de2bab98876517c1699cf189ae00d24e90f07a20ea85"), looks := false }, kinds := [], alts := [], laidByText := true, laidKinds := [.data, .data, .data], laidTests := true, laidLooks := .later }
def CipherQuartersUptoCardSaid : Prop := Claim7.holds Tryd.pinned (.plain (OpenSpec.upto cipherQuartersSpec)) cipherQuartersUptoCard

/-- THE SECOND FORM's CARD OF 'strongroomlaw19.CipherBlocks'. -/
def cipherBlocksUptoCard : Claim7 := { stood := { row := cipherBlocksUptoRow, standIns := [], harness := (true, "5ccb16b7e0cb60b80580de2bab98876517c1699cf189ae00d24e90f07a20ea85"), looks := false }, kinds := [], alts := [], laidByText := true, laidKinds := [.data, .data, .data], laidTests := true, laidLooks := .later }
def CipherBlocksUptoCardSaid : Prop := Claim7.holds Tryd.pinned (.plain (OpenSpec.upto cipherBlocksSpec)) cipherBlocksUptoCard

/-- THE SECOND FORM's CARD OF 'strongroomlaw19.CipherHides'. -/
def cipherHidesUptoCard : Claim7 := { stood := { row := cipherHidesUptoRow, standIns := [], harness := (true, "5ccb16b7e0cb60b80580de2bab98876517c1699cf189ae00d24e90f07a20ea85"), looks := false }, kinds := [], alts := [], laidByText := true, laidKinds := [.data, .data, .data], laidTests := true, laidLooks := .later }
def CipherHidesUptoCardSaid : Prop := Claim7.holds Tryd.pinned (.plain (OpenSpec.upto cipherHidesSpec)) cipherHidesUptoCard

/-- THE SECOND FORM's CARD OF 'strongroomlaw19.CipherStreams'. -/
def cipherStreamsUptoCard : Claim7 := { stood := { row := cipherStreamsUptoRow, standIns := [], harness := (true, "5ccb16b7e0cb60b80580de2bab98876517c1699cf189ae00d24e90f07a20ea85"), looks := false }, kinds := [], alts := [], laidByText := true, laidKinds := [.data, .data, .data], laidTests := true, laidLooks := .later }
def CipherStreamsUptoCardSaid : Prop := Claim7.holds Tryd.pinned (.plain (OpenSpec.upto cipherStreamsSpec)) cipherStreamsUptoCard

/-- THE SECOND FORM's CARD OF 'strongroomlaw19.CipherSeals'. -/
def cipherSealsUptoCard : Claim7 := { stood := { row := cipherSealsUptoRow, standIns := [], harness := (true, "5ccb16b7e0cb60b80580de2bab98876517c1699cf189ae00d24e90f07a20ea85"), looks := false }, kinds := [], alts := [], laidByText := true, laidKinds := [.data, .data, .data], laidTests := true, laidLooks := .later }
def CipherSealsUptoCardSaid : Prop := Claim7.holds Tryd.pinned (.plain (OpenSpec.upto cipherSealsSpec)) cipherSealsUptoCard

/-- THE SECOND FORM's CARD OF 'strongroomlaw19.CipherOpens'. -/
def cipherOpensUptoCard : Claim7 := { stood := { row := cipherOpensUptoRow, standIns := [], harness := (true, "5ccb16b7e0cb60b80580de2bab98876517c1699cf189ae00d24e90f07a20ea85"), looks := false }, kinds := [], alts := [], laidByText := true, laidKinds := [.data, .data, .data], laidTests := true, laidLooks := .later }
def CipherOpensUptoCardSaid : Prop := Claim7.holds Tryd.pinned (.plain (OpenSpec.upto cipherOpensSpec)) cipherOpensUptoCard
end Rows
end Go.Proofs.YtbflkkffpcaakaaDoor
