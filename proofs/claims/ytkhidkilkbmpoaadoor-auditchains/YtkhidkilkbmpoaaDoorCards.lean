/-
  DERIVED. GIVEN WITH THE SEED: THE CARDS: each row of YtkhidkilkbmpoaaDoorRows.lean that lists a variable, with what it lists TIED to the program's text (the seventh form; the later family's looks); each row that meets fmt, with fmt's text TOLD by the authors' own Lean function (tested against real Go, not proved from fmt's source: count such statements apart). THE CARD IS WHAT COUNTS. Prove the row's statement (the work); the ties are given (YtkhidkilkbmpoaaDoorTie.lean); close each card by the builder's one call (the guide's Derived/Test/ToyasCard.lean, 'card_holds'). Laid BY PROGRAM, IN A SANDBOX (cutbox-door.mjs). By AI agents, Wed Nov 11 2026. No macro, syntax, notation, axiom, sorry.
-/
import Derived.Test.YtkhidkilkbmpoaaDoorRows
import GoSem.ClaimSeven
namespace Go.Proofs.YtkhidkilkbmpoaaDoor
namespace Rows

/-- THE TIED CARD OF 'strongroomlaw13.AuditMays'. -/
def auditMaysCard : Claim7 := { stood := { row := auditMaysRow, standIns := [], harness := (true, "c0eea24fd7221e3afb955dddc54761337ed5996520cfcdb0e8757455c9d47393"), looks := false }, kinds := [], alts := [], laidByText := true, laidKinds := [.data, .data], laidTests := true, laidLooks := .later }
def AuditMaysCardSaid : Prop := Claim7.holds Tryd.pinned (.plain (OpenSpec.ofChange auditMaysSpec)) auditMaysCard

/-- THE TIED CARD OF 'strongroomlaw13.AuditAdds'. -/
def auditAddsCard : Claim7 := { stood := { row := auditAddsRow, standIns := [], harness := (true, "c0eea24fd7221e3afb955dddc54761337ed5996520cfcdb0e8757455c9d47393"), looks := false }, kinds := [], alts := [], laidByText := true, laidKinds := [.data, .data], laidTests := true, laidLooks := .later }
def AuditAddsCardSaid : Prop := Claim7.holds Tryd.pinned (.plain (OpenSpec.ofChange auditAddsSpec)) auditAddsCard

/-- THE TIED CARD OF 'strongroomlaw13.AuditPlays'. -/
def auditPlaysCard : Claim7 := { stood := { row := auditPlaysRow, standIns := [], harness := (true, "c0eea24fd7221e3afb955dddc54761337ed5996520cfcdb0e8757455c9d47393"), looks := false }, kinds := [], alts := [], laidByText := true, laidKinds := [.data, .data], laidTests := true, laidLooks := .later }
def AuditPlaysCardSaid : Prop := Claim7.holds Tryd.pinned (.plain (OpenSpec.ofChange auditPlaysSpec)) auditPlaysCard

/-- THE TIED CARD OF 'strongroomlaw13.AuditChains'. -/
def auditChainsCard : Claim7 := { stood := { row := auditChainsRow, standIns := [], harness := (true, "c0eea24fd7221e3afb955dddc54761337ed5996520cfcdb0e8757455c9d47393"), looks := false }, kinds := [], alts := [], laidByText := true, laidKinds := [.data, .data], laidTests := true, laidLooks := .later }
def AuditChainsCardSaid : Prop := Claim7.holds Tryd.pinned (.plain (OpenSpec.ofChange auditChainsSpec)) auditChainsCard

/-- THE TIED CARD OF 'strongroomlaw13.AuditFollows'. -/
def auditFollowsCard : Claim7 := { stood := { row := auditFollowsRow, standIns := [], harness := (true, "c0eea24fd7221e3afb955dddc54761337ed5996520cfcdb0e8757455c9d47393"), looks := false }, kinds := [], alts := [], laidByText := true, laidKinds := [.data, .data], laidTests := true, laidLooks := .later }
def AuditFollowsCardSaid : Prop := Claim7.holds Tryd.pinned (.plain (OpenSpec.ofChange auditFollowsSpec)) auditFollowsCard

/-- THE TIED CARD OF 'strongroomlaw13.AuditCodes'. -/
def auditCodesCard : Claim7 := { stood := { row := auditCodesRow, standIns := [], harness := (true, "c0eea24fd7221e3afb955dddc54761337ed5996520cfcdb0e8757455c9d47393"), looks := false }, kinds := [], alts := [], laidByText := true, laidKinds := [.data, .data], laidTests := true, laidLooks := .later }
def AuditCodesCardSaid : Prop := Claim7.holds Tryd.pinned (.plain (OpenSpec.ofChange auditCodesSpec)) auditCodesCard

/-- THE SECOND FORM's CARD OF 'strongroomlaw13.AuditMays'. -/
def auditMaysUptoCard : Claim7 := { stood := { row := auditMaysUptoRow, standIns := [], harness := (true, "c0eea24fd7221e3afb955dddc54761337ed5996520cfcdb0e8757455c9d47393"), looks := false }, kinds := [], alts := [], laidByText := true, laidKinds := [.data, .data], laidTests := true, laidLooks := .later }
def AuditMaysUptoCardSaid : Prop := Claim7.holds Tryd.pinned (.plain (OpenSpec.upto auditMaysSpec)) auditMaysUptoCard

/-- THE SECOND FORM's CARD OF 'strongroomlaw13.AuditAdds'. -/
def auditAddsUptoCard : Claim7 := { stood := { row := auditAddsUptoRow, standIns := [], harness := (true, "c0eea24fd7221e3afb955dddc54761337ed5996520cfcdb0e8757455c9d47393"), looks := false }, kinds := [], alts := [], laidByText := true, laidKinds := [.data, .data], laidTests := true, laidLooks := .later }
def AuditAddsUptoCardSaid : Prop := Claim7.holds Tryd.pinned (.plain (OpenSpec.upto auditAddsSpec)) auditAddsUptoCard

/-- THE SECOND FORM's CARD OF 'strongroomlaw13.AuditPlays'. -/
def auditPlaysUptoCard : Claim7 := { stood := { row := auditPlaysUptoRow, standIns := [], harness := (true, "c0eea24fd7221e3afb955dddc54761337ed5996520cfcdb0e8757455c9d47393"), looks := false }, kinds := [], alts := [], laidByText := true, laidKinds := [.data, .data], laidTests := true, laidLooks := .later }
def AuditPlaysUptoCardSaid : Prop := Claim7.holds Tryd.pinned (.plain (OpenSpec.upto auditPlaysSpec)) auditPlaysUptoCard

/-- THE SECOND FORM's CARD OF 'strongroomlaw13.AuditChains'. -/
def auditChainsUptoCard : Claim7 := { stood := { row := auditChainsUptoRow, standIns := [], harness := (true, "c0eea24fd7221e3afb955dddc54761337ed5996520cfcdb0e8757455c9d47393"), looks := false }, kinds := [], alts := [], laidByText := true, laidKinds := [.data, .data], laidTests := true, laidLooks := .later }
def AuditChainsUptoCardSaid : Prop := Claim7.holds Tryd.pinned (.plain (OpenSpec.upto auditChainsSpec)) auditChainsUptoCard

/-- THE SECOND FORM's CARD OF 'strongroomlaw13.AuditFollows'. -/
def auditFollowsUptoCard : Claim7 := { stood := { row := auditFollowsUptoRow, standIns := [], harness := (true, "c0eea24fd7221e3afb955dddc54761337ed5996520cfcdb0e8757455c9d47393"), looks := false }, kinds := [], alts := [], laidByText := true, laidKinds := [.data, .data], laidTests := true, laidLooks := .later }
def AuditFollowsUptoCardSaid : Prop := Claim7.holds Tryd.pinned (.plain (OpenSpec.upto auditFollowsSpec)) auditFollowsUptoCard

/-- THE SECOND FORM's CARD OF 'strongroomlaw13.AuditCodes'. -/
def auditCodesUptoCard : Claim7 := { stood := { row := auditCodesUptoRow, standIns := [], harness := (true, "c0eea24fd7221e3afb955dddc54761337ed5996520cfcdb0e8757455c9d47393"), looks := false }, kinds := [], alts := [], laidByText := true, laidKinds := [.data, .data], laidTests := true, laidLooks := .later }
def AuditCodesUptoCardSaid : Prop := Claim7.holds Tryd.pinned (.plain (OpenSpec.upto auditCodesSpec)) auditCodesUptoCard
end Rows
end Go.Proofs.YtkhidkilkbmpoaaDoor
