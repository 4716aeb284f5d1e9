/-
  DERIVED. GIVEN WITH THE SEED: THE CARDS: each row of YtjpkngbjjgimjaaDoorRows.lean that lists a variable, with what it lists TIED to the program's text (the seventh form; the later family's looks); each row that meets fmt, with fmt's text TOLD by the authors' own Lean function (tested against real Go, not proved from fmt's source: count such statements apart). THE CARD IS WHAT COUNTS. Prove the row's statement (the work); the ties are given (YtjpkngbjjgimjaaDoorTie.lean); close each card by the builder's one call (the guide's Derived/Test/ToyasCard.lean, 'card_holds'). Laid BY PROGRAM, IN A SANDBOX (cutbox-door.mjs). By AI agents, Wed Nov 11 2026. No macro, syntax, notation, axiom, sorry.
-/
import Derived.Test.YtjpkngbjjgimjaaDoorRows
import GoSem.ClaimSeven
namespace Go.Proofs.YtjpkngbjjgimjaaDoor
namespace Rows

/-- THE TIED CARD OF 'strongroomlaw09.CasPlays'. -/
def casPlaysCard : Claim7 := { stood := { row := casPlaysRow, standIns := [], harness := (true, "714266a7f20758317d11b46492cd9cd49cf98b3981d461172de498aac6b57d6c"), looks := false }, kinds := [], alts := [], laidByText := true, laidKinds := [.data, .data], laidTests := true, laidLooks := .later }
def CasPlaysCardSaid : Prop := Claim7.holds Tryd.pinned (.plain (OpenSpec.ofChange casPlaysSpec)) casPlaysCard

/-- THE TIED CARD OF 'strongroomlaw09.CasOnce'. -/
def casOnceCard : Claim7 := { stood := { row := casOnceRow, standIns := [], harness := (true, "714266a7f20758317d11b46492cd9cd49cf98b3981d461172de498aac6b57d6c"), looks := false }, kinds := [], alts := [], laidByText := true, laidKinds := [.data, .data], laidTests := true, laidLooks := .later }
def CasOnceCardSaid : Prop := Claim7.holds Tryd.pinned (.plain (OpenSpec.ofChange casOnceSpec)) casOnceCard

/-- THE TIED CARD OF 'strongroomlaw09.CasEnds'. -/
def casEndsCard : Claim7 := { stood := { row := casEndsRow, standIns := [], harness := (true, "714266a7f20758317d11b46492cd9cd49cf98b3981d461172de498aac6b57d6c"), looks := false }, kinds := [], alts := [], laidByText := true, laidKinds := [.data, .data], laidTests := true, laidLooks := .later }
def CasEndsCardSaid : Prop := Claim7.holds Tryd.pinned (.plain (OpenSpec.ofChange casEndsSpec)) casEndsCard

/-- THE TIED CARD OF 'strongroomlaw09.CasFull'. -/
def casFullCard : Claim7 := { stood := { row := casFullRow, standIns := [], harness := (true, "714266a7f20758317d11b46492cd9cd49cf98b3981d461172de498aac6b57d6c"), looks := false }, kinds := [], alts := [], laidByText := true, laidKinds := [.data, .data], laidTests := true, laidLooks := .later }
def CasFullCardSaid : Prop := Claim7.holds Tryd.pinned (.plain (OpenSpec.ofChange casFullSpec)) casFullCard

/-- THE TIED CARD OF 'strongroomlaw09.CasBeside'. -/
def casBesideCard : Claim7 := { stood := { row := casBesideRow, standIns := [], harness := (true, "714266a7f20758317d11b46492cd9cd49cf98b3981d461172de498aac6b57d6c"), looks := false }, kinds := [], alts := [], laidByText := true, laidKinds := [.data, .data], laidTests := true, laidLooks := .later }
def CasBesideCardSaid : Prop := Claim7.holds Tryd.pinned (.plain (OpenSpec.ofChange casBesideSpec)) casBesideCard

/-- THE TIED CARD OF 'strongroomlaw09.CasNils'. -/
def casNilsCard : Claim7 := { stood := { row := casNilsRow, standIns := [], harness := (true, "714266a7f20758317d11b46492cd9cd49cf98b3981d461172de498aac6b57d6c"), looks := false }, kinds := [], alts := [], laidByText := true, laidKinds := [.data, .data], laidTests := true, laidLooks := .later }
def CasNilsCardSaid : Prop := Claim7.holds Tryd.pinned (.plain (OpenSpec.ofChange casNilsSpec)) casNilsCard

/-- THE SECOND FORM's CARD OF 'strongroomlaw09.CasPlays'. -/
def casPlaysUptoCard : Claim7 := { stood := { row := casPlaysUptoRow, standIns := [], harness := (true, "714266a7f20758317d11b46492cd9cd49cf98b3981d461172de498aac6b57d6c"), looks := false }, kinds := [], alts := [], laidByText := true, laidKinds := [.data, .data], laidTests := true, laidLooks := .later }
def CasPlaysUptoCardSaid : Prop := Claim7.holds Tryd.pinned (.plain (OpenSpec.upto casPlaysSpec)) casPlaysUptoCard

/-- THE SECOND FORM's CARD OF 'strongroomlaw09.CasOnce'. -/
def casOnceUptoCard : Claim7 := { stood := { row := casOnceUptoRow, standIns := [], harness := (true, "714266a7f20758317d11b46492cd9cd49cf98b3981d461172de498aac6b57d6c"), looks := false }, kinds := [], alts := [], laidByText := true, laidKinds := [.data, .data], laidTests := true, laidLooks := .later }
def CasOnceUptoCardSaid : Prop := Claim7.holds Tryd.pinned (.plain (OpenSpec.upto casOnceSpec)) casOnceUptoCard

/-- THE SECOND FORM's CARD OF 'strongroomlaw09.CasEnds'. -/
def casEndsUptoCard : Claim7 := { stood := { row := casEndsUptoRow, standIns := [], harness := (true, "714266a7f20758317d11b46492cd9cd49cf98b3981d461172de498aac6b57d6c"), looks := false }, kinds := [], alts := [], laidByText := true, laidKinds := [.data, .data], laidTests := true, laidLooks := .later }
def CasEndsUptoCardSaid : Prop := Claim7.holds Tryd.pinned (.plain (OpenSpec.upto casEndsSpec)) casEndsUptoCard

/-- THE SECOND FORM's CARD OF 'strongroomlaw09.CasFull'. -/
def casFullUptoCard : Claim7 := { stood := { row := casFullUptoRow, standIns := [], harness := (true, "714266a7f20758317d11b46492cd9cd49cf98b3981d461172de498aac6b57d6c"), looks := false }, kinds := [], alts := [], laidByText := true, laidKinds := [.data, .data], laidTests := true, laidLooks := .later }
def CasFullUptoCardSaid : Prop := Claim7.holds Tryd.pinned (.plain (OpenSpec.upto casFullSpec)) casFullUptoCard

/-- THE SECOND FORM's CARD OF 'strongroomlaw09.CasBeside'. -/
def casBesideUptoCard : Claim7 := { stood := { row := casBesideUptoRow, standIns := [], harness := (true, "714266a7f20758317d11b46492cd9cd49cf98b3981d461172de498aac6b57d6c"), looks := false }, kinds := [], alts := [], laidByText := true, laidKinds := [.data, .data], laidTests := true, laidLooks := .later }
def CasBesideUptoCardSaid : Prop := Claim7.holds Tryd.pinned (.plain (OpenSpec.upto casBesideSpec)) casBesideUptoCard

/-- THE SECOND FORM's CARD OF 'strongroomlaw09.CasNils'. -/
def casNilsUptoCard : Claim7 := { stood := { row := casNilsUptoRow, standIns := [], harness := (true, "714266a7f20758317d11b46492cd9cd49cf98b3981d461172de498aac6b57d6c"), looks := false }, kinds := [], alts := [], laidByText := true, laidKinds := [.data, .data], laidTests := true, laidLooks := .later }
def CasNilsUptoCardSaid : Prop := Claim7.holds Tryd.pinned (.plain (OpenSpec.upto casNilsSpec)) casNilsUptoCard
end Rows
end Go.Proofs.YtjpkngbjjgimjaaDoor
