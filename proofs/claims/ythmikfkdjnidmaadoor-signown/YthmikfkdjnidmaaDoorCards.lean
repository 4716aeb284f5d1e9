/-
  DERIVED. GIVEN WITH THE SEED: THE CARDS: each row of YthmikfkdjnidmaaDoorRows.lean that lists a variable, with what it lists TIED to the program's text (the seventh form; the later family's looks); each row that meets fmt, with fmt's text TOLD by the authors' own Lean function (tested against real Go, not proved from fmt's source: count such statements apart). THE CARD IS WHAT COUNTS. Prove the row's statement (the work); the ties are given (YthmikfkdjnidmaaDoorTie.lean); close each card by the builder's one call (the guide's Derived/Test/ToyasCard.lean, 'card_holds'). Laid BY PROGRAM, IN A SANDBOX (cutbox-door.mjs). By AI agents, Wed Nov 11 2026. No macro, syntax, notation, axiom, sorry.
-/
import Derived.Test.YthmikfkdjnidmaaDoorRows
import GoSem.ClaimSeven
namespace Go.Proofs.YthmikfkdjnidmaaDoor
namespace Rows

/-- THE TIED CARD OF 'strongroomlaw10.SignOnes'. -/
def signOnesCard : Claim7 := { stood := { row := signOnesRow, standIns := [], harness := (true, "9366dbee3e6b8144bc6f035be57a0a175d8cc15111da3a5f955b6f509a08af4f"), looks := false }, kinds := [], alts := [], laidByText := true, laidKinds := [.data, .data], laidTests := true, laidLooks := .later }
def SignOnesCardSaid : Prop := Claim7.holds Tryd.pinned (.plain (OpenSpec.ofChange signOnesSpec)) signOnesCard

/-- THE TIED CARD OF 'strongroomlaw10.SignBlocks'. -/
def signBlocksCard : Claim7 := { stood := { row := signBlocksRow, standIns := [], harness := (true, "9366dbee3e6b8144bc6f035be57a0a175d8cc15111da3a5f955b6f509a08af4f"), looks := false }, kinds := [], alts := [], laidByText := true, laidKinds := [.data, .data], laidTests := true, laidLooks := .later }
def SignBlocksCardSaid : Prop := Claim7.holds Tryd.pinned (.plain (OpenSpec.ofChange signBlocksSpec)) signBlocksCard

/-- THE TIED CARD OF 'strongroomlaw10.SignAll'. -/
def signAllCard : Claim7 := { stood := { row := signAllRow, standIns := [], harness := (true, "9366dbee3e6b8144bc6f035be57a0a175d8cc15111da3a5f955b6f509a08af4f"), looks := false }, kinds := [], alts := [], laidByText := true, laidKinds := [.data, .data], laidTests := true, laidLooks := .later }
def SignAllCardSaid : Prop := Claim7.holds Tryd.pinned (.plain (OpenSpec.ofChange signAllSpec)) signAllCard

/-- THE TIED CARD OF 'strongroomlaw10.SignFinds'. -/
def signFindsCard : Claim7 := { stood := { row := signFindsRow, standIns := [], harness := (true, "9366dbee3e6b8144bc6f035be57a0a175d8cc15111da3a5f955b6f509a08af4f"), looks := false }, kinds := [], alts := [], laidByText := true, laidKinds := [.data, .data], laidTests := true, laidLooks := .later }
def SignFindsCardSaid : Prop := Claim7.holds Tryd.pinned (.plain (OpenSpec.ofChange signFindsSpec)) signFindsCard

/-- THE TIED CARD OF 'strongroomlaw10.SignFound'. -/
def signFoundCard : Claim7 := { stood := { row := signFoundRow, standIns := [], harness := (true, "9366dbee3e6b8144bc6f035be57a0a175d8cc15111da3a5f955b6f509a08af4f"), looks := false }, kinds := [], alts := [], laidByText := true, laidKinds := [.data, .data], laidTests := true, laidLooks := .later }
def SignFoundCardSaid : Prop := Claim7.holds Tryd.pinned (.plain (OpenSpec.ofChange signFoundSpec)) signFoundCard

/-- THE TIED CARD OF 'strongroomlaw10.SignOwn'. -/
def signOwnCard : Claim7 := { stood := { row := signOwnRow, standIns := [], harness := (true, "9366dbee3e6b8144bc6f035be57a0a175d8cc15111da3a5f955b6f509a08af4f"), looks := false }, kinds := [], alts := [], laidByText := true, laidKinds := [.data, .data], laidTests := true, laidLooks := .later }
def SignOwnCardSaid : Prop := Claim7.holds Tryd.pinned (.plain (OpenSpec.ofChange signOwnSpec)) signOwnCard

/-- THE SECOND FORM's CARD OF 'strongroomlaw10.SignOnes'. -/
def signOnesUptoCard : Claim7 := { stood := { row := signOnesUptoRow, standIns := [], harness := (true, "9366dbee3e6b8144bc6f035be57a0a175d8cc15111da3a5f955b6f509a08af4f"), looks := false }, kinds := [], alts := [], laidByText := true, laidKinds := [.data, .data], laidTests := true, laidLooks := .later }
def SignOnesUptoCardSaid : Prop := Claim7.holds Tryd.pinned (.plain (OpenSpec.upto signOnesSpec)) signOnesUptoCard

/-- THE SECOND FORM's CARD OF 'strongroomlaw10.SignBlocks'. -/
def signBlocksUptoCard : Claim7 := { stood := { row := signBlocksUptoRow, standIns := [], harness := (true, "9366dbee3e6b8144bc6f035be57a0a175d8cc15111da3a5f955b6f509a08af4f"), looks := false }, kinds := [], alts := [], laidByText := true, laidKinds := [.data, .data], laidTests := true, laidLooks := .later }
def SignBlocksUptoCardSaid : Prop := Claim7.holds Tryd.pinned (.plain (OpenSpec.upto signBlocksSpec)) signBlocksUptoCard

/-- THE SECOND FORM's CARD OF 'strongroomlaw10.SignAll'. -/
def signAllUptoCard : Claim7 := { stood := { row := signAllUptoRow, standIns := [], harness := (true, "9366dbee3e6b8144bc6f035be57a0a175d8cc15111da3a5f955b6f509a08af4f"), looks := false }, kinds := [], alts := [], laidByText := true, laidKinds := [.data, .data], laidTests := true, laidLooks := .later }
def SignAllUptoCardSaid : Prop := Claim7.holds Tryd.pinned (.plain (OpenSpec.upto signAllSpec)) signAllUptoCard

/-- THE SECOND FORM's CARD OF 'strongroomlaw10.SignFinds'. -/
def signFindsUptoCard : Claim7 := { stood := { row := signFindsUptoRow, standIns := [], harness := (true, "9366dbee3e6b8144bc6f035be57a0a175d8cc15111da3a5f955b6f509a08af4f"), looks := false }, kinds := [], alts := [], laidByText := true, laidKinds := [.data, .data], laidTests := true, laidLooks := .later }
def SignFindsUptoCardSaid : Prop := Claim7.holds Tryd.pinned (.plain (OpenSpec.upto signFindsSpec)) signFindsUptoCard

/-- THE SECOND FORM's CARD OF 'strongroomlaw10.SignFound'. -/
def signFoundUptoCard : Claim7 := { stood := { row := signFoundUptoRow, standIns := [], harness := (true, "9366dbee3e6b8144bc6f035be57a0a175d8cc15111da3a5f955b6f509a08af4f"), looks := false }, kinds := [], alts := [], laidByText := true, laidKinds := [.data, .data], laidTests := true, laidLooks := .later }
def SignFoundUptoCardSaid : Prop := Claim7.holds Tryd.pinned (.plain (OpenSpec.upto signFoundSpec)) signFoundUptoCard

/-- THE SECOND FORM's CARD OF 'strongroomlaw10.SignOwn'. -/
def signOwnUptoCard : Claim7 := { stood := { row := signOwnUptoRow, standIns := [], harness := (true, "9366dbee3e6b8144bc6f035be57a0a175d8cc15111da3a5f955b6f509a08af4f"), looks := false }, kinds := [], alts := [], laidByText := true, laidKinds := [.data, .data], laidTests := true, laidLooks := .later }
def SignOwnUptoCardSaid : Prop := Claim7.holds Tryd.pinned (.plain (OpenSpec.upto signOwnSpec)) signOwnUptoCard
end Rows
end Go.Proofs.YthmikfkdjnidmaaDoor
