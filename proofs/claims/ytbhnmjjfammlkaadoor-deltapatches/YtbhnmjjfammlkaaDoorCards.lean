/-
  DERIVED. GIVEN WITH THE SEED: THE CARDS: each row of YtbhnmjjfammlkaaDoorRows.lean that lists a variable, with what it lists TIED to the program's text (the seventh form; the later family's looks); each row that meets fmt, with fmt's text TOLD by the authors' own Lean function (tested against real Go, not proved from fmt's source: count such statements apart). THE CARD IS WHAT COUNTS. Prove the row's statement (the work); the ties are given (YtbhnmjjfammlkaaDoorTie.lean); close each card by the builder's one call (the guide's Derived/Test/ToyasCard.lean, 'card_holds'). Laid BY PROGRAM, IN A SANDBOX (cutbox-door.mjs). By AI agents, Wed Nov 11 2026. No macro, syntax, notation, axiom, sorry.
-/
import Derived.Test.YtbhnmjjfammlkaaDoorRows
import GoSem.ClaimSeven
namespace Go.Proofs.YtbhnmjjfammlkaaDoor
namespace Rows

/-- THE TIED CARD OF 'strongroomlaw11.DeltaMakes'. -/
def deltaMakesCard : Claim7 := { stood := { row := deltaMakesRow, standIns := [], harness := (true, "27943a41a17194b98194b1148f1bcb5bf0b2dad1c028dfa582421bd3b0c29b3b"), looks := false }, kinds := [], alts := [], laidByText := true, laidKinds := [.data, .data], laidTests := true, laidLooks := .later }
def DeltaMakesCardSaid : Prop := Claim7.holds Tryd.pinned (.plain (OpenSpec.ofChange deltaMakesSpec)) deltaMakesCard

/-- THE TIED CARD OF 'strongroomlaw11.DeltaPatches'. -/
def deltaPatchesCard : Claim7 := { stood := { row := deltaPatchesRow, standIns := [], harness := (true, "27943a41a17194b98194b1148f1bcb5bf0b2dad1c028dfa582421bd3b0c29b3b"), looks := false }, kinds := [], alts := [], laidByText := true, laidKinds := [.data, .data], laidTests := true, laidLooks := .later }
def DeltaPatchesCardSaid : Prop := Claim7.holds Tryd.pinned (.plain (OpenSpec.ofChange deltaPatchesSpec)) deltaPatchesCard

/-- THE TIED CARD OF 'strongroomlaw11.DeltaBack'. -/
def deltaBackCard : Claim7 := { stood := { row := deltaBackRow, standIns := [], harness := (true, "27943a41a17194b98194b1148f1bcb5bf0b2dad1c028dfa582421bd3b0c29b3b"), looks := false }, kinds := [], alts := [], laidByText := true, laidKinds := [.data, .data], laidTests := true, laidLooks := .later }
def DeltaBackCardSaid : Prop := Claim7.holds Tryd.pinned (.plain (OpenSpec.ofChange deltaBackSpec)) deltaBackCard

/-- THE TIED CARD OF 'strongroomlaw11.DeltaSame'. -/
def deltaSameCard : Claim7 := { stood := { row := deltaSameRow, standIns := [], harness := (true, "27943a41a17194b98194b1148f1bcb5bf0b2dad1c028dfa582421bd3b0c29b3b"), looks := false }, kinds := [], alts := [], laidByText := true, laidKinds := [.data, .data], laidTests := true, laidLooks := .later }
def DeltaSameCardSaid : Prop := Claim7.holds Tryd.pinned (.plain (OpenSpec.ofChange deltaSameSpec)) deltaSameCard

/-- THE TIED CARD OF 'strongroomlaw11.DeltaCodes'. -/
def deltaCodesCard : Claim7 := { stood := { row := deltaCodesRow, standIns := [], harness := (true, "27943a41a17194b98194b1148f1bcb5bf0b2dad1c028dfa582421bd3b0c29b3b"), looks := false }, kinds := [], alts := [], laidByText := true, laidKinds := [.data, .data], laidTests := true, laidLooks := .later }
def DeltaCodesCardSaid : Prop := Claim7.holds Tryd.pinned (.plain (OpenSpec.ofChange deltaCodesSpec)) deltaCodesCard

/-- THE TIED CARD OF 'strongroomlaw11.DeltaOnce'. -/
def deltaOnceCard : Claim7 := { stood := { row := deltaOnceRow, standIns := [], harness := (true, "27943a41a17194b98194b1148f1bcb5bf0b2dad1c028dfa582421bd3b0c29b3b"), looks := false }, kinds := [], alts := [], laidByText := true, laidKinds := [.data, .data], laidTests := true, laidLooks := .later }
def DeltaOnceCardSaid : Prop := Claim7.holds Tryd.pinned (.plain (OpenSpec.ofChange deltaOnceSpec)) deltaOnceCard

/-- THE SECOND FORM's CARD OF 'strongroomlaw11.DeltaMakes'. -/
def deltaMakesUptoCard : Claim7 := { stood := { row := deltaMakesUptoRow, standIns := [], harness := (true, "27943a41a17194b98194b1148f1bcb5bf0b2dad1c028dfa582421bd3b0c29b3b"), looks := false }, kinds := [], alts := [], laidByText := true, laidKinds := [.data, .data], laidTests := true, laidLooks := .later }
def DeltaMakesUptoCardSaid : Prop := Claim7.holds Tryd.pinned (.plain (OpenSpec.upto deltaMakesSpec)) deltaMakesUptoCard

/-- THE SECOND FORM's CARD OF 'strongroomlaw11.DeltaPatches'. -/
def deltaPatchesUptoCard : Claim7 := { stood := { row := deltaPatchesUptoRow, standIns := [], harness := (true, "27943a41a17194b98194b1148f1bcb5bf0b2dad1c028dfa582421bd3b0c29b3b"), looks := false }, kinds := [], alts := [], laidByText := true, laidKinds := [.data, .data], laidTests := true, laidLooks := .later }
def DeltaPatchesUptoCardSaid : Prop := Claim7.holds Tryd.pinned (.plain (OpenSpec.upto deltaPatchesSpec)) deltaPatchesUptoCard

/-- THE SECOND FORM's CARD OF 'strongroomlaw11.DeltaBack'. -/
def deltaBackUptoCard : Claim7 := { stood := { row := deltaBackUptoRow, standIns := [], harness := (true, "27943a41a17194b98194b1148f1bcb5bf0b2dad1c028dfa582421bd3b0c29b3b"), looks := false }, kinds := [], alts := [], laidByText := true, laidKinds := [.data, .data], laidTests := true, laidLooks := .later }
def DeltaBackUptoCardSaid : Prop := Claim7.holds Tryd.pinned (.plain (OpenSpec.upto deltaBackSpec)) deltaBackUptoCard

/-- THE SECOND FORM's CARD OF 'strongroomlaw11.DeltaSame'. -/
def deltaSameUptoCard : Claim7 := { stood := { row := deltaSameUptoRow, standIns := [], harness := (true, "27943a41a17194b98194b1148f1bcb5bf0b2dad1c028dfa582421bd3b0c29b3b"), looks := false }, kinds := [], alts := [], laidByText := true, laidKinds := [.data, .data], laidTests := true, laidLooks := .later }
def DeltaSameUptoCardSaid : Prop := Claim7.holds Tryd.pinned (.plain (OpenSpec.upto deltaSameSpec)) deltaSameUptoCard

/-- THE SECOND FORM's CARD OF 'strongroomlaw11.DeltaCodes'. -/
def deltaCodesUptoCard : Claim7 := { stood := { row := deltaCodesUptoRow, standIns := [], harness := (true, "27943a41a17194b98194b1148f1bcb5bf0b2dad1c028dfa582421bd3b0c29b3b"), looks := false }, kinds := [], alts := [], laidByText := true, laidKinds := [.data, .data], laidTests := true, laidLooks := .later }
def DeltaCodesUptoCardSaid : Prop := Claim7.holds Tryd.pinned (.plain (OpenSpec.upto deltaCodesSpec)) deltaCodesUptoCard

/-- THE SECOND FORM's CARD OF 'strongroomlaw11.DeltaOnce'. -/
def deltaOnceUptoCard : Claim7 := { stood := { row := deltaOnceUptoRow, standIns := [], harness := (true, "27943a41a17194b98194b1148f1bcb5bf0b2dad1c028dfa582421bd3b0c29b3b"), looks := false }, kinds := [], alts := [], laidByText := true, laidKinds := [.data, .data], laidTests := true, laidLooks := .later }
def DeltaOnceUptoCardSaid : Prop := Claim7.holds Tryd.pinned (.plain (OpenSpec.upto deltaOnceSpec)) deltaOnceUptoCard
end Rows
end Go.Proofs.YtbhnmjjfammlkaaDoor
