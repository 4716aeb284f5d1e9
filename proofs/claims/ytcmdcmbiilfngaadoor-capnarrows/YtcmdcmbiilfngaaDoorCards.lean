/-
  DERIVED. GIVEN WITH THE SEED: THE CARDS: each row of YtcmdcmbiilfngaaDoorRows.lean that lists a variable, with what it lists TIED to the program's text (the seventh form; the later family's looks); each row that meets fmt, with fmt's text TOLD by the authors' own Lean function (tested against real Go, not proved from fmt's source: count such statements apart). THE CARD IS WHAT COUNTS. Prove the row's statement (the work); the ties are given (YtcmdcmbiilfngaaDoorTie.lean); close each card by the builder's one call (the guide's Derived/Test/ToyasCard.lean, 'card_holds'). Laid BY PROGRAM, IN A SANDBOX (cutbox-door.mjs). By AI agents, Wed Nov 11 2026. No macro, syntax, notation, axiom, sorry.
-/
import Derived.Test.YtcmdcmbiilfngaaDoorRows
import GoSem.ClaimSeven
namespace Go.Proofs.YtcmdcmbiilfngaaDoor
namespace Rows

/-- THE TIED CARD OF 'strongroomlaw12.CapMints'. -/
def capMintsCard : Claim7 := { stood := { row := capMintsRow, standIns := [], harness := (true, "b19a03ae824dc2f6810aeb81173081118005215afdce10c70f77b3db14f8911f"), looks := false }, kinds := [], alts := [], laidByText := true, laidKinds := [.data, .data], laidTests := true, laidLooks := .later }
def CapMintsCardSaid : Prop := Claim7.holds Tryd.pinned (.plain (OpenSpec.ofChange capMintsSpec)) capMintsCard

/-- THE TIED CARD OF 'strongroomlaw12.CapNarrows'. -/
def capNarrowsCard : Claim7 := { stood := { row := capNarrowsRow, standIns := [], harness := (true, "b19a03ae824dc2f6810aeb81173081118005215afdce10c70f77b3db14f8911f"), looks := false }, kinds := [], alts := [], laidByText := true, laidKinds := [.data, .data], laidTests := true, laidLooks := .later }
def CapNarrowsCardSaid : Prop := Claim7.holds Tryd.pinned (.plain (OpenSpec.ofChange capNarrowsSpec)) capNarrowsCard

/-- THE TIED CARD OF 'strongroomlaw12.CapLets'. -/
def capLetsCard : Claim7 := { stood := { row := capLetsRow, standIns := [], harness := (true, "b19a03ae824dc2f6810aeb81173081118005215afdce10c70f77b3db14f8911f"), looks := false }, kinds := [], alts := [], laidByText := true, laidKinds := [.data, .data], laidTests := true, laidLooks := .later }
def CapLetsCardSaid : Prop := Claim7.holds Tryd.pinned (.plain (OpenSpec.ofChange capLetsSpec)) capLetsCard

/-- THE TIED CARD OF 'strongroomlaw12.CapMeets'. -/
def capMeetsCard : Claim7 := { stood := { row := capMeetsRow, standIns := [], harness := (true, "b19a03ae824dc2f6810aeb81173081118005215afdce10c70f77b3db14f8911f"), looks := false }, kinds := [], alts := [], laidByText := true, laidKinds := [.data, .data], laidTests := true, laidLooks := .later }
def CapMeetsCardSaid : Prop := Claim7.holds Tryd.pinned (.plain (OpenSpec.ofChange capMeetsSpec)) capMeetsCard

/-- THE TIED CARD OF 'strongroomlaw12.CapChecks'. -/
def capChecksCard : Claim7 := { stood := { row := capChecksRow, standIns := [], harness := (true, "b19a03ae824dc2f6810aeb81173081118005215afdce10c70f77b3db14f8911f"), looks := false }, kinds := [], alts := [], laidByText := true, laidKinds := [.data, .data], laidTests := true, laidLooks := .later }
def CapChecksCardSaid : Prop := Claim7.holds Tryd.pinned (.plain (OpenSpec.ofChange capChecksSpec)) capChecksCard

/-- THE TIED CARD OF 'strongroomlaw12.CapLess'. -/
def capLessCard : Claim7 := { stood := { row := capLessRow, standIns := [], harness := (true, "b19a03ae824dc2f6810aeb81173081118005215afdce10c70f77b3db14f8911f"), looks := false }, kinds := [], alts := [], laidByText := true, laidKinds := [.data, .data], laidTests := true, laidLooks := .later }
def CapLessCardSaid : Prop := Claim7.holds Tryd.pinned (.plain (OpenSpec.ofChange capLessSpec)) capLessCard

/-- THE SECOND FORM's CARD OF 'strongroomlaw12.CapMints'. -/
def capMintsUptoCard : Claim7 := { stood := { row := capMintsUptoRow, standIns := [], harness := (true, "b19a03ae824dc2f6810aeb81173081118005215afdce10c70f77b3db14f8911f"), looks := false }, kinds := [], alts := [], laidByText := true, laidKinds := [.data, .data], laidTests := true, laidLooks := .later }
def CapMintsUptoCardSaid : Prop := Claim7.holds Tryd.pinned (.plain (OpenSpec.upto capMintsSpec)) capMintsUptoCard

/-- THE SECOND FORM's CARD OF 'strongroomlaw12.CapNarrows'. -/
def capNarrowsUptoCard : Claim7 := { stood := { row := capNarrowsUptoRow, standIns := [], harness := (true, "b19a03ae824dc2f6810aeb81173081118005215afdce10c70f77b3db14f8911f"), looks := false }, kinds := [], alts := [], laidByText := true, laidKinds := [.data, .data], laidTests := true, laidLooks := .later }
def CapNarrowsUptoCardSaid : Prop := Claim7.holds Tryd.pinned (.plain (OpenSpec.upto capNarrowsSpec)) capNarrowsUptoCard

/-- THE SECOND FORM's CARD OF 'strongroomlaw12.CapLets'. -/
def capLetsUptoCard : Claim7 := { stood := { row := capLetsUptoRow, standIns := [], harness := (true, "b19a03ae824dc2f6810aeb81173081118005215afdce10c70f77b3db14f8911f"), looks := false }, kinds := [], alts := [], laidByText := true, laidKinds := [.data, .data], laidTests := true, laidLooks := .later }
def CapLetsUptoCardSaid : Prop := Claim7.holds Tryd.pinned (.plain (OpenSpec.upto capLetsSpec)) capLetsUptoCard

/-- THE SECOND FORM's CARD OF 'strongroomlaw12.CapMeets'. -/
def capMeetsUptoCard : Claim7 := { stood := { row := capMeetsUptoRow, standIns := [], harness := (true, "b19a03ae824dc2f6810aeb81173081118005215afdce10c70f77b3db14f8911f"), looks := false }, kinds := [], alts := [], laidByText := true, laidKinds := [.data, .data], laidTests := true, laidLooks := .later }
def CapMeetsUptoCardSaid : Prop := Claim7.holds Tryd.pinned (.plain (OpenSpec.upto capMeetsSpec)) capMeetsUptoCard

/-- THE SECOND FORM's CARD OF 'strongroomlaw12.CapChecks'. -/
def capChecksUptoCard : Claim7 := { stood := { row := capChecksUptoRow, standIns := [], harness := (true, "b19a03ae824dc2f6810aeb81173081118005215afdce10c70f77b3db14f8911f"), looks := false }, kinds := [], alts := [], laidByText := true, laidKinds := [.data, .data], laidTests := true, laidLooks := .later }
def CapChecksUptoCardSaid : Prop := Claim7.holds Tryd.pinned (.plain (OpenSpec.upto capChecksSpec)) capChecksUptoCard

/-- THE SECOND FORM's CARD OF 'strongroomlaw12.CapLess'. -/
def capLessUptoCard : Claim7 := { stood := { row := capLessUptoRow, standIns := [], harness := (true, "b19a03ae824dc2f6810aeb81173081118005215afdce10c70f77b3db14f8911f"), looks := false }, kinds := [], alts := [], laidByText := true, laidKinds := [.data, .data], laidTests := true, laidLooks := .later }
def CapLessUptoCardSaid : Prop := Claim7.holds Tryd.pinned (.plain (OpenSpec.upto capLessSpec)) capLessUptoCard
end Rows
end Go.Proofs.YtcmdcmbiilfngaaDoor
