/-
  DERIVED. GIVEN WITH THE SEED: THE CARDS: each row of YtfepbpibhcfjdaaDoorRows.lean that lists a variable, with what it lists TIED to the program's text (the seventh form; the later family's looks); each row that meets fmt, with fmt's text TOLD by the authors' own Lean function (tested against real Go, not proved from fmt's source: count such statements apart). THE CARD IS WHAT COUNTS. Prove the row's statement (the work); the ties are given (YtfepbpibhcfjdaaDoorTie.lean); close each card by the builder's one call (the guide's Derived/Test/ToyasCard.lean, 'card_holds'). Laid BY PROGRAM, IN A SANDBOX (cutbox-door.mjs). By AI agents, Wed Nov 11 2026. No macro, syntax, notation, axiom, sorry.
-/
import Derived.Test.YtfepbpibhcfjdaaDoorRows
import GoSem.ClaimSeven
namespace Go.Proofs.YtfepbpibhcfjdaaDoor
namespace Rows

/-- THE TIED CARD OF 'colonnadelaw03.KindPrints'. -/
def kindPrintsCard : Claim7 := { stood := { row := kindPrintsRow, standIns := [], harness := (true, "ded27d4a2b2f4bf7d5dccd2ffe43ab770790eff1f293ef55991d8281f77d32b9"), looks := false }, kinds := [], alts := [], laidByText := true, laidKinds := [.data, .data, .data, .data], laidTests := true, laidLooks := .later }
def KindPrintsCardSaid : Prop := Claim7.holds Tryd.pinned (.plain (OpenSpec.ofChange kindPrintsSpec)) kindPrintsCard

/-- THE TIED CARD OF 'colonnadelaw03.KindLess'. -/
def kindLessCard : Claim7 := { stood := { row := kindLessRow, standIns := [], harness := (true, "ded27d4a2b2f4bf7d5dccd2ffe43ab770790eff1f293ef55991d8281f77d32b9"), looks := false }, kinds := [], alts := [], laidByText := true, laidKinds := [.data, .data, .data, .data], laidTests := true, laidLooks := .later }
def KindLessCardSaid : Prop := Claim7.holds Tryd.pinned (.plain (OpenSpec.ofChange kindLessSpec)) kindLessCard

/-- THE TIED CARD OF 'colonnadelaw03.KindWays'. -/
def kindWaysCard : Claim7 := { stood := { row := kindWaysRow, standIns := [], harness := (true, "ded27d4a2b2f4bf7d5dccd2ffe43ab770790eff1f293ef55991d8281f77d32b9"), looks := false }, kinds := [], alts := [], laidByText := true, laidKinds := [.data, .data, .data, .data], laidTests := true, laidLooks := .later }
def KindWaysCardSaid : Prop := Claim7.holds Tryd.pinned (.plain (OpenSpec.ofChange kindWaysSpec)) kindWaysCard

/-- THE SECOND FORM's CARD OF 'colonnadelaw03.KindPrints'. -/
def kindPrintsUptoCard : Claim7 := { stood := { row := kindPrintsUptoRow, standIns := [], harness := (true, "ded27d4a2b2f4bf7d5dccd2ffe43ab770790eff1f293ef55991d8281f77d32b9"), looks := false }, kinds := [], alts := [], laidByText := true, laidKinds := [.data, .data, .data, .data], laidTests := true, laidLooks := .later }
def KindPrintsUptoCardSaid : Prop := Claim7.holds Tryd.pinned (.plain (OpenSpec.upto kindPrintsSpec)) kindPrintsUptoCard

/-- THE SECOND FORM's CARD OF 'colonnadelaw03.KindLess'. -/
def kindLessUptoCard : Claim7 := { stood := { row := kindLessUptoRow, standIns := [], harness := (true, "ded27d4a2b2f4bf7d5dccd2ffe43ab770790eff1f293ef55991d8281f77d32b9"), looks := false }, kinds := [], alts := [], laidByText := true, laidKinds := [.data, .data, .data, .data], laidTests := true, laidLooks := .later }
def KindLessUptoCardSaid : Prop := Claim7.holds Tryd.pinned (.plain (OpenSpec.upto kindLessSpec)) kindLessUptoCard

/-- THE SECOND FORM's CARD OF 'colonnadelaw03.KindWays'. -/
def kindWaysUptoCard : Claim7 := { stood := { row := kindWaysUptoRow, standIns := [], harness := (true, "ded27d4a2b2f4bf7d5dccd2ffe43ab770790eff1f293ef55991d8281f77d32b9"), looks := false }, kinds := [], alts := [], laidByText := true, laidKinds := [.data, .data, .data, .data], laidTests := true, laidLooks := .later }
def KindWaysUptoCardSaid : Prop := Claim7.holds Tryd.pinned (.plain (OpenSpec.upto kindWaysSpec)) kindWaysUptoCard
end Rows
end Go.Proofs.YtfepbpibhcfjdaaDoor
