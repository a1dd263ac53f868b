/-
  DERIVED. GIVEN WITH THE SEED: THE CARDS: each row of YtkodgneneiledaaDoorRows.lean that lists a variable, with what it lists TIED to the program's text (the seventh form; the later family's looks); each row that meets fmt, with fmt's text TOLD by the authors' own Lean function (tested against real Go, not proved from fmt's source: count such statements apart). THE CARD IS WHAT COUNTS. Prove the row's statement (the work); the ties are given (YtkodgneneiledaaDoorTie.lean); close each card by the builder's one call (the guide's Derived/Test/ToyasCard.lean, 'card_holds'). Laid BY PROGRAM, IN A SANDBOX (cutbox-door.mjs). By AI agents, Wed Nov 11 2026. No macro, syntax, notation, axiom, sorry.
-/
import Derived.Test.YtkodgneneiledaaDoorRows
import GoSem.ClaimSeven
namespace Go.Proofs.YtkodgneneiledaaDoor
namespace Rows

/-- THE TIED CARD OF 'colonnadelaw03.KindReads'. -/
def kindReadsCard : Claim7 := { stood := { row := kindReadsRow, standIns := [], harness := (true, "f5bda4727dab5a9b447bf38d95e8efb8add9172d4ca5525fb930a4fea87375a5"), looks := true }, kinds := [], alts := [], laidByText := true, laidKinds := [.data, .data, .data, .data], laidTests := true, laidLooks := .later }
def KindReadsCardSaid : Prop := Claim7.holds Tryd.pinned (.plain (OpenSpec.ofChange kindReadsSpec)) kindReadsCard

/-- THE SECOND FORM's CARD OF 'colonnadelaw03.KindReads'. -/
def kindReadsUptoCard : Claim7 := { stood := { row := kindReadsUptoRow, standIns := [], harness := (true, "f5bda4727dab5a9b447bf38d95e8efb8add9172d4ca5525fb930a4fea87375a5"), looks := true }, kinds := [], alts := [], laidByText := true, laidKinds := [.data, .data, .data, .data], laidTests := true, laidLooks := .later }
def KindReadsUptoCardSaid : Prop := Claim7.holds Tryd.pinned (.plain (OpenSpec.upto kindReadsSpec)) kindReadsUptoCard
end Rows
end Go.Proofs.YtkodgneneiledaaDoor
