/-
  DERIVED. GIVEN WITH THE SEED: THE CARDS: each row of YthhpamhfnpacpaaGreatDoorRows.lean that lists a variable, with what it lists TIED to the program's text (the seventh form; the later family's looks); each row that meets fmt, with fmt's text TOLD by the authors' own Lean function (tested against real Go, not proved from fmt's source: count such statements apart). THE CARD IS WHAT COUNTS. Prove the row's statement (the work); the ties are given (YthhpamhfnpacpaaGreatDoorTie.lean); close each card by the builder's one call (the guide's Derived/Test/ToyasCard.lean, 'card_holds'). Laid BY PROGRAM, IN A SANDBOX (cutbox-door.mjs). By AI agents, Wed Nov 11 2026. No macro, syntax, notation, axiom, sorry.
-/
import Derived.Test.YthhpamhfnpacpaaGreatDoorRows
import GoSem.ClaimSeven
namespace Go.Proofs.YthhpamhfnpacpaaGreatDoor
namespace Rows

/-- THE TIED CARD OF 'colonnadelaw21.MatchTypes'. -/
def matchTypesCard : Claim7 := { stood := { row := matchTypesRow, standIns := [], harness := (true, "b589870da94c205b8da45368f011abd551dd4b114492fec83866932d0548667e"), looks := true }, kinds := [], alts := [], laidByText := true, laidKinds := [.data, .data, .data, .pinned], laidTests := true, laidLooks := .later }
def MatchTypesCardSaid : Prop := Claim7.holds Tryz.pinned (.plain (OpenSpec.ofChange matchTypesSpec)) matchTypesCard

/-- THE SECOND FORM's CARD OF 'colonnadelaw21.MatchTypes'. -/
def matchTypesUptoCard : Claim7 := { stood := { row := matchTypesUptoRow, standIns := [], harness := (true, "b589870da94c205b8da45368f011abd551dd4b114492fec83866932d0548667e"), looks := true }, kinds := [], alts := [], laidByText := true, laidKinds := [.data, .data, .data, .pinned], laidTests := true, laidLooks := .later }
def MatchTypesUptoCardSaid : Prop := Claim7.holds Tryz.pinned (.plain (OpenSpec.upto matchTypesSpec)) matchTypesUptoCard
end Rows
end Go.Proofs.YthhpamhfnpacpaaGreatDoor
