/-
  DERIVED. GIVEN WITH THE SEED: THE CARDS: each row of YtkodgneneiledaaGreatDoorRows.lean that lists a variable, with what it lists TIED to the program's text (the seventh form; the later family's looks); each row that meets fmt, with fmt's text TOLD by the authors' own Lean function (tested against real Go, not proved from fmt's source: count such statements apart). THE CARD IS WHAT COUNTS. Prove the row's statement (the work); the ties are given (YtkodgneneiledaaGreatDoorTie.lean); close each card by the builder's one call (the guide's Derived/Test/ToyasCard.lean, 'card_holds'). Laid BY PROGRAM, IN A SANDBOX (cutbox-door.mjs). By AI agents, Wed Nov 11 2026. No macro, syntax, notation, axiom, sorry.
-/
import Derived.Test.YtkodgneneiledaaGreatDoorRows
import GoSem.ClaimSeven
namespace Go.Proofs.YtkodgneneiledaaGreatDoor
namespace Rows

/-- THE TIED CARD OF 'colonnadelaw03.KindParses'. -/
def kindParsesCard : Claim7 := { stood := { row := kindParsesRow, standIns := [], harness := (true, "ffd26f666397e623c77c44e47fd81ef83b3392fa4c24ac0bfe041c54b51bf044"), looks := true }, kinds := [], alts := [], laidByText := true, laidKinds := [.data, .data, .data, .data], laidTests := true, laidLooks := .later }
def KindParsesCardSaid : Prop := Claim7.holds Tryz.pinned (.plain (OpenSpec.ofChange kindParsesSpec)) kindParsesCard

/-- THE TIED CARD OF 'colonnadelaw03.KindReturns'. -/
def kindReturnsCard : Claim7 := { stood := { row := kindReturnsRow, standIns := [], harness := (true, "ffd26f666397e623c77c44e47fd81ef83b3392fa4c24ac0bfe041c54b51bf044"), looks := true }, kinds := [], alts := [], laidByText := true, laidKinds := [.data, .data, .data, .data], laidTests := true, laidLooks := .later }
def KindReturnsCardSaid : Prop := Claim7.holds Tryz.pinned (.plain (OpenSpec.ofChange kindReturnsSpec)) kindReturnsCard

/-- THE SECOND FORM's CARD OF 'colonnadelaw03.KindParses'. -/
def kindParsesUptoCard : Claim7 := { stood := { row := kindParsesUptoRow, standIns := [], harness := (true, "ffd26f666397e623c77c44e47fd81ef83b3392fa4c24ac0bfe041c54b51bf044"), looks := true }, kinds := [], alts := [], laidByText := true, laidKinds := [.data, .data, .data, .data], laidTests := true, laidLooks := .later }
def KindParsesUptoCardSaid : Prop := Claim7.holds Tryz.pinned (.plain (OpenSpec.upto kindParsesSpec)) kindParsesUptoCard

/-- THE SECOND FORM's CARD OF 'colonnadelaw03.KindReturns'. -/
def kindReturnsUptoCard : Claim7 := { stood := { row := kindReturnsUptoRow, standIns := [], harness := (true, "ffd26f666397e623c77c44e47fd81ef83b3392fa4c24ac0bfe041c54b51bf044"), looks := true }, kinds := [], alts := [], laidByText := true, laidKinds := [.data, .data, .data, .data], laidTests := true, laidLooks := .later }
def KindReturnsUptoCardSaid : Prop := Claim7.holds Tryz.pinned (.plain (OpenSpec.upto kindReturnsSpec)) kindReturnsUptoCard
end Rows
end Go.Proofs.YtkodgneneiledaaGreatDoor
