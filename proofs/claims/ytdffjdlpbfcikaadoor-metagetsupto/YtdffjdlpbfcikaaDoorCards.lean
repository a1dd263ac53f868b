/-
  DERIVED. GIVEN WITH THE SEED: THE CARDS: each row of YtdffjdlpbfcikaaDoorRows.lean that lists a variable, with what it lists TIED to the program's text (the seventh form; the later family's looks); each row that meets fmt, with fmt's text TOLD by the authors' own Lean function (tested against real Go, not proved from fmt's source: count such statements apart). THE CARD IS WHAT COUNTS. Prove the row's statement (the work); the ties are given (YtdffjdlpbfcikaaDoorTie.lean); close each card by the builder's one call (the guide's Derived/Test/ToyasCard.lean, 'card_holds'). Laid BY PROGRAM, IN A SANDBOX (cutbox-door.mjs). By AI agents, Wed Nov 11 2026. No macro, syntax, notation, axiom, sorry.
-/
import Derived.Test.YtdffjdlpbfcikaaDoorRows
import GoSem.ClaimSeven
namespace Go.Proofs.YtdffjdlpbfcikaaDoor
namespace Rows

/-- THE TIED CARD OF 'colonnadelaw05.MetaGets'. -/
def metaGetsCard : Claim7 := { stood := { row := metaGetsRow, standIns := [], harness := (true, "a87d8457a5c0ca82315de4a08a6deada45bc17a66183f2fd61148a3e7d1318ac"), looks := true }, kinds := [], alts := [], laidByText := true, laidKinds := [.data], laidTests := true, laidLooks := .later }
def MetaGetsCardSaid : Prop := Claim7.holds Tryd.pinned (.plain (OpenSpec.ofChange metaGetsSpec)) metaGetsCard

/-- THE TIED CARD OF 'colonnadelaw05.MetaBack'. -/
def metaBackCard : Claim7 := { stood := { row := metaBackRow, standIns := [], harness := (true, "a87d8457a5c0ca82315de4a08a6deada45bc17a66183f2fd61148a3e7d1318ac"), looks := true }, kinds := [], alts := [], laidByText := true, laidKinds := [.data], laidTests := true, laidLooks := .later }
def MetaBackCardSaid : Prop := Claim7.holds Tryd.pinned (.plain (OpenSpec.ofChange metaBackSpec)) metaBackCard

/-- THE TIED CARD OF 'colonnadelaw05.MetaOnce'. -/
def metaOnceCard : Claim7 := { stood := { row := metaOnceRow, standIns := [], harness := (true, "a87d8457a5c0ca82315de4a08a6deada45bc17a66183f2fd61148a3e7d1318ac"), looks := true }, kinds := [], alts := [], laidByText := true, laidKinds := [.data], laidTests := true, laidLooks := .later }
def MetaOnceCardSaid : Prop := Claim7.holds Tryd.pinned (.plain (OpenSpec.ofChange metaOnceSpec)) metaOnceCard

/-- THE SECOND FORM's CARD OF 'colonnadelaw05.MetaGets'. -/
def metaGetsUptoCard : Claim7 := { stood := { row := metaGetsUptoRow, standIns := [], harness := (true, "a87d8457a5c0ca82315de4a08a6deada45bc17a66183f2fd61148a3e7d1318ac"), looks := true }, kinds := [], alts := [], laidByText := true, laidKinds := [.data], laidTests := true, laidLooks := .later }
def MetaGetsUptoCardSaid : Prop := Claim7.holds Tryd.pinned (.plain (OpenSpec.upto metaGetsSpec)) metaGetsUptoCard

/-- THE SECOND FORM's CARD OF 'colonnadelaw05.MetaBack'. -/
def metaBackUptoCard : Claim7 := { stood := { row := metaBackUptoRow, standIns := [], harness := (true, "a87d8457a5c0ca82315de4a08a6deada45bc17a66183f2fd61148a3e7d1318ac"), looks := true }, kinds := [], alts := [], laidByText := true, laidKinds := [.data], laidTests := true, laidLooks := .later }
def MetaBackUptoCardSaid : Prop := Claim7.holds Tryd.pinned (.plain (OpenSpec.upto metaBackSpec)) metaBackUptoCard

/-- THE SECOND FORM's CARD OF 'colonnadelaw05.MetaOnce'. -/
def metaOnceUptoCard : Claim7 := { stood := { row := metaOnceUptoRow, standIns := [], harness := (true, "a87d8457a5c0ca82315de4a08a6deada45bc17a66183f2fd61148a3e7d1318ac"), looks := true }, kinds := [], alts := [], laidByText := true, laidKinds := [.data], laidTests := true, laidLooks := .later }
def MetaOnceUptoCardSaid : Prop := Claim7.holds Tryd.pinned (.plain (OpenSpec.upto metaOnceSpec)) metaOnceUptoCard
end Rows
end Go.Proofs.YtdffjdlpbfcikaaDoor
