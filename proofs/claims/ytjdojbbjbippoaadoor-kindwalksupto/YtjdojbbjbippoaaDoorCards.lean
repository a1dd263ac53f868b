/-
  DERIVED. GIVEN WITH THE SEED: THE CARDS: each row of YtjdojbbjbippoaaDoorRows.lean that lists a variable, with what it lists TIED to the program's text (the seventh form; the later family's looks); each row that meets fmt, with fmt's text TOLD by the authors' own Lean function (tested against real Go, not proved from fmt's source: count such statements apart). THE CARD IS WHAT COUNTS. Prove the row's statement (the work); the ties are given (YtjdojbbjbippoaaDoorTie.lean); close each card by the builder's one call (the guide's Derived/Test/ToyasCard.lean, 'card_holds'). Laid BY PROGRAM, IN A SANDBOX (cutbox-door.mjs). By AI agents, Wed Nov 11 2026. No macro, syntax, notation, axiom, sorry.
-/
import Derived.Test.YtjdojbbjbippoaaDoorRows
import GoSem.ClaimSeven
namespace Go.Proofs.YtjdojbbjbippoaaDoor
namespace Rows

/-- THE TIED CARD OF 'colonnadelaw03.KindWalks'. -/
def kindWalksCard : Claim7 := { stood := { row := kindWalksRow, standIns := [], harness := (true, "a103d76c666f1aeaa9d1214632c6cbf360e87f30e189530f5781dfba3ee138f5"), looks := false }, kinds := [], alts := [], laidByText := true, laidKinds := [.data, .data, .data, .data], laidTests := true, laidLooks := .later }
def KindWalksCardSaid : Prop := Claim7.holds Tryd.pinned (.plain (OpenSpec.ofChange kindWalksSpec)) kindWalksCard

/-- THE SECOND FORM's CARD OF 'colonnadelaw03.KindWalks'. -/
def kindWalksUptoCard : Claim7 := { stood := { row := kindWalksUptoRow, standIns := [], harness := (true, "a103d76c666f1aeaa9d1214632c6cbf360e87f30e189530f5781dfba3ee138f5"), looks := false }, kinds := [], alts := [], laidByText := true, laidKinds := [.data, .data, .data, .data], laidTests := true, laidLooks := .later }
def KindWalksUptoCardSaid : Prop := Claim7.holds Tryd.pinned (.plain (OpenSpec.upto kindWalksSpec)) kindWalksUptoCard
end Rows
end Go.Proofs.YtjdojbbjbippoaaDoor
