/-
  DERIVED. GIVEN WITH THE SEED: THE CARDS: each row of YtffmppnlddphaaaDoorRows.lean that lists a variable, with what it lists TIED to the program's text (the seventh form; the later family's looks); each row that meets fmt, with fmt's text TOLD by the authors' own Lean function (tested against real Go, not proved from fmt's source: count such statements apart). THE CARD IS WHAT COUNTS. Prove the row's statement (the work); the ties are given (YtffmppnlddphaaaDoorTie.lean); close each card by the builder's one call (the guide's Derived/Test/ToyasCard.lean, 'card_holds'). Laid BY PROGRAM, IN A SANDBOX (cutbox-door.mjs). By AI agents, Wed Nov 11 2026. No macro, syntax, notation, axiom, sorry.
-/
import Derived.Test.YtffmppnlddphaaaDoorRows
import GoSem.ClaimSeven
namespace Go.Proofs.YtffmppnlddphaaaDoor
namespace Rows

/-- THE TIED CARD OF 'colonnadelaw03.KindNames'. -/
def kindNamesCard : Claim7 := { stood := { row := kindNamesRow, standIns := [], harness := (true, "4da43e527206c24dec9716ea15233d8dfd2acba782d167cd8c4c647007400801"), looks := false }, kinds := [], alts := [], laidByText := true, laidKinds := [.data, .data, .data, .data], laidTests := true, laidLooks := .later }
def KindNamesCardSaid : Prop := Claim7.holds Tryd.pinned (.plain (OpenSpec.ofChange kindNamesSpec)) kindNamesCard

/-- THE TIED CARD OF 'colonnadelaw03.KindChecks'. -/
def kindChecksCard : Claim7 := { stood := { row := kindChecksRow, standIns := [], harness := (true, "4da43e527206c24dec9716ea15233d8dfd2acba782d167cd8c4c647007400801"), looks := false }, kinds := [], alts := [], laidByText := true, laidKinds := [.data, .data, .data, .data], laidTests := true, laidLooks := .later }
def KindChecksCardSaid : Prop := Claim7.holds Tryd.pinned (.plain (OpenSpec.ofChange kindChecksSpec)) kindChecksCard

/-- THE TIED CARD OF 'colonnadelaw03.KindLikens'. -/
def kindLikensCard : Claim7 := { stood := { row := kindLikensRow, standIns := [], harness := (true, "4da43e527206c24dec9716ea15233d8dfd2acba782d167cd8c4c647007400801"), looks := false }, kinds := [], alts := [], laidByText := true, laidKinds := [.data, .data, .data, .data], laidTests := true, laidLooks := .later }
def KindLikensCardSaid : Prop := Claim7.holds Tryd.pinned (.plain (OpenSpec.ofChange kindLikensSpec)) kindLikensCard

/-- THE TIED CARD OF 'colonnadelaw03.KindSchemas'. -/
def kindSchemasCard : Claim7 := { stood := { row := kindSchemasRow, standIns := [], harness := (true, "4da43e527206c24dec9716ea15233d8dfd2acba782d167cd8c4c647007400801"), looks := false }, kinds := [], alts := [], laidByText := true, laidKinds := [.data, .data, .data, .data], laidTests := true, laidLooks := .later }
def KindSchemasCardSaid : Prop := Claim7.holds Tryd.pinned (.plain (OpenSpec.ofChange kindSchemasSpec)) kindSchemasCard

/-- THE TIED CARD OF 'colonnadelaw03.KindWalks'. -/
def kindWalksCard : Claim7 := { stood := { row := kindWalksRow, standIns := [], harness := (true, "4da43e527206c24dec9716ea15233d8dfd2acba782d167cd8c4c647007400801"), looks := false }, kinds := [], alts := [], laidByText := true, laidKinds := [.data, .data, .data, .data], laidTests := true, laidLooks := .later }
def KindWalksCardSaid : Prop := Claim7.holds Tryd.pinned (.plain (OpenSpec.ofChange kindWalksSpec)) kindWalksCard

/-- THE TIED CARD OF 'colonnadelaw03.KindFinds'. -/
def kindFindsCard : Claim7 := { stood := { row := kindFindsRow, standIns := [], harness := (true, "4da43e527206c24dec9716ea15233d8dfd2acba782d167cd8c4c647007400801"), looks := false }, kinds := [], alts := [], laidByText := true, laidKinds := [.data, .data, .data, .data], laidTests := true, laidLooks := .later }
def KindFindsCardSaid : Prop := Claim7.holds Tryd.pinned (.plain (OpenSpec.ofChange kindFindsSpec)) kindFindsCard

/-- THE SECOND FORM's CARD OF 'colonnadelaw03.KindNames'. -/
def kindNamesUptoCard : Claim7 := { stood := { row := kindNamesUptoRow, standIns := [], harness := (true, "4da43e527206c24dec9716ea15233d8dfd2acba782d167cd8c4c647007400801"), looks := false }, kinds := [], alts := [], laidByText := true, laidKinds := [.data, .data, .data, .data], laidTests := true, laidLooks := .later }
def KindNamesUptoCardSaid : Prop := Claim7.holds Tryd.pinned (.plain (OpenSpec.upto kindNamesSpec)) kindNamesUptoCard

/-- THE SECOND FORM's CARD OF 'colonnadelaw03.KindChecks'. -/
def kindChecksUptoCard : Claim7 := { stood := { row := kindChecksUptoRow, standIns := [], harness := (true, "4da43e527206c24dec9716ea15233d8dfd2acba782d167cd8c4c647007400801"), looks := false }, kinds := [], alts := [], laidByText := true, laidKinds := [.data, .data, .data, .data], laidTests := true, laidLooks := .later }
def KindChecksUptoCardSaid : Prop := Claim7.holds Tryd.pinned (.plain (OpenSpec.upto kindChecksSpec)) kindChecksUptoCard

/-- THE SECOND FORM's CARD OF 'colonnadelaw03.KindLikens'. -/
def kindLikensUptoCard : Claim7 := { stood := { row := kindLikensUptoRow, standIns := [], harness := (true, "4da43e527206c24dec9716ea15233d8dfd2acba782d167cd8c4c647007400801"), looks := false }, kinds := [], alts := [], laidByText := true, laidKinds := [.data, .data, .data, .data], laidTests := true, laidLooks := .later }
def KindLikensUptoCardSaid : Prop := Claim7.holds Tryd.pinned (.plain (OpenSpec.upto kindLikensSpec)) kindLikensUptoCard

/-- THE SECOND FORM's CARD OF 'colonnadelaw03.KindSchemas'. -/
def kindSchemasUptoCard : Claim7 := { stood := { row := kindSchemasUptoRow, standIns := [], harness := (true, "4da43e527206c24dec9716ea15233d8dfd2acba782d167cd8c4c647007400801"), looks := false }, kinds := [], alts := [], laidByText := true, laidKinds := [.data, .data, .data, .data], laidTests := true, laidLooks := .later }
def KindSchemasUptoCardSaid : Prop := Claim7.holds Tryd.pinned (.plain (OpenSpec.upto kindSchemasSpec)) kindSchemasUptoCard

/-- THE SECOND FORM's CARD OF 'colonnadelaw03.KindWalks'. -/
def kindWalksUptoCard : Claim7 := { stood := { row := kindWalksUptoRow, standIns := [], harness := (true, "4da43e527206c24dec9716ea15233d8dfd2acba782d167cd8c4c647007400801"), looks := false }, kinds := [], alts := [], laidByText := true, laidKinds := [.data, .data, .data, .data], laidTests := true, laidLooks := .later }
def KindWalksUptoCardSaid : Prop := Claim7.holds Tryd.pinned (.plain (OpenSpec.upto kindWalksSpec)) kindWalksUptoCard

/-- THE SECOND FORM's CARD OF 'colonnadelaw03.KindFinds'. -/
def kindFindsUptoCard : Claim7 := { stood := { row := kindFindsUptoRow, standIns := [], harness := (true, "4da43e527206c24dec9716ea15233d8dfd2acba782d167cd8c4c647007400801"), looks := false }, kinds := [], alts := [], laidByText := true, laidKinds := [.data, .data, .data, .data], laidTests := true, laidLooks := .later }
def KindFindsUptoCardSaid : Prop := Claim7.holds Tryd.pinned (.plain (OpenSpec.upto kindFindsSpec)) kindFindsUptoCard
end Rows
end Go.Proofs.YtffmppnlddphaaaDoor
