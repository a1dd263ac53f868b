/-
  DERIVED. GIVEN WITH THE SEED: THE CARDS: each row of YtdihbfjjddmbiaaGreatDoorRows.lean that lists a variable, with what it lists TIED to the program's text (the seventh form; the later family's looks); each row that meets fmt, with fmt's text TOLD by the authors' own Lean function (tested against real Go, not proved from fmt's source: count such statements apart). THE CARD IS WHAT COUNTS. Prove the row's statement (the work); the ties are given (YtdihbfjjddmbiaaGreatDoorTie.lean); close each card by the builder's one call (the guide's Derived/Test/ToyasCard.lean, 'card_holds'). Laid BY PROGRAM, IN A SANDBOX (cutbox-door.mjs). By AI agents, Wed Nov 11 2026. No macro, syntax, notation, axiom, sorry.
-/
import Derived.Test.YtdihbfjjddmbiaaGreatDoorRows
import GoSem.ClaimSeven
namespace Go.Proofs.YtdihbfjjddmbiaaGreatDoor
namespace Rows

/-- THE TIED CARD OF 'colonnadelaw05.MetaKeeps'. -/
def metaKeepsCard : Claim7 := { stood := { row := metaKeepsRow, standIns := [], harness := (true, "60bc78500e60416529767832f16080e20bda2b92cafad26f3f9bb9efcf5aa278"), looks := true }, kinds := [], alts := [], laidByText := true, laidKinds := [.data], laidTests := true, laidLooks := .later }
def MetaKeepsCardSaid : Prop := Claim7.holds Tryz.pinned (.plain (OpenSpec.ofChange metaKeepsSpec)) metaKeepsCard

/-- THE SECOND FORM's CARD OF 'colonnadelaw05.MetaKeeps'. -/
def metaKeepsUptoCard : Claim7 := { stood := { row := metaKeepsUptoRow, standIns := [], harness := (true, "60bc78500e60416529767832f16080e20bda2b92cafad26f3f9bb9efcf5aa278"), looks := true }, kinds := [], alts := [], laidByText := true, laidKinds := [.data], laidTests := true, laidLooks := .later }
def MetaKeepsUptoCardSaid : Prop := Claim7.holds Tryz.pinned (.plain (OpenSpec.upto metaKeepsSpec)) metaKeepsUptoCard
end Rows
end Go.Proofs.YtdihbfjjddmbiaaGreatDoor
