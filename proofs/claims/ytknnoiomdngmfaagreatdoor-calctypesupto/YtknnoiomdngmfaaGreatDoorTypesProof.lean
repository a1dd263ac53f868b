import Derived.Test.YtknnoiomdngmfaaGreatDoorTypesSaid
import Derived.Test.YtknnoiomdngmfaaGreatDoorTypesG
namespace Go.Proofs.YtknnoiomdngmfaaGreatDoor
theorem calcTypesUpto_holds : Rows.CalcTypesUptoCardSaid :=
  Claim7.holds_tied_plain_at .later [] _ _ _ _ calcTypesP.saidUpto (fun _ h => by cases h) (by kernel_rfl) (fun _ h => by cases h) calcTypesUpto_row_tie rfl ⟨rfl, rfl⟩ (by kernel_rfl) rfl calcTypesP.plain calcTypesP.goes
end Go.Proofs.YtknnoiomdngmfaaGreatDoor
