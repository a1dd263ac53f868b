import Derived.Test.YthhpamhfnpacpaaGreatDoorTypesSaid
import Derived.Test.YthhpamhfnpacpaaGreatDoorTypesG
set_option linter.unusedVariables false
set_option linter.unusedSimpArgs false
namespace Go.Proofs.YthhpamhfnpacpaaGreatDoor
theorem matchTypesUpto_holds : Rows.MatchTypesUptoCardSaid :=
 Claim7.holds_tied_plain_at .later [] _ _ _ _ matchTypesP.saidUpto (fun _ h => by cases h) (by kernel_rfl) (fun _ h => by cases h) matchTypesUpto_row_tie rfl ⟨rfl, rfl⟩ (by kernel_rfl) rfl matchTypesP.plain matchTypesP.goes
end Go.Proofs.YthhpamhfnpacpaaGreatDoor
