import Derived.Test.YtknnoiomdngmfaaGreatDoorRows
import Derived.JoinedOf
import Derived.JoinedCond
import Derived.ProofKit
set_option maxRecDepth 100000
set_option maxHeartbeats 4000000
namespace Go.Proofs.YtknnoiomdngmfaaGreatDoor.calcTypesP
open Go.RowKit
theorem joined : joinedFacts Tryz.pinned.checked.prog 3 Tryz.f3 (Rows.OpenSpec.upto Rows.calcTypesSpec).bare Rows.calcTypesUptoRow = true := by
  simp only [joinedFacts, Bool.and_eq_true]
  repeat' (refine And.intro ?_ ?_)
  all_goals (as_aux_lemma => kernel_rfl)
end Go.Proofs.YtknnoiomdngmfaaGreatDoor.calcTypesP
