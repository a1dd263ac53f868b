import Derived.Test.YteggcdhibcjneaaGreatDoorRows
import Derived.JoinedOf
import Derived.JoinedCond
import Derived.ProofKit
set_option maxRecDepth 100000
set_option maxHeartbeats 4000000
namespace Go.Proofs.YteggcdhibcjneaaGreatDoor.matchNamesF
open Go.RowKit
/-- what the row lists, piece by piece: each a lemma of its own, so that the kernel gives its memory back -/
theorem joined : joinedFacts Tryz.pinned.checked.prog 3 Tryz.f3 (OpenSpec.ofChange Rows.matchNamesSpec).bare Rows.matchNamesRow = true := by
  simp only [joinedFacts, Bool.and_eq_true]
  repeat' (refine And.intro ?_ ?_)
  all_goals (as_aux_lemma => kernel_rfl)
end Go.Proofs.YteggcdhibcjneaaGreatDoor.matchNamesF
