import Derived.Test.YtdffjdlpbfcikaaDoorRQ
namespace Go.Proofs.YtdffjdlpbfcikaaDoor.Kit
open Go.RowKit Go.Shelf Go.Deep
set_option linter.unusedVariables false

/-! ### what MetaBack asks of Get, as data -/
/-- of all bytes: the head, or what is wrong; Y: whether the head that was read may be -/
def getR (Y : HD → Bool) (B : List UInt8) : Except (Int × Nat) HD :=
  match headR B (0, 0) with
  | .error er => .error er
  | .ok (h, s) => if s.1 < B.length then .error (52, s.1) else if Y h = false then .error (50, 0) else .ok h
end Go.Proofs.YtdffjdlpbfcikaaDoor.Kit
