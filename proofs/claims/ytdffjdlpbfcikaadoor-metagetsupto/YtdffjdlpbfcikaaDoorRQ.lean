import Derived.Test.YtdffjdlpbfcikaaDoorVZ
import Derived.Test.YtdffjdlpbfcikaaDoorRP
namespace Go.Proofs.YtdffjdlpbfcikaaDoor.Kit
open Go.RowKit Go.Shelf Go.Deep
set_option linter.unusedVariables false

/-! ### a head's bytes are read as the head -/
def hdOf (k : Int) (fs : List FT) (ns : List (ByteArray × ByteArray)) (di : Int) (dl : Bool) (rows pr : Int) (nds : List (Int × Int)) (sls : List (Int × Int × Int)) : HD := ⟨k.toNat, fs, ns, di.toNat, dl, rows.toNat, pr.toNat, nds, sls⟩
end Go.Proofs.YtdffjdlpbfcikaaDoor.Kit
