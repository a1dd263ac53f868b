import Derived.Test.YthhpamhfnpacpaaGreatDoorRows
import Derived.ProofKit
import Derived.SevenTiedAt
set_option linter.unusedVariables false
set_option linter.unusedSimpArgs false
namespace Go.Proofs.YthhpamhfnpacpaaGreatDoor.matchTypesP
open Go.RowKit
theorem noGo : Tryz.prog.funcs.any Func.goes = false := by kernel_rfl
theorem fnNamed : Tryz.prog.funcNamed "colonnade/colonnadelaw21.MatchTypes" = some 3 := by kernel_rfl
theorem goes3 (P : Program) (f : FuncId) (h : P.funcs.any Func.goes = false) : P.goes f = false := by
 unfold Program.goes
 rw [h, Bool.and_false, Bool.or_false, List.any_eq_false]
 intro g _ hg
 cases e : P.funcs[g]? with
 | none => rw [e] at hg; cases hg
 | some fn =>
  rw [e] at hg
  have hm : fn ∈ P.funcs := Array.mem_of_getElem? e
  rw [Array.any_eq_false'] at h
  exact h fn hm (by simpa using hg)
theorem any_some {α : Type} (p : α → Bool) (a : α) : Option.any p (some a) = p a := rfl
theorem goesBy_eq : Rows.matchTypesUptoRow.goesBy Tryz.pinned.checked.prog = (Option.any Tryz.prog.goes (Tryz.prog.funcNamed "colonnade/colonnadelaw21.MatchTypes") || false) := rfl
theorem goes : false = Rows.matchTypesUptoRow.goesBy Tryz.pinned.checked.prog :=
 (goesBy_eq.trans ((congrArg (fun o => Option.any Tryz.prog.goes o || false) fnNamed).trans (congrArg (fun b => b || false) ((any_some Tryz.prog.goes 3).trans (goes3 Tryz.prog 3 noGo))))).symm
end Go.Proofs.YthhpamhfnpacpaaGreatDoor.matchTypesP
