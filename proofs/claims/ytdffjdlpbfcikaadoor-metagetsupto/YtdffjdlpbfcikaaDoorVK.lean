import Derived.Test.YtdffjdlpbfcikaaDoorVJ
namespace Go.Proofs.YtdffjdlpbfcikaaDoor.Kit
open Go.RowKit Go.Shelf Go.Deep
set_option linter.unusedVariables false
attribute [local go_sem] run_store_func

/-! ### the document's Put -/
def ntM (n : ByteArray × ByteArray) : List UInt8 := txtB n.1 2 ++ txtB n.2 2
def ndM (n : Int × Int) : List UInt8 := numB n.1.toNat 4 ++ numB n.2.toNat 4
def slM (s : Int × Int × Int) : List UInt8 := numB s.1.toNat 4 ++ numB s.2.1.toNat 4 ++ numB s.2.2.toNat 4
def schB (fb : FT → List UInt8) (fs : List FT) (ns : List (ByteArray × ByteArray)) : List UInt8 := numB fs.length 2 ++ fs.flatMap fb ++ numB ns.length 2 ++ ns.flatMap ntM
def bdyB (rows pr : Int) (nds : List (Int × Int)) (sls : List (Int × Int × Int)) : List UInt8 := numB rows.toNat 4 ++ numB pr.toNat 1 ++ numB nds.length 2 ++ nds.flatMap ndM ++ numB sls.length 2 ++ sls.flatMap slM
def hd4 (k : Int) : List UInt8 := [UInt8.ofNat k.toNat, 1, 0, 0]
theorem flat_take {α : Type} (f : α → List UInt8) (l : List α) (k : Nat) : ((l.take k).flatMap f).length ≤ (l.flatMap f).length := by
  have e : l.flatMap f = (l.take k).flatMap f ++ (l.drop k).flatMap f := by rw [← List.flatMap_append, List.take_append_drop]
  rw [e, List.length_append]; omega
theorem flat_next {α : Type} (f : α → List UInt8) (l : List α) (k : Nat) (h : k < l.length) : (l.take (k + 1)).flatMap f = (l.take k).flatMap f ++ f l[k] := by
  rw [List.take_add_one, List.getElem?_eq_getElem h, List.flatMap_append]; simp
/-- where Put stands -/
structure PS (W V Wi : World) (R B : Nat) (c : Array Value) (vo : Option Addr) (vc n : Nat) (bs : List UInt8) : Prop where
  ap : Ap W V Wi (some ⟨R, 0, none⟩) 4 4 vo vc n bs
  box : Wi.heap[B]? = some (.cells c 30)
  ne : ¬ (Value.slice vo n vc).ownBlock = some B
theorem PS.step {W V Wi Wj : World} {R B : Nat} {c : Array Value} {vo vo' : Option Addr} {vc n vc' n' : Nat} {bs bs' : List UInt8} (h : PS W V Wi R B c vo vc n bs) (k : Ap W Wi Wj vo vc n vo' vc' n' bs') : PS W V Wj R B c vo' vc' n' bs' :=
  ⟨h.ap.trans k, (k.box h.box h.ne).1, (k.box h.box h.ne).2⟩
end Go.Proofs.YtdffjdlpbfcikaaDoor.Kit
