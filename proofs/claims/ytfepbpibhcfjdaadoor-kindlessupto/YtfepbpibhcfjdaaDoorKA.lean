import Derived.Test.YtfepbpibhcfjdaaDoorJD
namespace Go.Proofs.YtfepbpibhcfjdaaDoor.Kit
open Go.RowKit Go.Shelf Go.Deep
set_option linter.unusedVariables false

def sA : ByteArray := ⟨#[97]⟩
def sB : ByteArray := ⟨#[98]⟩
def sL : ByteArray := ⟨#[108]⟩
def aT : FT := .mk ⟨#[97]⟩ false 6 0 0 0 []
def bT : FT := .mk ⟨#[98]⟩ false 6 0 0 0 []
def lT : FT := .mk ⟨#[108]⟩ true 15 0 0 0 [aT]
def x0 : LS := ⟨[aT, lT], [0], false⟩
def x1 : LS := ⟨[aT, lT], [1], false⟩
def x2 : LS := ⟨[aT], [1, 0], false⟩
theorem w0 : wrongE x0 0 (tkL []) = 0 := by kernel_rfl
theorem w1 : wrongE x1 1 (tkL [x0]) = 0 := by kernel_rfl
theorem w2 : wrongE x2 2 (tkL [x0, x1]) = 0 := by kernel_rfl
theorem nodes_s : nodes 2 [aT, lT] [] false = [x0, x1, x2] := rfl
theorem allR_s : AllR (nodes 2 [aT, lT] [] false) := by
  rw [nodes_s]
  exact AllR.snoc (l := [x0, x1]) (AllR.snoc (l := [x0]) (AllR.snoc (l := []) AllR.nil w0) w1) w2
theorem wa : wrongE ⟨[aT], [0], false⟩ 0 (tkL []) = 0 := by kernel_rfl
theorem wb : wrongE ⟨[bT], [0], false⟩ 0 (tkL []) = 0 := by kernel_rfl
theorem waa : wrongE ⟨[aT, aT], [0], false⟩ 0 (tkL []) = 0 := by kernel_rfl
theorem allR_a : AllR (nodes 1 [aT] [] false) := AllR.snoc (l := []) AllR.nil wa
theorem allR_b : AllR (nodes 1 [bT] [] false) := AllR.snoc (l := []) AllR.nil wb
theorem allR_a2 : AllR [(⟨[aT, aT], [0], false⟩ : LS)] := AllR.snoc (l := []) AllR.nil waa
theorem nodes_aa : nodes 1 [aT, aT] [] false = [⟨[aT, aT], [0], false⟩, ⟨[aT, aT], [1], false⟩] := rfl
theorem bad_aa : wrongE ⟨[aT, aT], [1], false⟩ 1 (tkL [⟨[aT, aT], [0], false⟩]) = 31 := by kernel_rfl
theorem len_s : (nodes 2 [aT, lT] [] false).length = 3 := by kernel_rfl
theorem idx_l : idxOf [aT, lT] ⟨#[108]⟩ = 1 := by kernel_rfl
def tA : ByteArray := aT.name ++ ⟨#[32]⟩ ++ ⟨(wordK 6).toArray⟩
def tL : ByteArray := lT.name ++ ⟨#[32]⟩ ++ brackB 15 [tA] ++ ⟨#[63]⟩
theorem text_s : (joinB [tA, tL]).toList = [97, 32, 105, 110, 116, 54, 52, 44, 32, 108, 32, 108, 105, 115, 116, 40, 97, 32, 105, 110, 116, 54, 52, 41, 63] := by kernel_rfl
theorem text_sz : (joinB [tA, tL]).size ≤ 1000000000000 := by decide +kernel
theorem jA_sz : (joinB [tA]).size ≤ 1000000000000 := by decide +kernel
theorem bA_sz : (brackB 15 [tA]).size ≤ 1000000000000 := by decide +kernel
end Go.Proofs.YtfepbpibhcfjdaaDoor.Kit
