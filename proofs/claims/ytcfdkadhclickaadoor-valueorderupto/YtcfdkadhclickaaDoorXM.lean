import Derived.Test.YtcfdkadhclickaaDoorXL
import Derived.Laws.BitsAllLaws
namespace Go.Proofs.YtcfdkadhclickaaDoor.Kit
open Go.RowKit Go.Shelf Go.Deep
set_option linter.unusedVariables false
attribute [local go_sem] run_store_func

/-! ### ranged 74, place 62 -/
set_option maxRecDepth 100000 in
set_option maxHeartbeats 2000000 in
theorem ranged74 (k n : Int) (hk : 2 ≤ k ∧ k ≤ 11) (w : World) : Calls Tryd.prog 74 #[.int .i64 k, .int .i64 n] w fun e w' => e = .returned (.bool (numB k n)) ∧ w = w' := by
  have hk' : k = 2 ∨ k = 3 ∨ k = 4 ∨ k = 5 ∨ k = 6 ∨ k = 7 ∨ k = 8 ∨ k = 9 ∨ k = 10 ∨ k = 11 := by omega
  clear hk
  obtain ⟨R, hR⟩ : ∃ R, R = numB k n := ⟨_, rfl⟩
  rw [← hR]
  rcases hk' with rfl | rfl | rfl | rfl | rfl | rfl | rfl | rfl | rfl | rfl
  all_goals
    have HR := hidM hR
    clear hR
    go_enter Tryd.func74, Tryd.ntmps74
    go_wp2
    all_goals go_ret
    all_goals
      refine ⟨congrArg (fun b => Ending.returned (.bool b)) ?_, rfl⟩
      rw [HR.out]
      first | rfl | (simp_all [numB]; done) | (simp [numB]; omega)
def placeOf (n : Int) : Int := rankOf n + 9223372036854775808
theorem xor_ones (X : Nat) (h : X < 18446744073709551616) : bits .xor .u64 (18446744073709551615 : Int) (X : Int) = 18446744073709551615 - (X : Int) := by
  show IntKind.u64.wrap ((BitVec.ofInt 64 18446744073709551615 ^^^ BitVec.ofInt 64 (X : Int)).toNat : Int) = _
  have h1 : BitVec.ofInt 64 18446744073709551615 = BitVec.allOnes 64 := by decide
  rw [h1, BitVec.allOnes_xor, BitVec.toNat_not, ofInt_u64 X (by omega)]
  simp [IntKind.wrap, IntKind.bits, IntKind.signed]
  omega
set_option maxRecDepth 100000 in
theorem place62 (n : Int) (h : is64 n) (w : World) : Calls Tryd.prog 62 #[.int .i64 n] w fun e w' => e = .returned (.int .u64 (placeOf n)) ∧ w = w' := by
  obtain ⟨R, hR⟩ : ∃ R, R = placeOf n := ⟨_, rfl⟩
  rw [← hR]
  have h1 := h.1
  have h2 := h.2
  by_cases h0 : n < 0
  · have hx : bits BinOp.xor IntKind.u64 IntKind.u64.max (IntKind.u64.wrap n) = R := by
      have e1 : IntKind.u64.wrap n = (((n + 18446744073709551616).toNat : Nat) : Int) := by
        simp [IntKind.wrap, IntKind.bits, IntKind.signed]
        omega
      rw [e1, show IntKind.u64.max = (18446744073709551615 : Int) by decide, xor_ones _ (by omega), hR]
      unfold placeOf rankOf
      rw [if_pos h0]
      omega
    have HX := hidM hx
    clear hR h h1 h2 hx
    go_enter Tryd.func62, Tryd.ntmps62
    go_wp2
    all_goals go_ret
    all_goals first | exact ⟨congrArg (fun z => Ending.returned (.int .u64 z)) HX.out, rfl⟩ | (exfalso; simp_all; done)
  · have hx : IntKind.u64.wrap (IntKind.u64.wrap n + 9223372036854775808) = R := by
      rw [hR]
      unfold placeOf rankOf
      rw [if_neg h0]
      simp [IntKind.wrap, IntKind.bits, IntKind.signed]
      omega
    have HX := hidM hx
    clear hR h h1 h2 hx
    go_enter Tryd.func62, Tryd.ntmps62
    go_wp2
    all_goals go_ret
    all_goals first | exact ⟨congrArg (fun z => Ending.returned (.int .u64 z)) HX.out, rfl⟩ | (exfalso; simp_all; done)
end Go.Proofs.YtcfdkadhclickaaDoor.Kit
