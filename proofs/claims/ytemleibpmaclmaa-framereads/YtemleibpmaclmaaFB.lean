import Derived.Test.YtemleibpmaclmaaFA
namespace Go.Proofs.Ytemleibpmaclmaa.Kit
open Go.RowKit Go.Shelf Go.Deep
set_option linter.unusedVariables false
attribute [local go_sem] run_store_func

/-! ### zeros appended -/
def zs (m : Nat) : List UInt8 := List.replicate m 0
theorem bv_zs (m : Nat) : bv (zs m) = List.replicate m (.int .u8 0) := by simp [bv, zs]
theorem zeros_cells (m : Nat) : Builtin.zeroCells #[Value.int .u8 0] m = (bv (zs m)).toArray := by
  rw [bv_zs]
  apply Array.ext'
  unfold Builtin.zeroCells
  rw [Array.toList_map, Array.toList_range]
  apply List.ext_getElem
  · simp
  · intro i h1 h2
    simp [Nat.mod_one]
theorem zs_string (m : Nat) : byteCells ⟨(zs m).toArray⟩ = bv (zs m) := by simp [byteCells, bv]
theorem zeros_run (ty : TypeId) (base : Option Addr) (n cap m : Nat) (z : Int) (hzm : z = m) (w : World) (h : n + m ≤ 140737488355328) :
    (Builtin.append_ #[22, 3] ty #[.slice base n cap, .int .i64 z]).run Try.prog w = (Builtin.append_ #[22, 9] ty #[.slice base n cap, .string ⟨(zs m).toArray⟩]).run Try.prog w := by
  obtain ⟨i, hi, hzz⟩ := Option.map_eq_some_iff.1 info5
  simp only [Prod.mk.injEq] at hzz
  obtain ⟨hz, h1, hb⟩ := hzz
  have hw : IntKind.i64.wrap z = z := by rw [IntKind.wrap_i64]; omega
  have hf := firstCells_string (P := Try.prog) ⟨(zs m).toArray⟩
  obtain ⟨s, hs⟩ : ∃ s : ByteArray, s = ⟨(zs m).toArray⟩ := ⟨_, rfl⟩
  have hsz : s.size = m := by rw [hs]; simp [ByteArray.size, zs]
  rw [zs_string, ← hs, hsz] at hf
  rw [← hs]
  have ha : ∀ w', (asInt (.int .i64 z)).run Try.prog w' = .ok z w' := fun _ => rfl
  have hc : (Value.int IntKind.u8 0).cells = #[.int .u8 0] := rfl
  have hng : ¬ (z < 0) := by omega
  have hng2 : ¬ (281474976710656 < z) := by omega
  have htn : z.toNat = m := by omega
  have hmx : max z 0 = m := by omega
  have h5 : ¬ (9223372036854775807 < (n : Int) + (m : Int)) := by omega
  have hZ : Builtin.zeroCells #[Value.int .u8 0] m = (bv (zs m)).toArray := zeros_cells m
  have hz0 : z ≤ 0 ↔ m = 0 := by omega
  by_cases hm : m = 0
  · have hbv : bv (zs m) = [] := by rw [hm]; rfl
    rw [hbv] at hf hZ
    by_cases hroom : n + m ≤ cap
    · simp [Builtin.append_, run_underlying Try.underlying22, run_underlying Try.underlying3, run_underlying Try.underlying9, sizeOf, typeInfo, hi, h1, hb, ha, hw, hsz, zeroValue, hz, Builtin.lenOf, hroom, hf, hc, hng, hng2, htn]
      simp [hm]
    · have hfit := growslice_fits (need := n + m) (old := cap) (bytes := 1) (by omega) (by omega)
      have hfit' : ¬ (281474976710656 < Builtin.nextslicecap (n + m) cap) := by omega
      simp [Builtin.append_, run_underlying Try.underlying22, run_underlying Try.underlying3, run_underlying Try.underlying9, sizeOf, typeInfo, hi, h1, hb, ha, hw, hsz, zeroValue, hz, Builtin.lenOf, hroom, hf, hc, hng, hng2, htn, hfit', hmx, h5]
      simp [hm]
  · by_cases hroom : n + m ≤ cap
    · simp [Builtin.append_, run_underlying Try.underlying22, run_underlying Try.underlying3, run_underlying Try.underlying9, sizeOf, typeInfo, hi, h1, hb, ha, hw, hsz, zeroValue, hz, Builtin.lenOf, hroom, hf, hc, hng, hng2, htn, hm, hZ]
    · have hfit := growslice_fits (need := n + m) (old := cap) (bytes := 1) (by omega) (by omega)
      have hfit' : ¬ (281474976710656 < Builtin.nextslicecap (n + m) cap) := by omega
      simp [Builtin.append_, run_underlying Try.underlying22, run_underlying Try.underlying3, run_underlying Try.underlying9, sizeOf, typeInfo, hi, h1, hb, ha, hw, hsz, zeroValue, hz, Builtin.lenOf, hroom, hf, hc, hng, hng2, htn, hfit', hmx, h5, hm, hZ]
theorem step_append_zeros {w : World} {ops : Array Oper} {o : Oper} {a : Act} {K : Act → World → Prop} {Q : Exit → Act → World → Prop} {E : Prop} (hgd : o.guard = none) (s x : Operand)
    (ho : o.op = .call { callee := .builtin .append, args := #[s, x], argTypes := #[22, 3] })
    (v : Value) (n : Nat) (xs : List Value) (hv : a.eval s = v) (hown : w.ownsRow 0 5 1 v n xs) (m : Nat) (hx : a.eval x = .int .i64 (m : Int)) (h47 : n + m ≤ 140737488355328)
    (h : ∀ v' w', w'.ownsRow 0 5 1 v' (n + m) (xs ++ bv (zs m)) → w.grownBy w' v.ownBlock → (v'.ownBlock = v.ownBlock ∨ ∀ g, v'.ownBlock = some g → w.heap.size ≤ g) → K (a.put o.dst v') w') :
    if Region.wanted o (yielded ops a.tmps) = true then Oper.wp Try.prog o a w K Q else E := by
  have hw : Region.wanted o (yielded ops a.tmps) = true := by simp [Region.wanted, hgd]
  rw [if_pos hw]
  obtain ⟨i, hi, hzz⟩ := Option.map_eq_some_iff.1 info5
  simp only [Prod.mk.injEq] at hzz
  obtain ⟨hz, hsz, hb⟩ := hzz
  have hss : (⟨(zs m).toArray⟩ : ByteArray).size = m := by simp [ByteArray.size, zs]
  have hsrc := Src.ofString (P := Try.prog) w Try.underlying9 ⟨(zs m).toArray⟩
  rw [hss, zs_string] at hsrc
  obtain ⟨vo, vc, rfl⟩ := own_form1 hown
  obtain ⟨v', w', hr, h2, h3, h4⟩ := run_append_any (P := Try.prog) w 22 9 o.type 5 i _ 1 Try.underlying22 hi hz hsz hb rfl _ n xs hown _ m (bv (zs m)) hsrc (by omega) (by omega)
  rw [← zeros_run o.type vo n vc m (m : Int) rfl w h47] at hr
  unfold Oper.wp
  simp [execOp, ho, resolve, invoke, builtin, hv, hx, hr, Result.andThen]
  exact h v' w' h2 h3 h4
end Go.Proofs.Ytemleibpmaclmaa.Kit
