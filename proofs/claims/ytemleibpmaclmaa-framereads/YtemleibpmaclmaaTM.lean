import Derived.Test.YtemleibpmaclmaaTL
namespace Go.Proofs.Ytemleibpmaclmaa.Kit
open Go.RowKit Go.Shelf Go.Deep
/-- ints somewhere in memory -/
def IntsAt (W : World) (ao : Option Addr) (l : List Int) : Prop :=
  (∀ x ∈ l, -9223372036854775808 ≤ x ∧ x ≤ 9223372036854775807) ∧ (l ≠ [] → ∃ b o, ao = some ⟨b, o, none⟩ ∧ ∀ i (h : i < l.length), W.cell? ⟨b, o + i, none⟩ = some (.int .i64 l[i]))
theorem IntsAt.gr {W W' : World} {ao : Option Addr} {l : List Int} (h : IntsAt W ao l) (g : Gr W W') : IntsAt W' ao l := ⟨h.1, fun hn => by
  obtain ⟨b, o, e, hc⟩ := h.2 hn
  exact ⟨b, o, e, fun j hj => g.cell' (hc j hj) id⟩⟩
end Go.Proofs.Ytemleibpmaclmaa.Kit
namespace Go.Proofs.Ytemleibpmaclmaa.frameR
open Go.ChangeShapes Go.WideShapes Go.ChangeAt Go.RowKit Go.Joins Go.Deep
set_option linter.unusedVariables false

theorem i64_bd {n : Int} (h : (Lit.int .i64 n).wf = true) : -9223372036854775808 ≤ n ∧ n ≤ 9223372036854775807 := by
  have h1 : IntKind.i64.min = -9223372036854775808 := rfl
  have h2 : IntKind.i64.max = 9223372036854775807 := rfl
  simp only [Lit.wf, Bool.and_eq_true, decide_eq_true_eq] at h
  omega
/-- ints, read -/
theorem ints_at {H : Type} {enc : TypeId × Value → H} {W : World} {fuel : Nat} {v : Value} {d : DataW H} {p : List MemPlace} (hf : DataW.trod enc Try.prog W 0 (fun _ => true) true fuel 31 [v] = some (d, p)) (hw : ∀ n ∈ d.weights Try.prog 31, n ≤ reachBytes) :
    ∃ ao l ca, v = .slice ao (l : List Int).length ca ∧ l.length ≤ 140737488351232 ∧ Kit.IntsAt W ao l := by
  rcases open_ints Try.underlying31 Try.underlying3 (by kernel_rfl) hf with ⟨hcs, _⟩ | ⟨x, l, c, zs, hcs, _, hl, hm, hz, hx, hcell, hwz⟩
  · simp at hcs
    subst hcs
    exact ⟨none, [], 0, rfl, by simp, by simp, fun h => absurd rfl h⟩
  · simp at hcs
    subst hcs
    have hd : d = .slice (lits .i64 (zs.take l)) (lits .i64 (zs.drop l)) := by simpa using congrArg Prod.fst hx
    subst hd
    have hs : ((lits .i64 (zs.take l) : List (DataW H)).length + (lits .i64 (zs.drop l) : List (DataW H)).length) * Try.prog.bytesOf 3 ≤ reachBytes := hw _ (by simp only [DataW.weights, Try.underlying31]; exact List.mem_cons_self)
    rw [bytes3] at hs
    simp only [lits, List.length_map, List.length_take, List.length_drop, reachBytes] at hs
    have hz' : zs.length = c := by simpa using hz
    refine ⟨some x, zs.take l, c, by congr 1; simp; omega, by simp; omega, fun y hy => i64_bd (hwz y (List.mem_of_mem_take hy)), fun hn => ?_⟩
    have h0 : 0 < l := by
      cases l with
      | zero => simp at hn
      | succ n => omega
    obtain ⟨b, off, spot⟩ := x
    have hc := hcell 0 (by omega)
    have hspot : spot = none := by simpa [Addr.add] using World.cell?_spot hc
    subst hspot
    refine ⟨b, off, rfl, fun k hk => ?_⟩
    have hk' : k < l := by simp at hk; omega
    have hck := hcell k (by omega)
    rw [Addr.add_lit] at hck
    rw [hck]
    have hzk : k < zs.length := by omega
    have e : zs.getD k 0 = zs[k] := by simp [List.getD, hzk]
    simp only [List.getElem_take]
    first | rw [e] | skip
end Go.Proofs.Ytemleibpmaclmaa.frameR
