import Derived.Test.YtchhnchddledlaaDoorFG
namespace Go.Proofs.YtchhnchddledlaaDoor.Kit
open Go.RowKit Go.Shelf Go.Deep
set_option linter.unusedVariables false
attribute [local go_sem] run_store_func

/-! ### lists of numbers, read -/
def IntsAt (W : World) (ao : Option Addr) (l : List Nat) : Prop := l ≠ [] → ∃ b o, ao = some ⟨b, o, none⟩ ∧ ∀ j (h : j < l.length), W.cell? ⟨b, o + j, none⟩ = some (.int .i64 (l[j] : Int))
theorem IntsAt.gr {W W' : World} {ao : Option Addr} {l : List Nat} (h : IntsAt W ao l) (g : Gr W W') : IntsAt W' ao l := fun hn => by
  obtain ⟨b, o, e, hc⟩ := h hn
  exact ⟨b, o, e, fun j hj => g.cell' (hc j hj) id⟩
theorem ints_of_own {W : World} {vo : Option Addr} {n vc : Nat} {l : List Nat} (h : W.ownsRow 0 3 1 (.slice vo n vc) n (ints l)) : IntsAt W vo l := fun hn => by
  have hl : l.length = n := by have := h.1; simpa [ints] using this
  rcases h.2 with ⟨e, h0⟩ | ⟨g, cap, cur, e, _⟩
  · exact absurd (List.eq_nil_of_length_eq_zero (by omega)) hn
  · cases e
    refine ⟨g, 0, rfl, fun j hj => ?_⟩
    rw [Nat.zero_add, h.cellAt j (by omega)]
    simp [ints, hj]
end Go.Proofs.YtchhnchddledlaaDoor.Kit
