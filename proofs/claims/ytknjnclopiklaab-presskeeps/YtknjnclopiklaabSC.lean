import Derived.Test.YtknjnclopiklaabSB
namespace Go.Proofs.Ytknjnclopiklaab.Kit
open Go.RowKit Go.Shelf Go.Deep
set_option linter.unusedVariables false

/-! ### rows of numbers that are written -/
structure IRow (W : World) (X n : Nat) (F : Nat → Int) : Prop where
  ex : ∃ c : Array Value, W.heap[X]? = some (.cells c 3 (0, 0)) ∧ c.size = n ∧ ∀ k, k < n → c[k]? = some (.int .i64 (F k))
theorem IRow.cell {W : World} {X n : Nat} {F : Nat → Int} (h : IRow W X n F) {k : Nat} (hk : k < n) : W.cell? ⟨X, k, none⟩ = some (.int .i64 (F k)) := by
  obtain ⟨c, h1, h2, h3⟩ := h.ex
  simp only [World.cell?, h1]
  exact h3 k hk
theorem IRow.frz {W : World} {X n : Nat} {F : Nat → Int} (h : IRow W X n F) (k : Nat) : W.frozen? ⟨X, k, none⟩ = false := by
  obtain ⟨c, h1, h2, h3⟩ := h.ex
  exact Kit.frz h1 k
theorem IRow.lt {W : World} {X n : Nat} {F : Nat → Int} (h : IRow W X n F) : X < W.heap.size := by
  obtain ⟨c, h1, -⟩ := h.ex
  exact lt_of_heap h1
theorem IRow.set {W : World} {X n k : Nat} {F : Nat → Int} (h : IRow W X n F) (hk : k < n) (v : Int) : IRow (W.setCell ⟨X, k, none⟩ (.int .i64 v)) X n (fun j => if j = k then v else F j) := by
  obtain ⟨c, h1, h2, h3⟩ := h.ex
  refine ⟨_, heap_setCell_same W X k c 3 (.int .i64 v) h1, by simp [h2], fun j hj => ?_⟩
  simp only [Array.getElem?_setIfInBounds]
  by_cases e : k = j
  · subst e
    simp [h2, hk]
  · rw [if_neg e, if_neg (fun h => e h.symm)]
    exact h3 j hj
theorem IRow.other {W : World} {X Y n k : Nat} {F : Nat → Int} (h : IRow W X n F) (hne : X ≠ Y) (u : Value) : IRow (W.setCell ⟨Y, k, none⟩ u) X n F := by
  obtain ⟨c, h1, h2, h3⟩ := h.ex
  exact ⟨c, (heap_setCell_other W ⟨Y, k, none⟩ X u hne).trans h1, h2, h3⟩
theorem IRow.gr {W W' : World} {X n : Nat} {F : Nat → Int} (h : IRow W X n F) (g : Gr W W') : IRow W' X n F := by
  obtain ⟨c, h1, h2, h3⟩ := h.ex
  exact ⟨c, (g.block X (lt_of_heap h1) id).trans h1, h2, h3⟩
theorem IRow.new (W : World) (n : Nat) : IRow (W.alloc (.cells (Array.replicate n (.int .i64 0)) 3)) W.heap.size n (fun _ => 0) :=
  ⟨_, heap_alloc_new W _, by simp, fun k hk => by simp [hk]⟩
theorem IRow.congr {W : World} {X n : Nat} {F G : Nat → Int} (h : IRow W X n F) (e : ∀ k, k < n → F k = G k) : IRow W X n G := by
  obtain ⟨c, h1, h2, h3⟩ := h.ex
  exact ⟨c, h1, h2, fun k hk => by rw [h3 k hk, e k hk]⟩
/-! ### chains -/
def cls (bs : List UInt8) (p : Nat) : Nat := wordN bs p % 4093
def lastC (bs : List UInt8) (c : Nat) : Nat → Option Nat
  | 0 => none
  | p + 1 => if p + 4 ≤ bs.length ∧ cls bs p = c then some p else lastC bs c p
theorem lastC_lt {bs : List UInt8} {c : Nat} : ∀ {j p : Nat}, lastC bs c j = some p → p < j ∧ p + 4 ≤ bs.length ∧ cls bs p = c
  | 0, p, h => by simp [lastC] at h
  | j + 1, p, h => by
    unfold lastC at h
    split at h
    · rename_i hc
      have : j = p := by simpa using h
      subst this
      exact ⟨by omega, hc.1, hc.2⟩
    · have := lastC_lt h
      exact ⟨by omega, this.2⟩
theorem met_none {bs : List UInt8} {i : Nat} (hi : i + 4 ≤ bs.length) : ∀ {j : Nat}, j ≤ i → lastC bs (cls bs i) j = none → metGo bs (four bs i) j = none
  | 0, _, _ => rfl
  | j + 1, hj, h => by
    unfold lastC at h
    split at h
    · cases h
    rename_i hc
    unfold metGo
    rw [if_neg (fun e => hc ⟨by omega, by unfold cls; rw [(wordN_eq hi (by omega)).2 e]⟩)]
    exact met_none hi (by omega) h
theorem met_some {bs : List UInt8} {i p : Nat} (hi : i + 4 ≤ bs.length) : ∀ {j : Nat}, j ≤ i → lastC bs (cls bs i) j = some p → metGo bs (four bs i) j = if four bs p = four bs i then some p else metGo bs (four bs i) p
  | 0, _, h => by simp [lastC] at h
  | j + 1, hj, h => by
    unfold lastC at h
    split at h
    · have : j = p := by simpa using h
      subst this
      rfl
    · rename_i hc
      rw [show metGo bs (four bs i) (j + 1) = if four bs j = four bs i then some j else metGo bs (four bs i) j from rfl, if_neg (fun e => hc ⟨by omega, by unfold cls; rw [(wordN_eq hi (by omega)).2 e]⟩)]
      exact met_some hi (by omega) h
theorem lastC_step {bs : List UInt8} {c i : Nat} (hi : i + 4 ≤ bs.length) : lastC bs c (i + 1) = if cls bs i = c then some i else lastC bs c i := by
  rw [lastC]
  by_cases e : cls bs i = c
  · rw [if_pos ⟨hi, e⟩, if_pos e]
  · rw [if_neg (fun h => e h.2), if_neg e]
theorem lastC_past {bs : List UInt8} {c i : Nat} (hi : ¬ i + 4 ≤ bs.length) : lastC bs c (i + 1) = lastC bs c i := by
  rw [lastC, if_neg (fun h => hi h.1)]
end Go.Proofs.Ytknjnclopiklaab.Kit
