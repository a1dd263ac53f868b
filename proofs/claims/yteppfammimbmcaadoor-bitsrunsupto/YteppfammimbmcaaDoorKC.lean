import Derived.Test.YteppfammimbmcaaDoorKB
namespace Go.Proofs.YteppfammimbmcaaDoor.Kit
open Go.RowKit Go.Deep
set_option linter.unusedVariables false

/-- a reply that is being spoiled: its box, its two rows -/
structure Spoil (w W wr : World) (o1 o2 : Option Nat) (e0 e1 e2 v3 : Value) (a1 a2 : Option Addr) (n1 c1 n2 c2 : Nat) (xs : List Value) (ys : List Bool) : Prop where
  box : wr.heap[w.heap.size]? = some (.cells #[e0, e1, e2, .slice a1 n1 c1, .slice a2 n2 c2, v3] 28 (0, 0))
  r1 : wr.ownsRow 0 5 1 (.slice a1 n1 c1) n1 xs
  r2 : wr.ownsRow 0 4 1 (.slice a2 n2 c2) n2 (cellsO ys)
  f1 : ∀ g, (Value.slice a1 n1 c1).ownBlock = some g → o1 = some g ∨ w.heap.size ≤ g
  f2 : ∀ g, (Value.slice a2 n2 c2).ownBlock = some g → o2 = some g ∨ w.heap.size ≤ g
  keeps : Keeps w wr (fun k => o1 = some k ∨ o2 = some k)
theorem Spoil.p3 {w W wr : World} {o1 o2 : Option Nat} {e0 e1 e2 v3 : Value} {a1 a2 : Option Addr} {n1 c1 n2 c2 : Nat} {xs : List Value} {ys : List Bool} (h : Spoil w W wr o1 o2 e0 e1 e2 v3 a1 a2 n1 c1 n2 c2 xs ys) : wr.cell? ⟨w.heap.size, 3, none⟩ = some (.slice a1 n1 c1) := by rw [cell_of_row wr _ 3 _ _ _ h.box]; rfl
theorem Spoil.p4 {w W wr : World} {o1 o2 : Option Nat} {e0 e1 e2 v3 : Value} {a1 a2 : Option Addr} {n1 c1 n2 c2 : Nat} {xs : List Value} {ys : List Bool} (h : Spoil w W wr o1 o2 e0 e1 e2 v3 a1 a2 n1 c1 n2 c2 xs ys) : wr.cell? ⟨w.heap.size, 4, none⟩ = some (.slice a2 n2 c2) := by rw [cell_of_row wr _ 4 _ _ _ h.box]; rfl
theorem Spoil.fz {w W wr : World} {o1 o2 : Option Nat} {e0 e1 e2 v3 : Value} {a1 a2 : Option Addr} {n1 c1 n2 c2 : Nat} {xs : List Value} {ys : List Bool} (h : Spoil w W wr o1 o2 e0 e1 e2 v3 a1 a2 n1 c1 n2 c2 xs ys) (j : Nat) : wr.frozen? ⟨w.heap.size, j, none⟩ = false := frozen_of_row wr _ j _ _ h.box
theorem Spoil.drew {w W wr : World} {o1 o2 : Option Nat} {e0 e1 e2 v3 : Value} {a1 a2 : Option Addr} {n1 c1 n2 c2 : Nat} {xs : List Value} {ys : List Bool} (h : Spoil w W wr o1 o2 e0 e1 e2 v3 a1 a2 n1 c1 n2 c2 xs ys) : Spoil w W wr.drew o1 o2 e0 e1 e2 v3 a1 a2 n1 c1 n2 c2 xs ys := ⟨h.box, h.r1, h.r2, h.f1, h.f2, h.keeps.drew⟩
theorem own2_ne_type {w : World} {t t' g n n' c : Nat} {v : Value} {xs ys : List Value} (ht : t ≠ t') (h : w.ownsRow 0 t 1 (.slice (some ⟨g, 0, none⟩) n c) n xs) (h' : w.ownsRow 0 t' 1 v n' ys) : v.ownBlock ≠ some g := by
  rcases h.2 with ⟨e, _⟩ | ⟨q, cap, cur, e, hb', hgg, _⟩
  · simp at e
  · simp only [Value.slice.injEq, Option.some.injEq, Addr.mk.injEq, and_true, true_and] at e
    obtain ⟨rfl, rfl⟩ := e
    exact row_ne ht hgg h'
/-- a store into the first row -/
theorem Spoil.set1 {w W wr : World} {o1 o2 : Option Nat} {e0 e1 e2 v3 : Value} {g : Nat} {a2 : Option Addr} {n1 c1 n2 c2 : Nat} {xs : List Value} {ys : List Bool} (h : Spoil w W wr o1 o2 e0 e1 e2 v3 (some ⟨g, 0, none⟩) a2 n1 c1 n2 c2 xs ys) (j : Nat) (hj : j < n1) (u : Value) : Spoil w W (wr.setCell ⟨g, j, none⟩ u) o1 o2 e0 e1 e2 v3 (some ⟨g, 0, none⟩) a2 n1 c1 n2 c2 (xs.set j u) ys := by
  have hne := row_ne (by decide) h.box h.r1
  have hg : w.heap.size ≠ g := fun e => hne (by rw [e]; rfl)
  refine ⟨(heap_setCell_other wr ⟨g, j, none⟩ _ u hg).trans h.box, own_set h.r1 j hj u, own_kept h.r2 ((Keeps.refl wr (fun k => k = g)).setCell (p := ⟨g, j, none⟩) (fun _ => rfl) u) (fun q hq e => own2_ne_type (by decide) h.r1 h.r2 (by rw [hq, e])), h.f1, h.f2, h.keeps.setCell (p := ⟨g, j, none⟩) (fun hlt => ?_) u⟩
  rcases h.f1 g rfl with e | e
  · exact .inl e
  · simp at hlt; omega
/-- a store into the second row -/
theorem Spoil.set2 {w W wr : World} {o1 o2 : Option Nat} {e0 e1 e2 v3 : Value} {g : Nat} {a1 : Option Addr} {n1 c1 n2 c2 : Nat} {xs : List Value} {ys : List Bool} (h : Spoil w W wr o1 o2 e0 e1 e2 v3 a1 (some ⟨g, 0, none⟩) n1 c1 n2 c2 xs ys) (j : Nat) (hj : j < n2) (b : Bool) : Spoil w W (wr.setCell ⟨g, j, none⟩ (.bool b)) o1 o2 e0 e1 e2 v3 a1 (some ⟨g, 0, none⟩) n1 c1 n2 c2 xs (ys.set j b) := by
  have hne := row_ne (by decide) h.box h.r2
  have hg : w.heap.size ≠ g := fun e => hne (by rw [e]; rfl)
  refine ⟨(heap_setCell_other wr ⟨g, j, none⟩ _ _ hg).trans h.box, own_kept h.r1 ((Keeps.refl wr (fun k => k = g)).setCell (p := ⟨g, j, none⟩) (fun _ => rfl) _) (fun q hq e => own2_ne_type (by decide) h.r2 h.r1 (by rw [hq, e])), ?_, h.f1, h.f2, h.keeps.setCell (p := ⟨g, j, none⟩) (fun hlt => ?_) _⟩
  · have := own_set h.r2 j hj (.bool b)
    rw [← List.map_set] at this
    exact this
  · rcases h.f2 g rfl with e | e
    · exact .inr e
    · simp at hlt; omega
/-- an append to the first row, and its store -/
theorem Spoil.app1 {w W wr : World} {o1 o2 : Option Nat} {e0 e1 e2 v3 : Value} {a1 a2 : Option Addr} {n1 c1 n2 c2 : Nat} {xs : List Value} {ys : List Bool} (h : Spoil w W wr o1 o2 e0 e1 e2 v3 a1 a2 n1 c1 n2 c2 xs ys) {W' w1 : World} (hW : Keeps wr W' (fun _ => False)) {a1' : Option Addr} {n1' c1' : Nat} {xs' : List Value} (hown' : w1.ownsRow 0 5 1 (.slice a1' n1' c1') n1' xs') (hgrow : W'.grownBy w1 (Value.slice a1 n1 c1).ownBlock)
    (hblk : (Value.slice a1' n1' c1').ownBlock = (Value.slice a1 n1 c1).ownBlock ∨ ∀ g, (Value.slice a1' n1' c1').ownBlock = some g → W'.heap.size ≤ g) :
    w1.cell? ⟨w.heap.size, 3, none⟩ = some (.slice a1 n1 c1) ∧ w1.frozen? ⟨w.heap.size, 3, none⟩ = false ∧ w1.cell? ⟨w.heap.size, 4, none⟩ = some (.slice a2 n2 c2) ∧ Spoil w W (w1.setCell ⟨w.heap.size, 3, none⟩ (.slice a1' n1' c1')) o1 o2 e0 e1 e2 v3 a1' a2 n1' c1' n2 c2 xs' ys := by
  have hne := row_ne (by decide) h.box h.r1
  have hbW : W'.heap[w.heap.size]? = _ := (hW.block _ (Array.getElem?_eq_some_iff.1 h.box).1 id).trans h.box
  have hb1 : w1.heap[w.heap.size]? = _ := (hgrow.block _ (Array.getElem?_eq_some_iff.1 hbW).1 (fun e => hne e.symm)).trans hbW
  have hne' := row_ne (by decide) hb1 hown'
  have k1 : Keeps wr w1 (fun k => (Value.slice a1 n1 c1).ownBlock = some k) := (hW.mono (fun _ _ h => h.elim)).trans (Keeps.ofGrown hgrow) fun _ _ h => h
  have k2 : Keeps w1 (w1.setCell ⟨w.heap.size, 3, none⟩ (.slice a1' n1' c1')) (fun k => k = w.heap.size) := (Keeps.refl w1 (fun k => k = w.heap.size)).setCell (p := ⟨w.heap.size, 3, none⟩) (fun _ => rfl) _
  refine ⟨by rw [cell_of_row w1 _ 3 _ _ _ hb1]; rfl, frozen_of_row w1 _ 3 _ _ hb1, by rw [cell_of_row w1 _ 4 _ _ _ hb1]; rfl, ?_, own_kept hown' k2 (fun q hq e => hne' (by rw [hq, e])), ?_, fun g hg => ?_, h.f2, ?_⟩
  · have := heap_setCell_same w1 w.heap.size 3 _ 28 (.slice a1' n1' c1') hb1
    simpa using this
  · refine own_kept (own_kept h.r2 k1 (fun q hq e => ?_)) k2 (fun q hq e => ?_)
    · rcases h.r1.2 with ⟨e', _⟩ | ⟨q', cap, cur, e', _, hgg, _⟩
      · simp only [Value.slice.injEq] at e'; rw [e'.1] at e; simp [Value.ownBlock] at e
      · simp only [Value.slice.injEq, true_and] at e'
        obtain ⟨rfl, rfl⟩ := e'
        exact own2_ne_type (by decide) h.r1 h.r2 (by simp [Value.ownBlock] at e; rw [hq, e])
    · exact row_ne (by decide) h.box h.r2 (by rw [hq, e])
  · rcases hblk with e | e
    · exact h.f1 g (e.symm.trans hg)
    · right; have := e g hg; have := hW.size; have := h.keeps.size; omega
  · refine (h.keeps.trans k1 (fun j hj e => ?_)).trans k2 (fun j hj e => ?_)
    · rcases h.f1 j e with e' | e'
      · exact .inl e'
      · omega
    · omega
/-- an append to the second row, and its store -/
theorem Spoil.app2 {w W wr : World} {o1 o2 : Option Nat} {e0 e1 e2 v3 : Value} {a1 a2 : Option Addr} {n1 c1 n2 c2 : Nat} {xs : List Value} {ys : List Bool} (h : Spoil w W wr o1 o2 e0 e1 e2 v3 a1 a2 n1 c1 n2 c2 xs ys) {W' w1 : World} (hW : Keeps wr W' (fun _ => False)) {a2' : Option Addr} {n2' c2' : Nat} {ys' : List Bool} (hown' : w1.ownsRow 0 4 1 (.slice a2' n2' c2') n2' (cellsO ys')) (hgrow : W'.grownBy w1 (Value.slice a2 n2 c2).ownBlock)
    (hblk : (Value.slice a2' n2' c2').ownBlock = (Value.slice a2 n2 c2).ownBlock ∨ ∀ g, (Value.slice a2' n2' c2').ownBlock = some g → W'.heap.size ≤ g) :
    w1.cell? ⟨w.heap.size, 4, none⟩ = some (.slice a2 n2 c2) ∧ w1.frozen? ⟨w.heap.size, 4, none⟩ = false ∧ Spoil w W (w1.setCell ⟨w.heap.size, 4, none⟩ (.slice a2' n2' c2')) o1 o2 e0 e1 e2 v3 a1 a2' n1 c1 n2' c2' xs ys' := by
  have hne := row_ne (by decide) h.box h.r2
  have hbW : W'.heap[w.heap.size]? = _ := (hW.block _ (Array.getElem?_eq_some_iff.1 h.box).1 id).trans h.box
  have hb1 : w1.heap[w.heap.size]? = _ := (hgrow.block _ (Array.getElem?_eq_some_iff.1 hbW).1 (fun e => hne e.symm)).trans hbW
  have hne' := row_ne (by decide) hb1 hown'
  have k1 : Keeps wr w1 (fun k => (Value.slice a2 n2 c2).ownBlock = some k) := (hW.mono (fun _ _ h => h.elim)).trans (Keeps.ofGrown hgrow) fun _ _ h => h
  have k2 : Keeps w1 (w1.setCell ⟨w.heap.size, 4, none⟩ (.slice a2' n2' c2')) (fun k => k = w.heap.size) := (Keeps.refl w1 (fun k => k = w.heap.size)).setCell (p := ⟨w.heap.size, 4, none⟩) (fun _ => rfl) _
  refine ⟨by rw [cell_of_row w1 _ 4 _ _ _ hb1]; rfl, frozen_of_row w1 _ 4 _ _ hb1, ?_, ?_, own_kept hown' k2 (fun q hq e => hne' (by rw [hq, e])), h.f1, fun g hg => ?_, ?_⟩
  · have := heap_setCell_same w1 w.heap.size 4 _ 28 (.slice a2' n2' c2') hb1
    simpa using this
  · refine own_kept (own_kept h.r1 k1 (fun q hq e => ?_)) k2 (fun q hq e => ?_)
    · rcases h.r2.2 with ⟨e', _⟩ | ⟨q', cap, cur, e', _, hgg, _⟩
      · simp only [Value.slice.injEq] at e'; rw [e'.1] at e; simp [Value.ownBlock] at e
      · simp only [Value.slice.injEq, true_and] at e'
        obtain ⟨rfl, rfl⟩ := e'
        exact own2_ne_type (by decide) h.r2 h.r1 (by simp [Value.ownBlock] at e; rw [hq, e])
    · exact row_ne (by decide) h.box h.r1 (by rw [hq, e])
  · rcases hblk with e | e
    · exact h.f2 g (e.symm.trans hg)
    · right; have := e g hg; have := hW.size; have := h.keeps.size; omega
  · refine (h.keeps.trans k1 (fun j hj e => ?_)).trans k2 (fun j hj e => ?_)
    · rcases h.f2 j e with e' | e'
      · exact .inr e'
      · omega
    · omega
end Go.Proofs.YteppfammimbmcaaDoor.Kit
