import Derived.Test.YtomlndoffoeaiaaReadsO
import Derived.Test.YtomlndoffoeaiaaReadsI
namespace Go.Proofs.Ytomlndoffoeaiaa.Kit
open Go.RowKit Go.Deep
set_option linter.unusedVariables false

/-! ### rows of reads of one's own -/
theorem hidM {p : Prop} (h : p) : Hid p := h
theorem own_frz {W : World} {t s n g c : Nat} {xs : List Value} (h : W.ownsRow 0 t s (.slice (some ⟨g, 0, none⟩) n c) n xs) (j : Nat) : W.frozen? ⟨g, j, none⟩ = false := by
  rcases h.2 with ⟨q, _⟩ | ⟨g', cap, cur, q, h1, h2, _⟩
  · cases q
  · cases q; simp [World.frozen?, h2]
theorem own_putN {W : World} {t s n c g k : Nat} {xs : List Value} (h : W.ownsRow 0 t s (.slice (some ⟨g, 0, none⟩) n c) n xs) (u : Value) : (W.setCell ⟨g, k, none⟩ u).ownsRow 0 t s (.slice (some ⟨g, 0, none⟩) n c) n (xs.set k u) := by
  rcases h.2 with ⟨q, _⟩ | ⟨g', cap, cur, q, h1, h2, h3, h4, h5, h6⟩
  · cases q
  · cases q
    refine ⟨by rw [List.length_set]; exact h.1, .inr ⟨g, c, _, rfl, h1, heap_setCell_same W g k cur t u h2, h3, h4, by simp [h5], ?_⟩⟩
    rw [Array.toList_setIfInBounds, List.take_set, h6]
theorem own_some {W : World} {t s n : Nat} {v : Value} {xs : List Value} (h : W.ownsRow 0 t s v n xs) (h0 : 0 < n) : ∃ gb c, v = .slice (some ⟨gb, 0, none⟩) n c := by
  rcases h.2 with ⟨_, e⟩ | ⟨g, cap, cur, e, _⟩
  · omega
  · exact ⟨g, cap, e⟩
theorem own_ofRow {W : World} {g t s n : Nat} {L : List Value} (h : OwnRow W g t L) (hl : L.length = n * s) (hn : n ≤ 9223372036854775807) : W.ownsRow 0 t s (.slice (some ⟨g, 0, none⟩) n n) n L :=
  ⟨hl, .inr ⟨g, n, L.toArray, rfl, Nat.zero_le _, h, Nat.le_refl _, hn, by simp [hl], by simp [← hl]⟩⟩
theorem src_read' (w : World) (x y : Int) : Src Try.prog 2 44 (.slice (some ⟨w.heap.size, 0, none⟩) 1 1) 1 [.int .i64 x, .int .i64 y] (w.alloc (.cells #[.int .i64 x, .int .i64 y] 50)) := by
  refine Src.ofSlice _ Try.underlying44 _ _ _ _ rfl ?_ (by simp [Value.oneCell'])
  intro j v hj
  match j, hj with
  | 0, hj => simp at hj; subst hj; simp [Addr.add]
  | 1, hj => simp at hj; subst hj; simp [Addr.add]
theorem add_lit0 (g j : Nat) : (⟨g, 0, none⟩ : Addr).add j = ⟨g, j, none⟩ := by
  unfold Addr.add
  split
  · next h => simp_all
  · simp
/-- a row of reads that lies in new memory -/
structure Wd (w W : World) (v : Value) (n : Nat) (xs : List Value) : Prop where
  k : Keeps w W (fun _ => False)
  own : W.ownsRow 0 50 2 v n xs
  new : ∀ g, v.ownBlock = some g → w.heap.size ≤ g
def Mk (z : Int) (k : Nat) (xs : List Value) : Prop := ∀ j, j < k * 2 → xs[j]? = some (.int .i64 z)
theorem Wd.put {w W : World} {g c n : Nat} {xs : List Value} (h : Wd w W (.slice (some ⟨g, 0, none⟩) n c) n xs) (k : Nat) (u : Value) : Wd w ((W.setCell ⟨g, k * 2, none⟩ u).setCell ⟨g, k * 2 + 1, none⟩ u) (.slice (some ⟨g, 0, none⟩) n c) n ((xs.set (k * 2) u).set (k * 2 + 1) u) :=
  ⟨(h.k.setCell (p := ⟨g, k * 2, none⟩) (fun hb => by have := h.new g rfl; simp at hb; omega) u).setCell (p := ⟨g, k * 2 + 1, none⟩) (fun hb => by have := h.new g rfl; simp at hb; omega) u, own_putN (own_putN h.own u) u, h.new⟩
theorem Mk.put {z : Int} {k n : Nat} {xs : List Value} (h : Mk z k xs) (hl : xs.length = n * 2) (hk : k < n) : Mk z (k + 1) ((xs.set (k * 2) (.int .i64 z)).set (k * 2 + 1) (.int .i64 z)) := fun j hj => by
  by_cases h1 : j = k * 2 + 1
  · subst h1
    rw [List.getElem?_set_self (by simp; omega)]
  · rw [List.getElem?_set_ne (by omega)]
    by_cases h2 : j = k * 2
    · subst h2
      rw [List.getElem?_set_self (by omega)]
    · rw [List.getElem?_set_ne (by omega)]
      exact h j (by omega)
theorem Mk.app {z : Int} {k : Nat} {xs : List Value} (h : Mk z k xs) (hl : xs.length = k * 2) : Mk z (k + 1) (xs ++ [.int .i64 z, .int .i64 z]) := fun j hj => by
  by_cases h1 : j < k * 2
  · rw [List.getElem?_append_left (by omega)]; exact h j h1
  · rw [List.getElem?_append_right (by omega), hl]
    have h2 : j - k * 2 = 0 ∨ j - k * 2 = 1 := by omega
    rcases h2 with h2 | h2 <;> rw [h2] <;> rfl
theorem Wd.to {w V W : World} {v : Value} {n : Nat} {xs : List Value} (h : Wd w V v n xs) (k : Keeps V W (fun _ => False)) : Wd w W v n xs :=
  ⟨h.k.trans k (fun _ _ h => h), ownN_kept h.own k (fun _ _ h => h), h.new⟩
theorem Wd.app {w V w' : World} {v v' : Value} {n : Nat} {xs news : List Value} (h : Wd w V v n xs) (hown : w'.ownsRow 0 50 2 v' (n + 1) (xs ++ news)) (hg : V.grownBy w' v.ownBlock) (ha : v'.ownBlock = v.ownBlock ∨ ∀ g, v'.ownBlock = some g → V.heap.size ≤ g) : Wd w w' v' (n + 1) (xs ++ news) :=
  ⟨h.k.trans (Keeps.ofGrown hg) (fun j hj e => by have := h.new j e; omega), hown, fun g e => by
    rcases ha with ha | ha
    · exact h.new g (ha ▸ e)
    · exact Nat.le_trans h.k.size (ha g e)⟩
theorem Wd.marks {w W : World} {g c n : Nat} {xs : List Value} {z : Int} (h : Wd w W (.slice (some ⟨g, 0, none⟩) n c) n xs) (hm : Mk z n xs) : ∀ k, k < n → W.cell? ⟨g, 0 + k * 2, none⟩ = some (.int .i64 z) ∧ W.cell? ⟨g, 0 + k * 2 + 1, none⟩ = some (.int .i64 z) := fun k hk => by
  have h1 := h.own.cells (g := g) rfl (k * 2) _ (hm (k * 2) (by omega))
  have h2 := h.own.cells (g := g) rfl (k * 2 + 1) _ (hm (k * 2 + 1) (by omega))
  simp only [Nat.zero_add]
  rw [add_lit0] at h1 h2
  exact ⟨h1, h2⟩
theorem reads_row {w W : World} {g : Nat} {rs : List (Int × Int)} (h : OwnRow W g 50 (readCells rs)) : ReadsAt W (some ⟨g, 0, none⟩) rs.length rs := fun _ => ⟨g, 0, rfl, fun k hk => by
  have e : ∀ (l : List (Int × Int)) k, k < l.length → (readCells l)[k * 2]? = some (.int .i64 (l.getD k (0, 0)).1) ∧ (readCells l)[k * 2 + 1]? = some (.int .i64 (l.getD k (0, 0)).2) := by
    intro l
    induction l with
    | nil => intro k hk; simp at hk
    | cons x l ih =>
      intro k hk
      cases k with
      | zero => exact ⟨rfl, rfl⟩
      | succ k =>
        have h := ih k (by simpa using hk)
        have e1 : (k + 1) * 2 = k * 2 + 1 + 1 := by omega
        rw [e1]
        simpa [readCells] using h
  obtain ⟨h1, h2⟩ := e rs k hk
  simp only [Nat.zero_add]
  exact ⟨h.cell h1, h.cell h2⟩⟩
theorem ReadsAt.kept {w w' : World} {ao : Option Addr} {n : Nat} {rs : List (Int × Int)} (h : ReadsAt w ao n rs) (k : Keeps w w' (fun _ => False)) : ReadsAt w' ao n rs := fun h0 => by
  obtain ⟨b, off, e, hc⟩ := h h0
  exact ⟨b, off, e, fun j hj => ⟨k.cell' (hc j hj).1 id, k.cell' (hc j hj).2 id⟩⟩
end Go.Proofs.Ytomlndoffoeaiaa.Kit
