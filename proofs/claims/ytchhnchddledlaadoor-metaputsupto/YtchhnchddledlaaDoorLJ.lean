import Derived.Test.YtchhnchddledlaaDoorHA
import Derived.Test.YtchhnchddledlaaDoorLD
import Derived.Test.YtchhnchddledlaaDoorLC
namespace Go.Proofs.YtchhnchddledlaaDoor.Kit
open Go.RowKit Go.Shelf Go.Deep
set_option linter.unusedVariables false
attribute [local go_sem] run_store_func

def CheckR (w : World) (E : Int × Int) (N : List LS) (e : Ending) (w' : World) : Prop := Gr w w' ∧
  ((E.1 ≠ 0 ∧ e = .returned (fltV E.1 (.slice none 0 0) E.2)) ∨
   (E.1 = 0 ∧ AllR N ∧ e = .returned (fltV 0 (.slice none 0 0) 0)) ∨
   (E.1 = 0 ∧ ∃ L x vo vc, (L ++ [x]) <+: N ∧ AllR L ∧ wrongE x L.length (tkL L) ≠ 0 ∧ e = .returned (fltV (wrongE x L.length (tkL L)) (.slice vo x.path.length vc) 0) ∧
      w'.ownsRow 0 3 1 (.slice vo x.path.length vc) x.path.length (ints x.path)))
theorem CheckR.lists {w w' : World} {E : Int × Int} {N : List LS} {a b : Int} (g : Gr w w') (e : E = (a, b)) (ha : a ≠ 0) : CheckR w E N (.returned (.agg #[.int .i64 a, .slice none 0 0, .int .i64 b])) w' := by
  subst e
  exact ⟨g, .inl ⟨ha, rfl⟩⟩
theorem AllR.next {N : List LS} {j : Nat} (hj : j < N.length) (h : AllR (N.take j)) (hz : wrongE N[j] j (tkL (N.take j)) = 0) : AllR (N.take (j + 1)) := by
  rw [List.take_succ_eq_append_getElem hj]
  exact h.snoc (by rw [List.length_take, Nat.min_eq_left (by omega)]; exact hz)
theorem row_ne_box {W : World} {t n B : Nat} {v : Value} {xs : List Value} {c : Array Value} (h : W.ownsRow 0 3 1 v n xs) (hB : W.heap[B]? = some (.cells c t)) (ht : t ≠ 3) : v.ownBlock ≠ some B := fun e => by
  rcases h.2 with ⟨rfl, _⟩ | ⟨g, cap, cur, rfl, _, hg, _⟩
  · simp [Value.ownBlock] at e
  · simp [Value.ownBlock] at e
    subst e
    rw [hg] at hB
    simp at hB
    exact ht hB.2.symm

end Go.Proofs.YtchhnchddledlaaDoor.Kit
namespace Go.Proofs.YtchhnchddledlaaDoor.Kit
open Go.RowKit Go.Shelf Go.Deep

/-! ### the program's fault and the document's are the same -/
/-- what fault it is: the error, the way, the number -/
def FaultIs (E : Int × Int) (N : List LS) (er : Int) (p : List Nat) (k : Int) : Prop :=
  (E.1 ≠ 0 ∧ er = E.1 ∧ p = [] ∧ k = E.2) ∨ (E.1 = 0 ∧ AllR N ∧ er = 0 ∧ p = [] ∧ k = 0) ∨
  (E.1 = 0 ∧ ∃ L x, (L ++ [x]) <+: N ∧ AllR L ∧ wrongE x L.length (tkL L) ≠ 0 ∧ er = wrongE x L.length (tkL L) ∧ p = x.path ∧ k = 0)
theorem FaultIs.one {E : Int × Int} {N : List LS} {er er' : Int} {p p' : List Nat} {k k' : Int} (h : FaultIs E N er p k) (h' : FaultIs E N er' p' k') : er = er' ∧ p = p' ∧ k = k' := by
  rcases h with ⟨a, rfl, rfl, rfl⟩ | ⟨a, b, rfl, rfl, rfl⟩ | ⟨a, L, x, h1, h2, h3, rfl, rfl, rfl⟩ <;> rcases h' with ⟨a', rfl, rfl, rfl⟩ | ⟨a', b', rfl, rfl, rfl⟩ | ⟨a', L', x', h1', h2', h3', rfl, rfl, rfl⟩
  · exact ⟨rfl, rfl, rfl⟩
  · exact absurd a' a
  · exact absurd a' a
  · exact absurd a a'
  · exact ⟨rfl, rfl, rfl⟩
  · exact absurd (b.pre h1') h3'
  · exact absurd a a'
  · exact absurd (b'.pre h1) h3
  · obtain ⟨rfl, rfl⟩ := first_eq h1 h1' h2 h2' h3 h3'
    exact ⟨rfl, rfl, rfl⟩
theorem wrong_short {s : LS} {k : Nat} {t : Nat → Bool} (h : wrongE s k t = 0) : s.path.length ≤ 64 := by
  unfold wrongE wr at h
  split at h
  · omega
  · omega
theorem AllR.short {l : List LS} (h : AllR l) : ∀ x ∈ l, x.path.length ≤ 64 := fun x hx => by
  obtain ⟨k, hk, rfl⟩ := List.mem_iff_getElem.1 hx
  exact wrong_short (h k hk)
/-- the document's list has the same first fault -/
theorem FaultIs.cut {E : Int × Int} {D : Nat} {fs : List FT} {er : Int} {p : List Nat} {k : Int} (h : FaultIs E (nodes D fs [] false) er p k) : FaultIs E (grown [] (nodesC D fs [] false)) er p k := by
  rcases h with h | ⟨a, b, h⟩ | ⟨a, L, x, h1, h2, h3, h4⟩
  · exact .inl h
  · refine .inr (.inl ⟨a, ?_, h⟩)
    have e := (cut_same D fs [] false 0 (by simp)).2 b.short
    rw [grown, List.nil_append, e, List.take_of_length_le (by have := b.len; omega)]
    exact b
  · refine .inr (.inr ⟨a, L, x, ?_, h2, h3, h4⟩)
    have hl := h2.len
    have ht : (nodes D fs [] false).take (L.length + 1) = L ++ [x] := by
      obtain ⟨t, ht⟩ := h1
      rw [← ht, List.take_append_of_le_length (by simp)]
      exact List.take_of_length_le (by simp)
    have htL : (nodes D fs [] false).take L.length = L := by
      obtain ⟨t, ht⟩ := h1
      rw [← ht, List.append_assoc, List.take_left]
    have e := (cut_same D fs [] false L.length (by rw [htL]; exact h2.short)).1
    rw [ht] at e
    rw [e, grown, List.nil_append]
    exact List.take_prefix_take_left (by omega)
end Go.Proofs.YtchhnchddledlaaDoor.Kit
