import Derived.Test.YtemleibpmaclmaaTK
import Derived.Test.YtemleibpmaclmaaSN
namespace Go.Proofs.Ytemleibpmaclmaa.Kit
open Go.RowKit Go.Shelf Go.Deep
set_option linter.unusedVariables false

/-! ### where the laws' count stands, and how the reader stands -/
theorem lies_of (l : List Msg) (n k : Nat) (hn : n ≤ l.length) (h1 : (putsB (l.take n)).length ≤ k) (h2 : ∀ h : n < l.length, k < (putsB (l.take n)).length + (putB 49 l[n].1 l[n].2).length) (h3 : k < (strB l).length) : Lies l n k := by
  refine ⟨hn, h1, ?_⟩
  unfold nth
  by_cases c : n < l.length
  · rw [dif_pos c]; exact h2 c
  · rw [dif_neg c]
    have e : l.take n = l := List.take_of_length_le (by omega)
    rw [e]
    unfold strB at h3
    rw [List.length_append] at h3
    exact h3
/-- a reader all of whose messages are out -/
def outF (s : Sc) : Sc := { s with ms := [] }
theorem stands_whole {l : List Msg} (h : fitB l = true) (sh : Bool) : standsF (outF (fedF (strB l))) sh = (3, 0) ∧ (fedF (strB l)).ms = l := by
  rw [fed_whole h]
  exact ⟨rfl, rfl⟩
theorem stands_short {l : List Msg} (h : fitB l = true) (n k : Nat) (hk : Lies l n k) : standsF (outF (fedF ((strB l).take k))) true = (4, 73) ∧ (fedF ((strB l).take k)).ms = l.take n := by
  obtain ⟨a, b, c⟩ := fed_short h n k hk
  refine ⟨?_, a⟩
  have e1 : (outF (fedF ((strB l).take k))).e = 0 := b
  have e2 : (outF (fedF ((strB l).take k))).st ≠ 9 := c
  unfold standsF
  rw [if_neg (by simp [outF]), if_neg (by simpa using e1), if_neg e2, if_pos rfl]
theorem stands_byte {l : List Msg} (h : fitB l = true) (n k : Nat) (hk : Lies l n k) (y : UInt8) (hy : ∀ hb : k < (strB l).length, (strB l)[k] ≠ y) (sh : Bool) : (∃ e, e ≠ 0 ∧ standsF (outF (fedF ((strB l).set k y))) sh = (4, e)) ∧ (fedF ((strB l).set k y)).ms = l.take n := by
  obtain ⟨a, b⟩ := fed_byte h n k hk y hy
  refine ⟨⟨_, b, ?_⟩, a⟩
  have e1 : (outF (fedF ((strB l).set k y))).e ≠ 0 := b
  unfold standsF
  rw [if_neg (by simp [outF]), if_pos e1]
  rfl
/-- the reader's scan is never far -/
theorem fed_st (a : List UInt8) : (fedF a).st ≤ 9 := by
  rcases fed_ok a with ⟨_, h⟩ | h
  · rw [← h]; show 0 ≤ 9; omega
  · exact h.1.st9
end Go.Proofs.Ytemleibpmaclmaa.Kit
