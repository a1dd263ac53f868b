import Derived.Test.YtemleibpmaclmaaTE
namespace Go.Proofs.Ytemleibpmaclmaa.Kit
open Go.RowKit Go.Shelf Go.Deep
set_option linter.unusedVariables false

/-! ### what is told already changes nothing -/
def addMs (q : List (List UInt8 × List UInt8)) (s : Sc) : Sc := { s with ms := q ++ s.ms }
def addR (q : List (List UInt8 × List UInt8)) (r : Int × Sc) : Int × Sc := (r.1, addMs q r.2)
variable (q : List (List UInt8 × List UInt8))
theorem add_piece (s : Sc) (p : List UInt8) : pieceF (addMs q s) p = addR q (pieceF s p) := by
  unfold pieceF addR
  have e1 : (addMs q s).st = s.st := rfl
  have e2 : (addMs q s).hd = s.hd := rfl
  rw [e1, e2]
  split
  · rfl
  split
  · rfl
  split
  · rfl
  split
  · rfl
  split <;> rfl
theorem add_head (s : Sc) : readHeadF (addMs q s) = addR q (readHeadF s) := by
  unfold readHeadF
  have e1 : isEndF (addMs q s) = isEndF s := rfl
  have e2 : (addMs q s).hd = s.hd := rfl
  have e3 : (addMs q s).lm = s.lm := rfl
  have e4 : (addMs q s).lb = s.lb := rfl
  rw [e1, e2, e3, e4]
  split
  · rfl
  split
  · rfl
  split <;> rfl
theorem add_finish (s : Sc) : finishF (addMs q s) = addR q (finishF s) := by
  unfold finishF
  have e1 : isEndF (addMs q s) = isEndF s := rfl
  have e2 : (addMs q s).hd = s.hd := rfl
  have e3 : (addMs q s).sum = s.sum := rfl
  rw [e1, e2, e3]
  split
  · rfl
  split
  · rfl
  · unfold addR beginF addMs
    simp [List.append_assoc]
theorem add_forward : ∀ (n : Nat) (s : Sc), forwardF n (addMs q s) = addR q (forwardF n s) := by
  intro n
  induction n with
  | zero => intro s; rfl
  | succ n ih =>
    intro s
    unfold forwardF
    have e1 : (addMs q s).left = s.left := rfl
    have e2 : (addMs q s).st = s.st := rfl
    rw [e1, e2, add_finish, add_head]
    by_cases c1 : s.left ≠ 0
    · simp only [c1, ne_eq, not_false_iff, if_true]; rfl
    simp only [c1, if_false]
    by_cases c2 : s.st = 8
    · simp only [c2, if_true]
    simp only [c2, if_false]
    have e : (if s.st = 2 then addR q (readHeadF s) else (0, addMs q s)) = addR q (if s.st = 2 then readHeadF s else (0, s)) := by
      split <;> rfl
    rw [e]
    generalize (if s.st = 2 then readHeadF s else (0, s)) = r
    have e3 : (addR q r).1 = r.1 := rfl
    rw [e3]
    by_cases c3 : r.1 ≠ 0
    · rw [if_pos c3, if_pos c3]
    · rw [if_neg c3, if_neg c3]
      exact ih { r.2 with st := r.2.st + 1, left := wantsF r.2.me r.2.bo (r.2.st + 1) }
theorem add_one (s : Sc) (b : List UInt8) : oneF (addMs q s) b = addR q (oneF s b) := by
  unfold oneF
  have e1 : (addMs q s).left = s.left := rfl
  rw [e1, add_piece]
  generalize pieceF s (b.take (min s.left b.length)) = r
  have e3 : (addR q r).1 = r.1 := rfl
  rw [e3]
  by_cases c3 : r.1 ≠ 0
  · rw [if_pos c3, if_pos c3]
  · rw [if_neg c3, if_neg c3]
    exact add_forward q 10 { r.2 with left := r.2.left - min s.left b.length }
theorem add_take : ∀ (n : Nat) (s : Sc) (b : List UInt8), takeF n (addMs q s) b = addMs q (takeF n s b) := by
  intro n
  induction n with
  | zero => intro s b; rfl
  | succ n ih =>
    intro s b
    rw [takeF_succ, takeF_succ, add_one]
    by_cases hb : b = []
    · rw [if_pos hb, if_pos hb]
    rw [if_neg hb, if_neg hb]
    have e3 : (addR q (oneF s b)).1 = (oneF s b).1 := rfl
    rw [e3]
    by_cases c3 : (oneF s b).1 ≠ 0
    · rw [if_pos c3, if_pos c3]; rfl
    · rw [if_neg c3, if_neg c3]
      exact ih _ _
theorem add_feed (s : Sc) (b : List UInt8) : feedF (addMs q s) b = addMs q (feedF s b) := by
  unfold feedF
  have e1 : (addMs q s).e = s.e := rfl
  rw [e1]
  by_cases c : s.e ≠ 0
  · rw [if_pos c, if_pos c]; rfl
  · rw [if_neg c, if_neg c]
    exact add_take q _ s b
/-- a feed adds to what is told, and what it adds hangs not on what was told -/
theorem feed_ms (s : Sc) (b : List UInt8) : ∃ new, ∀ ms, feedF { s with ms := ms } b = { feedF s b with ms := ms ++ new } ∧ (feedF s b).ms = s.ms ++ new := by
  refine ⟨(feedF { s with ms := [] } b).ms, fun ms => ?_⟩
  have e : ∀ ms, ({ s with ms := ms } : Sc) = addMs ms { s with ms := [] } := fun ms => by simp [addMs]
  have e0 := e s.ms
  have k : feedF s b = addMs s.ms (feedF { s with ms := [] } b) := (congrArg (fun z => feedF z b) e0).trans (add_feed _ _ _)
  rw [e ms, add_feed, k]
  exact ⟨rfl, rfl⟩
end Go.Proofs.Ytemleibpmaclmaa.Kit
