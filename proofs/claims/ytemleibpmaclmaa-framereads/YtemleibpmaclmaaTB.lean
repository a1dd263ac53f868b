import Derived.Test.YtemleibpmaclmaaTA
namespace Go.Proofs.Ytemleibpmaclmaa.Kit
open Go.RowKit Go.Shelf Go.Deep
set_option linter.unusedVariables false

/-! ### a frame, piece by piece -/
/-- a scan that has gone forward -/
def settleF (s : Sc) : Sc := if (forwardF 10 s).1 ≠ 0 then wrongF (forwardF 10 s).2 (forwardF 10 s).1 else (forwardF 10 s).2
theorem head_st (s : Sc) : (readHeadF s).2.st = s.st := by
  unfold readHeadF
  split
  · rfl
  · split
    · rfl
    · split <;> rfl
theorem forward_fuel : ∀ (n m : Nat) (s : Sc), s.st ≤ 8 → 9 ≤ n + s.st → 9 ≤ m + s.st → forwardF n s = forwardF m s := by
  intro n
  induction n with
  | zero => intro m s h8 hn hm; omega
  | succ n ih =>
    intro m s h8 hn hm
    cases m with
    | zero => omega
    | succ m =>
      unfold forwardF
      by_cases cl : s.left ≠ 0
      · simp only [cl, ne_eq, not_false_iff, if_true]
      simp only [cl, if_false]
      by_cases c8 : s.st = 8
      · simp only [c8, if_true]
      simp only [c8, if_false]
      have hm : (if s.st = 2 then readHeadF s else (0, s)).2.st = s.st := by
        split
        · exact head_st s
        · rfl
      generalize (if s.st = 2 then readHeadF s else (0, s)) = r at hm
      by_cases cr : r.1 = 0
      · simp only [cr, ne_eq, not_true, if_false]
        exact ih m _ (by show r.2.st + 1 ≤ 8; omega) (by show 9 ≤ n + (r.2.st + 1); omega) (by show 9 ≤ m + (r.2.st + 1); omega)
      · simp only [cr, ne_eq, not_false_iff, if_true]
theorem settle_go {s : Sc} (h : s.left ≠ 0) : settleF s = s := by
  have : forwardF 10 s = (0, s) := by rw [forwardF, if_pos h]
  unfold settleF
  rw [this]
  rfl
theorem settle_step {s : Sc} (h : s.left = 0) (h8 : s.st ≤ 7) (h2 : s.st ≠ 2) : settleF s = settleF (stepF s) := by
  have : forwardF 10 s = forwardF 9 (stepF s) := by
    rw [forwardF, if_neg (by simpa using h), if_neg (by omega)]
    simp only [h2, if_false]
    rfl
  unfold settleF
  rw [this, forward_fuel 9 10 (stepF s) (by show s.st + 1 ≤ 8; omega) (by show 9 ≤ 9 + (s.st + 1); omega) (by show 9 ≤ 10 + (s.st + 1); omega)]
theorem settle_head {s : Sc} (h : s.left = 0) (h2 : s.st = 2) (hr : (readHeadF s).1 = 0) : settleF s = settleF (stepF (readHeadF s).2) := by
  have hst := head_st s
  have : forwardF 10 s = forwardF 9 (stepF (readHeadF s).2) := by
    rw [forwardF, if_neg (by simpa using h), if_neg (by omega)]
    simp only [h2, if_true]
    rw [if_neg (by simpa using hr)]
    rfl
  unfold settleF
  rw [this, forward_fuel 9 10 _ (by show (readHeadF s).2.st + 1 ≤ 8; omega) (by show 9 ≤ 9 + ((readHeadF s).2.st + 1); omega) (by show 9 ≤ 10 + ((readHeadF s).2.st + 1); omega)]
theorem settle_head_err {s : Sc} (h : s.left = 0) (h2 : s.st = 2) (hr : (readHeadF s).1 ≠ 0) : settleF s = wrongF s (readHeadF s).1 := by
  have : forwardF 10 s = readHeadF s := by
    rw [forwardF, if_neg (by simpa using h), if_neg (by omega)]
    simp only [h2, if_true]
    rw [if_pos hr]
  unfold settleF
  rw [this, if_pos hr]
  exact wrong_ms _ (head_ms s)
theorem settle_finish {s : Sc} (h : s.left = 0) (h8 : s.st = 8) : settleF s = if (finishF s).1 ≠ 0 then wrongF (finishF s).2 (finishF s).1 else (finishF s).2 := by
  have : forwardF 10 s = finishF s := by
    rw [forwardF, if_neg (by simpa using h), if_pos h8]
  unfold settleF
  rw [this]
/-- what lies behind a piece that fills the state -/
def overF (s : Sc) (p : List UInt8) : Sc := { (pieceF s p).2 with left := 0 }
theorem piece_nil (s : Sc) : (pieceF s []).2 = s := by
  obtain ⟨lm, lb, st, left, hd, me, bo, sum, md, bd, ms, e⟩ := s
  unfold pieceF
  simp only [List.append_nil]
  have : sumU sum [] = sum := rfl
  rw [this]
  split
  · rfl
  split
  · rfl
  split
  · rfl
  split
  · rfl
  split <;> rfl
theorem feed_full {s : Sc} {p : List UInt8} (h : PreOk s) (hp : p.length = s.left) (hl : 0 < s.left) : feedF s p = if (pieceF s p).1 ≠ 0 then wrongF (pieceF s p).2 (pieceF s p).1 else settleF (overF s p) := by
  have hpn : p ≠ [] := List.length_pos_iff.1 (by omega)
  rw [feed_go p h]
  obtain ⟨n, hn⟩ : ∃ n, p.length = n + 1 := ⟨p.length - 1, by omega⟩
  have hk : min s.left p.length = p.length := by omega
  have ho : oneF s p = if (pieceF s p).1 ≠ 0 then pieceF s p else forwardF 10 (overF s p) := by
    unfold oneF overF
    rw [hk, List.take_length, piece_left, hp, Nat.sub_self]
  rw [hn, takeF_succ, if_neg hpn, hk, List.drop_length, takeF_nil, ho]
  by_cases c : (pieceF s p).1 ≠ 0
  · simp only [c, ne_eq, not_false_iff, if_true]
  · simp only [c, if_false]
    rfl
/-- from a scan that went forward: a piece that fills the state -/
theorem feed_fill {s : Sc} {p : List UInt8} (rest : List UInt8) (h : PreOk s) (hp : p.length = s.left) (he : (pieceF s p).1 = 0) (hk : Ok (settleF s)) : feedF (settleF s) (p ++ rest) = feedF (settleF (overF s p)) rest := by
  by_cases hl : s.left = 0
  · have : p = [] := List.eq_nil_of_length_eq_zero (by omega)
    subst this
    have : overF s [] = s := by
      unfold overF
      rw [piece_nil]
      cases s
      simp only at hl
      subst hl
      rfl
    rw [this, List.nil_append]
  · rw [settle_go hl] at hk ⊢
    rw [← feed_app p rest hk, feed_full h hp (by omega), if_neg (by simpa using he)]
theorem settle_ok {s : Sc} (h : PreOk s) (h8 : s.st ≤ 8) : Ok (settleF s) := by
  unfold settleF
  by_cases c : (forwardF 10 s).1 ≠ 0
  · rw [if_pos c]; exact .inl ⟨c, rfl⟩
  · rw [if_neg c]
    obtain ⟨d1, d2, d3⟩ := forward_ok 10 s h h8 (by omega) (by simpa using c)
    exact .inr ⟨d1, d2⟩
/-- the state behind: the head read where it ends -/
def nextF (s : Sc) : Sc := if s.st = 2 then stepF (readHeadF s).2 else stepF s
/-- a walk through the states of a frame, ahead of its end -/
inductive Ch : Sc → List (List UInt8) → Sc → Prop
  | nil (s : Sc) : Ch s [] s
  | cons {s t : Sc} {p : List UInt8} {ps : List (List UInt8)} (hp : p.length = s.left) (hs : s.st ≤ 7) (he : (pieceF s p).1 = 0) (hr : s.st = 2 → (readHeadF (overF s p)).1 = 0) (h : Ch (nextF (overF s p)) ps t) : Ch s (p :: ps) t
theorem over_ok {s : Sc} {p : List UInt8} (h : PreOk s) (hp : p.length = s.left) (he : (pieceF s p).1 = 0) : PreOk (overF s p) ∧ (overF s p).st = s.st ∧ (overF s p).ms = s.ms := by
  obtain ⟨a1, a2, a3, a4, a5⟩ := piece_ok (q := p) h (by omega) he
  rw [a3, hp, Nat.sub_self] at a2
  exact ⟨a2, a5, a4⟩
theorem next_ok {s : Sc} (h : PreOk s) (hl : s.left = 0) (hs : s.st ≤ 7) (hr : s.st = 2 → (readHeadF s).1 = 0) : PreOk (nextF s) ∧ (nextF s).st = s.st + 1 ∧ (nextF s).ms = s.ms ∧ settleF s = settleF (nextF s) := by
  unfold nextF
  by_cases c : s.st = 2
  · rw [if_pos c]
    obtain ⟨a1, a2, a3⟩ := h.head c (hr c)
    exact ⟨a1.step (by omega) (by omega) (.inl a2), by show (readHeadF s).2.st + 1 = _; omega, head_ms s, settle_head hl c (hr c)⟩
  · rw [if_neg c]
    exact ⟨h.step hl hs (by omega), rfl, rfl, settle_step hl hs c⟩
theorem Ch.feed {s t : Sc} {ps : List (List UInt8)} (k : Ch s ps t) (h : PreOk s) : PreOk t ∧ t.st = s.st + ps.length ∧ t.ms = s.ms ∧ ∀ rest, feedF (settleF s) (ps.flatten ++ rest) = feedF (settleF t) rest := by
  induction k with
  | nil s => exact ⟨h, rfl, rfl, fun _ => rfl⟩
  | @cons s t p ps hp hs he hr k ih =>
    obtain ⟨o1, o2, o3⟩ := over_ok h hp he
    obtain ⟨n1, n2, n3, n4⟩ := next_ok o1 rfl (by omega) (fun z => hr (by omega))
    obtain ⟨i1, i2, i3, i4⟩ := ih n1
    refine ⟨i1, by rw [i2, n2, o2, List.length_cons]; omega, by rw [i3, n3, o3], fun rest => ?_⟩
    rw [List.flatten_cons, List.append_assoc, feed_fill _ h hp he (settle_ok h (by omega)), n4, i4]
end Go.Proofs.Ytemleibpmaclmaa.Kit
