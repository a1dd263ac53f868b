import Derived.Test.YtemleibpmaclmaaSK
namespace Go.Proofs.Ytemleibpmaclmaa.Kit
open Go.RowKit Go.Shelf Go.Deep
set_option linter.unusedVariables false

/-! ### feeding, by parts -/
/-- one turn of take: a piece, and forward -/
def oneF (s : Sc) (b : List UInt8) : Int × Sc :=
  if (pieceF s (b.take (min s.left b.length))).1 ≠ 0 then pieceF s (b.take (min s.left b.length))
  else forwardF 10 { (pieceF s (b.take (min s.left b.length))).2 with left := (pieceF s (b.take (min s.left b.length))).2.left - min s.left b.length }
theorem takeF_succ (n : Nat) (s : Sc) (b : List UInt8) : takeF (n + 1) s b = if b = [] then s else if (oneF s b).1 ≠ 0 then wrongF (oneF s b).2 (oneF s b).1 else takeF n (oneF s b).2 (b.drop (min s.left b.length)) := by
  rw [takeF]
  by_cases hb : b = []
  · rw [if_pos hb, if_pos hb]
  rw [if_neg hb, if_neg hb]
  unfold oneF
  simp only []
  generalize hr : pieceF s (b.take (min s.left b.length)) = r
  by_cases c1 : r.1 ≠ 0
  · rw [if_pos c1, if_pos c1, if_pos c1]
  · simp only [c1, if_false]
theorem wrong_e (s : Sc) (e : Int) : (wrongF s e).e = e := rfl
theorem wrong_wrong (s : Sc) (e e' : Int) : wrongF (wrongF s e) e' = wrongF s e' := rfl
theorem piece_ms (s : Sc) (q : List UInt8) : (pieceF s q).2.ms = s.ms := by
  unfold pieceF
  split
  · rfl
  split
  · rfl
  split
  · rfl
  split
  · rfl
  split <;> rfl
theorem head_ms (s : Sc) : (readHeadF s).2.ms = s.ms := by
  unfold readHeadF
  split
  · rfl
  · split
    · rfl
    · split <;> rfl
theorem forward_err : ∀ (n : Nat) (s : Sc), (forwardF n s).1 ≠ 0 → (forwardF n s).2.ms = s.ms := by
  intro n
  induction n with
  | zero => intro s h; exact absurd rfl h
  | succ n ih =>
    intro s
    unfold forwardF
    by_cases cl : s.left ≠ 0
    · rw [if_pos cl]; intro h; exact absurd rfl h
    rw [if_neg cl]
    by_cases c8 : s.st = 8
    · rw [if_pos c8]
      unfold finishF
      split
      · intro _; rfl
      · split <;> (intro h; exact absurd rfl h)
    · rw [if_neg c8]
      simp only []
      have hm : (if s.st = 2 then readHeadF s else (0, s)).2.ms = s.ms := by
        split
        · exact head_ms s
        · rfl
      generalize (if s.st = 2 then readHeadF s else (0, s)) = r at hm
      by_cases cr : r.1 ≠ 0
      · rw [if_pos cr]; intro _; exact hm
      · rw [if_neg cr]; intro h; exact (ih _ h).trans hm
theorem one_ok {s : Sc} {b : List UInt8} (h : PreOk s) (hl : 0 < s.left) (hb : b ≠ []) (he : (oneF s b).1 = 0) : PreOk (oneF s b).2 ∧ 0 < (oneF s b).2.left ∧ (oneF s b).2.ms.length ≤ s.ms.length + 1 := by
  have hql : (b.take (min s.left b.length)).length = min s.left b.length := by rw [List.length_take]; omega
  unfold oneF at he ⊢
  by_cases c1 : (pieceF s (b.take (min s.left b.length))).1 ≠ 0
  · rw [if_pos c1] at he; exact absurd he c1
  · rw [if_neg c1] at he ⊢
    obtain ⟨a1, a2, a3, a4, a5⟩ := piece_ok (q := b.take (min s.left b.length)) h (by rw [hql]; omega) (by simpa using c1)
    rw [hql] at a2
    obtain ⟨d1, d2, d3⟩ := forward_ok 10 _ a2 (by show (pieceF s _).2.st ≤ 8; omega) (by show 9 ≤ 10 + (pieceF s _).2.st; omega) he
    exact ⟨d1, d2, by rw [← a4]; exact d3⟩
theorem one_err {s : Sc} {b : List UInt8} (he : (oneF s b).1 ≠ 0) : (oneF s b).2.ms = s.ms := by
  unfold oneF at he ⊢
  by_cases c1 : (pieceF s (b.take (min s.left b.length))).1 ≠ 0
  · rw [if_pos c1]; exact piece_ms _ _
  · rw [if_neg c1] at he ⊢
    exact (forward_err _ _ he).trans (piece_ms _ _)
theorem drop_lt {s : Sc} {b : List UInt8} (hl : 0 < s.left) (hb : b ≠ []) : (b.drop (min s.left b.length)).length < b.length := by
  have : 0 < b.length := List.length_pos_iff.2 hb
  rw [List.length_drop]; omega
theorem take_fuel : ∀ (n m : Nat) (s : Sc) (b : List UInt8), PreOk s → 0 < s.left → b.length ≤ n → b.length ≤ m → takeF n s b = takeF m s b := by
  intro n
  induction n with
  | zero =>
    intro m s b h hl hn hm
    have : b = [] := List.eq_nil_of_length_eq_zero (by omega)
    subst this
    rw [takeF_nil, takeF_nil]
  | succ n ih =>
    intro m s b h hl hn hm
    by_cases hb : b = []
    · subst hb; rw [takeF_nil, takeF_nil]
    cases m with
    | zero => exact absurd (List.eq_nil_of_length_eq_zero (by omega)) hb
    | succ m =>
      rw [takeF_succ, takeF_succ]
      simp only [hb, if_false]
      have hd := drop_lt hl hb
      by_cases c : (oneF s b).1 = 0
      · simp only [c, ne_eq, not_true, if_false]
        obtain ⟨d1, d2, d3⟩ := one_ok h hl hb c
        exact ih m _ _ d1 d2 (by omega) (by omega)
      · simp only [c, ne_eq, not_false_iff, if_true]
/-- a scan that a feed leaves: told wrong, and emptied; or in the midst of the stream -/
def Ok (s : Sc) : Prop := (s.e ≠ 0 ∧ wrongF s s.e = s) ∨ (PreOk s ∧ 0 < s.left)
theorem take_ok : ∀ (n : Nat) (s : Sc) (b : List UInt8), PreOk s → 0 < s.left → b.length ≤ n → Ok (takeF n s b) ∧ (takeF n s b).ms.length ≤ s.ms.length + b.length := by
  intro n
  induction n with
  | zero =>
    intro s b h hl hn
    exact ⟨.inr ⟨h, hl⟩, by show s.ms.length ≤ _; omega⟩
  | succ n ih =>
    intro s b h hl hn
    rw [takeF_succ]
    by_cases hb : b = []
    · rw [if_pos hb]; exact ⟨.inr ⟨h, hl⟩, by omega⟩
    rw [if_neg hb]
    have hd := drop_lt hl hb
    by_cases c : (oneF s b).1 = 0
    · rw [if_neg (by simpa using c)]
      obtain ⟨d1, d2, d3⟩ := one_ok h hl hb c
      have := ih _ _ d1 d2 (by omega : (b.drop (min s.left b.length)).length ≤ n)
      exact ⟨this.1, by omega⟩
    · rw [if_pos (by simpa using c)]
      exact ⟨.inl ⟨c, rfl⟩, by show (oneF s b).2.ms.length ≤ _; rw [one_err c]; omega⟩
theorem feed_ok {s : Sc} (b : List UInt8) (h : Ok s) : Ok (feedF s b) ∧ (feedF s b).ms.length ≤ s.ms.length + b.length := by
  unfold feedF
  by_cases c : s.e = 0
  · rw [if_neg (by simpa using c)]
    rcases h with h | h
    · exact absurd c h.1
    · exact take_ok _ _ _ h.1 h.2 (Nat.le_refl _)
  · rw [if_pos (by simpa using c)]
    exact ⟨.inl ⟨c, rfl⟩, by show s.ms.length ≤ _; omega⟩
theorem feed_nil {s : Sc} (h : Ok s) : feedF s [] = s := by
  unfold feedF
  by_cases c : s.e = 0
  · rw [if_neg (by simpa using c)]; rfl
  · rw [if_pos (by simpa using c)]
    rcases h with h | h
    · exact h.2
    · exact absurd h.1.e0 c
theorem prefix_app (x y m : List UInt8) (h : (x ++ y).isPrefixOf m = true) : x.isPrefixOf m = true := by
  rw [List.isPrefixOf_iff_prefix] at h ⊢
  exact (List.prefix_append x y).trans h
theorem marks_app (x y : List UInt8) (h : marksB (x ++ y) = true) : marksB x = true := by
  unfold marksB at h ⊢
  rw [Bool.or_eq_true] at h ⊢
  exact h.imp (prefix_app _ _ _) (prefix_app _ _ _)
/-- a piece, cut in two -/
theorem piece_err (s : Sc) (a q : List UInt8) (h : (pieceF s a).1 ≠ 0) : (pieceF s (a ++ q)).1 = (pieceF s a).1 := by
  unfold pieceF at h ⊢
  split
  · rename_i c
    simp only [c, if_true] at h ⊢
    by_cases k : marksB (s.hd ++ (a ++ q)) = true
    · rw [← List.append_assoc] at k
      rw [if_pos (marks_app _ _ k)] at h; exact absurd rfl h
    · rw [if_neg k]
      by_cases k2 : marksB (s.hd ++ a) = true
      · rw [if_pos k2] at h; exact absurd rfl h
      · rw [if_neg k2]
  · rename_i c
    simp only [c, if_false] at h ⊢
    split
    · rename_i c1; simp only [c1, if_true] at h; exact absurd rfl h
    · rename_i c1; simp only [c1, if_false] at h ⊢
      split
      · rename_i c2; simp only [c2, if_true] at h; exact absurd rfl h
      · rename_i c2; simp only [c2, if_false] at h ⊢
        split
        · rename_i c3; simp only [c3, if_true] at h; exact absurd rfl h
        · rename_i c3; simp only [c3, if_false] at h ⊢
          split
          · rename_i c4; simp only [c4, if_true] at h ⊢
            by_cases k : a.all (· == 0) = true
            · rw [if_pos k] at h; exact absurd rfl h
            · rw [if_neg k, if_neg (by rw [List.all_append, Bool.and_eq_true]; exact fun z => k z.1)]
          · rfl
theorem piece_app (s : Sc) (a q : List UInt8) (l : Nat) (h : (pieceF s a).1 = 0) (hs : s.st ≤ 8) : (pieceF { (pieceF s a).2 with left := l } q).1 = (pieceF s (a ++ q)).1 ∧ ∀ m, { (pieceF { (pieceF s a).2 with left := l } q).2 with left := m } = { (pieceF s (a ++ q)).2 with left := m } := by
  obtain ⟨lm, lb, st, left, hd, me, bo, sum, md, bd, ms, e⟩ := s
  simp only at hs
  have : st = 0 ∨ st = 1 ∨ st = 2 ∨ st = 3 ∨ st = 4 ∨ st = 5 ∨ st = 6 ∨ st = 7 ∨ st = 8 := by omega
  rcases this with c | c | c | c | c | c | c | c | c <;> subst c <;> simp [pieceF, List.append_assoc, sumU_app] at h ⊢
  all_goals
    by_cases k : ∀ x, x ∈ q → x = 0
    · rw [if_pos k, if_pos ⟨h, k⟩]
    · rw [if_neg k, if_neg (fun z => k z.2)]
theorem piece_left (s : Sc) (q : List UInt8) : (pieceF s q).2.left = s.left := by
  unfold pieceF
  split
  · rfl
  split
  · rfl
  split
  · rfl
  split
  · rfl
  split <;> rfl
/-- the piece ends ahead of what the state wants -/
def partF (s : Sc) (a : List UInt8) : Sc := { (pieceF s a).2 with left := s.left - a.length }
theorem one_short {s : Sc} {a : List UInt8} (hl : a.length < s.left) : oneF s a = if (pieceF s a).1 ≠ 0 then pieceF s a else (0, partF s a) := by
  unfold oneF
  have hk : min s.left a.length = a.length := by omega
  rw [hk, List.take_length]
  split
  · rfl
  · rw [forwardF, piece_left]
    simp only []
    rw [if_pos (by omega)]
    rfl
theorem one_long {s : Sc} {a : List UInt8} (b : List UInt8) (hl : s.left ≤ a.length) : oneF s (a ++ b) = oneF s a := by
  unfold oneF
  have hk : min s.left a.length = s.left := by omega
  have hk' : min s.left (a ++ b).length = s.left := by rw [List.length_append]; omega
  rw [hk, hk', List.take_append_of_le_length hl]
theorem one_app {s : Sc} {a b : List UInt8} (hl : a.length < s.left) (hs : s.st ≤ 8) (he : (pieceF s a).1 = 0) : (oneF s (a ++ b)).1 = (oneF (partF s a) b).1 ∧ ((oneF (partF s a) b).1 = 0 → (oneF s (a ++ b)).2 = (oneF (partF s a) b).2) := by
  obtain ⟨q, hq⟩ : ∃ q, b.take (min (s.left - a.length) b.length) = q := ⟨_, rfl⟩
  have ht : (a ++ b).take (min s.left (a ++ b).length) = a ++ q := by
    rw [← hq, List.take_append, List.take_of_length_le (by rw [List.length_append]; omega), List.length_append]
    congr 2
    omega
  obtain ⟨p1, p2⟩ := piece_app s a q (s.left - a.length) he hs
  unfold oneF
  rw [ht]
  have hpl : (partF s a).left = s.left - a.length := rfl
  rw [hpl, hq]
  have p1' : (pieceF (partF s a) q).1 = (pieceF s (a ++ q)).1 := p1
  by_cases c : (pieceF s (a ++ q)).1 ≠ 0
  · rw [if_pos c, if_pos (by rw [p1']; exact c)]
    exact ⟨p1'.symm, fun z => absurd (p1'.symm.trans z) c⟩
  · rw [if_neg c, if_neg (by rw [p1']; exact c)]
    have hm : (pieceF s (a ++ q)).2.left - min s.left (a ++ b).length = (pieceF (partF s a) q).2.left - min (s.left - a.length) b.length := by
      rw [piece_left, piece_left, hpl, List.length_append]; omega
    rw [hm]
    have := p2 ((pieceF (partF s a) q).2.left - min (s.left - a.length) b.length)
    have e : (pieceF { (pieceF s a).2 with left := s.left - a.length } q).2 = (pieceF (partF s a) q).2 := rfl
    rw [e] at this
    rw [this]
    exact ⟨rfl, fun _ => rfl⟩
theorem feed_wrong (s : Sc) (e : Int) (b : List UInt8) (he : e ≠ 0) : feedF (wrongF s e) b = wrongF s e := by
  unfold feedF
  rw [if_pos (by exact he)]
  rfl
theorem wrong_ms {s t : Sc} (e : Int) (h : s.ms = t.ms) : wrongF s e = wrongF t e := by unfold wrongF; rw [h]
theorem feed_go {s : Sc} (b : List UInt8) (h : PreOk s) : feedF s b = takeF b.length s b := by
  unfold feedF
  rw [if_neg (by simpa using h.e0)]
theorem take_app : ∀ (n : Nat) (s : Sc) (a b : List UInt8), PreOk s → 0 < s.left → a.length ≤ n → takeF (a ++ b).length s (a ++ b) = feedF (takeF a.length s a) b := by
  intro n
  induction n with
  | zero =>
    intro s a b h hl hn
    have : a = [] := List.eq_nil_of_length_eq_zero (by omega)
    subst this
    rw [takeF_nil, List.nil_append, feed_go b h]
  | succ n ih =>
    intro s a b h hl hn
    by_cases ha : a = []
    · subst ha; rw [takeF_nil, List.nil_append, feed_go b h]
    by_cases hb : b = []
    · subst hb; rw [List.append_nil, feed_nil (take_ok _ _ _ h hl (Nat.le_refl _)).1]
    have hal : 0 < a.length := List.length_pos_iff.2 ha
    have hbl : 0 < b.length := List.length_pos_iff.2 hb
    obtain ⟨m, hm⟩ : ∃ m, a.length = m + 1 := ⟨a.length - 1, by omega⟩
    have e1 : takeF a.length s a = if (oneF s a).1 ≠ 0 then wrongF (oneF s a).2 (oneF s a).1 else takeF m (oneF s a).2 (a.drop (min s.left a.length)) := by
      rw [hm, takeF_succ, if_neg ha, hm]
    have hab : a ++ b ≠ [] := by simp [ha]
    have hL : (a ++ b).length = (m + b.length) + 1 := by rw [List.length_append]; omega
    have e2 : takeF (a ++ b).length s (a ++ b) = if (oneF s (a ++ b)).1 ≠ 0 then wrongF (oneF s (a ++ b)).2 (oneF s (a ++ b)).1 else takeF (m + b.length) (oneF s (a ++ b)).2 ((a ++ b).drop (min s.left (a ++ b).length)) := by
      conv => lhs; rw [hL]
      rw [takeF_succ, if_neg hab]
    rw [e1, e2]
    by_cases cl : s.left ≤ a.length
    · rw [one_long b cl]
      by_cases c : (oneF s a).1 ≠ 0
      · rw [if_pos c, if_pos c, feed_wrong _ _ _ c]
      · rw [if_neg c, if_neg c]
        obtain ⟨d1, d2, d3⟩ := one_ok h hl ha (by simpa using c)
        have hk : min s.left a.length = s.left := by omega
        have hk' : min s.left (a ++ b).length = s.left := by rw [List.length_append]; omega
        rw [hk, hk', List.drop_append_of_le_length cl]
        have hdl : (a.drop s.left).length ≤ m := by rw [List.length_drop]; omega
        rw [take_fuel _ (a.drop s.left ++ b).length _ _ d1 d2 (by rw [List.length_append]; omega) (Nat.le_refl _), ih _ _ _ d1 d2 (by omega), take_fuel m (a.drop s.left).length _ _ d1 d2 hdl (Nat.le_refl _)]
    · have hs : a.length < s.left := by omega
      rw [one_short hs]
      by_cases c : (pieceF s a).1 ≠ 0
      · rw [if_pos c, if_pos c, feed_wrong _ _ _ c]
        have hq : (oneF s (a ++ b)).1 = (pieceF s a).1 := by
          have ht : (a ++ b).take (min s.left (a ++ b).length) = a ++ b.take (min s.left (a ++ b).length - a.length) := by
            rw [List.take_append, List.take_of_length_le (by rw [List.length_append]; omega)]
          have hp := piece_err s a (b.take (min s.left (a ++ b).length - a.length)) c
          unfold oneF
          rw [ht, if_pos (by rw [hp]; exact c), hp]
        rw [if_pos (by rw [hq]; exact c), hq]
        exact wrong_ms _ ((one_err (by rw [hq]; exact c)).trans (piece_ms _ _).symm)
      · rw [if_neg c, if_neg (show ¬ ((0, partF s a) : Int × Sc).1 ≠ 0 by simp)]
        have hk : min s.left a.length = a.length := by omega
        rw [hk, List.drop_length, takeF_nil]
        obtain ⟨a1, a2, a3, a4, a5⟩ := piece_ok (q := a) h (by omega) (by simpa using c)
        have hpo : PreOk (partF s a) := by rw [a3] at a2; exact a2
        have hpl : 0 < (partF s a).left := by show 0 < s.left - a.length; omega
        show _ = feedF (partF s a) b
        rw [feed_go b hpo]
        obtain ⟨o1, o2⟩ := one_app (b := b) hs a1 (by simpa using c)
        obtain ⟨j, hj⟩ : ∃ j, b.length = j + 1 := ⟨b.length - 1, by omega⟩
        have e3 : takeF b.length (partF s a) b = if (oneF (partF s a) b).1 ≠ 0 then wrongF (oneF (partF s a) b).2 (oneF (partF s a) b).1 else takeF j (oneF (partF s a) b).2 (b.drop (min (s.left - a.length) b.length)) := by
          conv => lhs; rw [hj]
          rw [takeF_succ, if_neg hb]
          rfl
        rw [e3, o1]
        by_cases cb : (oneF (partF s a) b).1 ≠ 0
        · rw [if_pos cb, if_pos cb]
          exact wrong_ms _ ((one_err (by rw [o1]; exact cb)).trans ((one_err cb).trans (piece_ms s a)).symm)
        · rw [if_neg cb, if_neg cb]
          have cb' : (oneF (partF s a) b).1 = 0 := by simpa using cb
          rw [o2 cb']
          obtain ⟨d1, d2, d3⟩ := one_ok hpo hpl hb cb'
          have hdr : (a ++ b).drop (min s.left (a ++ b).length) = b.drop (min (s.left - a.length) b.length) := by
            rw [List.drop_append, List.drop_of_length_le (by rw [List.length_append]; omega), List.nil_append, List.length_append]
            congr 1
            omega
          rw [hdr]
          have hdl : (b.drop (min (s.left - a.length) b.length)).length < b.length := by rw [List.length_drop]; omega
          exact take_fuel _ _ _ _ d1 d2 (by omega) (by omega)
/-- to feed two pieces is to feed their join -/
theorem feed_app {s : Sc} (a b : List UInt8) (h : Ok s) : feedF (feedF s a) b = feedF s (a ++ b) := by
  rcases h with ⟨he, hw⟩ | ⟨h, hl⟩
  · have e : ∀ x, feedF s x = s := fun x => by
      unfold feedF
      rw [if_pos he, hw]
    rw [e, e, e]
  · rw [feed_go a h, feed_go (a ++ b) h, take_app a.length s a b h hl (Nat.le_refl _)]
/-- to feed pieces one after another is to feed their join -/
theorem feed_all : ∀ (l : List (List UInt8)) (s : Sc), Ok s → l.foldl feedF s = feedF s l.flatten
  | [], s, h => by rw [List.flatten_nil, feed_nil h]; rfl
  | x :: l, s, h => by
    rw [List.foldl_cons, feed_all l _ (feed_ok x h).1, List.flatten_cons, feed_app _ _ h]
end Go.Proofs.Ytemleibpmaclmaa.Kit
