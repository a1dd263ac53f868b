import Derived.Test.YtemleibpmaclmaaTI
namespace Go.Proofs.Ytemleibpmaclmaa.Kit
open Go.RowKit Go.Shelf Go.Deep
set_option linter.unusedVariables false

/-! ### no more is told than was fed -/
def sizeM (x : List UInt8 × List UInt8) : Nat := 24 + up8 x.1.length + up8 x.2.length
def szs (ms : List (List UInt8 × List UInt8)) : Nat := (ms.map sizeM).sum
/-- how many bytes of the frame have gone by, at the most -/
def inF (s : Sc) : Nat :=
  if s.st ≤ 3 then s.hd.length
  else if s.st = 4 then 24 - s.left
  else if s.st = 5 then 24 + s.md.length
  else if s.st = 6 then 24 + up8 s.me - s.left
  else if s.st = 7 then 24 + up8 s.me + s.bd.length
  else if s.st = 8 then 24 + up8 s.me + up8 s.bo - s.left
  else 0
theorem in_piece (s : Sc) (p : List UInt8) : inF { (pieceF s p).2 with left := (pieceF s p).2.left - p.length } ≤ inF s + p.length := by
  unfold pieceF
  by_cases c0 : s.st = 0
  · simp [inF, c0]
  rw [if_neg c0]
  by_cases c1 : s.st = 1 ∨ s.st = 2 ∨ s.st = 3
  · have : s.st ≤ 3 := by omega
    rw [if_pos c1]
    simp [inF, this]
  rw [if_neg c1]
  have h3 : ¬ s.st ≤ 3 := by omega
  by_cases c5 : s.st = 5
  · rw [if_pos c5]; simp [inF, c5]; omega
  rw [if_neg c5]
  by_cases c7 : s.st = 7
  · rw [if_pos c7]; simp [inF, c7]; omega
  rw [if_neg c7]
  by_cases c4 : s.st = 4 ∨ s.st = 6 ∨ s.st = 8
  · rw [if_pos c4]
    rcases c4 with c | c | c <;> simp [inF, c] <;> omega
  rw [if_neg c4]
  have k4 : s.st ≠ 4 := by omega
  have k6 : s.st ≠ 6 := by omega
  have k8 : s.st ≠ 8 := by omega
  simp [inF, h3, c5, c7, k4, k6, k8]
theorem in_step {s : Sc} (h : PreOk s) (hl : s.left = 0) (hs : s.st ≤ 7) : inF (stepF s) ≤ inF s := by
  have u1 := up8_ge s.me
  have u2 := up8_ge s.bo
  have q3 := h.h3
  have m4 := h.m4
  have m5 := h.m5
  have b6 := h.b6
  have b7 := h.b7
  have : s.st = 0 ∨ s.st = 1 ∨ s.st = 2 ∨ s.st = 3 ∨ s.st = 4 ∨ s.st = 5 ∨ s.st = 6 ∨ s.st = 7 := by omega
  rcases this with c | c | c | c | c | c | c | c
  · simp [inF, stepF, c]
  · simp [inF, stepF, c]
  · simp [inF, stepF, c]
  · have := q3 c
    simp [inF, stepF, c, wantsF]
    omega
  · have := m4 (by omega)
    simp [inF, stepF, c, wantsF, this, hl]
  · have := m5 c
    simp [inF, stepF, c, wantsF]
    omega
  · have := b6 (by omega)
    simp [inF, stepF, c, wantsF, this, hl]
  · have := b7 c
    simp [inF, stepF, c, wantsF]
    omega
theorem in_head {s : Sc} (hs : s.st = 2) : inF (readHeadF s).2 = inF s := by
  have hst := head_st s
  have : (readHeadF s).2.hd = s.hd := by
    unfold readHeadF
    split
    · rfl
    · split
      · rfl
      · split <;> rfl
  unfold inF
  rw [hst, this]
  simp [hs]
theorem szs_add (a b : List (List UInt8 × List UInt8)) : szs (a ++ b) = szs a + szs b := by simp [szs]
theorem in_finish {s : Sc} (h : PreOk s) (hl : s.left = 0) (hs : s.st = 8) (he : (finishF s).1 = 0) : szs (finishF s).2.ms + inF (finishF s).2 ≤ szs s.ms + inF s := by
  have m6 := h.m6 (by omega) (by omega)
  have b8 := h.b8 hs
  unfold finishF at he ⊢
  split
  · rename_i c; rw [if_pos c] at he; simp at he
  · split
    · simp [inF, beginF]
    · have e : szs (s.ms ++ [(s.md, s.bd)]) = szs s.ms + (24 + up8 s.me + up8 s.bo) := by
        rw [szs_add]
        simp [szs, sizeM, m6, b8]
      show szs (s.ms ++ [(s.md, s.bd)]) + inF (beginF _ 0) ≤ _
      rw [e]
      simp [inF, beginF, hs, hl]
theorem in_forward : ∀ (n : Nat) (s : Sc), PreOk s → s.st ≤ 8 → (forwardF n s).1 = 0 → szs (forwardF n s).2.ms + inF (forwardF n s).2 ≤ szs s.ms + inF s := by
  intro n
  induction n with
  | zero => intro s h h8 he; exact Nat.le_refl _
  | succ n ih =>
    intro s h h8 he
    unfold forwardF at he ⊢
    by_cases cl : s.left ≠ 0
    · rw [if_pos cl]; exact Nat.le_refl _
    rw [if_neg cl] at he ⊢
    have cl' : s.left = 0 := by simpa using cl
    by_cases c8 : s.st = 8
    · rw [if_pos c8] at he ⊢
      exact in_finish h cl' c8 he
    rw [if_neg c8] at he ⊢
    by_cases c2 : s.st = 2
    · simp only [c2, if_true] at he ⊢
      by_cases cr : (readHeadF s).1 = 0
      · obtain ⟨a1, a2, a3⟩ := h.head c2 cr
        rw [if_neg (by simpa using cr)] at he ⊢
        have h1 := ih (stepF (readHeadF s).2) (a1.step (by omega) (by omega) (.inl a2)) (by show (readHeadF s).2.st + 1 ≤ 8; omega) he
        have h2 := in_step a1 (by omega) (by omega)
        have h3 := in_head c2
        have h4 : (stepF (readHeadF s).2).ms = s.ms := head_ms s
        rw [h4] at h1
        exact Nat.le_trans h1 (by omega)
      · rw [if_pos (by simpa using cr)] at he
        exact absurd he cr
    · simp only [c2, if_false] at he ⊢
      rw [if_neg (by simp)] at he ⊢
      have h1 := ih (stepF s) (h.step cl' (by omega) (by omega)) (by show s.st + 1 ≤ 8; omega) he
      have h2 := in_step h cl' (by omega)
      have h4 : (stepF s).ms = s.ms := rfl
      rw [h4] at h1
      exact Nat.le_trans h1 (by omega)
theorem in_wrong (s : Sc) (e : Int) : inF (wrongF s e) = 0 := by simp [inF, wrongF]
theorem in_one {s : Sc} {b : List UInt8} (h : PreOk s) (hl : 0 < s.left) (he : (oneF s b).1 = 0) : szs (oneF s b).2.ms + inF (oneF s b).2 ≤ szs s.ms + inF s + min s.left b.length := by
  have hql : (b.take (min s.left b.length)).length = min s.left b.length := by rw [List.length_take]; omega
  unfold oneF at he ⊢
  by_cases c1 : (pieceF s (b.take (min s.left b.length))).1 ≠ 0
  · rw [if_pos c1] at he; exact absurd he c1
  · rw [if_neg c1] at he ⊢
    obtain ⟨a1, a2, a3, a4, a5⟩ := piece_ok (q := b.take (min s.left b.length)) h (by rw [hql]; omega) (by simpa using c1)
    have k := in_piece s (b.take (min s.left b.length))
    rw [hql] at a2 k
    have f := in_forward 10 _ a2 (by show (pieceF s _).2.st ≤ 8; omega) he
    have e : ({ (pieceF s (b.take (min s.left b.length))).2 with left := (pieceF s (b.take (min s.left b.length))).2.left - min s.left b.length } : Sc).ms = s.ms := a4
    rw [e] at f
    exact Nat.le_trans f (by omega)
theorem in_take : ∀ (n : Nat) (s : Sc) (b : List UInt8), PreOk s → 0 < s.left → b.length ≤ n → szs (takeF n s b).ms + inF (takeF n s b) ≤ szs s.ms + inF s + b.length := by
  intro n
  induction n with
  | zero => intro s b h hl hn; exact Nat.le_add_right _ _
  | succ n ih =>
    intro s b h hl hn
    rw [takeF_succ]
    by_cases hb : b = []
    · rw [if_pos hb]; omega
    rw [if_neg hb]
    have hd := drop_lt hl hb
    by_cases c : (oneF s b).1 = 0
    · rw [if_neg (by simpa using c)]
      obtain ⟨d1, d2, d3⟩ := one_ok h hl hb c
      have h1 := ih _ _ d1 d2 (by omega : (b.drop (min s.left b.length)).length ≤ n)
      have h2 := in_one (b := b) h hl c
      rw [List.length_drop] at h1
      omega
    · rw [if_pos (by simpa using c), in_wrong]
      show szs (oneF s b).2.ms + 0 ≤ _
      rw [one_err c]
      omega
/-- what is told is no longer than what was fed -/
theorem feed_size {s : Sc} (b : List UInt8) (h : Ok s) : szs (feedF s b).ms + inF (feedF s b) ≤ szs s.ms + inF s + b.length := by
  unfold feedF
  by_cases c : s.e = 0
  · rw [if_neg (by simpa using c)]
    rcases h with h | h
    · exact absurd c h.1
    · exact in_take _ _ _ h.1 h.2 (Nat.le_refl _)
  · rw [if_pos (by simpa using c), in_wrong]
    show szs s.ms + 0 ≤ _
    omega
end Go.Proofs.Ytemleibpmaclmaa.Kit
