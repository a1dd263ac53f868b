import Derived.Test.YteppfammimbmcaaDoorData
namespace Go.Proofs.YteppfammimbmcaaDoor.Kit
open Go.RowKit

/-! ### runs -/
def bump (l : List (Nat × Nat)) : List (Nat × Nat) := l.set (l.length - 1) ((l.getD (l.length - 1) (0, 0)).1, (l.getD (l.length - 1) (0, 0)).2 + 1)
theorem bump_snoc (l : List (Nat × Nat)) (a b : Nat) : bump (l ++ [(a, b)]) = l ++ [(a, b + 1)] := by simp [bump]
def rf (f : Nat → Bool) : Nat → List (Nat × Nat)
  | 0 => []
  | n + 1 => if f n = true then (if 0 < n ∧ f (n - 1) = true then bump (rf f n) else rf f n ++ [(n, 1)]) else rf f n
theorem rf_no {f : Nat → Bool} {n : Nat} (h : f n = false) : rf f (n + 1) = rf f n := by simp [rf, h]
theorem rf_new {f : Nat → Bool} {n : Nat} (h : f n = true) (h' : n = 0 ∨ f (n - 1) = false) : rf f (n + 1) = rf f n ++ [(n, 1)] := by
  rw [rf, if_pos h, if_neg]
  rintro ⟨h0, h1⟩
  rcases h' with e | e
  · omega
  · rw [e] at h1; exact absurd h1 (by decide)
theorem rf_bump {f : Nat → Bool} {n : Nat} (h : f n = true) (h0 : 0 < n) (h' : f (n - 1) = true) : rf f (n + 1) = bump (rf f n) := by
  rw [rf, if_pos h, if_pos ⟨h0, h'⟩]
theorem rf_last {f : Nat → Bool} : ∀ {n : Nat}, f n = true → ∃ l a b, rf f (n + 1) = l ++ [(a, b)] ∧ a + b = n + 1 := by
  intro n
  induction n with
  | zero => intro h; exact ⟨[], 0, 1, by rw [rf_new h (.inl rfl)]; rfl, rfl⟩
  | succ n ih =>
    intro h
    cases hp : f n
    · exact ⟨_, _, _, rf_new h (.inr hp), rfl⟩
    · obtain ⟨l, a, b, e, hs⟩ := ih hp
      exact ⟨l, a, b + 1, by rw [rf_bump h (by omega) hp, e, bump_snoc], by omega⟩
def runSum (l : List (Nat × Nat)) : Nat := (l.map Prod.snd).sum
theorem runSum_snoc (l : List (Nat × Nat)) (a b : Nat) : runSum (l ++ [(a, b)]) = runSum l + b := by simp [runSum]
theorem rf_sum (f : Nat → Bool) (n : Nat) : runSum (rf f n) = cn f n := by
  induction n with
  | zero => rfl
  | succ n ih =>
    cases h : f n
    · rw [rf_no h, ih]; simp [cn, h]
    · by_cases h' : 0 < n ∧ f (n - 1) = true
      · obtain ⟨k, rfl⟩ : ∃ k, n = k + 1 := ⟨n - 1, by omega⟩
        obtain ⟨l, a, b, e, _⟩ := rf_last h'.2
        simp only [Nat.add_sub_cancel] at e
        rw [rf_bump h h'.1 h'.2, e, bump_snoc, runSum_snoc]
        rw [e, runSum_snoc] at ih
        simp only [cn, h, Bool.toNat_true] at ih ⊢
        omega
      · have h'' : n = 0 ∨ f (n - 1) = false := by
          by_cases h0 : n = 0
          · exact .inl h0
          · right; cases e : f (n - 1)
            · rfl
            · exact absurd ⟨by omega, e⟩ h'
        rw [rf_new h h'', runSum_snoc, ih]
        simp [cn, h]
theorem rf_len_succ (f : Nat → Bool) (n : Nat) : (rf f n).length ≤ (rf f (n + 1)).length := by
  simp only [rf]
  split
  · split
    · simp [bump]
    · simp
  · exact Nat.le_refl _
theorem rf_len_mono (f : Nat → Bool) {a b : Nat} (h : a ≤ b) : (rf f a).length ≤ (rf f b).length := by
  induction b with
  | zero => rw [show a = 0 by omega]; exact Nat.le_refl _
  | succ n ih =>
    by_cases e : a = n + 1
    · rw [e]; exact Nat.le_refl _
    · exact Nat.le_trans (ih (by omega)) (rf_len_succ f n)
theorem rf_len_le (f : Nat → Bool) (n : Nat) : (rf f n).length ≤ n := by
  induction n with
  | zero => exact Nat.le_refl _
  | succ n ih =>
    simp only [rf]
    split
    · split
      · simp [bump]; omega
      · simp; omega
    · omega
theorem rf_false {f : Nat → Bool} {p : Nat} : ∀ {q : Nat}, p ≤ q → (∀ j, p ≤ j → j < q → f j = false) → rf f q = rf f p := by
  intro q
  induction q with
  | zero => intro h _; rw [show p = 0 by omega]
  | succ q ih =>
    intro h hf
    by_cases e : p = q + 1
    · rw [e]
    · rw [rf_no (hf q (by omega) (by omega)), ih (by omega) fun j h1 h2 => hf j h1 (by omega)]
theorem rf_run {f : Nat → Bool} {p : Nat} (hp : p = 0 ∨ f (p - 1) = false) : ∀ {m : Nat}, 0 < m → (∀ j, p ≤ j → j < p + m → f j = true) → rf f (p + m) = rf f p ++ [(p, m)] := by
  intro m
  induction m with
  | zero => intro h; omega
  | succ m ih =>
    intro _ ht
    by_cases h0 : m = 0
    · subst h0; exact rf_new (ht p (Nat.le_refl _) (by omega)) hp
    · rw [← Nat.add_assoc, rf_bump (ht (p + m) (by omega) (by omega)) (by omega) (ht (p + m - 1) (by omega) (by omega)), ih (by omega) fun j h1 h2 => ht j h1 (by omega), bump_snoc]
theorem bump_append (l t : List (Nat × Nat)) (h : t ≠ []) : bump (l ++ t) = l ++ bump t := by
  obtain ⟨x, y, e⟩ : ∃ x y, t = x ++ [y] := ⟨t.dropLast, t.getLast h, (List.dropLast_concat_getLast h).symm⟩
  obtain ⟨a, b⟩ := y
  rw [e, ← List.append_assoc, bump_snoc, bump_snoc, List.append_assoc]
theorem bump_ne {t : List (Nat × Nat)} (h : t ≠ []) : bump t ≠ [] := by
  intro e
  have := congrArg List.length e
  simp [bump] at this
  exact h this
theorem rf_pre {f : Nat → Bool} {q : Nat} (hq : f q = false) : ∀ {i : Nat}, q ≤ i → ∃ t, rf f i = rf f q ++ t ∧ (q < i → f (i - 1) = true → t ≠ []) := by
  intro i
  induction i with
  | zero => intro h; rw [show q = 0 by omega]; exact ⟨[], by simp, fun h => by omega⟩
  | succ i ih =>
    intro h
    by_cases e : q = i + 1
    · subst e; exact ⟨[], by simp, fun h => by omega⟩
    · obtain ⟨t, ht, hn⟩ := ih (by omega)
      cases hi : f i
      · exact ⟨t, by rw [rf_no hi, ht], fun _ h => by simp [hi] at h⟩
      · have hqi : q ≠ i := by intro e; rw [e, hi] at hq; exact absurd hq (by decide)
        by_cases h' : f (i - 1) = true
        · have hne := hn (by omega) h'
          exact ⟨bump t, by rw [rf_bump hi (by omega) h', ht, bump_append _ _ hne], fun _ _ => bump_ne hne⟩
        · refine ⟨t ++ [(i, 1)], by rw [rf_new hi (.inr (by simpa using h')), ht, List.append_assoc], fun _ _ => by simp⟩
theorem rf_prefix {f : Nat → Bool} {q n : Nat} (h : q ≤ n) (hq : q = n ∨ f q = false) : rf f q <+: rf f n := by
  rcases hq with rfl | hq
  · exact List.prefix_refl _
  · obtain ⟨t, e, _⟩ := rf_pre hq h
    exact ⟨t, e.symm⟩
/-- every run lies among the bits -/
theorem rf_bound {f : Nat → Bool} {n : Nat} : ∀ r ∈ rf f n, r.1 + r.2 ≤ n := by
  induction n with
  | zero => intro r h; simp [rf] at h
  | succ n ih =>
    intro r hr
    cases h : f n
    · rw [rf_no h] at hr; have := ih r hr; omega
    · by_cases h' : 0 < n ∧ f (n - 1) = true
      · obtain ⟨k, rfl⟩ : ∃ k, n = k + 1 := ⟨n - 1, by omega⟩
        obtain ⟨l, a, b, e, hab⟩ := rf_last h'.2
        simp only [Nat.add_sub_cancel] at e hab
        rw [rf_bump h h'.1 h'.2, e, bump_snoc] at hr
        rw [e] at ih
        rcases List.mem_append.1 hr with h1 | h1
        · have := ih r (List.mem_append.2 (.inl h1)); omega
        · simp at h1; subst h1; simp; omega
      · have h'' : n = 0 ∨ f (n - 1) = false := by
          by_cases h0 : n = 0
          · exact .inl h0
          · right; cases e : f (n - 1)
            · rfl
            · exact absurd ⟨by omega, e⟩ h'
        rw [rf_new h h''] at hr
        rcases List.mem_append.1 hr with h1 | h1
        · have := ih r h1; omega
        · simp at h1; subst h1; simp; 
/-- what a prefix of the runs says of places -/
theorem rf_place {f : Nat → Bool} : ∀ {n : Nat} {pre : List (Nat × Nat)} {a b : Nat}, pre ++ [(a, b)] <+: rf f n → ∀ j, j < b → a + j < n ∧ f (a + j) = true ∧ cn f (a + j) = runSum pre + j := by
  intro n
  induction n with
  | zero => intro pre a b h; simp [rf] at h
  | succ n ih =>
    intro pre a b hp j hj
    cases h : f n
    · rw [rf_no h] at hp
      have := ih hp j hj
      exact ⟨by omega, this.2⟩
    · by_cases h' : 0 < n ∧ f (n - 1) = true
      · obtain ⟨k, rfl⟩ : ∃ k, n = k + 1 := ⟨n - 1, by omega⟩
        obtain ⟨l, a', b', e, hab⟩ := rf_last h'.2
        simp only [Nat.add_sub_cancel] at e hab
        rw [rf_bump h h'.1 h'.2, e, bump_snoc] at hp
        rw [e] at ih
        rcases List.prefix_concat_iff.1 hp with h1 | h1
        · have h2 := List.append_inj' h1 rfl
          simp at h2
          obtain ⟨rfl, rfl, rfl⟩ := h2
          by_cases hj' : j < b'
          · have := ih (List.prefix_refl _) j hj'
            exact ⟨by omega, this.2⟩
          · have hjb : a + j = k + 1 := by omega
            have hs := rf_sum f (k + 1)
            rw [e, runSum_snoc] at hs
            refine ⟨by omega, by rw [hjb]; exact h, ?_⟩
            rw [hjb, ← hs]; omega
        · have := ih (h1.trans (List.prefix_append _ _)) j hj
          exact ⟨by omega, this.2⟩
      · have h'' : n = 0 ∨ f (n - 1) = false := by
          by_cases h0 : n = 0
          · exact .inl h0
          · right; cases e : f (n - 1)
            · rfl
            · exact absurd ⟨by omega, e⟩ h'
        rw [rf_new h h''] at hp
        rcases List.prefix_concat_iff.1 hp with h1 | h1
        · have h2 := List.append_inj' h1 rfl
          simp at h2
          obtain ⟨rfl, rfl, rfl⟩ := h2
          have hj0 : j = 0 := by omega
          subst hj0
          exact ⟨by omega, by simpa using h, by simpa using (rf_sum f a).symm⟩
        · have := ih h1 j hj
          exact ⟨by omega, this.2⟩
/-- the cells of runs -/
def runCells (l : List (Nat × Nat)) : List Value := l.flatMap fun r => [.int .i64 r.1, .int .i64 r.2]
theorem runCells_snoc (l : List (Nat × Nat)) (r : Nat × Nat) : runCells (l ++ [r]) = runCells l ++ [.int .i64 r.1, .int .i64 r.2] := by simp [runCells]
theorem runCells_length (l : List (Nat × Nat)) : (runCells l).length = l.length * 2 := by
  induction l with
  | nil => rfl
  | cons a l ih => simp [runCells] at ih ⊢; omega
theorem runCells_get (l : List (Nat × Nat)) (i : Nat) (h : i < l.length) : (runCells l)[2 * i]? = some (.int .i64 (l.getD i (0, 0)).1) ∧ (runCells l)[2 * i + 1]? = some (.int .i64 (l.getD i (0, 0)).2) := by
  induction l generalizing i with
  | nil => simp at h
  | cons a l ih =>
    cases i with
    | zero => simp [runCells]
    | succ i =>
      have := ih i (by simpa using h)
      simp only [runCells, List.flatMap_cons] at this ⊢
      rw [show 2 * (i + 1) = 2 * i + 2 by omega, show 2 * i + 2 + 1 = 2 * i + 1 + 2 by omega]
      simpa using this
theorem runCells_bump (l : List (Nat × Nat)) (h : l ≠ []) : runCells (bump l) = (runCells l).set (2 * (l.length - 1) + 1) (.int .i64 (((l.getD (l.length - 1) (0, 0)).2 + 1 : Nat) : Int)) := by
  obtain ⟨x, y, rfl⟩ : ∃ x y, l = x ++ [y] := ⟨l.dropLast, l.getLast h, (List.dropLast_concat_getLast h).symm⟩
  obtain ⟨a, b⟩ := y
  have hl := runCells_length x
  rw [bump_snoc, runCells_snoc, runCells_snoc, List.set_append_right _ _ (by simp; omega)]
  simp only [List.length_append, List.length_cons, List.length_nil, Nat.add_sub_cancel, hl]
  rw [show 2 * x.length + 1 - x.length * 2 = 1 by omega]
  simp
end Go.Proofs.YteppfammimbmcaaDoor.Kit
