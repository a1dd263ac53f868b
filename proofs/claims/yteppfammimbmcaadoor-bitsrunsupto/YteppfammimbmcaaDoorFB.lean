import Derived.Test.YteppfammimbmcaaDoorY
import Derived.Test.YteppfammimbmcaaDoorFA
namespace Go.Proofs.YteppfammimbmcaaDoor.Kit
open Go.RowKit Go.Shelf Go.Deep
set_option linter.unusedVariables false

attribute [local go_sem] Oper.semAt_some

/-- runs are not empty, and stand apart -/
theorem rf_sep {f : Nat → Bool} : ∀ {n : Nat} {pre : List (Nat × Nat)} {a b : Nat}, pre ++ [(a, b)] <+: rf f n → 1 ≤ b ∧ a + b ≤ n ∧ ∀ pre' c d, pre = pre' ++ [(c, d)] → c + d < a := by
  intro n
  induction n with
  | zero => intro pre a b h; simp [rf] at h
  | succ n ih =>
    intro pre a b hp
    cases h : f n
    · rw [rf_no h] at hp
      have := ih hp
      exact ⟨this.1, by omega, this.2.2⟩
    · by_cases h' : 0 < n ∧ f (n - 1) = true
      · obtain ⟨k, rfl⟩ : ∃ k, n = k + 1 := ⟨n - 1, by omega⟩
        obtain ⟨l, a', b', e, hab⟩ := rf_last h'.2
        simp only [Nat.add_sub_cancel] at e hab
        rw [rf_bump h h'.1 h'.2, e, bump_snoc] at hp
        rw [e] at ih
        rcases List.prefix_concat_iff.1 hp with h1 | h1
        · have h2 := List.append_inj' h1 rfl
          simp at h2
          obtain ⟨rfl, rfl, rfl⟩ := h2
          have := ih (List.prefix_refl _)
          exact ⟨by omega, by omega, this.2.2⟩
        · have := ih (h1.trans (List.prefix_append _ _))
          exact ⟨this.1, by omega, this.2.2⟩
      · have h'' : n = 0 ∨ f (n - 1) = false := by
          by_cases h0 : n = 0
          · exact .inl h0
          · right; cases e : f (n - 1)
            · rfl
            · exact absurd ⟨by omega, e⟩ h'
        rw [rf_new h h''] at hp
        rcases List.prefix_concat_iff.1 hp with h1 | h1
        · have h2 := List.append_inj' h1 rfl
          simp at h2
          obtain ⟨rfl, rfl, rfl⟩ := h2
          refine ⟨Nat.le_refl _, Nat.le_refl _, fun pre' c d e => ?_⟩
          have hb := rf_bound (f := f) (n := a) (c, d) (by rw [e]; simp)
          simp at hb
          by_cases hc : c + d = a
          · exfalso
            have h3 := rf_place (f := f) (n := a) (pre := pre') (a := c) (b := d) (by rw [e]; exact List.prefix_refl _)
            have h4 := ih (pre := pre') (a := c) (b := d) (by rw [e]; exact List.prefix_refl _)
            have h5 := (h3 (d - 1) (by omega)).2.1
            rcases h'' with h6 | h6
            · omega
            · rw [show c + (d - 1) = a - 1 by omega, h6] at h5
              exact absurd h5 (by decide)
          · omega
        · have := ih h1
          exact ⟨this.1, by omega, this.2.2⟩
theorem cn_zero {f : Nat → Bool} {i j : Nat} (h : cn f i = 0) (hj : j < i) : f j = false := by
  cases e : f j
  · rfl
  · have := cn_lt f hj e; omega
theorem next_first {f : Nat → Bool} {i m : Nat} (hi : i < m) (hf : f i = true) (h0 : cn f i = 0) : nextOf f true m = i := by
  have := fnd_eq (g := f) (m := m) (a := 0) (Nat.zero_le _) hi hf fun j _ hj => cn_zero h0 hj
  unfold nextOf
  rw [this, if_neg (by omega)]
theorem next_none {f : Nat → Bool} {m : Nat} (h0 : cn f m = 0) : nextOf f true m = -1 := by
  have := fnd_none (g := f) (m := m) (a := 0) (Nat.zero_le _) fun j _ hj => cn_zero h0 hj
  unfold nextOf
  rw [if_pos this]
def lastM (l : List (Nat × Nat)) : Int := match l.getLast? with
  | none => -1
  | some x => ((min x.1 1000000000 + min x.2 1000000000 : Nat) : Int)
theorem lastM_snoc (l : List (Nat × Nat)) (x : Nat × Nat) : lastM (l ++ [x]) = ((min x.1 1000000000 + min x.2 1000000000 : Nat) : Int) := by simp [lastM]
theorem lastM_bd (l : List (Nat × Nat)) : -1 ≤ lastM l ∧ lastM l ≤ 2000000000 := by
  unfold lastM
  split <;> omega
/-- what a run that is one passes -/
theorem run_ok {f : Nat → Bool} {m : Nat} (hm : m ≤ 100000000) {pre : List (Nat × Nat)} {x : Nat × Nat} (hp : pre ++ [x] <+: rf f m) :
    lastM pre < (min x.1 1000000000 : Nat) ∧ 1 ≤ min x.2 1000000000 ∧ min x.1 1000000000 + min x.2 1000000000 ≤ m ∧ ∀ i, min x.1 1000000000 ≤ i → i < min x.1 1000000000 + min x.2 1000000000 → f i = true := by
  obtain ⟨a, b⟩ := x
  obtain ⟨h1, h2, h3⟩ := rf_sep hp
  have hpl := rf_place hp
  simp only
  rw [show min a 1000000000 = a by omega, show min b 1000000000 = b by omega]
  refine ⟨?_, h1, h2, fun i hi1 hi2 => by have := (hpl (i - a) (by omega)).2.1; rwa [show a + (i - a) = i by omega] at this⟩
  by_cases hpre : pre = []
  · subst hpre; simp [lastM]; omega
  · obtain ⟨p', y, e⟩ : ∃ p' y, pre = p' ++ [y] := ⟨pre.dropLast, pre.getLast hpre, (List.dropLast_concat_getLast hpre).symm⟩
    obtain ⟨c, d⟩ := y
    have h4 := h3 p' c d e
    rw [e, lastM_snoc]
    have h5 := rf_bound (f := f) (n := m) (c, d) (hp.subset (by rw [e]; simp))
    simp at h5
    simp only
    omega
end Go.Proofs.YteppfammimbmcaaDoor.Kit
