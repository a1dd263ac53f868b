import Derived.Test.YtdihbfjjddmbiaaGreatDoorXG
namespace Go.Proofs.YtdihbfjjddmbiaaGreatDoor.Kit
open Go.RowKit Go.Shelf Go.Deep
set_option linter.unusedVariables false
structure Rel {α : Type} (x : DS → α × DS) (r : Rd α) : Prop where
  ok : ∀ s v s', s.e = 0 → r (s.a, s.g) = .ok (v, s') → x s = (v, { s with a := s'.1, g := s'.2 })
  er : ∀ s e, s.e = 0 → r (s.a, s.g) = .error e → (x s).2.e = e.1 ∧ (x s).2.f = e.2 ∧ e.1 ≠ 0
  bad : ∀ s, s.e ≠ 0 → (x s).2.e = s.e ∧ (x s).2.f = s.f
theorem Rel.bind {α β : Type} {x : DS → α × DS} {r : Rd α} {y : α → DS → β × DS} {f : α → Rd β} (h : Rel x r) (hy : ∀ v, Rel (y v) (f v)) : Rel (fun s => y (x s).1 (x s).2) (r.bind f) := by
  refine ⟨fun s v s' he hr => ?_, fun s e he hr => ?_, fun s he => ?_⟩
  · cases hq : r (s.a, s.g) with
    | error e => rw [Rd.bind_err hq] at hr; cases hr
    | ok q =>
      obtain ⟨u, t⟩ := q
      rw [Rd.bind_ok hq] at hr
      have h1 := h.ok s u t he hq
      show y (x s).1 (x s).2 = _
      rw [h1]
      exact (hy u).ok { s with a := t.1, g := t.2 } v s' he hr
  · cases hq : r (s.a, s.g) with
    | error e' =>
      rw [Rd.bind_err hq] at hr
      cases hr
      obtain ⟨h1, h2, h3⟩ := h.er s _ he hq
      obtain ⟨h4, h5⟩ := (hy (x s).1).bad (x s).2 (by rw [h1]; exact h3)
      exact ⟨h4.trans h1, h5.trans h2, h3⟩
    | ok q =>
      obtain ⟨u, t⟩ := q
      rw [Rd.bind_ok hq] at hr
      have h1 := h.ok s u t he hq
      show (y (x s).1 (x s).2).2.e = _ ∧ (y (x s).1 (x s).2).2.f = _ ∧ _
      rw [h1]
      exact (hy u).er { s with a := t.1, g := t.2 } e he hr
  obtain ⟨h1, h2⟩ := h.bad s he
  obtain ⟨h3, h4⟩ := (hy (x s).1).bad (x s).2 (by rw [h1]; exact he)
  exact ⟨h3.trans h1, h4.trans h2⟩
theorem Rel.pure {α : Type} (v : α) : Rel (fun s => (v, s)) (Rd.pure v) := by
  refine ⟨fun s v' s' he hr => ?_, fun s e he hr => (by cases hr), fun s he => ⟨rfl, rfl⟩⟩
  unfold Rd.pure at hr
  cases hr
  rfl
theorem rel_num (B : List UInt8) (k : Nat) : Rel (numX B k) (numR B k) := by
  refine ⟨fun s v s' he hr => ?_, fun s e he hr => ?_, fun s he => by rw [numX_bad he]; exact ⟨rfl, rfl⟩⟩
  · unfold numR at hr
    dsimp only at hr
    by_cases c : s.a + k ≤ B.length
    · rw [if_pos c] at hr
      cases hr
      unfold numX takeX
      rw [if_neg (by simp [he]), if_neg (by omega)]
    rw [if_neg c] at hr; cases hr
  unfold numR at hr
  dsimp only at hr
  by_cases c : s.a + k ≤ B.length
  · rw [if_pos c] at hr; cases hr
  rw [if_neg c] at hr
  cases hr
  unfold numX takeX
  rw [if_neg (by simp [he]), if_pos (by omega)]
  exact ⟨rfl, rfl, fun h => by cases h⟩
theorem rel_bytes (B : List UInt8) (n : Nat) : Rel (fun s => ((⟨(takeX B n s).1.toArray⟩ : ByteArray), (takeX B n s).2)) (bytesR B n) := by
  refine ⟨fun s v s' he hr => ?_, fun s e he hr => ?_, fun s he => by unfold takeX; rw [if_pos he]; exact ⟨rfl, rfl⟩⟩
  · unfold bytesR at hr
    dsimp only at hr
    by_cases c : s.a + n ≤ B.length
    · rw [if_pos c] at hr
      cases hr
      unfold takeX
      rw [if_neg (by simp [he]), if_neg (by omega)]
    rw [if_neg c] at hr; cases hr
  unfold bytesR at hr
  dsimp only at hr
  by_cases c : s.a + n ≤ B.length
  · rw [if_pos c] at hr; cases hr
  rw [if_neg c] at hr
  cases hr
  unfold takeX
  rw [if_neg (by simp [he]), if_pos (by omega)]
  exact ⟨rfl, rfl, fun h => by cases h⟩
theorem rel_text (B : List UInt8) (k : Nat) : Rel (textX B k) (textR B k) := (rel_num B k).bind (rel_bytes B)
theorem rel_within (B : List UInt8) (lo hi : Nat) : Rel (withX B lo hi) (amongR B lo hi) := by
  have key : ∀ s, amongR B lo hi s = (numR B 1).bind (fun n s' => if n < lo ∨ hi < n then .error (8, s.1) else .ok (n, s')) s := fun s => rfl
  refine ⟨fun s v s' he hr => ?_, fun s e he hr => ?_, fun s he => ?_⟩
  · rw [key] at hr
    cases hq : numR B 1 (s.a, s.g) with
    | error e => rw [Rd.bind_err hq] at hr; cases hr
    | ok q =>
      obtain ⟨u, t⟩ := q
      rw [Rd.bind_ok hq] at hr
      have h1 := (rel_num B 1).ok s u t he hq
      by_cases c : u < lo ∨ hi < u
      · rw [if_pos c] at hr; cases hr
      rw [if_neg c] at hr
      cases hr
      unfold withX
      rw [h1, if_neg (fun h => c h.2)]
  · rw [key] at hr
    cases hq : numR B 1 (s.a, s.g) with
    | error e' =>
      rw [Rd.bind_err hq] at hr
      cases hr
      obtain ⟨h1, h2, h3⟩ := (rel_num B 1).er s _ he hq
      unfold withX
      rw [if_neg (fun h => h3 (h1.symm.trans h.1))]
      exact ⟨h1, h2, h3⟩
    | ok q =>
      obtain ⟨u, t⟩ := q
      rw [Rd.bind_ok hq] at hr
      have h1 := (rel_num B 1).ok s u t he hq
      by_cases c : u < lo ∨ hi < u
      · rw [if_pos c] at hr
        cases hr
        unfold withX
        rw [h1, if_pos ⟨he, c⟩]
        exact ⟨rfl, rfl, fun h => by cases h⟩
      rw [if_neg c] at hr; cases hr
  unfold withX
  rw [numX_bad he, if_neg (fun h => he h.1)]
  exact ⟨rfl, rfl⟩
theorem rel_node (B : List UInt8) : Rel (nodeX B) (nodeR B) := (rel_num B 4).bind fun x => (rel_num B 4).bind fun y => Rel.pure ((x : Int), (y : Int))
theorem rel_slot (B : List UInt8) : Rel (slotX B) (slotR B) := (rel_num B 4).bind fun x => (rel_num B 4).bind fun y => (rel_num B 4).bind fun z => Rel.pure ((x : Int), (y : Int), (z : Int))
theorem rel_note (B : List UInt8) : Rel (noteX B) (noteR B) := (rel_text B 2).bind fun x => (rel_text B 2).bind fun y => Rel.pure (x, y)
theorem rel_sevK {α : Type} {x : DS → α × DS} {r : Rd α} (h : Rel x r) : ∀ (n : Nat) (acc : List α), Rel (sevX x n acc) (sevK r n acc)
  | 0, acc => Rel.pure acc
  | n + 1, acc => by
    have ih := (h.bind (y := fun v => sevX x n (acc ++ [v])) fun v => rel_sevK h n (acc ++ [v]))
    refine ⟨fun s v s' he hr => ?_, fun s e he hr => ?_, fun s he => by rw [sevX, if_pos he]; exact ⟨rfl, rfl⟩⟩
    · rw [sevX, if_neg (by simp [he])]
      exact ih.ok s v s' he hr
    rw [sevX, if_neg (by simp [he])]
    exact ih.er s e he hr
theorem rel_sev {α : Type} {x : DS → α × DS} {r : Rd α} (h : Rel x r) (n : Nat) : Rel (sevX x n []) (sevR n r) := rel_sevK h n []
theorem rel_ext (B : List UInt8) (k : Nat) : Rel (extX B k) (extR B k) := by
  unfold extX extR
  by_cases c1 : k = 14
  · simp only [if_pos c1]
    exact (rel_num B 2).bind fun x => Rel.pure (x, 0, 0, 0)
  simp only [if_neg c1]
  by_cases c2 : k = 16
  · simp only [if_pos c2]
    exact (rel_num B 2).bind fun x => Rel.pure (x, 0, 0, 1)
  simp only [if_neg c2]
  by_cases c3 : k = 19
  · simp only [if_pos c3]
    exact (rel_num B 2).bind fun x => (rel_num B 1).bind fun y => Rel.pure (0, x, y, 1)
  simp only [if_neg c3]
  by_cases c4 : k = 17 ∨ k = 18
  · simp only [if_pos c4, if_neg (show ¬ (k = 15 ∨ k = 20) by omega)]
    exact (rel_num B 1).bind fun x => Rel.pure (0, 0, 0, x)
  simp only [if_neg c4]
  by_cases c5 : k = 15 ∨ k = 20
  · simp only [if_pos c5]
    exact Rel.pure _
  simp only [if_neg c5]
  exact Rel.pure _
theorem rel_fld (B : List UInt8) {x : DS → FT × DS} {r : Rd FT} (h : Rel x r) : Rel (fldX B x) ((textR B 1).bind fun nm => (flagR B).bind fun nu => (typR B r).bind fun t => Rd.pure (.mk nm nu t.kind t.width t.id t.index t.kids)) := by
  have hf : Rel (fun s => ((withX B 0 1 s).1 == 1, (withX B 0 1 s).2)) (flagR B) := (rel_within B 0 1).bind fun n => Rel.pure (n == 1)
  have ht : Rel (fun s => ((⟨(withX B 1 20 s).1, (extX B (withX B 1 20 s).1 (withX B 1 20 s).2).1.1, (extX B (withX B 1 20 s).1 (withX B 1 20 s).2).1.2.1, (extX B (withX B 1 20 s).1 (withX B 1 20 s).2).1.2.2.1, (sevX x (extX B (withX B 1 20 s).1 (withX B 1 20 s).2).1.2.2.2 [] (extX B (withX B 1 20 s).1 (withX B 1 20 s).2).2).1⟩ : TD), (sevX x (extX B (withX B 1 20 s).1 (withX B 1 20 s).2).1.2.2.2 [] (extX B (withX B 1 20 s).1 (withX B 1 20 s).2).2).2)) (typR B r) :=
    (rel_within B 1 20).bind fun k => (rel_ext B k).bind fun e => (rel_sev h e.2.2.2).bind fun l => Rel.pure (TD.mk k e.1 e.2.1 e.2.2.1 l)
  exact (rel_text B 1).bind fun nm => hf.bind fun nu => ht.bind fun t => Rel.pure (FT.mk nm nu t.kind t.width t.id t.index t.kids)
theorem rel_field (B : List UInt8) : ∀ d, Rel (fieldX B d) (fieldR B d)
  | 0 => by
    refine ⟨fun s v s' he hr => (by rw [fieldR] at hr; cases hr), fun s e he hr => ?_, fun s he => (by rw [fieldX, if_pos he]; exact ⟨rfl, rfl⟩)⟩
    rw [fieldR] at hr
    cases hr
    rw [fieldX, if_neg (by simp [he])]
    exact ⟨rfl, rfl, fun h => by cases h⟩
  | d + 1 => by
    have ih := rel_fld B (rel_field B d)
    refine ⟨fun s v s' he hr => ?_, fun s e he hr => ?_, fun s he => by rw [fieldX, if_pos he]; exact ⟨rfl, rfl⟩⟩
    · rw [fieldR] at hr
      dsimp only at hr
      by_cases c : s.g = 256
      · rw [if_pos c] at hr; cases hr
      rw [if_neg c] at hr
      rw [fieldX, if_neg (by simp [he]), if_neg c]
      exact ih.ok { s with g := s.g + 1 } v s' he hr
    rw [fieldR] at hr
    dsimp only at hr
    by_cases c : s.g = 256
    · rw [if_pos c] at hr
      cases hr
      rw [fieldX, if_neg (by simp [he]), if_pos c]
      exact ⟨rfl, rfl, fun h => by cases h⟩
    rw [if_neg c] at hr
    rw [fieldX, if_neg (by simp [he]), if_neg c]
    exact ih.er { s with g := s.g + 1 } e he hr
theorem rel_sch (B : List UInt8) : Rel (schX B) (schR B) :=
  (rel_num B 2).bind fun n => (rel_sev (rel_field B 64) n).bind fun fs => (rel_num B 2).bind fun m => (rel_sev (rel_note B) m).bind fun ns => Rel.pure (fs, ns)
def bodH (k id : Nat) (dl : Bool) (x : Nat × Nat × List (Int × Int) × List (Int × Int × Int)) : HD := ⟨k, [], [], id, dl, x.1, x.2.1, x.2.2.1, x.2.2.2⟩
theorem rel_body (B : List UInt8) (k id : Nat) (dl : Bool) : Rel (fun s => (bodH k id dl (bodX B s).1, (bodX B s).2)) (bodyR B k id dl) :=
  (rel_num B 4).bind fun rows => (rel_num B 1).bind fun pr => (rel_num B 2).bind fun n => (rel_sev (rel_node B) n).bind fun nds => (rel_num B 2).bind fun m => (rel_sev (rel_slot B) m).bind fun sls => Rel.pure (HD.mk k [] [] id dl rows pr nds sls)
def restX (B : List UInt8) (k : Nat) (s : DS) : HD × DS :=
  if k = 1 then (⟨k, (schX B s).1.1, (schX B s).1.2, 0, false, 0, 0, [], []⟩, (schX B s).2)
  else if k = 2 then (bodH k (numX B 2 s).1 ((withX B 0 1 (numX B 2 s).2).1 == 1) (bodX B (withX B 0 1 (numX B 2 s).2).2).1, (bodX B (withX B 0 1 (numX B 2 s).2).2).2)
  else (bodH k 0 false (bodX B s).1, (bodX B s).2)
theorem rel_rest (B : List UInt8) (k : Nat) : Rel (restX B k) (if k = 1 then (schR B).bind fun p => Rd.pure ⟨k, p.1, p.2, 0, false, 0, 0, [], []⟩ else if k = 2 then (numR B 2).bind fun i => (flagR B).bind fun d => bodyR B k i d else bodyR B k 0 false) := by
  unfold restX
  by_cases c1 : k = 1
  · simp only [if_pos c1]
    exact (rel_sch B).bind fun p => Rel.pure (HD.mk k p.1 p.2 0 false 0 0 [] [])
  simp only [if_neg c1]
  by_cases c2 : k = 2
  · simp only [if_pos c2]
    have hf : Rel (fun s => ((withX B 0 1 s).1 == 1, (withX B 0 1 s).2)) (flagR B) := (rel_within B 0 1).bind fun n => Rel.pure (n == 1)
    exact (rel_num B 2).bind fun i => hf.bind fun d => rel_body B k i d
  simp only [if_neg c2]
  exact rel_body B k 0 false
def headX (B : List UInt8) (s : DS) : HD × DS :=
  restX B (withX B 1 3 s).1 (withX B 0 0 (withX B 0 0 (withX B 1 1 (withX B 1 3 s).2).2).2).2
theorem rel_head (B : List UInt8) : Rel (headX B) (headR B) :=
  (rel_within B 1 3).bind fun k => (rel_within B 1 1).bind fun _ => (rel_within B 0 0).bind fun _ => (rel_within B 0 0).bind fun _ => rel_rest B k
theorem head_good {B : List UInt8} {x : HD} {t : DS} (h : headX B ⟨0, 0, 0, 0⟩ = (x, t)) (he : t.e = 0) : headR B (0, 0) = .ok (x, (t.a, t.g)) := by
  cases hr : headR B (0, 0) with
  | error er =>
    obtain ⟨h1, h2, h3⟩ := (rel_head B).er ⟨0, 0, 0, 0⟩ er rfl hr
    rw [h] at h1
    exact absurd (h1.symm.trans he) h3
  | ok q =>
    obtain ⟨v, s'⟩ := q
    have h1 := (rel_head B).ok ⟨0, 0, 0, 0⟩ v s' rfl hr
    rw [h] at h1
    cases h1
    rfl
theorem head_bad {B : List UInt8} {x : HD} {t : DS} (h : headX B ⟨0, 0, 0, 0⟩ = (x, t)) (he : t.e ≠ 0) : headR B (0, 0) = .error (t.e, t.f) := by
  cases hr : headR B (0, 0) with
  | error er =>
    obtain ⟨h1, h2, h3⟩ := (rel_head B).er ⟨0, 0, 0, 0⟩ er rfl hr
    rw [h] at h1 h2
    dsimp only at h1 h2
    rw [h1, h2]
  | ok q =>
    obtain ⟨v, s'⟩ := q
    have h1 := (rel_head B).ok ⟨0, 0, 0, 0⟩ v s' rfl hr
    rw [h] at h1
    cases h1
    exact absurd rfl he
theorem with_out {B : List UInt8} {lo hi : Nat} {s : DS} (h : ¬ (lo ≤ (withX B lo hi s).1 ∧ (withX B lo hi s).1 ≤ hi)) : (withX B lo hi s).2.e ≠ 0 := by
  unfold withX at h ⊢
  split
  · exact fun h => by cases h
  rename_i hc
  rw [if_neg hc] at h
  intro he
  exact hc ⟨he, by omega⟩
end Go.Proofs.YtdihbfjjddmbiaaGreatDoor.Kit
