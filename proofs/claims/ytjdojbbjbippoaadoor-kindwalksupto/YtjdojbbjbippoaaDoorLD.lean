import Derived.Test.YtjdojbbjbippoaaDoorDA
namespace Go.Proofs.YtjdojbbjbippoaaDoor.Kit

/-! ### the fields in their order, no deeper than 65 and not many more than 256: as the document lays them -/
/-- children of a field, if its way is no longer than 64 -/
def nodesC : Nat → List FT → List Nat → Bool → List LS
  | 0, _, _, _ => []
  | d + 1, l, path, inD => (List.range l.length).flatMap fun i => ⟨l, path ++ [i], inD⟩ :: (if path.length + 1 ≤ 64 then nodesC d (l[i]!).kids (path ++ [i]) (inD || decide ((l[i]!).kind = 19)) else [])
def uptoC (d : Nat) (l : List FT) (path : List Nat) (inD : Bool) (i : Nat) : List LS :=
  (List.range i).flatMap fun i => ⟨l, path ++ [i], inD⟩ :: (if path.length + 1 ≤ 64 then nodesC d (l[i]!).kids (path ++ [i]) (inD || decide ((l[i]!).kind = 19)) else [])
theorem nodesC_succ (d : Nat) (l : List FT) (path : List Nat) (inD : Bool) : nodesC (d + 1) l path inD = uptoC d l path inD l.length := rfl
theorem uptoC_zero (d : Nat) (l : List FT) (path : List Nat) (inD : Bool) : uptoC d l path inD 0 = [] := rfl
theorem uptoC_succ (d : Nat) (l : List FT) (path : List Nat) (inD : Bool) (i : Nat) :
    uptoC d l path inD (i + 1) = uptoC d l path inD i ++ ⟨l, path ++ [i], inD⟩ :: (if path.length + 1 ≤ 64 then nodesC d (l[i]!).kids (path ++ [i]) (inD || decide ((l[i]!).kind = 19)) else []) := by
  simp [uptoC, List.range_succ, List.flatMap_append]
theorem uptoC_prefix (d : Nat) (l : List FT) (path : List Nat) (inD : Bool) {i j : Nat} (h : i ≤ j) : uptoC d l path inD i <+: uptoC d l path inD j := by
  induction j with
  | zero => obtain rfl : i = 0 := by omega
            exact List.prefix_rfl
  | succ j ih =>
    by_cases e : i = j + 1
    · subst e; exact List.prefix_rfl
    · exact (ih (by omega)).trans (by rw [uptoC_succ]; exact List.prefix_append _ _)

/-- what the document's list is, when others lie ahead of it -/
def grown (out new : List LS) : List LS := (out ++ new).take 257
/-- full: nothing more joins -/
theorem grown_full {out new more : List LS} (h : 256 < (grown out new).length) (hp : new <+: more) : grown out more = grown out new := by
  obtain ⟨t, rfl⟩ := hp
  simp only [grown, List.length_take] at h
  simp only [grown, ← List.append_assoc]
  exact List.take_append_of_le_length (by omega)
/-- not full: all that was new has joined -/
theorem grown_room {out new : List LS} (h : (grown out new).length ≤ 256) : grown out new = out ++ new := by
  simp only [grown, List.length_take] at h
  exact List.take_of_length_le (by omega)
theorem grown_le (out new : List LS) : (grown out new).length ≤ 257 := by simp [grown]; omega
/-- one joins, then those within it -/
theorem grown_step {out new : List LS} (h : (grown out new).length ≤ 256) (x : LS) (kids : List LS) : grown (grown out new ++ [x]) kids = grown out (new ++ x :: kids) := by
  rw [grown_room h]
  simp [grown]
theorem grown_one {out new : List LS} (h : (grown out new).length ≤ 256) (x : LS) : grown out (new ++ [x]) = grown out new ++ [x] := by
  have e := grown_room h
  rw [e]
  rw [e] at h
  simp only [grown, ← List.append_assoc]
  exact List.take_of_length_le (by simp at h ⊢; omega)

/-- up to the first field whose way is too long, both lists are the same -/
theorem cut_same : ∀ (d : Nat) (l : List FT) (path : List Nat) (inD : Bool) (k : Nat), (∀ x ∈ (nodes d l path inD).take k, x.path.length ≤ 64) →
    (nodes d l path inD).take (k + 1) = (nodesC d l path inD).take (k + 1) ∧ ((∀ x ∈ nodes d l path inD, x.path.length ≤ 64) → nodesC d l path inD = nodes d l path inD)
  | 0, _, _, _, _, _ => ⟨rfl, fun _ => rfl⟩
  | d + 1, l, path, inD, k, h => by
    rw [nodes_succ, nodesC_succ]
    rw [nodes_succ] at h
    by_cases hp : path.length + 1 ≤ 64
    · -- the way is short enough here: by the fields within
      have key : ∀ n k, (∀ x ∈ (upto d l path inD n).take k, x.path.length ≤ 64) → (upto d l path inD n).take (k + 1) = (uptoC d l path inD n).take (k + 1) ∧ ((∀ x ∈ upto d l path inD n, x.path.length ≤ 64) → uptoC d l path inD n = upto d l path inD n) := by
        intro n
        induction n with
        | zero => exact fun _ _ => ⟨rfl, fun _ => rfl⟩
        | succ n ih =>
          intro k hk
          have hwhole : (∀ x ∈ upto d l path inD (n + 1), x.path.length ≤ 64) → uptoC d l path inD (n + 1) = upto d l path inD (n + 1) := by
            intro hall
            rw [upto_succ] at hall ⊢
            rw [uptoC_succ, if_pos hp, (ih 0 (by simp)).2 (fun x hx => hall x (List.mem_append_left _ hx)),
              (cut_same d (l[n]!).kids (path ++ [n]) _ 0 (by simp)).2 (fun x hx => hall x (List.mem_append_right _ (List.mem_cons_of_mem _ hx)))]
          refine ⟨?_, hwhole⟩
          rw [upto_succ] at hk ⊢
          rw [uptoC_succ, if_pos hp]
          by_cases hlt : k < (upto d l path inD n).length
          · have h1 := (ih k (fun x hx => hk x (by rw [List.take_append_of_le_length (by omega)]; exact hx))).1
            have hlen : k + 1 ≤ (uptoC d l path inD n).length := by
              have := congrArg List.length h1
              simp only [List.length_take] at this
              omega
            rw [List.take_append_of_le_length (by omega), List.take_append_of_le_length hlen, h1]
          · have hall : ∀ x ∈ upto d l path inD n, x.path.length ≤ 64 := fun x hx => hk x (by
              rw [List.take_append]
              exact List.mem_append_left _ (by rw [List.take_of_length_le (by omega)]; exact hx))
            rw [(ih 0 (by simp)).2 hall, List.take_append, List.take_append]
            congr 1
            obtain ⟨m, hm⟩ : ∃ m, k = (upto d l path inD n).length + m := ⟨k - (upto d l path inD n).length, by omega⟩
            have e1 : k + 1 - (upto d l path inD n).length = m + 1 := by omega
            rw [e1, List.take_succ_cons, List.take_succ_cons]
            congr 1
            cases m with
            | zero => simp
            | succ m =>
              refine (cut_same d (l[n]!).kids (path ++ [n]) _ m fun x hx => hk x ?_).1
              rw [List.take_append]
              refine List.mem_append_right _ ?_
              rw [show k - (upto d l path inD n).length = m + 1 by omega, List.take_succ_cons]
              exact List.mem_cons_of_mem _ hx
      exact key l.length k h
    · -- the way is too long already: the first is too deep
      cases l with
      | nil => exact ⟨rfl, fun _ => rfl⟩
      | cons f l =>
        obtain ⟨t, ht⟩ : ∃ t, upto d (f :: l) path inD (f :: l).length = ⟨f :: l, path ++ [0], inD⟩ :: t := by
          have := upto_prefix d (f :: l) path inD (i := 1) (j := (f :: l).length) (by simp)
          rw [upto_succ, upto_zero] at this
          obtain ⟨t, ht⟩ := this
          exact ⟨_, ht.symm⟩
        obtain ⟨t', ht'⟩ : ∃ t, uptoC d (f :: l) path inD (f :: l).length = ⟨f :: l, path ++ [0], inD⟩ :: t := by
          have := uptoC_prefix d (f :: l) path inD (i := 1) (j := (f :: l).length) (by simp)
          rw [uptoC_succ, uptoC_zero] at this
          obtain ⟨t, ht⟩ := this
          exact ⟨_, ht.symm⟩
        rw [ht] at h ⊢
        rw [ht']
        cases k with
        | zero => exact ⟨by simp, fun hall => absurd (hall _ (List.mem_cons_self ..)) (by simp; omega)⟩
        | succ k => exact absurd (h _ (by rw [List.take_succ_cons]; exact List.mem_cons_self ..)) (by simp; omega)
end Go.Proofs.YtjdojbbjbippoaaDoor.Kit
