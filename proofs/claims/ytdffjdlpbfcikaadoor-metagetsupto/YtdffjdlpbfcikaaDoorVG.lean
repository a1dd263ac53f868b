import Derived.Test.YtdffjdlpbfcikaaDoorVF
namespace Go.Proofs.YtdffjdlpbfcikaaDoor.Kit
open Go.RowKit Go.Shelf Go.Deep
set_option linter.unusedVariables false

/-! ### the document's way and the program's say the same of schemas -/
theorem sEq_comm (a b : ByteArray) : sEq a b = sEq b a := by unfold sEq; exact Bool.beq_comm
theorem sEq_refl (a : ByteArray) : sEq a a = true := by unfold sEq; simp
theorem idx_of_unl {l : List FT} (h : unl l) {i : Nat} (hi : i < l.length) : idxOf l l[i].name = i := by
  refine idxOf_some hi (fun j hj hlt => ?_) (sEq_refl _)
  rw [sEq_comm]
  exact h i hi j hj hlt
theorem unl_of_idx {l : List FT} (h : ∀ i (hi : i < l.length), idxOf l l[i].name = i) : unl l := fun i hi j hj hlt => by
  cases hc : sEq l[i].name l[j].name with
  | false => rfl
  | true =>
    exfalso
    have h1 := h i hi
    unfold idxOf at h1
    have hle : l.findIdx (fun f => sEq f.name l[i].name) ≤ j := by
      rcases Nat.lt_or_ge j (l.findIdx (fun f => sEq f.name l[i].name)) with hlt' | hge
      · have := List.not_of_lt_findIdx hlt'
        rw [sEq_comm] at hc
        simp [hc] at this
      · exact hge
    rw [if_pos (by omega)] at h1
    omega
/-- what is known agrees with the fields that were gone through -/
def Mt (P : List LS) (st : Nat × List Int) : Prop := st.1 = P.length ∧ ∀ id : Int, id ∈ st.2 ↔ ∃ s ∈ P, s.fld.kind = 19 ∧ s.fld.id = id
theorem AllR.tab {P : List LS} (h : AllR P) {s : LS} (hs : s ∈ P) : tableB s.fld = true := by
  obtain ⟨k, hk, rfl⟩ := List.mem_iff_getElem.1 hs
  have := h k hk
  unfold wrongE wr at this
  split at this
  · omega
  split at this
  · omega
  split at this
  · omega
  split at this
  · omega
  split at this
  · omega
  rename_i a5
  simpa using a5
theorem tk_iff {P : List LS} {st : Nat × List Int} (hP : AllR P) (hm : Mt P st) {f : FT} (hf : f.kind = 19 → 0 ≤ f.id) (hk : f.kind = 19) : tkL P f.id.toNat = true ↔ f.id ∈ st.2 := by
  rw [hm.2]
  unfold tkL
  rw [List.any_eq_true]
  constructor
  · rintro ⟨s, hs, h⟩
    simp only [Bool.and_eq_true, decide_eq_true_eq] at h
    refine ⟨s, hs, h.1, ?_⟩
    have h0 := ((tab_kids (hP.tab hs)).1 h.1).2.1
    have := hf hk
    omega
  · rintro ⟨s, hs, h1, h2⟩
    refine ⟨s, hs, ?_⟩
    simp only [Bool.and_eq_true, decide_eq_true_eq]
    exact ⟨h1, by rw [h2]⟩
theorem fld_at {l : List FT} {path : List Nat} {q : Bool} {i : Nat} (hi : i < l.length) : (⟨l, path ++ [i], q⟩ : LS).fld = l[i] ∧ (⟨l, path ++ [i], q⟩ : LS).idx = i := by
  have e : (⟨l, path ++ [i], q⟩ : LS).idx = i := by simp [LS.idx]
  refine ⟨?_, e⟩
  unfold LS.fld
  rw [e]
  simp [List.getElem?_eq_getElem hi]
/-- one field -/
theorem wrong_iff {P : List LS} {st : Nat × List Int} (hP : AllR P) (hm : Mt P st) {l : List FT} {path : List Nat} {q : Bool} {i : Nat} (hi : i < l.length) :
    wrongE ⟨l, path ++ [i], q⟩ P.length (tkL P) = 0 ↔ (headB q (path.length + 1) l[i] st = true ∧ idxOf l l[i].name = i) := by
  obtain ⟨e1, e2⟩ := fld_at (path := path) (q := q) hi
  rw [headB_iff]
  unfold wrongE wr
  rw [e1, e2]
  simp only [List.length_append, List.length_singleton]
  obtain ⟨f, hf⟩ : ∃ f, f = l[i] := ⟨_, rfl⟩
  rw [← hf]
  have hmm := hm.1
  constructor
  · intro h
    split at h
    · omega
    split at h
    · omega
    split at h
    · omega
    split at h
    · omega
    split at h
    · omega
    split at h
    · omega
    split at h
    · omega
    split at h
    · omega
    rename_i a1 a2 a3 a4 a5 a6 a7 a8
    have ht : tableB f = true := by simpa using a5
    refine ⟨⟨by simpa using a3, by omega, by omega, ht, by simpa using a6, fun hq => ⟨fun h => a7 ⟨hq, .inl h⟩, fun h => a7 ⟨hq, .inr h⟩⟩, fun h => ⟨?_, fun h2 => ?_⟩⟩, by simpa using a4⟩
    · cases hc : kid0 f with
      | false => rfl
      | true => exact absurd ⟨h, .inl hc⟩ a8
    · exact a8 ⟨h, .inr ((tk_iff hP hm (fun e => ((tab_kids ht).1 e).2.1) h).2 h2)⟩
  · rintro ⟨⟨h1, h2, h3, h4, h5, h6, h7⟩, h8⟩
    rw [if_neg (by omega), if_neg (by omega), if_neg (by simp [h1]), if_neg (by simp [h8]), if_neg (by simp [h4]), if_neg (by simp [h5]), if_neg, if_neg]
    · rintro ⟨e, he⟩
      obtain ⟨k1, k2⟩ := h7 e
      rcases he with he | he
      · rw [k1] at he; cases he
      · exact k2 ((tk_iff hP hm (fun e => ((tab_kids h4).1 e).2.1) e).1 he)
    · rintro ⟨e, he⟩
      rcases he with he | he
      · exact (h6 e).1 he
      · exact (h6 e).2 he
theorem Mt.snoc {P : List LS} {st : Nat × List Int} (hm : Mt P st) {x : LS} : Mt (P ++ [x]) (st.1 + 1, idsA x.fld st.2) := by
  refine ⟨by simp [hm.1], fun id => ?_⟩
  unfold idsA
  constructor
  · intro h
    by_cases e : x.fld.kind = 19
    · simp only [e, if_true] at h
      rcases List.mem_append.1 h with h | h
      · obtain ⟨s, hs, k⟩ := (hm.2 id).1 h
        exact ⟨s, List.mem_append_left _ hs, k⟩
      · exact ⟨x, by simp, e, (by have h' : id = x.fld.id := (by simpa using h); exact h'.symm)⟩
    · simp only [e, if_false] at h
      obtain ⟨s, hs, k⟩ := (hm.2 id).1 h
      exact ⟨s, List.mem_append_left _ hs, k⟩
  · rintro ⟨s, hs, k1, k2⟩
    rcases List.mem_append.1 hs with hs | hs
    · have := (hm.2 id).2 ⟨s, hs, k1, k2⟩
      by_cases e : x.fld.kind = 19
      · simp only [e, if_true]; exact List.mem_append_left _ this
      · simp only [e, if_false]; exact this
    · obtain rfl : s = x := by simpa using hs
      simp only [k1, if_true]
      rw [k2]; simp
def blk (d : Nat) (l : List FT) (path : List Nat) (q : Bool) (i : Nat) : List LS := ⟨l, path ++ [i], q⟩ :: nodes d (l[i]!).kids (path ++ [i]) (q || decide ((l[i]!).kind = 19))
/-- both say the same of a field and of what lies within -/
def TF (d : Nat) : Prop := ∀ (l : List FT) (path : List Nat) (q : Bool) (i : Nat) (hi : i < l.length) (P : List LS) (st : Nat × List Int), deep d l[i].kids → AllR P → Mt P st →
  (∀ st', idxOf l l[i].name = i → mayF d q (path.length + 1) l[i] st = some st' → AllR (P ++ blk d l path q i) ∧ Mt (P ++ blk d l path q i) st') ∧
  (AllR (P ++ blk d l path q i) → ∃ st', mayF d q (path.length + 1) l[i] st = some st' ∧ Mt (P ++ blk d l path q i) st')
theorem kids_both {d : Nat} (T : TF d) (ks : List FT) (path : List Nat) (q : Bool) (P : List LS) (st : Nat × List Int) (hd : ∀ f ∈ ks, deep d f.kids) (hP : AllR P) (hm : Mt P st) : ∀ n, n ≤ ks.length →
    (unl ks → ∀ st', mayK (mayF d q (path.length + 1)) (ks.take n) st = some st' → AllR (P ++ upto d ks path q n) ∧ Mt (P ++ upto d ks path q n) st') ∧
    (AllR (P ++ upto d ks path q n) → ∃ st', mayK (mayF d q (path.length + 1)) (ks.take n) st = some st' ∧ Mt (P ++ upto d ks path q n) st') := by
  intro n
  induction n with
  | zero =>
    intro _
    rw [upto_zero, List.append_nil]
    refine ⟨fun _ st' h => ?_, fun _ => ⟨st, rfl, hm⟩⟩
    cases h
    exact ⟨hP, hm⟩
  | succ n ih =>
    intro hn
    obtain ⟨i1, i2⟩ := ih (by omega)
    have hnl : n < ks.length := by omega
    have et : ks.take (n + 1) = ks.take n ++ [ks[n]] := List.take_succ_eq_append_getElem hnl
    have eu : upto d ks path q (n + 1) = upto d ks path q n ++ blk d ks path q n := upto_succ d ks path q n
    have ek : ∀ st', mayK (mayF d q (path.length + 1)) (ks.take (n + 1)) st = some st' ↔ ∃ s, mayK (mayF d q (path.length + 1)) (ks.take n) st = some s ∧ mayF d q (path.length + 1) ks[n] s = some st' := fun st' => by
      rw [et, mayK_snoc]
      cases mayK (mayF d q (path.length + 1)) (ks.take n) st with
      | none => simp
      | some s => simp
    rw [eu, ← List.append_assoc]
    constructor
    · intro hu st' h
      obtain ⟨s, h1, h2⟩ := (ek st').1 h
      obtain ⟨a1, a2⟩ := i1 hu s h1
      exact (T ks path q n hnl _ s (hd _ (List.getElem_mem hnl)) a1 a2).1 st' (idx_of_unl hu hnl) h2
    · intro hA
      have hA1 : AllR (P ++ upto d ks path q n) := hA.mono (List.prefix_append _ _)
      obtain ⟨s, h1, h2⟩ := i2 hA1
      obtain ⟨st', h3, h4⟩ := (T ks path q n hnl _ s (hd _ (List.getElem_mem hnl)) hA1 h2).2 hA
      exact ⟨st', (ek st').2 ⟨s, h1, h3⟩, h4⟩
theorem kids_unl {d : Nat} (T : TF d) (ks : List FT) (path : List Nat) (q : Bool) (P : List LS) (st : Nat × List Int) (hd : ∀ f ∈ ks, deep d f.kids) (hP : AllR P) (hm : Mt P st) (hA : AllR (P ++ upto d ks path q ks.length)) : unl ks := by
  refine unl_of_idx fun i hi => ?_
  have hpre : ∀ n, n ≤ ks.length → upto d ks path q n <+: upto d ks path q ks.length := fun n hn => by
    unfold upto
    have : List.range ks.length = List.range n ++ (List.range ks.length).drop n := by
      conv => lhs; rw [← List.take_append_drop n (List.range ks.length)]
      rw [List.take_range, Nat.min_eq_left hn]
    rw [this, List.flatMap_append]
    exact List.prefix_append _ _
  have h1 : AllR (P ++ upto d ks path q i) := hA.mono ((List.prefix_append_right_inj P).2 (hpre i (by omega)))
  obtain ⟨s, -, hs⟩ := (kids_both T ks path q P st hd hP hm i (by omega)).2 h1
  have h2 : AllR (P ++ upto d ks path q (i + 1)) := hA.mono ((List.prefix_append_right_inj P).2 (hpre (i + 1) (by omega)))
  rw [upto_succ, ← List.append_assoc] at h2
  have h3 := h2.pre (L := P ++ upto d ks path q i) (x := ⟨ks, path ++ [i], q⟩) ⟨_, by rw [List.append_assoc]; rfl⟩
  exact ((wrong_iff h1 hs hi).1 h3).2
theorem both_may : ∀ d, TF d
  | 0 => by
    intro l path q i hi P st hd hP hm
    have hk : l[i].kids = [] := hd
    have hb : l[i]! = l[i] := getElem!_pos l i hi
    have eb : P ++ blk 0 l path q i = P ++ [⟨l, path ++ [i], q⟩] := by unfold blk; rfl
    have em : mayF 0 q (path.length + 1) l[i] st = if headB q (path.length + 1) l[i] st = true then some (st.1 + 1, idsA l[i] st.2) else none := by
      show mayG _ _ _ _ _ = _
      unfold mayG
      rw [hk]
      have : unlB [] = true := rfl
      rw [this, Bool.and_true]
      rfl
    have hf := (fld_at (path := path) (q := q) hi).1
    have hs := hm.snoc (x := ⟨l, path ++ [i], q⟩)
    rw [hf] at hs
    rw [eb, em]
    constructor
    · intro st' hidx h
      split at h
      · rename_i hh
        cases h
        exact ⟨hP.snoc ((wrong_iff hP hm hi).2 ⟨hh, hidx⟩), hs⟩
      · cases h
    · intro hA
      have := (wrong_iff (path := path) (q := q) hP hm hi).1 (hA.pre (L := P) ⟨[], by simp⟩)
      rw [if_pos this.1]
      exact ⟨_, rfl, hs⟩
  | d + 1 => by
    have T := both_may d
    intro l path q i hi P st hd hP hm
    have hb : l[i]! = l[i] := getElem!_pos l i hi
    have hf := (fld_at (path := path) (q := q) hi).1
    have hs := hm.snoc (x := ⟨l, path ++ [i], q⟩)
    rw [hf] at hs
    have eb : P ++ blk (d + 1) l path q i = (P ++ [⟨l, path ++ [i], q⟩]) ++ upto d l[i].kids (path ++ [i]) (q || decide (l[i].kind = 19)) l[i].kids.length := by
      unfold blk
      rw [hb, nodes_succ]
      simp
    have el : (path ++ [i]).length + 1 = path.length + 1 + 1 := by simp
    have em : mayF (d + 1) q (path.length + 1) l[i] st = if (headB q (path.length + 1) l[i] st && unlB l[i].kids) = true then mayK (mayF d (q || decide (l[i].kind = 19)) ((path ++ [i]).length + 1)) (l[i].kids.take l[i].kids.length) (st.1 + 1, idsA l[i] st.2) else none := by
      rw [List.take_length, el]
      rfl
    rw [eb, em]
    constructor
    · intro st' hidx h
      split at h
      · rename_i hh
        rw [Bool.and_eq_true] at hh
        have hP1 := hP.snoc ((wrong_iff hP hm hi).2 ⟨hh.1, hidx⟩)
        exact (kids_both T l[i].kids (path ++ [i]) _ _ _ hd hP1 hs _ (Nat.le_refl _)).1 ((unlB_iff _).1 hh.2) st' h
      · cases h
    · intro hA
      have hP1 : AllR (P ++ [⟨l, path ++ [i], q⟩]) := hA.mono (List.prefix_append _ _)
      have hw := (wrong_iff (path := path) (q := q) hP hm hi).1 (hP1.pre (L := P) ⟨[], by simp⟩)
      have hu := kids_unl T l[i].kids (path ++ [i]) _ _ _ hd hP1 hs hA
      rw [if_pos (by rw [hw.1, (unlB_iff _).2 hu]; rfl)]
      exact (kids_both T l[i].kids (path ++ [i]) _ _ _ hd hP1 hs _ (Nat.le_refl _)).2 hA
/-- of all fields of a schema -/
theorem schema_may {d : Nat} {fs : List FT} (hd : deep (d + 1) fs) : AllR (nodes (d + 1) fs [] false) ↔ (unl fs ∧ ∃ st', mayK (mayF d false 1) fs (0, []) = some st') := by
  have hm : Mt [] (0, []) := ⟨rfl, fun id => by simp⟩
  have h := kids_both (both_may d) fs [] false [] (0, []) hd AllR.nil hm fs.length (Nat.le_refl _)
  rw [List.take_length, List.nil_append] at h
  rw [nodes_succ]
  constructor
  · intro hA
    obtain ⟨st', h1, -⟩ := h.2 hA
    exact ⟨kids_unl (both_may d) fs [] false [] (0, []) hd AllR.nil hm hA, st', h1⟩
  · rintro ⟨hu, st', h1⟩
    exact (h.1 hu st' h1).1
end Go.Proofs.YtdffjdlpbfcikaaDoor.Kit
