import Derived.Test.YtdihbfjjddmbiaaGreatDoorVF
set_option maxRecDepth 100000
set_option maxHeartbeats 4000000
namespace Go.Proofs.YtdihbfjjddmbiaaGreatDoor.Kit
open Go.RowKit Go.Shelf Go.Deep
set_option linter.unusedVariables false
theorem sEq_comm (a b : ByteArray) : sEq a b = sEq b a := by unfold sEq; exact Bool.beq_comm
theorem sEq_refl (a : ByteArray) : sEq a a = true := by unfold sEq; simp
theorem idx_of_unl {l : List FT} (h : unl l) {i : Nat} (hi : i < l.length) : idxOf l l[i].name = i := by
  refine idxOf_some hi (fun j hj hlt => ?_) (sEq_refl _)
  rw [sEq_comm]
  exact h i hi j hj hlt
theorem unl_of_idx {l : List FT} (h : ∀ i (hi : i < l.length), idxOf l l[i].name = i) : unl l := fun i hi j hj hlt => by
  cases hc : sEq l[i].name l[j].name with
  | false => rfl
  | true =>
    exfalso
    have h1 := h i hi
    unfold idxOf at h1
    have hle : l.findIdx (fun f => sEq f.name l[i].name) ≤ j := by
      rcases Nat.lt_or_ge j (l.findIdx (fun f => sEq f.name l[i].name)) with hlt' | hge
      · have := List.not_of_lt_findIdx hlt'
        rw [sEq_comm] at hc
        simp [hc] at this
      exact hge
    rw [if_pos (by omega)] at h1
    omega
def Mt (P : List LS) (st : Nat × List Int) : Prop := st.1 = P.length ∧ ∀ id : Int, id ∈ st.2 ↔ ∃ s ∈ P, s.fld.kind = 19 ∧ s.fld.id = id
theorem AllR.tab {P : List LS} (h : AllR P) {s : LS} (hs : s ∈ P) : tableB s.fld = true := by
  obtain ⟨k, hk, rfl⟩ := List.mem_iff_getElem.1 hs
  have := h k hk
  unfold wrongE wr at this
  split at this
  · omega
  split at this
  · omega
  split at this
  · omega
  split at this
  · omega
  split at this
  · omega
  rename_i a5
  simpa using a5
theorem tk_iff {P : List LS} {st : Nat × List Int} (hP : AllR P) (hm : Mt P st) {f : FT} (hf : f.kind = 19 → 0 ≤ f.id) (hk : f.kind = 19) : tkL P f.id.toNat = true ↔ f.id ∈ st.2 := by
  rw [hm.2]
  unfold tkL
  rw [List.any_eq_true]
  constructor
  · rintro ⟨s, hs, h⟩
    simp only [Bool.and_eq_true, decide_eq_true_eq] at h
    refine ⟨s, hs, h.1, ?_⟩
    have h0 := ((tab_kids (hP.tab hs)).1 h.1).2.1
    have := hf hk
    omega
  rintro ⟨s, hs, h1, h2⟩
  refine ⟨s, hs, ?_⟩
  simp only [Bool.and_eq_true, decide_eq_true_eq]
  exact ⟨h1, by rw [h2]⟩
theorem fld_at {l : List FT} {path : List Nat} {q : Bool} {i : Nat} (hi : i < l.length) : (⟨l, path ++ [i], q⟩ : LS).fld = l[i] ∧ (⟨l, path ++ [i], q⟩ : LS).idx = i := by
  have e : (⟨l, path ++ [i], q⟩ : LS).idx = i := by simp [LS.idx]
  refine ⟨?_, e⟩
  unfold LS.fld
  rw [e]
  simp [List.getElem?_eq_getElem hi]
theorem wrong_iff {P : List LS} {st : Nat × List Int} (hP : AllR P) (hm : Mt P st) {l : List FT} {path : List Nat} {q : Bool} {i : Nat} (hi : i < l.length) :
    wrongE ⟨l, path ++ [i], q⟩ P.length (tkL P) = 0 ↔ (headB q (path.length + 1) l[i] st = true ∧ idxOf l l[i].name = i) := by
  obtain ⟨e1, e2⟩ := fld_at (path := path) (q := q) hi
  rw [headB_iff]
  unfold wrongE wr
  rw [e1, e2]
  simp only [List.length_append, List.length_singleton]
  obtain ⟨f, hf⟩ : ∃ f, f = l[i] := ⟨_, rfl⟩
  rw [← hf]
  have hmm := hm.1
  constructor
  · intro h
    split at h
    · omega
    split at h
    · omega
    split at h
    · omega
    split at h
    · omega
    split at h
    · omega
    split at h
    · omega
    split at h
    · omega
    split at h
    · omega
    rename_i a1 a2 a3 a4 a5 a6 a7 a8
    have ht : tableB f = true := by simpa using a5
    refine ⟨⟨by simpa using a3, by omega, by omega, ht, by simpa using a6, fun hq => ⟨fun h => a7 ⟨hq, .inl h⟩, fun h => a7 ⟨hq, .inr h⟩⟩, fun h => ⟨?_, fun h2 => ?_⟩⟩, by simpa using a4⟩
    · cases hc : kid0 f with
      | false => rfl
      | true => exact absurd ⟨h, .inl hc⟩ a8
    exact a8 ⟨h, .inr ((tk_iff hP hm (fun e => ((tab_kids ht).1 e).2.1) h).2 h2)⟩
  rintro ⟨⟨h1, h2, h3, h4, h5, h6, h7⟩, h8⟩
  rw [if_neg (by omega), if_neg (by omega), if_neg (by simp [h1]), if_neg (by simp [h8]), if_neg (by simp [h4]), if_neg (by simp [h5]), if_neg, if_neg]
  · rintro ⟨e, he⟩
    obtain ⟨k1, k2⟩ := h7 e
    rcases he with he | he
    · rw [k1] at he; cases he
    exact k2 ((tk_iff hP hm (fun e => ((tab_kids h4).1 e).2.1) e).1 he)
  rintro ⟨e, he⟩
  rcases he with he | he
  · exact (h6 e).1 he
  exact (h6 e).2 he
theorem Mt.snoc {P : List LS} {st : Nat × List Int} (hm : Mt P st) {x : LS} : Mt (P ++ [x]) (st.1 + 1, idsA x.fld st.2) := by
  refine ⟨by simp [hm.1], fun id => ?_⟩
  unfold idsA
  constructor
  · intro h
    by_cases e : x.fld.kind = 19
    · simp only [e, if_true] at h
      rcases List.mem_append.1 h with h | h
      · obtain ⟨s, hs, k⟩ := (hm.2 id).1 h
        exact ⟨s, List.mem_append_left _ hs, k⟩
      exact ⟨x, by simp, e, (by have h' : id = x.fld.id := (by simpa using h); exact h'.symm)⟩
    simp only [e, if_false] at h
    obtain ⟨s, hs, k⟩ := (hm.2 id).1 h
    exact ⟨s, List.mem_append_left _ hs, k⟩
  rintro ⟨s, hs, k1, k2⟩
  rcases List.mem_append.1 hs with hs | hs
  · have := (hm.2 id).2 ⟨s, hs, k1, k2⟩
    by_cases e : x.fld.kind = 19
    · simp only [e, if_true]; exact List.mem_append_left _ this
    simp only [e, if_false]; exact this
  obtain rfl : s = x := by simpa using hs
  simp only [k1, if_true]
  rw [k2]; simp
def blk (d : Nat) (l : List FT) (path : List Nat) (q : Bool) (i : Nat) : List LS := ⟨l, path ++ [i], q⟩ :: nodes d (l[i]!).kids (path ++ [i]) (q || decide ((l[i]!).kind = 19))
def TF (d : Nat) : Prop := ∀ (l : List FT) (path : List Nat) (q : Bool) (i : Nat) (hi : i < l.length) (P : List LS) (st : Nat × List Int), deep d l[i].kids → AllR P → Mt P st →
  (∀ st', idxOf l l[i].name = i → mayF d q (path.length + 1) l[i] st = some st' → AllR (P ++ blk d l path q i) ∧ Mt (P ++ blk d l path q i) st') ∧
  (AllR (P ++ blk d l path q i) → ∃ st', mayF d q (path.length + 1) l[i] st = some st' ∧ Mt (P ++ blk d l path q i) st')
theorem kids_both {d : Nat} (T : TF d) (ks : List FT) (path : List Nat) (q : Bool) (P : List LS) (st : Nat × List Int) (hd : ∀ f ∈ ks, deep d f.kids) (hP : AllR P) (hm : Mt P st) : ∀ n, n ≤ ks.length →
    (unl ks → ∀ st', mayK (mayF d q (path.length + 1)) (ks.take n) st = some st' → AllR (P ++ upto d ks path q n) ∧ Mt (P ++ upto d ks path q n) st') ∧
    (AllR (P ++ upto d ks path q n) → ∃ st', mayK (mayF d q (path.length + 1)) (ks.take n) st = some st' ∧ Mt (P ++ upto d ks path q n) st') := by
  intro n
  induction n with
  | zero =>
    intro _
    rw [upto_zero, List.append_nil]
    refine ⟨fun _ st' h => ?_, fun _ => ⟨st, rfl, hm⟩⟩
    cases h
    exact ⟨hP, hm⟩
  | succ n ih =>
    intro hn
    obtain ⟨i1, i2⟩ := ih (by omega)
    have hnl : n < ks.length := by omega
    have et : ks.take (n + 1) = ks.take n ++ [ks[n]] := List.take_succ_eq_append_getElem hnl
    have eu : upto d ks path q (n + 1) = upto d ks path q n ++ blk d ks path q n := upto_succ d ks path q n
    have ek : ∀ st', mayK (mayF d q (path.length + 1)) (ks.take (n + 1)) st = some st' ↔ ∃ s, mayK (mayF d q (path.length + 1)) (ks.take n) st = some s ∧ mayF d q (path.length + 1) ks[n] s = some st' := fun st' => by
      rw [et, mayK_snoc]
      cases mayK (mayF d q (path.length + 1)) (ks.take n) st with
      | none => simp
      | some s => simp
    rw [eu, ← List.append_assoc]
    constructor
    · intro hu st' h
      obtain ⟨s, h1, h2⟩ := (ek st').1 h
      obtain ⟨a1, a2⟩ := i1 hu s h1
      exact (T ks path q n hnl _ s (hd _ (List.getElem_mem hnl)) a1 a2).1 st' (idx_of_unl hu hnl) h2
    intro hA
    have hA1 : AllR (P ++ upto d ks path q n) := hA.mono (List.prefix_append _ _)
    obtain ⟨s, h1, h2⟩ := i2 hA1
    obtain ⟨st', h3, h4⟩ := (T ks path q n hnl _ s (hd _ (List.getElem_mem hnl)) hA1 h2).2 hA
    exact ⟨st', (ek st').2 ⟨s, h1, h3⟩, h4⟩
theorem kids_unl {d : Nat} (T : TF d) (ks : List FT) (path : List Nat) (q : Bool) (P : List LS) (st : Nat × List Int) (hd : ∀ f ∈ ks, deep d f.kids) (hP : AllR P) (hm : Mt P st) (hA : AllR (P ++ upto d ks path q ks.length)) : unl ks := by
  refine unl_of_idx fun i hi => ?_
  have hpre : ∀ n, n ≤ ks.length → upto d ks path q n <+: upto d ks path q ks.length := fun n hn => by
    unfold upto
    have : List.range ks.length = List.range n ++ (List.range ks.length).drop n := by
      conv => lhs; rw [← List.take_append_drop n (List.range ks.length)]
      rw [List.take_range, Nat.min_eq_left hn]
    rw [this, List.flatMap_append]
    exact List.prefix_append _ _
  have h1 : AllR (P ++ upto d ks path q i) := hA.mono ((List.prefix_append_right_inj P).2 (hpre i (by omega)))
  obtain ⟨s, -, hs⟩ := (kids_both T ks path q P st hd hP hm i (by omega)).2 h1
  have h2 : AllR (P ++ upto d ks path q (i + 1)) := hA.mono ((List.prefix_append_right_inj P).2 (hpre (i + 1) (by omega)))
  rw [upto_succ, ← List.append_assoc] at h2
  have h3 := h2.pre (L := P ++ upto d ks path q i) (x := ⟨ks, path ++ [i], q⟩) ⟨_, by rw [List.append_assoc]; rfl⟩
  exact ((wrong_iff h1 hs hi).1 h3).2
theorem both_may : ∀ d, TF d
  | 0 => by
    intro l path q i hi P st hd hP hm
    have hk : l[i].kids = [] := hd
    have hb : l[i]! = l[i] := getElem!_pos l i hi
    have eb : P ++ blk 0 l path q i = P ++ [⟨l, path ++ [i], q⟩] := by unfold blk; rfl
    have em : mayF 0 q (path.length + 1) l[i] st = if headB q (path.length + 1) l[i] st = true then some (st.1 + 1, idsA l[i] st.2) else none := by
      show mayG _ _ _ _ _ = _
      unfold mayG
      rw [hk]
      have : unlB [] = true := rfl
      rw [this, Bool.and_true]
      rfl
    have hf := (fld_at (path := path) (q := q) hi).1
    have hs := hm.snoc (x := ⟨l, path ++ [i], q⟩)
    rw [hf] at hs
    rw [eb, em]
    constructor
    · intro st' hidx h
      split at h
      · rename_i hh
        cases h
        exact ⟨hP.snoc ((wrong_iff hP hm hi).2 ⟨hh, hidx⟩), hs⟩
      cases h
    intro hA
    have := (wrong_iff (path := path) (q := q) hP hm hi).1 (hA.pre (L := P) ⟨[], by simp⟩)
    rw [if_pos this.1]
    exact ⟨_, rfl, hs⟩
  | d + 1 => by
    have T := both_may d
    intro l path q i hi P st hd hP hm
    have hb : l[i]! = l[i] := getElem!_pos l i hi
    have hf := (fld_at (path := path) (q := q) hi).1
    have hs := hm.snoc (x := ⟨l, path ++ [i], q⟩)
    rw [hf] at hs
    have eb : P ++ blk (d + 1) l path q i = (P ++ [⟨l, path ++ [i], q⟩]) ++ upto d l[i].kids (path ++ [i]) (q || decide (l[i].kind = 19)) l[i].kids.length := by
      unfold blk
      rw [hb, nodes_succ]
      simp
    have el : (path ++ [i]).length + 1 = path.length + 1 + 1 := by simp
    have em : mayF (d + 1) q (path.length + 1) l[i] st = if (headB q (path.length + 1) l[i] st && unlB l[i].kids) = true then mayK (mayF d (q || decide (l[i].kind = 19)) ((path ++ [i]).length + 1)) (l[i].kids.take l[i].kids.length) (st.1 + 1, idsA l[i] st.2) else none := by
      rw [List.take_length, el]
      rfl
    rw [eb, em]
    constructor
    · intro st' hidx h
      split at h
      · rename_i hh
        rw [Bool.and_eq_true] at hh
        have hP1 := hP.snoc ((wrong_iff hP hm hi).2 ⟨hh.1, hidx⟩)
        exact (kids_both T l[i].kids (path ++ [i]) _ _ _ hd hP1 hs _ (Nat.le_refl _)).1 ((unlB_iff _).1 hh.2) st' h
      cases h
    intro hA
    have hP1 : AllR (P ++ [⟨l, path ++ [i], q⟩]) := hA.mono (List.prefix_append _ _)
    have hw := (wrong_iff (path := path) (q := q) hP hm hi).1 (hP1.pre (L := P) ⟨[], by simp⟩)
    have hu := kids_unl T l[i].kids (path ++ [i]) _ _ _ hd hP1 hs hA
    rw [if_pos (by rw [hw.1, (unlB_iff _).2 hu]; rfl)]
    exact (kids_both T l[i].kids (path ++ [i]) _ _ _ hd hP1 hs _ (Nat.le_refl _)).2 hA
theorem schema_may {d : Nat} {fs : List FT} (hd : deep (d + 1) fs) : AllR (nodes (d + 1) fs [] false) ↔ (unl fs ∧ ∃ st', mayK (mayF d false 1) fs (0, []) = some st') := by
  have hm : Mt [] (0, []) := ⟨rfl, fun id => by simp⟩
  have h := kids_both (both_may d) fs [] false [] (0, []) hd AllR.nil hm fs.length (Nat.le_refl _)
  rw [List.take_length, List.nil_append] at h
  rw [nodes_succ]
  constructor
  · intro hA
    obtain ⟨st', h1, -⟩ := h.2 hA
    exact ⟨kids_unl (both_may d) fs [] false [] (0, []) hd AllR.nil hm hA, st', h1⟩
  rintro ⟨hu, st', h1⟩
  exact (h.1 hu st' h1).1
end Go.Proofs.YtdihbfjjddmbiaaGreatDoor.Kit
namespace Go.Proofs.YtdihbfjjddmbiaaGreatDoor.Kit
open Go.RowKit Go.Shelf Go.Deep
set_option linter.unusedVariables false
attribute [local go_sem] run_store_func
theorem mayG_bound {g : FT → Nat × List Int → Option (Nat × List Int)} (hg : ∀ x st st', st.2.length ≤ st.1 → g x st = some st' → st'.1 ≤ 256 ∧ st'.2.length ≤ st'.1) {inD : Bool} {dp : Nat} {f : FT} {st st' : Nat × List Int} (hl : st.2.length ≤ st.1) (h : mayG g inD dp f st = some st') : st'.1 ≤ 256 ∧ st'.2.length ≤ st'.1 := by
  unfold mayG at h
  split at h
  · rename_i hh
    rw [Bool.and_eq_true, headB_iff] at hh
    refine mayK_bound hg f.kids (st.1 + 1, idsA f st.2) st' hh.1.2.1 ?_ h
    show (idsA f st.2).length ≤ st.1 + 1
    unfold idsA
    split
    · simp; omega
    omega
  cases h
theorem mayF_bound : ∀ (d : Nat) (inD : Bool) (dp : Nat) (f : FT) (st st' : Nat × List Int), st.2.length ≤ st.1 → mayF d inD dp f st = some st' → st'.1 ≤ 256 ∧ st'.2.length ≤ st'.1
  | 0, inD, dp, f, st, st', hl, h => mayG_bound (fun x s s' _ h => by cases h) hl h
  | d + 1, inD, dp, f, st, st', hl, h => mayG_bound (fun x s s' hs h => mayF_bound d _ _ x s s' hs h) hl h
theorem seenField_any (S : Nat → Prop) (K : Nat) : ∀ (d : Nat) (f : FT) (ao : Option Addr) (ca : Nat) (inD : Bool) (dp : Nat) (w : World), RowAt S w d ao f.kids → (∀ b, S b → b < w.heap.size) → dp ≤ 1000 →
    ∀ W nd ids, Seen w W K nd ids → nd ≤ 256 → ids.length ≤ nd → Calls Tryz.prog 30 #[.pointer (some ⟨K, 0, none⟩), .agg #[.string f.name, .bool f.nul, .int .i64 f.kind, .int .i64 f.width, .int .i64 f.id, .int .i64 f.index, .slice ao f.kids.length ca], .int .i64 (dp : Int), .bool inD] W (MayQ w W K (mayF d inD dp f (nd, ids)))
  | 0, f, ao, ca, inD, dp, w, hr, hS, hdp => by
    have hk : f.kids = [] := hr
    exact seenField_walk f ao ca K (fun _ _ _ => none) inD dp w S 0 hr hS hdp (fun _ x s s' _ h => by cases h) (by rw [hk]; simp) (fun hne => absurd hk hne)
  | d + 1, f, ao, ca, inD, dp, w, hr, hS, hdp => by
    refine seenField_walk f ao ca K (fun ind => mayF d ind (dp + 1)) inD dp w S (d + 1) hr hS hdp (fun ind x s s' hs h => mayF_bound d _ _ x s s' hs h) hr.1 (fun hne => ?_)
    obtain ⟨b, o, e, hb, hc⟩ := hr.2 hne
    refine ⟨b, o, e, fun i hi => ?_⟩
    obtain ⟨ao', ca', h1, h2, h3⟩ := hc i hi
    refine ⟨ao', ca', h1, fun ind W nd ids hs hn hl hd => ?_⟩
    have := seenField_any S K d f.kids[i] ao' ca' ind (dp + 1) w h3 hS (by omega) W nd ids hs hn hl
    rw [Int.natCast_add] at this
    exact this
theorem lists_iff {nf : Nat} {l : List (ByteArray × ByteArray)} : (listsE nf l).1 = 0 ↔ nf ≤ 32 ∧ l.length ≤ 16 ∧ ∀ n ∈ l, noteBad n = false := by
  unfold listsE
  constructor
  · intro h
    split at h
    · simp at h
    split at h
    · simp at h
    split at h
    · simp at h
    rename_i h0 h1 h2
    refine ⟨by omega, by omega, fun n hn => ?_⟩
    cases hc : noteBad n with
    | false => rfl
    | true => exact absurd (List.findIdx_lt_length_of_exists ⟨n, hn, hc⟩) h2
  rintro ⟨h1, h2, h3⟩
  rw [if_neg (by omega), if_neg (by omega), if_neg]
  intro h
  have := List.findIdx_getElem (w := h)
  rw [h3 _ (List.getElem_mem h)] at this
  cases this
theorem fault_zero {E : Int × Int} {N : List LS} {er : Int} {p : List Nat} {k : Int} (h : FaultIs E N er p k) : er = 0 ↔ E.1 = 0 ∧ AllR N := by
  constructor
  · intro e
    subst e
    rcases h with ⟨a, e, _⟩ | ⟨a, b, _⟩ | ⟨a, L, x, _, _, h3, e, _⟩
    · exact absurd e.symm a
    · exact ⟨a, b⟩
    exact absurd e.symm h3
  rintro ⟨h1, h2⟩
  exact (FaultIs.one (.inr (.inl ⟨h1, h2, rfl, rfl, rfl⟩)) h).1.symm
def Yes (D : Nat) (fs : List FT) (ns : List (ByteArray × ByteArray)) : Prop := fs.length ≤ 32 ∧ ns.length ≤ 16 ∧ (∀ n ∈ ns, noteBad n = false) ∧ unl fs ∧ ∃ st', mayK (mayF (D - 1) false 1) fs (0, []) = some st'
theorem yes_iff {D : Nat} {fs : List FT} {ns : List (ByteArray × ByteArray)} {er : Int} {p : List Nat} {tt : Int} (hd : deep D fs) (hF : FaultIs (listsE fs.length ns) (nodes D fs [] false) er p tt) : Yes D fs ns ↔ er = 0 := by
  rw [fault_zero hF, lists_iff]
  unfold Yes
  cases D with
  | zero =>
    have : fs = [] := hd
    subst this
    constructor
    · rintro ⟨h1, h2, h3, -, -⟩; exact ⟨⟨h1, h2, h3⟩, AllR.nil⟩
    rintro ⟨⟨h1, h2, h3⟩, -⟩; exact ⟨h1, h2, h3, fun i hi => by simp at hi, _, rfl⟩
  | succ d =>
    rw [schema_may hd]
    constructor
    · rintro ⟨h1, h2, h3, h4, h5⟩; exact ⟨⟨h1, h2, h3⟩, h4, h5⟩
    rintro ⟨⟨h1, h2, h3⟩, h4, h5⟩; exact ⟨h1, h2, h3, h4, h5⟩
theorem schemaMay_any {S : Nat → Prop} {D : Nat} {fo no : Option Addr} {cf cn : Nat} {fs : List FT} {ns : List (ByteArray × ByteArray)} {w : World} (z : Bool) (hz : Yes D fs ns ↔ z = true) (hr : RowAt S w D fo fs) (hS : ∀ b, S b → b < w.heap.size) (hn : NotesAt w no ns) :
    ∀ W, Gr w W → Calls Tryz.prog 13 #[.agg #[.slice fo fs.length cf, .slice no ns.length cn]] W fun e w' => e = .returned (.bool z) ∧ Gr W w' := by
  intro W g
  have hlf : fs.length ≤ 1000000000000 := hr.len
  have hln : ns.length ≤ 1000000000000 := hn.1
  have HNo : Hid (¬ Yes D fs ns → z = false) := fun h => by cases z with | false => rfl | true => exact absurd (hz.2 rfl) h
  have HYe : Hid (Yes D fs ns → z = true) := hz.1
  have HRn : Hid (ns ≠ [] → ∃ b o, no = some ⟨b, o, none⟩ ∧ ∀ i (h : i < ns.length), W.cell? ⟨b, o + i * 2, none⟩ = some (.string ns[i].1) ∧ W.cell? ⟨b, o + i * 2 + 1, none⟩ = some (.string ns[i].2)) := (hn.gr g).2
  have HRw := hidM (hr.kept (S := S) fun b hb => g.block b (hS b hb) id)
  have HSW : Hid (∀ b, S b → b < W.heap.size) := fun b hb => by have := hS b hb; have := g.size; omega
  have hbx := World.alloc_heap_new W (.cells #[.slice fo fs.length cf, .slice no ns.length cn] 25)
  have HB := hidM hbx
  clear hbx hr hS hn hz g
  obtain ⟨p0, p1⟩ := ce2 HB.out
  go_enter Tryz.func13, Tryz.ntmps13
  by_cases h32 : fs.length ≤ 32
  rotate_left
  · have i32 : (32 : Int) < (fs.length : Int) := by omega
    have HZ : Hid (z = false) := HNo.out fun h => h32 h.1
    go_wp2
    go_ret
    exact ⟨by rw [HZ.out]; rfl, gr_alloc _ _⟩
  have i32 : ¬ (32 : Int) < (fs.length : Int) := by omega
  by_cases h16 : ns.length ≤ 16
  rotate_left
  · have i16 : (16 : Int) < (ns.length : Int) := by omega
    have HZ : Hid (z = false) := HNo.out fun h => h16 h.2.1
    go_wp2
    go_ret
    exact ⟨by rw [HZ.out]; rfl, gr_alloc _ _⟩
  have i16 : ¬ (16 : Int) < (ns.length : Int) := by omega
  have HLs := hidM (And.intro h32 h16)
  go_wp2
  go_loopw [3] (fun p wr => ∃ i : Nat, i ≤ ns.length ∧ p = .int .i64 (i : Int) ∧ Hid (Gr (W.alloc (.cells #[.slice fo fs.length cf, .slice no ns.length cn] 25)) wr ∧ ∀ j (hj : j < ns.length), j < i → noteBad ns[j] = false)) (fun p _ => ns.length - (intOf p).toNat)
  case atStart => exact ⟨0, by omega, rfl, Keeps.refl _ _, fun j hj h => by omega⟩
  case round =>
    obtain ⟨i, hi, rfl, HI⟩ := hrel
    have t1 := HI.out.1.cell' p1 id
    by_cases hlt : i < ns.length
    · have hltI : (i : Int) < (ns.length : Int) := by omega
      obtain ⟨b, o, hno, hcs⟩ := HRn.out (fun e => by rw [e] at hlt; simp at hlt)
      obtain ⟨c0, c1⟩ := hcs i hlt
      have t2 := HI.out.1.cell' ((gr_alloc W _).cell' c0 id) id
      have t3 := HI.out.1.cell' ((gr_alloc W _).cell' c1 id) id
      have HBad : Hid (noteBad ns[i] = true → ¬ Yes D fs ns) := fun h hy => by
        have := hy.2.2.1 ns[i] (List.getElem_mem hlt)
        rw [h] at this; cases this
      have HNx : Hid (noteBad ns[i] = false → ∀ j (hj : j < ns.length), j < i + 1 → noteBad ns[j] = false) := fun h j hj hlt' => by
        by_cases e : j = i
        · subst e; exact h
        exact HI.out.2 j hj (by omega)
      obtain ⟨ky, hky⟩ : ∃ ky, ky = ns[i].1 := ⟨_, rfl⟩
      obtain ⟨tx, htx⟩ : ∃ tx, tx = ns[i].2 := ⟨_, rfl⟩
      have hnb : noteBad ns[i] = (decide (256 < ky.size) || decide (256 < tx.size)) := by rw [hky, htx]; rfl
      rw [hnb] at HBad HNx
      rw [← hky] at t2
      rw [← htx] at t3
      have HG := hidM HI.out.1
      have hi0 : (0 : Int) ≤ (i : Int) := by omega
      rw [hno] at t1
      clear hcs c0 c1 hky htx hnb HI hno
      by_cases hk : 256 < ky.size
      · have hkI : (256 : Int) < (ky.size : Int) := by omega
        have HZ : Hid (z = false) := HNo.out (HBad.out (by simp [hk]))
        go_wp2
        go_ret
        exact ⟨by rw [HZ.out]; rfl, (gr_alloc W _).tr HG.out⟩
      have hkI : ¬ (256 : Int) < (ky.size : Int) := by omega
      by_cases ht : 256 < tx.size
      · have htI : (256 : Int) < (tx.size : Int) := by omega
        have HZ : Hid (z = false) := HNo.out (HBad.out (by simp [ht]))
        go_wp2
        go_ret
        exact ⟨by rw [HZ.out]; rfl, (gr_alloc W _).tr HG.out⟩
      have htI : ¬ (256 : Int) < (tx.size : Int) := by omega
      have HN2 := hidM (HNx.out (by simp [hk, ht]))
      clear HNx HBad
      go_wp2
      go_roundw
      case rel => exact ⟨i + 1, by omega, by simp, HG.out, HN2.out⟩
      case measure => simp [intOf]; omega
    have hltI : ¬ (i : Int) < (ns.length : Int) := by omega
    have HNs : Hid (∀ n ∈ ns, noteBad n = false) := fun n hn => by
      obtain ⟨j, hj, rfl⟩ := List.mem_iff_getElem.1 hn
      exact HI.out.2 j hj (by omega)
    have HG := hidM ((gr_alloc W _).tr HI.out.1)
    have HB1 := hidM ((HI.out.1.block _ (lt_of_heap HB.out) id).trans HB.out)
    obtain ⟨p0', p1'⟩ := ce2 HB1.out
    have H33 := hidM (unlike_any S D fo cf fs wr (HRw.out.kept fun b hb => HG.out.block b (HSW.out b hb) id))
    clear HI t1 p0 p1
    go_wp2_with (go_at_call 29; refine Hid.out ?_)
    unfold Hid
    refine Calls.mono H33.out ?_
    rintro e V ⟨u, rfl, hg, hu⟩
    have HGV := hidM (HG.out.tr hg)
    have HB2 := hidM ((hg.block _ (lt_of_heap HB1.out) id).trans HB1.out)
    have HU := hidM hu
    clear hg hu H33 p0' p1' HB1
    obtain ⟨p0, p1⟩ := ce2 HB2.out
    cases u with
    | false =>
      have HZ : Hid (z = false) := HNo.out fun h => absurd (HU.out.2 h.2.2.2.1) (by decide)
      go_wp2_with fail
      go_ret
      exact ⟨by rw [HZ.out]; rfl, HGV.out⟩
    | true =>
      obtain ⟨K, hK⟩ : ∃ K, K = V.heap.size := ⟨_, rfl⟩
      have x80 := World.alloc_heap_new V (.cells #[.int .i64 0, .slice none 0 0] 74)
      rw [← hK] at x80
      have HSn : Hid (Seen W (V.alloc (.cells #[.int .i64 0, .slice none 0 0] 74)) K 0 []) := ⟨HGV.out.alloc _, by rw [hK]; exact HGV.out.size, none, 0, 0, x80, World.ownsRow_nil _ _ _ _, fun g e => by simp [Value.ownBlock] at e⟩
      have HBV : Hid ((V.alloc (.cells #[.int .i64 0, .slice none 0 0] 74)).heap[W.heap.size]? = some (.cells #[.slice fo fs.length cf, .slice no ns.length cn] 25) ∧ W.heap.size ≠ K) := ⟨((gr_alloc V _).block _ (lt_of_heap HB2.out) id).trans HB2.out, fun h => by have := lt_of_heap HB2.out; omega⟩
      obtain ⟨V1, hV1⟩ := ex (V.alloc (.cells #[.int .i64 0, .slice none 0 0] 74))
      rw [hV1] at HSn HBV
      have HFs : Hid (fs ≠ [] → ∃ b o, fo = some ⟨b, o, none⟩ ∧ ∀ i (h : i < fs.length), ∃ ao' ca', CellsAt W b (o + i * 7) fs[i] ao' ca' ∧ RowAt S W (D - 1) ao' fs[i].kids) := fun hne => by
        have hr := HRw.out
        cases D with
        | zero => exact absurd hr hne
        | succ d =>
          obtain ⟨b, o, e, _, h⟩ := hr.2 hne
          exact ⟨b, o, e, fun i hi => by obtain ⟨a, c, h1, h2, h3⟩ := h i hi; exact ⟨a, c, h1, h3⟩⟩
      clear x80 p0 p1 HB2
      go_wp2_with fail
      try rw [← hK]
      try rw [hV1]
      clear hV1 hK
      go_loopw [6] (fun p wr => ∃ k : Nat, k ≤ fs.length ∧ p = .int .i64 (k : Int) ∧ Hid (∃ st : Nat × List Int, mayK (mayF (D - 1) false 1) (fs.take k) (0, []) = some st ∧ Seen W wr K st.1 st.2 ∧ wr.heap[W.heap.size]? = some (.cells #[.slice fo fs.length cf, .slice no ns.length cn] 25))) (fun p _ => fs.length - (intOf p).toNat)
      case atStart => exact ⟨0, by omega, rfl, (0, []), rfl, HSn.out, HBV.out.1⟩
      case round =>
        obtain ⟨k, hk, rfl, HK⟩ := hrel
        obtain ⟨st, hst⟩ : ∃ st : Nat × List Int, Hid (_ = some st ∧ Seen W wr K st.1 st.2 ∧ _) := HK.out
        clear HK
        obtain ⟨p0, p1⟩ := ce2 hst.out.2.2
        by_cases hlt : k < fs.length
        · have hltI : (k : Int) < (fs.length : Int) := by omega
          obtain ⟨b, o, hfo, hcs⟩ := HFs.out (fun e => by rw [e] at hlt; simp at hlt)
          obtain ⟨ao', ca', hc, hrow⟩ := hcs k hlt
          obtain ⟨g0, g1, g2, g3, g4, g5, g6⟩ := hc.kept (hst.out.2.1.gr.block b (block_lt_of_cell hc.c0) id)
          have hbd := mayK_bound (fun x s s' hs h => mayF_bound (D - 1) false 1 x s s' hs h) (fs.take k) (0, []) st (by simp) (by simp) hst.out.1
          have HC := hidM (seenField_any S K (D - 1) fs[k] ao' ca' false 1 W hrow HSW.out (by omega) wr st.1 st.2 hst.out.2.1 hbd.1 hbd.2)
          have HTK : Hid (mayK (mayF (D - 1) false 1) (fs.take (k + 1)) (0, []) = mayF (D - 1) false 1 fs[k] st) := by show _ = _; rw [List.take_add_one, List.getElem?_eq_getElem hlt]; show mayK _ (_ ++ [fs[k]]) _ = _; rw [mayK_snoc, hst.out.1]; rfl
          have HKN : Hid (mayF (D - 1) false 1 fs[k] st = none → ¬ Yes D fs ns) := fun h hy => by
            obtain ⟨st', hs'⟩ := hy.2.2.2.2
            have := mayK_none _ (fs.take (k + 1)) (fs.drop (k + 1)) _ (HTK.out.trans h)
            rw [List.take_append_drop, hs'] at this
            cases this
          obtain ⟨rs, hrs⟩ : ∃ rs, rs = mayF (D - 1) false 1 fs[k] st := ⟨_, rfl⟩
          have e1 : (st.1, st.2) = st := rfl
          rw [e1, ← hrs] at HC
          rw [← hrs] at HTK HKN
          have hkn : (0 : Int) ≤ (k : Int) := by omega
          rw [hfo] at p0
          have e2 : ((1 : Nat) : Int) = 1 := rfl
          rw [e2] at HC
          clear hcs hc hbd hrs e1 e2 hfo
          go_wp2_with (go_at_call 30; refine Hid.out ?_)
          unfold Hid
          refine Calls.mono HC.out ?_
          rintro e w2 hq
          cases rs with
          | none =>
            obtain ⟨rfl, hgq⟩ : e = .returned (.bool false) ∧ Gr W w2 := hq
            have HZ : Hid (z = false) := HNo.out (HKN.out rfl)
            have HGq := hidM hgq
            go_wp2_with fail
            go_ret
            exact ⟨by rw [HZ.out]; rfl, HGq.out⟩
          | some st2 =>
            obtain ⟨rfl, hsq, hkq⟩ : e = .returned (.bool true) ∧ Seen W w2 K st2.1 st2.2 ∧ KT K wr w2 := hq
            have HN : Hid (∃ st : Nat × List Int, mayK (mayF (D - 1) false 1) (fs.take (k + 1)) (0, []) = some st ∧ Seen W w2 K st.1 st.2 ∧ w2.heap[W.heap.size]? = some (.cells #[.slice fo fs.length cf, .slice no ns.length cn] 25)) := ⟨st2, HTK.out, hsq, hkq.2 _ _ _ hst.out.2.2 (by decide) HBV.out.2⟩
            clear hsq hkq hst HTK HKN HC g0 g1 g2 g3 g4 g5 g6 p0 p1
            go_wp2_with fail
            go_roundw
            case rel => exact ⟨k + 1, by omega, by simp, HN.out⟩
            case measure => simp [intOf]; omega
        have hltI : ¬ (k : Int) < (fs.length : Int) := by omega
        have HZ : Hid (z = true) := HYe.out ⟨HLs.out.1, HLs.out.2, HNs.out, HU.out.1 (by trivial), st, by have := hst.out.1; rwa [List.take_of_length_le (by omega)] at this⟩
        have HGq := hidM hst.out.2.1.gr
        go_wp2_with fail
        go_ret
        exact ⟨by rw [HZ.out]; rfl, HGq.out⟩
end Go.Proofs.YtdihbfjjddmbiaaGreatDoor.Kit
