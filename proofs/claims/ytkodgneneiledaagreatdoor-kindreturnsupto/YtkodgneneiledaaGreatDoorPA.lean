import Derived.Test.YtkodgneneiledaaGreatDoorHA
namespace Go.Proofs.YtkodgneneiledaaGreatDoor.Kit
open Go.RowKit Go.Shelf Go.Deep
set_option linter.unusedVariables false

/-! ### fields left out, or put behind: what is wrong then -/
/-- y is no worse than x -/
structure Sim (x y : LS) : Prop where
  fld : y.fld = x.fld
  len : y.path.length = x.path.length
  inD : y.inD = x.inD
  idx : idxOf x.list x.fld.name = x.idx → idxOf y.list y.fld.name = y.idx
inductive SubSim : List LS → List LS → Prop
  | nil : SubSim [] []
  | skip {M N : List LS} (x : LS) : SubSim M N → SubSim M (x :: N)
  | take {M N : List LS} {x y : LS} : Sim x y → SubSim M N → SubSim (y :: M) (x :: N)
theorem SubSim.skips {M N : List LS} (h : SubSim M N) : ∀ L : List LS, SubSim M (L ++ N)
  | [] => h
  | x :: L => .skip x (h.skips L)
theorem SubSim.append {M N M' N' : List LS} (h : SubSim M N) (h' : SubSim M' N') : SubSim (M ++ M') (N ++ N') := by
  induction h with
  | nil => exact h'
  | skip x _ ih => exact .skip x ih
  | take s _ ih => exact .take s ih
theorem SubSim.none : ∀ N : List LS, SubSim [] N
  | [] => .nil
  | x :: N => .skip x (SubSim.none N)
theorem SubSim.flat {f g : Nat → List LS} : ∀ (l : List Nat), (∀ i ∈ l, SubSim (f i) (g i)) → SubSim (l.flatMap f) (l.flatMap g)
  | [], _ => .nil
  | i :: l, h => by
    simp only [List.flatMap_cons]
    exact (h i (List.mem_cons_self ..)).append (SubSim.flat l fun j hj => h j (List.mem_cons_of_mem _ hj))
theorem wr_mono {m : Nat} {a a' : Int} {nR : Bool} {idx i idx' i' : Int} {tb nl d : Bool} {k : Int} {kd tk tk' : Bool} (h : wr m a nR idx i tb nl d k kd tk = 0) (ha : a' ≤ a) (hi : idx = i → idx' = i') (ht : tk' = true → tk = true) : wr m a' nR idx' i' tb nl d k kd tk' = 0 := by
  unfold wr at h ⊢
  by_cases a1 : 64 < m
  · rw [if_pos a1] at h; omega
  rw [if_neg a1] at h ⊢
  by_cases a2 : 256 ≤ a
  · rw [if_pos a2] at h; omega
  rw [if_neg a2] at h
  rw [if_neg (show ¬ 256 ≤ a' by omega)]
  by_cases a3 : nR = false
  · rw [if_pos a3] at h; omega
  rw [if_neg a3] at h ⊢
  by_cases a4 : idx = i
  · rw [if_neg (show ¬ idx ≠ i from fun g => g a4)] at h
    rw [if_neg (show ¬ idx' ≠ i' from fun g => g (hi a4))]
    by_cases a5 : tb = false
    · rw [if_pos a5] at h; omega
    rw [if_neg a5] at h ⊢
    by_cases a6 : nl = false
    · rw [if_pos a6] at h; omega
    rw [if_neg a6] at h ⊢
    by_cases a7 : d = true ∧ (k = 19 ∨ k = 20)
    · rw [if_pos a7] at h; omega
    rw [if_neg a7] at h ⊢
    by_cases a8 : k = 19 ∧ (kd = true ∨ tk = true)
    · rw [if_pos a8] at h; omega
    rw [if_neg (show ¬ (k = 19 ∧ (kd = true ∨ tk' = true)) from fun g => a8 ⟨g.1, g.2.elim .inl fun e => .inr (ht e)⟩)]
  · rw [if_pos a4] at h; omega
theorem wrongE_mono {x y : LS} {a a' : Nat} {t t' : Nat → Bool} (s : Sim x y) (h : wrongE x a t = 0) (ha : a' ≤ a) (ht : ∀ n, t' n = true → t n = true) : wrongE y a' t' = 0 := by
  unfold wrongE at h ⊢
  rw [s.len, s.inD, s.fld]
  have e := s.idx
  rw [s.fld] at e
  exact wr_mono h (by omega) e (ht _)
theorem tkL_append (l l' : List LS) (n : Nat) : tkL (l ++ l') n = (tkL l n || tkL l' n) := by simp [tkL]
theorem tkL_cons (x : LS) (l : List LS) (n : Nat) : tkL (x :: l) n = ((decide (x.fld.kind = 19) && decide (x.fld.id.toNat = n)) || tkL l n) := by simp [tkL]
/-- all right, others standing ahead -/
def AllP (a : Nat) (t : Nat → Bool) (N : List LS) : Prop := ∀ k (h : k < N.length), wrongE N[k] (a + k) (fun n => t n || tkL (N.take k) n) = 0
theorem AllP.of {N : List LS} (h : AllR N) : AllP 0 (fun _ => false) N := fun k hk => by
  have := h k hk
  simpa using this
theorem AllP.to {N : List LS} (h : AllP 0 (fun _ => false) N) : AllR N := fun k hk => by
  have := h k hk
  simpa using this
theorem AllP.head {a : Nat} {t : Nat → Bool} {x : LS} {N : List LS} (h : AllP a t (x :: N)) : wrongE x a t = 0 := by
  have := h 0 (by simp)
  simpa [tkL] using this
theorem AllP.tail {a : Nat} {t : Nat → Bool} {x : LS} {N : List LS} (h : AllP a t (x :: N)) : AllP (a + 1) (fun n => t n || (decide (x.fld.kind = 19) && decide (x.fld.id.toNat = n))) N := fun k hk => by
  have := h (k + 1) (by simp; omega)
  simp only [List.getElem_cons_succ, List.take_succ_cons, tkL_cons] at this
  rw [show a + 1 + k = a + (k + 1) by omega]
  simpa [Bool.or_assoc] using this
theorem AllP.cons {a : Nat} {t : Nat → Bool} {x : LS} {N : List LS} (h0 : wrongE x a t = 0) (h : AllP (a + 1) (fun n => t n || (decide (x.fld.kind = 19) && decide (x.fld.id.toNat = n))) N) : AllP a t (x :: N) := fun k hk => by
  cases k with
  | zero => simpa [tkL] using h0
  | succ k =>
    have := h k (by simpa using hk)
    simp only [List.getElem_cons_succ, List.take_succ_cons, tkL_cons]
    rw [show a + (k + 1) = a + 1 + k by omega]
    simpa [Bool.or_assoc] using this
theorem SubSim.allP {M N : List LS} (s : SubSim M N) : ∀ {a a' : Nat} {t t' : Nat → Bool}, AllP a t N → a' ≤ a → (∀ n, t' n = true → t n = true) → AllP a' t' M := by
  induction s with
  | nil => exact fun _ _ _ k hk => by simp at hk
  | skip x _ ih => exact fun h ha ht => ih h.tail (by omega) fun n e => by simp [ht n e]
  | take s _ ih =>
    rename_i M N x y _
    refine fun {a a' t t'} h ha ht => AllP.cons (wrongE_mono s h.head ha ht) (ih h.tail (by omega) fun n e => ?_)
    rw [s.fld, Bool.or_eq_true] at e
    rw [Bool.or_eq_true]
    exact e.imp (ht n) id
theorem SubSim.allR {M N : List LS} (s : SubSim M N) (h : AllR N) : AllR M := (s.allP (AllP.of h) (Nat.le_refl _) fun _ e => by cases e).to

theorem nodes_cond (d : Nat) (l : List FT) (p : List Nat) (b : Bool) : nodes (d + 1) l p b = (List.range l.length).flatMap fun i => ⟨l, p ++ [i], b⟩ :: nodes d (l[i]!).kids (p ++ [i]) (b || decide ((l[i]!).kind = 19)) := rfl
/-- what lies within a field does not hang on where the field stands -/
theorem nodes_sim : ∀ (d : Nat) (l : List FT) (p p' : List Nat) (b : Bool), p.length = p'.length → SubSim (nodes d l p' b) (nodes d l p b)
  | 0, _, _, _, _, _ => .nil
  | d + 1, l, p, p', b, h => by
    rw [nodes_cond, nodes_cond]
    refine SubSim.flat _ fun i hi => .take ?_ (nodes_sim d _ _ _ _ (by simp [h]))
    exact ⟨by simp [LS.fld, LS.idx], by simp [h], rfl, by simp [LS.fld, LS.idx]⟩
/-- a field of one list and the same field of another one -/
theorem block_sim {d : Nat} {l l' : List FT} {i j : Nat} {b : Bool} (hi : i < l.length) (hj : j < l'.length) (e : l'[j] = l[i]) (hx : idxOf l (l[i]).name = i → idxOf l' (l[i]).name = j) :
    SubSim (⟨l', [] ++ [j], b⟩ :: nodes d (l'[j]!).kids ([] ++ [j]) (b || decide ((l'[j]!).kind = 19))) (⟨l, [] ++ [i], b⟩ :: nodes d (l[i]!).kids ([] ++ [i]) (b || decide ((l[i]!).kind = 19))) := by
  have e1 : l[i]! = l[i] := getElem!_pos l i hi
  have e2 : l'[j]! = l[i] := (getElem!_pos l' j hj).trans e
  rw [e1, e2]
  refine .take ⟨?_, rfl, rfl, ?_⟩ (nodes_sim _ _ _ _ _ rfl)
  · simp [LS.fld, LS.idx, hi, hj, e]
  · simp only [LS.fld, LS.idx, List.nil_append, List.getLastD_cons, List.getLastD_nil]
    rw [List.getElem?_eq_getElem hi, List.getElem?_eq_getElem hj, e]
    simpa using hx
theorem idxOf_le {l : List FT} {nm : ByteArray} {k : Nat} (hk : k < l.length) (h : idxOf l nm = k) : (∀ i (h : i < l.length), i < k → sEq l[i].name nm = false) ∧ sEq l[k].name nm = true := by
  unfold idxOf at h
  split at h
  · rename_i hlt
    have e : l.findIdx (fun f => sEq f.name nm) = k := by omega
    have h1 := List.findIdx_getElem (xs := l) (p := fun f => sEq f.name nm) (w := hlt)
    refine ⟨fun i hi hik => ?_, ?_⟩
    · have := List.not_of_lt_findIdx (xs := l) (p := fun f => sEq f.name nm) (i := i) (by omega)
      simpa using this
    · subst e; exact h1
  · omega
theorem sEq_refl (a : ByteArray) : sEq a a = true := by simp [sEq]
/-- a list without its k-th -/
def lessF (l : List FT) (k : Nat) : List FT := l.take k ++ l.drop (k + 1)
theorem lessF_len (l : List FT) (k : Nat) (hk : k < l.length) : (lessF l k).length = l.length - 1 := by simp [lessF]; omega
theorem lessF_lo {l : List FT} {k i : Nat} (hk : k < l.length) (hi : i < k) : (lessF l k)[i]'(by rw [lessF_len l k hk]; omega) = l[i]'(by omega) := by
  simp only [lessF]
  rw [List.getElem_append_left (by simp; omega)]
  simp
theorem lessF_hi {l : List FT} {k i : Nat} (hi : k + 1 + i < l.length) : (lessF l k)[k + i]'(by rw [lessF_len l k (by omega)]; omega) = l[k + 1 + i]'hi := by
  simp only [lessF]
  rw [List.getElem_append_right (by simp; omega)]
  simp only [List.getElem_drop, List.length_take]
  congr 1
  omega
theorem less_idx {l : List FT} {k j : Nat} (hk : k < l.length) (hj : j < (lessF l k).length) (i : Nat) (hi : i < l.length) (e : (lessF l k)[j] = l[i]) (hij : i = if j < k then j else j + 1) (hx : idxOf l (l[i]).name = i) : idxOf (lessF l k) (l[i]).name = j := by
  have h := (idxOf_le hi hx).1
  have hlen := lessF_len l k hk
  refine idxOf_some hj (fun q hq hlt => ?_) (by rw [e]; exact sEq_refl _)
  by_cases c : q < k
  · rw [lessF_lo hk c]
    refine h q (by omega) ?_
    split at hij <;> omega
  · obtain ⟨r, rfl⟩ : ∃ r, q = k + r := ⟨q - k, by omega⟩
    rw [lessF_hi (by omega)]
    refine h _ (by omega) ?_
    split at hij <;> omega
theorem less_sub (d : Nat) (l : List FT) (k : Nat) (hk : k < l.length) : SubSim (nodes (d + 1) (lessF l k) [] false) (nodes (d + 1) l [] false) := by
  have hlen := lessF_len l k hk
  obtain ⟨m, hm⟩ : ∃ m, l.length = k + (1 + m) := ⟨l.length - k - 1, by omega⟩
  have hm' : (lessF l k).length = k + m := by omega
  rw [nodes_cond, nodes_cond, hm, hm', List.range_add, List.range_add, List.flatMap_append, List.flatMap_append]
  refine SubSim.append (SubSim.flat _ fun i hi => ?_) ?_
  · have hik : i < k := by simpa using hi
    exact block_sim (by omega) (by omega) (lessF_lo hk hik) (fun hx => less_idx hk (by omega) i (by omega) (lessF_lo hk hik) (by simp [hik]) hx)
  · rw [List.range_add, List.map_append, List.flatMap_append]
    refine SubSim.skips ?_ _
    simp only [List.map_map, List.flatMap_map]
    refine SubSim.flat _ fun i hi => ?_
    have him : i < m := by simpa using hi
    have e : k + (1 + i) = k + 1 + i := by omega
    show SubSim _ (⟨l, [] ++ [k + (1 + i)], false⟩ :: nodes d (l[k + (1 + i)]!).kids ([] ++ [k + (1 + i)]) (false || decide ((l[k + (1 + i)]!).kind = 19)))
    rw [e]
    exact block_sim (by omega) (by omega) (lessF_hi (by omega)) (fun hx => less_idx hk (by omega) (k + 1 + i) (by omega) (lessF_hi (by omega)) (by rw [if_neg (by omega)]; omega) hx)
theorem one_sub (d : Nat) (l : List FT) (k : Nat) (hk : k < l.length) : SubSim (nodes (d + 1) [l[k]] [] false) (nodes (d + 1) l [] false) := by
  obtain ⟨m, hm⟩ : ∃ m, l.length = k + (1 + m) := ⟨l.length - k - 1, by omega⟩
  rw [nodes_cond, nodes_cond, hm, List.range_add, List.flatMap_append, List.range_add, List.map_append, List.flatMap_append]
  refine SubSim.skips ?_ _
  have e : (List.range [l[k]].length).flatMap (fun i => (⟨[l[k]], [] ++ [i], false⟩ : LS) :: nodes d ([l[k]][i]!).kids ([] ++ [i]) (false || decide (([l[k]][i]!).kind = 19))) = ((⟨[l[k]], [] ++ [0], false⟩ : LS) :: nodes d ([l[k]][0]!).kids ([] ++ [0]) (false || decide (([l[k]][0]!).kind = 19))) ++ [] := by simp
  rw [e]
  refine SubSim.append ?_ (SubSim.none _)
  simp only [List.range_one, List.map_cons, List.map_nil, List.flatMap_cons, List.flatMap_nil, List.append_nil, Nat.add_zero]
  exact block_sim hk (by simp) rfl fun _ => idxOf_some (by simp) (fun i _ h => by omega) (by simpa using sEq_refl _)
theorem more_sub (d : Nat) (l : List FT) (f : FT) : SubSim (upto d (l ++ [f]) [] false l.length) (nodes (d + 1) l [] false) := by
  rw [nodes_cond]
  unfold upto
  refine SubSim.flat _ fun i hi => ?_
  have hil : i < l.length := by simpa using hi
  refine block_sim hil (by simp; omega) (by simp [hil]) fun hx => ?_
  have h := idxOf_le hil hx
  refine idxOf_some (by simp; omega) (fun q hq hlt => ?_) (by simpa [hil] using h.2)
  have hql : q < l.length := by omega
  rw [List.getElem_append_left hql]
  exact h.1 q hql hlt
theorem SubSim.len {f g : Nat → List LS} (l : List Nat) (h : ∀ i ∈ l, (f i).length = (g i).length) : (l.flatMap f).length = (l.flatMap g).length := by
  induction l with
  | nil => rfl
  | cons i l ih => simp only [List.flatMap_cons, List.length_append]; rw [h i (List.mem_cons_self ..), ih fun j hj => h j (List.mem_cons_of_mem _ hj)]
theorem nodes_len : ∀ (d : Nat) (l : List FT) (p p' : List Nat) (b b' : Bool), (nodes d l p b).length = (nodes d l p' b').length
  | 0, _, _, _, _, _ => rfl
  | d + 1, l, p, p', b, b' => by
    rw [nodes_cond, nodes_cond]
    exact SubSim.len _ fun i _ => by simp only [List.length_cons]; rw [nodes_len d]
theorem block_len {d : Nat} {l l' : List FT} {i j : Nat} {b : Bool} (hi : i < l.length) (hj : j < l'.length) (e : l'[j] = l[i]) :
    ((⟨l', [] ++ [j], b⟩ : LS) :: nodes d (l'[j]!).kids ([] ++ [j]) (b || decide ((l'[j]!).kind = 19))).length = ((⟨l, [] ++ [i], b⟩ : LS) :: nodes d (l[i]!).kids ([] ++ [i]) (b || decide ((l[i]!).kind = 19))).length := by
  have e1 : l[i]! = l[i] := getElem!_pos l i hi
  have e2 : l'[j]! = l[i] := (getElem!_pos l' j hj).trans e
  rw [e1, e2]
  simp only [List.length_cons]
  rw [nodes_len d]
theorem less_len (d : Nat) (l : List FT) (k : Nat) (hk : k < l.length) : (nodes (d + 1) (lessF l k) [] false).length + (nodes (d + 1) [l[k]] [] false).length = (nodes (d + 1) l [] false).length := by
  have hlen := lessF_len l k hk
  obtain ⟨m, hm⟩ : ∃ m, l.length = k + (1 + m) := ⟨l.length - k - 1, by omega⟩
  have hm' : (lessF l k).length = k + m := by omega
  have e : nodes (d + 1) [l[k]] [] false = ((⟨[l[k]], [] ++ [0], false⟩ : LS) :: nodes d ([l[k]][0]!).kids ([] ++ [0]) (false || decide (([l[k]][0]!).kind = 19))) := by rw [nodes_cond]; simp
  have e' := block_len (d := d) (l := l) (l' := [l[k]]) (i := k) (j := 0) (b := false) hk (by simp) rfl
  rw [e, e']
  rw [nodes_cond, nodes_cond, hm, hm', List.range_add, List.range_add, List.flatMap_append, List.flatMap_append, List.range_add, List.map_append, List.flatMap_append]
  simp only [List.length_append, List.map_map, List.flatMap_map, List.range_one, List.map_cons, List.map_nil, List.flatMap_cons, List.flatMap_nil, List.append_nil, Nat.add_zero]
  have h1 : ((List.range k).flatMap fun i => (⟨lessF l k, [] ++ [i], false⟩ : LS) :: nodes d ((lessF l k)[i]!).kids ([] ++ [i]) (false || decide (((lessF l k)[i]!).kind = 19))).length = ((List.range k).flatMap fun i => (⟨l, [] ++ [i], false⟩ : LS) :: nodes d (l[i]!).kids ([] ++ [i]) (false || decide ((l[i]!).kind = 19))).length :=
    SubSim.len _ fun i hi => by
      have hik : i < k := by simpa using hi
      exact block_len (by omega) (by omega) (lessF_lo hk hik)
  have h2 : ((List.range m).flatMap fun i => (⟨lessF l k, [] ++ [k + i], false⟩ : LS) :: nodes d ((lessF l k)[k + i]!).kids ([] ++ [k + i]) (false || decide (((lessF l k)[k + i]!).kind = 19))).length = ((List.range m).flatMap fun i => (⟨l, [] ++ [k + (1 + i)], false⟩ : LS) :: nodes d (l[k + (1 + i)]!).kids ([] ++ [k + (1 + i)]) (false || decide ((l[k + (1 + i)]!).kind = 19))).length :=
    SubSim.len _ fun i hi => by
      have him : i < m := by simpa using hi
      rw [show k + (1 + i) = k + 1 + i by omega]
      exact block_len (by omega) (by omega) (lessF_hi (by omega))
  rw [h1, h2]
  simp only [Function.comp_def]
  omega
/-- with one of its fields twice: the first wrong one is the last -/
theorem twice_bad (d : Nat) (l : List FT) (k : Nat) (hk : k < l.length) (h : AllR (nodes (d + 1) l [] false)) (ha : (nodes (d + 1) l [] false).length < 256) :
    ∃ L : List LS, L ++ [⟨l ++ [l[k]], [l.length], false⟩] <+: nodes (d + 1) (l ++ [l[k]]) [] false ∧ AllR L ∧ wrongE ⟨l ++ [l[k]], [l.length], false⟩ L.length (tkL L) = 31 := by
  refine ⟨upto d (l ++ [l[k]]) [] false l.length, ?_, (more_sub d l _).allR h, ?_⟩
  · have := upto_prefix d (l ++ [l[k]]) [] false (i := l.length + 1) (j := (l ++ [l[k]]).length) (by simp)
    rw [upto_succ] at this
    rw [nodes_succ]
    refine List.IsPrefix.trans ?_ this
    exact ⟨nodes d ((l ++ [l[k]])[l.length]!).kids ([] ++ [l.length]) (false || decide (((l ++ [l[k]])[l.length]!).kind = 19)), by rw [List.append_assoc]; rfl⟩
  · have hlen : (upto d (l ++ [l[k]]) [] false l.length).length = (nodes (d + 1) l [] false).length := by
      rw [nodes_cond]
      unfold upto
      refine SubSim.len _ fun i hi => ?_
      have hil : i < l.length := by simpa using hi
      exact block_len hil (by simp; omega) (by simp [hil])
    have hf : (⟨l ++ [l[k]], [l.length], false⟩ : LS).fld = l[k] := by simp [LS.fld, LS.idx]
    -- the field itself is right where it stands
    have hb : wrongE ⟨l, [k], false⟩ (upto d l [] false k).length (tkL (upto d l [] false k)) = 0 := by
      refine h.pre (x := ⟨l, [k], false⟩) ?_
      rw [nodes_succ]
      have := upto_prefix d l [] false (i := k + 1) (j := l.length) (by omega)
      rw [upto_succ] at this
      refine List.IsPrefix.trans ?_ this
      exact ⟨nodes d (l[k]!).kids ([] ++ [k]) (false || decide ((l[k]!).kind = 19)), by rw [List.append_assoc]; rfl⟩
    have hg : (⟨l, [k], false⟩ : LS).fld = l[k] := by simp [LS.fld, LS.idx, hk]
    unfold wrongE at hb ⊢
    rw [hf, hlen]
    rw [hg] at hb
    simp only [LS.idx, List.getLastD_cons, List.getLastD_nil, List.length_singleton] at hb ⊢
    have hn : nameB l[k].name = true ∧ idxOf l l[k].name = k := by
      unfold wr at hb
      rw [if_neg (by omega)] at hb
      split at hb
      · omega
      split at hb
      · omega
      split at hb
      · omega
      rename_i a1 a2
      exact ⟨by simpa using a1, by simpa using a2⟩
    have hi : idxOf (l ++ [l[k]]) l[k].name = k := by
      have hh := idxOf_le hk hn.2
      refine idxOf_some (by simp; omega) (fun q hq hlt => ?_) (by simpa [hk] using hh.2)
      have hql : q < l.length := by omega
      rw [List.getElem_append_left hql]
      exact hh.1 q hql hlt
    unfold wr
    rw [if_neg (by omega), if_neg (by omega), if_neg (by simp [hn.1]), if_pos (by rw [hi]; omega)]
end Go.Proofs.YtkodgneneiledaaGreatDoor.Kit
