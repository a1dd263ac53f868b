import Derived.Test.YtfepbpibhcfjdaaDoorPA
import Derived.Test.YtfepbpibhcfjdaaDoorNF
import Derived.Test.YtfepbpibhcfjdaaDoorOL
import Derived.Test.YtfepbpibhcfjdaaDoorQC
namespace Go.Proofs.YtfepbpibhcfjdaaDoor.Kit
open Go.RowKit Go.Shelf Go.Deep
set_option linter.unusedVariables false

/-! ### ways, depths -/
theorem atGo_snoc (k : Int) (hk : ∀ f : FT, ¬ (0 ≤ k ∧ k < f.kids.length) → True) : ∀ (cur : FT) (l : List FT) (p : List Int) (f : FT), atGo cur l p = some f → p ≠ [] → ¬ (0 ≤ k ∧ k < (f.kids.length : Int)) → atGo cur l (p ++ [k]) = none
  | cur, l, [], f, h, hp, _ => absurd rfl hp
  | cur, l, [i], f, h, hp, hn => by
    simp only [List.cons_append, List.nil_append, atGo] at h ⊢
    split at h
    · rename_i c
      simp only [Option.some.injEq] at h
      rw [if_pos c, h, if_neg hn]
    · cases h
  | cur, l, i :: j :: p, f, h, hp, hn => by
    rw [List.cons_append, atGo]
    rw [atGo] at h
    split at h
    · rename_i c
      rw [if_pos c]
      exact atGo_snoc k hk _ _ (j :: p) f h (by simp) hn
    · cases h
/-- behind a node's way and its number of children there is none -/
theorem node_behind {D : Nat} {fs : List FT} {x : LS} (h : x ∈ nodes D fs [] false) : atR 0 fs ((x.path.map fun (n : Nat) => (n : Int)) ++ [(x.fld.kids.length : Int)]) = (2, zFT) := by
  have e := node_at h
  unfold atR at e ⊢
  rw [if_neg (by simp)] at e ⊢
  by_cases hp : (x.path.map fun (n : Nat) => (n : Int)) = []
  · rw [if_pos hp] at e; simp at e
  rw [if_neg hp] at e
  rw [if_neg (by simp)]
  split at e
  · simp at e
  · rename_i f hf
    simp only [Prod.mk.injEq, true_and] at e
    rw [atGo_snoc _ (fun _ _ => trivial) zFT fs _ f hf hp (by rw [e]; omega)]
theorem AllR.nd {N : List LS} (h : AllR N) {k : Nat} (hk : k < N.length) : nameB N[k].fld.name = true ∧ tableB N[k].fld = true ∧ nullB N[k].fld = true := by
  have := h k hk
  unfold wrongE wr at this
  split at this
  · omega
  split at this
  · omega
  split at this
  · omega
  split at this
  · omega
  split at this
  · omega
  split at this
  · omega
  rename_i a3 a4 a5 a6
  exact ⟨by simpa using a3, by simpa using a5, by simpa using a6⟩
/-- a field's type may be, if the field may -/
theorem hold_all {d : Nat} {f : FT} (h : AllR (nodes (d + 1) [f] [] false)) : AllR (nodes (d + 1) [holdA f] [] false) := by
  have e : ∀ g : FT, nodes (d + 1) [g] [] false = (⟨[g], [0], false⟩ : LS) :: nodes d g.kids [0] (decide (g.kind = 19)) := fun g => by rw [nodes_cond]; simp
  rw [e] at h ⊢
  have hk : (holdA f).kids = f.kids := rfl
  have hkd : (holdA f).kind = f.kind := rfl
  rw [hk, hkd]
  have h0 := AllR.nd h (k := 0) (by simp)
  have hw : wrongE ⟨[f], [0], false⟩ 0 (fun _ => false) = 0 := (AllP.of h).head
  have ef : (⟨[f], [0], false⟩ : LS).fld = f := by simp [LS.fld, LS.idx]
  have ea : (⟨[holdA f], [0], false⟩ : LS).fld = holdA f := by simp [LS.fld, LS.idx]
  simp only [List.getElem_cons_zero, ef] at h0
  refine (AllP.cons ?_ ?_).to
  · have hn : nameB (holdA f).name = true := by show nameB ⟨#[97]⟩ = true; kernel_rfl
    have ht : tableB (holdA f) = true := h0.2.1
    have hkids := tab_kids h0.2.1
    have hu : nullB (holdA f) = true := by
      show (if f.kind = 1 then nulA f else if f.kind = 18 then !(nulA f) else if f.kind = 20 then nulA f == ((f.kids[0]?.map FT.nul).getD false) else true) = true
      unfold nulA
      by_cases c1 : f.kind = 1
      · rw [if_pos c1, if_neg (by omega)]; simp [c1]
      rw [if_neg c1]
      by_cases c2 : f.kind = 18
      · rw [if_pos c2, if_neg (by omega)]; simp [c2]
      rw [if_neg c2]
      by_cases c3 : f.kind = 20
      · rw [if_pos c3, if_pos ⟨c3, hkids.2 c3⟩]; simp [kid0]
      · rw [if_neg c3]
    have hi : idxOf [holdA f] (holdA f).name = 0 := idxOf_some (k := 0) (by simp) (fun i _ h => by omega) (by simpa using sEq_refl _)
    unfold wrongE at hw ⊢
    rw [ef] at hw
    rw [ea]
    simp only [LS.idx, List.getLastD_cons, List.getLastD_nil, List.length_singleton] at hw ⊢
    rw [hn, ht, hu, hi]
    rw [h0.1, h0.2.1, h0.2.2] at hw
    exact wr_mono hw (Int.le_refl _) (fun _ => rfl) id
  · have := (AllP.of h).tail
    rw [ef] at this
    rw [ea]
    exact this
/-- how deep a list of fields is -/
theorem foldl_max : ∀ (l : List Nat) (m : Nat), l.foldl max m = max m (l.foldl max 0)
  | [], m => by simp
  | x :: l, m => by
    rw [List.foldl_cons, List.foldl_cons, foldl_max l (max m x), foldl_max l (max 0 x)]
    omega
theorem mostN_map (c : List LS) : mostN c = (c.map fun s => s.path.length).foldl max 0 := by unfold mostN; rw [List.foldl_map]
theorem mostN_app (a b : List LS) : mostN (a ++ b) = max (mostN a) (mostN b) := by
  rw [mostN_map, mostN_map, mostN_map, List.map_append, List.foldl_append, foldl_max]
theorem mostN_upto (d : Nat) (l : List FT) : ∀ i, i ≤ l.length → mostN (upto d l [] false i) = ((l.take i).map fun f => deepN (nodes d f.kids [] false)).foldl max 0 := by
  intro i
  induction i with
  | zero => intro _; rfl
  | succ i ih =>
    intro hi
    have hil : i < l.length := by omega
    rw [upto_succ, mostN_app, ih (by omega), List.take_add_one, List.getElem?_eq_getElem hil]
    simp only [Option.toList_some, List.map_append, List.map_cons, List.map_nil, List.foldl_append, List.foldl_cons, List.foldl_nil]
    congr 1
    have e1 : l[i]! = l[i] := getElem!_pos l i hil
    have e := most_deep d l[i]
    rw [nodes_cond] at e
    simp only [List.length_singleton, List.range_one, List.flatMap_cons, List.flatMap_nil, List.append_nil] at e
    rw [← e, e1]
    have e2 : [l[i]][0]! = l[i] := rfl
    rw [e2]
    have hl : ∀ (a b : List LS), a.map (fun s => s.path.length) = b.map (fun s => s.path.length) → mostN a = mostN b := fun a b h => by
      rw [mostN_map, mostN_map, h]
    refine hl _ _ ?_
    simp only [List.map_cons, List.nil_append, List.length_singleton, List.cons.injEq, true_and]
    have := nodes_lens d l[i].kids [0] [i] (false || decide (l[i].kind = 19)) (false || decide (l[i].kind = 19)) 0 rfl
    simpa using this
theorem wm_last {pre : List WEl} {x : WEl} {ls : List LS} (h : WM (pre ++ [x]) ls) : ∃ y ∈ ls, y.path = x.path ∧ y.fld = x.f := by
  unfold WM at h
  have : (x.path, x.f) ∈ ls.map (fun s => (s.path, s.fld)) := by rw [← h]; simp
  obtain ⟨y, hy, e⟩ := List.mem_map.1 this
  simp only [Prod.mk.injEq] at e
  exact ⟨y, hy, e.1, e.2⟩
/-- what At tells of a field that Walk gave -/
theorem wm_at {D : Nat} {er : Int} {fs l' : List FT} (hl' : l' = if (er == 0) = true then fs else []) {pre : List WEl} {x : WEl} (h : ∃ ls, ls <+: nodes D l' [] false ∧ WM (pre ++ [x]) ls) :
    er = 0 ∧ l' = fs ∧ atR er fs (x.path.map fun (n : Nat) => (n : Int)) = (0, x.f) ∧ atR er fs ((x.path.map fun (n : Nat) => (n : Int)) ++ [(x.f.kids.length : Int)]) = (2, zFT) ∧ pre.length < (nodes D l' [] false).length := by
  obtain ⟨ls, hp, hm⟩ := h
  obtain ⟨y, hy, e1, e2⟩ := wm_last hm
  have hyn := hp.subset hy
  have he : er = 0 := by
    by_cases c : er = 0
    · exact c
    · rw [if_neg (by simpa using c)] at hl'
      subst hl'
      exfalso
      cases D with
      | zero => simp [nodes] at hyn
      | succ D => simp [nodes] at hyn
  subst he
  have hl : l' = fs := by simpa using hl'
  rw [hl] at hyn
  have h1 := node_at hyn
  have h2 := node_behind hyn
  rw [e1, e2] at h1 h2
  have hlen : (pre ++ [x]).length = ls.length := by
    have := congrArg List.length hm
    simpa using this
  have := hp.length_le
  simp at hlen
  exact ⟨rfl, hl, h1, h2, by omega⟩
end Go.Proofs.YtfepbpibhcfjdaaDoor.Kit
