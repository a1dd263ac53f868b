import Derived.Test.YtfepbpibhcfjdaaDoorND
import Derived.Test.YtfepbpibhcfjdaaDoorMF
import Derived.Test.YtfepbpibhcfjdaaDoorPA
namespace Go.Proofs.YtfepbpibhcfjdaaDoor.Kit
open Go.RowKit Go.Shelf Go.Deep
set_option linter.unusedVariables false

/-! ### rows of fields put together -/
theorem row7_app (a b : List FT) (F G H : Nat → Option Addr × Nat) (h1 : ∀ i, i < a.length → H i = F i) (h2 : ∀ i, i < b.length → H (a.length + i) = G i) : row7 a F ++ row7 b G = row7 (a ++ b) H := by
  apply List.ext_getElem?
  intro j
  by_cases hj : j < a.length * 7
  · rw [List.getElem?_append_left (by rw [row7_len]; exact hj)]
    have e : j = j / 7 * 7 + j % 7 := by omega
    have l1 : j / 7 < a.length := by omega
    rw [e, row7_at l1 (by omega), row7_at (by simp; omega) (by omega)]
    unfold c7
    rw [h1 _ l1, List.getElem!_eq_getElem?_getD, List.getElem!_eq_getElem?_getD, List.getElem?_append_left l1]
  · rw [List.getElem?_append_right (by rw [row7_len]; omega), row7_len]
    by_cases hk : j - a.length * 7 < b.length * 7
    · obtain ⟨q, rfl⟩ : ∃ q, j = a.length * 7 + q := ⟨j - a.length * 7, by omega⟩
      rw [Nat.add_sub_cancel_left] at hk ⊢
      have e : q = q / 7 * 7 + q % 7 := by omega
      have l1 : q / 7 < b.length := by omega
      have e2 : a.length * 7 + q = (a.length + q / 7) * 7 + q % 7 := by omega
      rw [e2, row7_at (by simp; omega) (by omega)]
      conv => lhs; rw [e]
      rw [row7_at l1 (by omega)]
      unfold c7
      rw [h2 _ l1, List.getElem!_eq_getElem?_getD, List.getElem!_eq_getElem?_getD, List.getElem?_append_right (by omega), Nat.add_sub_cancel_left]
    · rw [List.getElem?_eq_none (by rw [row7_len]; omega), List.getElem?_eq_none (by rw [row7_len]; simp; omega)]
/-- a list of fields, as append reads it -/
theorem src_row (W : World) (ao : Option Addr) (ca n : Nat) (l : List FT) (hn : n = l.length) (F : Nat → Option Addr × Nat) (hcell : l ≠ [] → ∃ b o, ao = some ⟨b, o, none⟩ ∧ ∀ i (hi : i < l.length), CellsAt W b (o + i * 7) l[i] (F i).1 (F i).2) :
    Src Tryd.prog 7 22 (.slice ao n ca) n (row7 l F) W := by
  subst hn
  refine ⟨.inl ⟨35, Tryd.underlying22⟩, fun _ => rfl, ?_, ?_, row7_len l F, row7_one⟩
  all_goals
    by_cases hne : l = []
    · subst hne
      cases ao with
      | none => exact run_firstCells_none _ 7 0 0 ca
      | some a => exact run_firstCells_some _ 7 0 a 0 ca [] rfl (fun j u h => by simp at h)
    · obtain ⟨b, o, rfl, hc⟩ := hcell hne
      refine run_firstCells_some _ 7 l.length ⟨b, o, none⟩ l.length ca (row7 l F) (row7_len l F) (fun j u hu => ?_)
      have := row7_cell hc j u hu
      rw [show (⟨b, o, none⟩ : Addr).add j = ⟨b, o + j, none⟩ by simp [Addr.add]]
      simpa using this
/-- an owned row of fields is a list of fields -/
theorem row_of_own {S : Nat → Prop} {W : World} {vo : Option Addr} {n vc d : Nat} {l : List FT} {F : Nat → Option Addr × Nat} (hn : l.length = n) (hl : l.length ≤ big) (h : W.ownsRow 0 35 7 (.slice vo n vc) n (row7 l F)) (hF : ∀ i (hi : i < l.length), l[i].kids.length ≤ (F i).2 ∧ RowAt S W d (F i).1 l[i].kids) (hS : ∀ b, S b → b < W.heap.size) :
    n ≤ vc ∧ RowAt (fun b => b < W.heap.size) W (d + 1) vo l := by
  rcases h.2 with ⟨h1, h2⟩ | ⟨g, cap, cur, h1, h2, h3, h4, h5⟩
  · simp only [Value.slice.injEq] at h1
    have : l = [] := List.eq_nil_of_length_eq_zero (by omega)
    exact ⟨by omega, hl, fun hne => absurd this hne⟩
  · simp only [Value.slice.injEq] at h1
    obtain ⟨rfl, -, rfl⟩ := h1
    refine ⟨h4, hl, fun hne => ⟨g, 0, rfl, lt_of_heap h3, fun i hi => ⟨(F i).1, (F i).2, by rw [Nat.zero_add]; exact row7_own h i hi, (hF i hi).1, (hF i hi).2.mono hS⟩⟩⟩
/-- a list's fields with their own lists' places -/
theorem row_open {S : Nat → Prop} {W : World} {d : Nat} {ao : Option Addr} {l : List FT} (hr : RowAt S W (d + 1) ao l) (hne : l ≠ []) : ∃ b o, ∃ F : Nat → Option Addr × Nat, ao = some ⟨b, o, none⟩ ∧ S b ∧ ∀ i (hi : i < l.length), CellsAt W b (o + i * 7) l[i] (F i).1 (F i).2 ∧ l[i].kids.length ≤ (F i).2 ∧ RowAt S W d (F i).1 l[i].kids := by
  obtain ⟨b, o, rfl, hb, hc⟩ := hr.2 hne
  have hex : ∀ i, i < l.length → ∃ q : Option Addr × Nat, ∃ (hi : i < l.length), CellsAt W b (o + i * 7) l[i] q.1 q.2 ∧ l[i].kids.length ≤ q.2 ∧ RowAt S W d q.1 l[i].kids := fun i hi => by
    obtain ⟨ao', ca', h1, h2, h3⟩ := hc i hi
    exact ⟨(ao', ca'), hi, h1, h2, h3⟩
  obtain ⟨F, hF⟩ := choose_lt hex
  exact ⟨b, o, F, rfl, hb, fun i hi => (hF i hi).2⟩
/-- the places of a list without its k-th -/
def lessP (F : Nat → Option Addr × Nat) (k : Nat) : Nat → Option Addr × Nat := fun i => if i < k then F i else F (i + 1)
theorem less_row {S : Nat → Prop} {w W : World} {d b o k : Nat} {l : List FT} {F : Nat → Option Addr × Nat} (hk : k < l.length) (hl : l.length ≤ big) (hF : ∀ i (hi : i < l.length), CellsAt w b (o + i * 7) l[i] (F i).1 (F i).2 ∧ l[i].kids.length ≤ (F i).2 ∧ RowAt S w d (F i).1 l[i].kids) (g : Gr w W) (hS : ∀ b, S b → b < w.heap.size) {vo : Option Addr} {vc : Nat}
    (h : W.ownsRow 0 35 7 (.slice vo (l.length - 1) vc) (l.length - 1) (row7 (l.take k) F ++ row7 (l.drop (k + 1)) (fun i => F (k + 1 + i)))) : l.length - 1 ≤ vc ∧ RowAt (fun b => b < W.heap.size) W (d + 1) vo (lessF l k) := by
  have hlen := lessF_len l k hk
  have e : row7 (l.take k) F ++ row7 (l.drop (k + 1)) (fun i => F (k + 1 + i)) = row7 (lessF l k) (lessP F k) := by
    refine row7_app _ _ _ _ _ (fun i hi => ?_) (fun i hi => ?_)
    · have hi2 : i < k := by simp at hi; omega
      simp [lessP, hi2]
    · simp only [List.length_take, Nat.min_eq_left (Nat.le_of_lt hk)]
      unfold lessP
      rw [if_neg (by omega)]
      congr 1
      omega
  rw [e] at h
  refine row_of_own (S := S) hlen (by omega) h (fun i hi => ?_) (fun b hb => by have := hS b hb; have := g.size; omega)
  have key : ∀ q (hq : q < l.length), (lessF l k)[i] = l[q] → lessP F k i = F q → (lessF l k)[i].kids.length ≤ (lessP F k i).2 ∧ RowAt S W d (lessP F k i).1 (lessF l k)[i].kids := fun q hq e1 e2 => by
    rw [e1, e2]
    exact ⟨(hF q hq).2.1, (hF q hq).2.2.kept fun b hb => g.block b (hS b hb) id⟩
  by_cases c : i < k
  · exact key i (by omega) (lessF_lo hk c) (by simp [lessP, c])
  · obtain ⟨r, rfl⟩ : ∃ r, i = k + r := ⟨i - k, by omega⟩
    exact key (k + 1 + r) (by omega) (lessF_hi (by omega)) (by unfold lessP; rw [if_neg (by omega)]; congr 1; omega)
/-- and of a list with one of its fields behind it -/
theorem more_row {S : Nat → Prop} {w W : World} {d b o k : Nat} {l : List FT} {F : Nat → Option Addr × Nat} (hk : k < l.length) (hl : l.length + 1 ≤ big) (hF : ∀ i (hi : i < l.length), CellsAt w b (o + i * 7) l[i] (F i).1 (F i).2 ∧ l[i].kids.length ≤ (F i).2 ∧ RowAt S w d (F i).1 l[i].kids) (g : Gr w W) (hS : ∀ b, S b → b < w.heap.size) {vo : Option Addr} {vc : Nat}
    (h : W.ownsRow 0 35 7 (.slice vo (l.length + 1) vc) (l.length + 1) (row7 l F ++ row7 [l[k]] (fun _ => F k))) : l.length + 1 ≤ vc ∧ RowAt (fun b => b < W.heap.size) W (d + 1) vo (l ++ [l[k]]) := by
  have e : row7 l F ++ row7 [l[k]] (fun _ => F k) = row7 (l ++ [l[k]]) (fun i => if i < l.length then F i else F k) := by
    refine row7_app _ _ _ _ _ (fun i hi => by rw [if_pos hi]) (fun i hi => by rw [if_neg (by omega)])
  rw [e] at h
  refine row_of_own (S := S) (by simp) (by simpa using hl) h (fun i hi => ?_) (fun b hb => by have := hS b hb; have := g.size; omega)
  by_cases c : i < l.length
  · rw [List.getElem_append_left c, if_pos c]
    exact ⟨(hF i c).2.1, (hF i c).2.2.kept fun b hb => g.block b (hS b hb) id⟩
  · have ei : i = l.length := by simp at hi; omega
    subst ei
    rw [if_neg c]
    simp only [List.getElem_concat_length]
    exact ⟨(hF k hk).2.1, (hF k hk).2.2.kept fun b hb => g.block b (hS b hb) id⟩
theorem FaultIs.of_ok {E : Int × Int} {N : List LS} (h1 : E.1 = 0) (h2 : AllR N) {er : Int} {p : List Nat} {k : Int} (h : FaultIs E N er p k) : er = 0 := (FaultIs.one (.inr (.inl ⟨h1, h2, rfl, rfl, rfl⟩)) h).1.symm
/-- in the lists, nothing is wrong: nor with fewer fields, nor without notes -/
theorem lists_less {n m : Nat} {ns : List (ByteArray × ByteArray)} (h : (listsE n ns).1 = 0) (hm : m ≤ n) : (listsE m ns).1 = 0 ∧ (listsE m []).1 = 0 ∧ n ≤ 32 := by
  unfold listsE at h ⊢
  by_cases c : 32 < n
  · rw [if_pos c] at h; simp at h
  rw [if_neg c] at h
  rw [if_neg (show ¬ 32 < m by omega), if_neg (show ¬ 32 < m by omega)]
  exact ⟨h, by simp, by omega⟩
end Go.Proofs.YtfepbpibhcfjdaaDoor.Kit
