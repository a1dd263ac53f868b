import Derived.Test.YtkodgneneiledaaDoorUY
import Derived.Test.YtkodgneneiledaaDoorTS
import Derived.Test.YtkodgneneiledaaDoorND
namespace Go.Proofs.YtkodgneneiledaaDoor.Kit
open Go.RowKit Go.Shelf Go.Deep
set_option linter.unusedVariables false
attribute [local go_sem] run_store_func

/-! ### pure: depth by number, the text's size -/
theorem deep_nil : ∀ k, deep k []
  | 0 => rfl
  | k + 1 => fun f h => by cases h
theorem deep_few : ∀ (d : Nat) (l : List FT) (k : Nat), deep d l → (pre d l).length ≤ k → deep k l
  | 0, l, k, h, _ => by have : l = [] := h; subst this; exact deep_nil k
  | d + 1, l, 0, h, hl => by
    cases l with
    | nil => exact deep_nil 0
    | cons f l => rw [pre, List.flatMap_cons] at hl; simp at hl
  | d + 1, l, k + 1, h, hl => fun f hf => by
    refine deep_few d f.kids k (h f hf) ?_
    rw [pre] at hl
    obtain ⟨l1, l2, rfl⟩ := List.append_of_mem hf
    rw [List.flatMap_append, List.flatMap_cons] at hl
    simp at hl
    omega
theorem pre_deep : ∀ (e d : Nat) (l : List FT), deep e l → e ≤ d → pre d l = pre e l
  | 0, d, l, h, _ => by have : l = [] := h; subst this; cases d <;> rfl
  | e + 1, 0, l, h, hd => absurd hd (by omega)
  | e + 1, d + 1, l, h, hd => by
    rw [pre, pre]
    have : ∀ f ∈ l, (f :: pre d f.kids) = f :: pre e f.kids := fun f hf => by rw [pre_deep e d f.kids (h f hf) (by omega)]
    clear h
    induction l with
    | nil => rfl
    | cons x l ih => rw [List.flatMap_cons, List.flatMap_cons, this x (by simp), ih fun f hf => this f (by simp [hf])]
theorem RowAt.cut {S : Nat → Prop} {W : World} : ∀ {d e : Nat} {ao : Option Addr} {l : List FT}, RowAt S W d ao l → Kit.deep e l → RowAt S W e ao l
  | _, 0, _, _, _, he => he
  | 0, e + 1, _, _, h, _ => by have : _ = [] := h; subst this; exact ⟨by simp [big], fun h => absurd rfl h⟩
  | d + 1, e + 1, ao, l, h, he => ⟨h.1, fun hn => by
    obtain ⟨b, o, e1, hb, hi⟩ := h.2 hn
    refine ⟨b, o, e1, hb, fun i hl => ?_⟩
    obtain ⟨ao', ca', hc, hle, hr⟩ := hi i hl
    exact ⟨ao', ca', hc, hle, RowAt.cut hr (he _ (List.getElem_mem hl))⟩⟩
theorem tx_size1 : ∀ (d : Nat) (f : FT), okF f → (∀ g ∈ pre d f.kids, okF g) → (txF d f).size + 2 ≤ 100 * (1 + (pre d f.kids).length)
  | 0, f, h, _ => by
    have h1 := fdB_size f (tyB f [])
    have h2 := tyB_size h.2 []
    have := h.1
    show (fdB f (tyB f [])).size + 2 ≤ _
    simp only [List.map_nil, List.sum_nil] at h2
    omega
  | d + 1, f, h, hk => by
    have h1 := fdB_size f (tyB f (f.kids.map (txF d)))
    have h2 := tyB_size h.2 (f.kids.map (txF d))
    have := h.1
    have key : ∀ l : List FT, (∀ g ∈ pre (d + 1) l, okF g) → ((l.map (txF d)).map fun t => t.size + 2).sum ≤ 100 * (pre (d + 1) l).length := fun l => by
      induction l with
      | nil => intro _; simp
      | cons g l ih =>
        intro hl
        have e : pre (d + 1) (g :: l) = (g :: pre d g.kids) ++ pre (d + 1) l := rfl
        rw [e] at hl ⊢
        have i1 := ih fun x hx => hl x (List.mem_append_right _ hx)
        have i2 := tx_size1 d g (hl g (by simp)) fun x hx => hl x (by simp [hx])
        simp only [List.map_cons, List.sum_cons, List.length_append, List.length_cons]
        omega
    have := key f.kids hk
    show (fdB f (tyB f (f.kids.map (txF d)))).size + 2 ≤ _
    omega
theorem tx_sum1 {d : Nat} {l : List FT} (h : ∀ g ∈ pre (d + 1) l, okF g) : ((l.map (txF d)).map fun t => t.size + 2).sum ≤ 100 * (pre (d + 1) l).length := by
  induction l with
  | nil => simp
  | cons g l ih =>
    have e : pre (d + 1) (g :: l) = (g :: pre d g.kids) ++ pre (d + 1) l := rfl
    rw [e] at h ⊢
    have i1 := ih fun x hx => h x (List.mem_append_right _ hx)
    have i2 := tx_size1 d g (h g (by simp)) fun x hx => h x (by simp [hx])
    simp only [List.map_cons, List.sum_cons, List.length_append, List.length_cons]
    omega
theorem lists_ok {nf : Nat} {l : List (ByteArray × ByteArray)} (h : (listsE nf l).1 = 0) : l.length ≤ 16 ∧ ∀ n ∈ l, n.1.size ≤ 256 ∧ n.2.size ≤ 256 := by
  unfold listsE at h
  split at h
  · simp at h
  split at h
  · simp at h
  split at h
  · simp at h
  rename_i h1 h2
  refine ⟨by omega, fun n hn => ?_⟩
  have hb : noteBad n = false := by
    cases hc : noteBad n with
    | false => rfl
    | true => exact absurd (List.findIdx_lt_length_of_exists ⟨n, hn, hc⟩) h2
  unfold noteBad at hb
  simp at hb
  omega
theorem nts_sum1 {l : List (ByteArray × ByteArray)} (h : ∀ n ∈ l, n.1.size ≤ 256 ∧ n.2.size ≤ 256) : ((l.map ntB).map fun t => t.size + 2).sum ≤ 2055 * l.length := by
  induction l with
  | nil => simp
  | cons x l ih =>
    have i1 := ih fun n hn => h n (by simp [hn])
    have h1 := h x (by simp)
    have a := qtB_size x.1
    have b := qtB_size x.2
    have e : (ntB x).size ≤ 2053 := by
      unfold ntB
      rw [ByteArray.size_append, ByteArray.size_append]
      have : (⟨#[32]⟩ : ByteArray).size = 1 := rfl
      omega
    simp only [List.map_cons, List.sum_cons, List.length_cons]
    omega
/-- a schema that may be, as data -/
structure May (l : List FT) (ns : List (ByteArray × ByteArray)) : Prop where
  lists : (listsE l.length ns).1 = 0
  all : AllR (nodes (D0 + 1) l [] false)
  deep : Kit.deep 257 l
def scT (l : List FT) (ns : List (ByteArray × ByteArray)) : ByteArray := prB (joinB (l.map (txF 256))) (ns.map ntB)
theorem May.ok {l : List FT} {ns : List (ByteArray × ByteArray)} (h : May l ns) : (∀ g ∈ pre 257 l, okF g) ∧ (pre 257 l).length ≤ 256 := by
  have := allr_ok h.all
  rwa [pre_deep 257 (D0 + 1) l h.deep (by show 257 ≤ 65538; omega)] at this
theorem may_of {l : List FT} {ns : List (ByteArray × ByteArray)} (h1 : (listsE l.length ns).1 = 0) (h2 : AllR (nodes (D0 + 1) l [] false)) (h3 : Kit.deep (D0 + 1) l) : May l ns :=
  ⟨h1, h2, deep_few (D0 + 1) l 257 h3 (Nat.le_trans (allr_ok h2).2 (by omega))⟩
theorem May.fl {l : List FT} {ns : List (ByteArray × ByteArray)} (h : May l ns) : l.length ≤ 256 := by
  have hle : ∀ (d : Nat) (l : List FT), l.length ≤ (pre (d + 1) l).length := fun d l => by
    rw [pre]
    induction l with
    | nil => simp
    | cons x l ih => rw [List.flatMap_cons, List.length_append, List.length_cons, List.length_cons]; omega
  exact Nat.le_trans (hle 256 l) h.ok.2
theorem May.sizes {l : List FT} {ns : List (ByteArray × ByteArray)} (h : May l ns) : (joinB (l.map (txF 256))).size ≤ 25600 ∧ (joinB (ns.map ntB)).size ≤ 32880 := by
  have h1 := tx_sum1 h.ok.1
  have h2 := joinB_size (l.map (txF 256))
  have h3 := lists_ok h.lists
  have h4 := nts_sum1 h3.2
  have h5 := joinB_size (ns.map ntB)
  have h6 : (pre (256 + 1) l).length ≤ 256 := h.ok.2
  omega
theorem May.size {l : List FT} {ns : List (ByteArray × ByteArray)} (h : May l ns) : (scT l ns).size ≤ 65536 := by
  obtain ⟨a, b⟩ := h.sizes
  have e1 : (⟨#[32]⟩ : ByteArray).size = 1 := rfl
  have e2 : (⟨#[124, 32]⟩ : ByteArray).size = 2 := rfl
  unfold scT prB
  split
  · omega
  · rw [ByteArray.size_append, ByteArray.size_append]
    split
    · omega
    · rw [ByteArray.size_append]; omega
end Go.Proofs.YtkodgneneiledaaDoor.Kit
