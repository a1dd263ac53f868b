import Derived.Test.YtchhnchddledlaaDoorVK
import Derived.Test.YtchhnchddledlaaDoorPA
namespace Go.Proofs.YtchhnchddledlaaDoor.Kit
open Go.RowKit Go.Shelf Go.Deep
set_option linter.unusedVariables false

/-! ### how long a head's bytes are -/
theorem Yes.allR {D : Nat} {fs : List FT} {ns : List (ByteArray × ByteArray)} (hd : deep D fs) (h : Yes D fs ns) : AllR (nodes D fs [] false) := by
  cases D with
  | zero =>
    have : fs = [] := hd
    subst this
    exact AllR.nil
  | succ d => exact (schema_may hd).2 ⟨h.2.2.2.1, h.2.2.2.2⟩
theorem AllR.name {P : List LS} (h : AllR P) {s : LS} (hs : s ∈ P) : nameB s.fld.name = true := by
  obtain ⟨k, hk, rfl⟩ := List.mem_iff_getElem.1 hs
  have := h k hk
  unfold wrongE wr at this
  split at this
  · omega
  split at this
  · omega
  split at this
  · omega
  rename_i a5
  simpa using a5
theorem AllR.few {P : List LS} (h : AllR P) : P.length ≤ 256 := by
  by_cases e : P.length ≤ 256
  · exact e
  have := h 256 (by omega)
  unfold wrongE wr at this
  split at this
  · omega
  split at this
  · omega
  rename_i a
  exact absurd (by omega : (256 : Int) ≤ ((256 : Nat) : Int)) a
theorem okMs_of {d : Nat} {fs : List FT} {p : List Nat} {b : Bool} (h : AllR (nodes d fs p b)) : ∀ g ∈ pre d fs, okM g := fun g hg => by
  rw [← nodes_pre d fs p b] at hg
  obtain ⟨s, hs, rfl⟩ := List.mem_map.1 hg
  refine ⟨?_, h.tab hs⟩
  have := h.name hs
  unfold nameB at this
  simp only [Bool.and_eq_true, decide_eq_true_eq] at this
  exact this.1.1.2
theorem hdB_len {f : FT} (ok : okM f) : (hdB f).length ≤ 54 := by
  have h1 := ok.1
  unfold hdB txtB extB flgB
  have : f.name.data.toList.length = f.name.size := Array.length_toList
  have h2 : (if f.nul = true then ([1] : List UInt8) else [0]).length = 1 := by split <;> rfl
  have h3 : (if f.kind = 14 ∨ f.kind = 16 then numB f.width.toNat 2 else if f.kind = 19 then numB f.id.toNat 2 ++ numB f.index.toNat 1 else if f.kind = 17 ∨ f.kind = 18 then numB f.kids.length 1 else []).length ≤ 3 := by
    split
    · simp [numB_len]
    split
    · simp [numB_len]
    split
    · simp [numB_len]
    · simp
  simp only [List.length_append, numB_len, h2, this]
  omega
theorem flat_len_le {α β : Type} (g : α → List β) (m : Nat) : ∀ (l : List α), (∀ x ∈ l, (g x).length ≤ m) → (l.flatMap g).length ≤ l.length * m
  | [], _ => by simp
  | x :: l, h => by
    have h1 := h x List.mem_cons_self
    have h2 := flat_len_le g m l (fun y hy => h y (List.mem_cons_of_mem _ hy))
    rw [List.flatMap_cons, List.length_append, List.length_cons, Nat.succ_mul]
    omega
theorem kidB_flat : ∀ (d : Nat) (l : List FT), (kidB d l).length = ((pre d l).flatMap hdB).length
  | 0, l => by simp [kidB, pre]
  | d + 1, l => by
    show (l.flatMap (fldB d)).length = ((l.flatMap fun f => f :: pre d f.kids).flatMap hdB).length
    induction l with
    | nil => simp
    | cons x l ih =>
      simp only [List.flatMap_cons, List.flatMap_append, List.length_append, ih, List.flatMap_cons, fldB_eq, kidB_flat d x.kids]
theorem kidB_len {D : Nat} {fs : List FT} (h : AllR (nodes D fs [] false)) : (kidB D fs).length ≤ 13824 := by
  rw [kidB_flat]
  have h1 := flat_len_le hdB 54 (pre D fs) (fun x hx => hdB_len (okMs_of h x hx))
  have h2 : (pre D fs).length ≤ 256 := by rw [← nodes_pre D fs [] false, List.length_map]; exact h.few
  have h3 : (pre D fs).length * 54 ≤ 256 * 54 := Nat.mul_le_mul_right _ h2
  omega
theorem noteBad_len {n : ByteArray × ByteArray} (h : noteBad n = false) : n.1.size ≤ 256 ∧ n.2.size ≤ 256 := by
  unfold noteBad at h
  simp only [Bool.or_eq_false_iff, decide_eq_false_iff_not] at h
  omega
theorem ntM_len {n : ByteArray × ByteArray} (h : n.1.size ≤ 256 ∧ n.2.size ≤ 256) : (ntM n).length ≤ 516 := by
  have h1 : n.1.data.toList.length = n.1.size := Array.length_toList
  have h2 : n.2.data.toList.length = n.2.size := Array.length_toList
  unfold ntM txtB
  simp only [List.length_append, numB_len, h1, h2]
  omega
theorem ndM_flat (l : List (Int × Int)) : (l.flatMap ndM).length ≤ l.length * 8 := flat_len_le _ 8 l fun x _ => by simp [ndM, numB_len]
theorem slM_flat (l : List (Int × Int × Int)) : (l.flatMap slM).length ≤ l.length * 12 := flat_len_le _ 12 l fun x _ => by simp [slM, numB_len]
theorem notes_len {ns : List (ByteArray × ByteArray)} (h : ∀ n ∈ ns, noteBad n = false) (hl : ns.length ≤ 16) : (ns.flatMap ntM).length ≤ 8256 := by
  have h1 := flat_len_le ntM 516 ns (fun x hx => ntM_len (noteBad_len (h x hx)))
  have h3 : ns.length * 516 ≤ 16 * 516 := Nat.mul_le_mul_right _ hl
  omega
end Go.Proofs.YtchhnchddledlaaDoor.Kit
