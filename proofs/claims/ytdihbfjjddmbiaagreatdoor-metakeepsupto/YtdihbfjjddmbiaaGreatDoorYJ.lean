import Derived.Test.YtdihbfjjddmbiaaGreatDoorNT
import Derived.Test.YtdihbfjjddmbiaaGreatDoorSJ
namespace Go.Proofs.YtdihbfjjddmbiaaGreatDoor.Kit
open Go.RowKit Go.Shelf Go.Deep
set_option linter.unusedVariables false
set_option linter.unusedSimpArgs false
attribute [local go_sem] run_store_func
def LMk {α : Type} (S : Nat → Prop) (W : World) (s : Nat) (cf : α → List Value) (mk : Nat → List Value) (l : List α) (vo : Option Addr) (vc : Nat) : Prop :=
  l.length + 3 ≤ vc ∧ ∃ g, vo = some ⟨g, 0, none⟩ ∧ S g ∧ (∀ i (h : i < l.length), ∀ j, j < s → W.cell? ⟨g, i * s + j, none⟩ = (cf l[i])[j]?) ∧ ∀ i, i < 3 → ∀ j, j < s → W.cell? ⟨g, (l.length + i) * s + j, none⟩ = (mk i)[j]?
theorem LMk.kept {α : Type} {S : Nat → Prop} {W W' : World} {s : Nat} {cf : α → List Value} {mk : Nat → List Value} {l : List α} {vo : Option Addr} {vc : Nat} (k : KpOf S W W') (h : LMk S W s cf mk l vo vc) : LMk S W' s cf mk l vo vc := by
  obtain ⟨h1, g, e, hg, h2, h3⟩ := h
  exact ⟨h1, g, e, hg, fun i hi j hj => (World.cell?_of_block (w := W) (k g hg)).trans (h2 i hi j hj), fun i hi j hj => (World.cell?_of_block (w := W) (k g hg)).trans (h3 i hi j hj)⟩
theorem flat3 (mk : Nat → List Value) (s : Nat) (hm : ∀ i, (mk i).length = s) (xs : List Value) (n : Nat) (hx : xs.length = n * s) (i : Nat) (hi : i < 3) (j : Nat) (hj : j < s) : (xs ++ (mk 0 ++ mk 1 ++ mk 2))[(n + i) * s + j]? = (mk i)[j]? := by
  rw [List.getElem?_append_right (by rw [hx, Nat.add_mul]; omega), show (n + i) * s + j - xs.length = i * s + j by rw [hx, Nat.add_mul]; omega]
  have h0 := hm 0
  have h1 := hm 1
  match i, hi with
  | 0, _ => rw [List.append_assoc, List.getElem?_append_left (by omega)]; simp
  | 1, _ =>
    rw [List.append_assoc, List.getElem?_append_right (by omega), List.getElem?_append_left (by omega)]
    congr 1; omega
  | 2, _ =>
    rw [List.getElem?_append_right (by simp only [List.length_append]; omega)]
    congr 1; simp only [List.length_append]; omega
theorem LMk.of {α : Type} {W U : World} {t s : Nat} {cf : α → List Value} {mk : Nat → List Value} {l : List α} {vo : Option Addr} {vc n : Nat} (hn : n = l.length) (hc : ∀ x, (cf x).length = s) (hm : ∀ i, (mk i).length = s) (h : W.ownsRow 0 t s (.slice vo (n + 3) vc) (n + 3) (l.flatMap cf ++ (mk 0 ++ mk 1 ++ mk 2))) (hnew : ∀ g, (Value.slice vo (n + 3) vc).ownBlock = some g → U.heap.size ≤ g) : LMk (fun b => U.heap.size ≤ b ∧ b < W.heap.size) W s cf mk l vo vc := by
  subst hn
  have hfl : (l.flatMap cf).length = l.length * s := by
    clear h hnew
    induction l with
    | nil => simp
    | cons a l ih => rw [List.flatMap_cons, List.length_append, hc, List.length_cons, Nat.succ_mul, ih]; omega
  rcases h.2 with ⟨e, h0⟩ | ⟨g, cap, cur, e, h1, h2, h3, h4⟩
  · omega
  cases e
  refine ⟨by omega, g, rfl, ⟨hnew g rfl, lt_of_heap h2⟩, fun i hi j hj => ?_, fun i hi j hj => ?_⟩
  · have hlt : i * s + j < (l.length + 3) * s := by
      have : (i + 1) * s ≤ (l.length + 3) * s := Nat.mul_le_mul_right s (by omega)
      rw [Nat.succ_mul] at this
      omega
    have hlt2 : i * s + j < l.length * s := by
      have : (i + 1) * s ≤ l.length * s := Nat.mul_le_mul_right s hi
      rw [Nat.succ_mul] at this
      omega
    rw [h.cellAt (i * s + j) hlt, List.getElem?_append_left (by omega), flatS cf s hc l i hi j hj]
  have hlt : (l.length + i) * s + j < (l.length + 3) * s := by
    have : (l.length + i + 1) * s ≤ (l.length + 3) * s := Nat.mul_le_mul_right s (by omega)
    rw [Nat.succ_mul] at this
    omega
  rw [h.cellAt _ hlt]
  exact flat3 mk s hm _ _ hfl i hi j hj
def cN (x : ByteArray × ByteArray) : List Value := [.string x.1, .string x.2]
def cD (x : Int × Int) : List Value := [.int .i64 x.1, .int .i64 x.2]
def cS (x : Int × Int × Int) : List Value := [.int .i64 x.1, .int .i64 x.2.1, .int .i64 x.2.2]
def mN (_ : Nat) : List Value := [.string ⟨#[109]⟩, .string ⟨#[109]⟩]
def mD (i : Nat) : List Value := [.int .i64 (-9), .int .i64 i]
def mS (i : Nat) : List Value := [.int .i64 (-9), .int .i64 0, .int .i64 i]
theorem srcN {W : World} {no : Option Addr} {l : List (ByteArray × ByteArray)} {cap : Nat} (h : NotesAt W no l) : Src Tryz.prog 2 23 (.slice no l.length cap) l.length (l.flatMap cN) W := by
  by_cases hn : l = []
  · subst hn
    cases no with
    | none => exact Src.ofNil (w := W) Tryz.underlying23 cap
    | some a => exact Src.ofSlice (w := W) Tryz.underlying23 a 0 cap [] (by simp) (fun j x hx => by simp at hx) (fun x hx => by cases hx)
  obtain ⟨b, o, rfl, hc⟩ := h.2 hn
  have hfl : ∀ l : List (ByteArray × ByteArray), (l.flatMap cN).length = l.length * 2 := fun l => by
    induction l with
    | nil => simp
    | cons a l ih => rw [List.flatMap_cons, List.length_append, List.length_cons, Nat.succ_mul, ih]; simp [cN]; omega
  refine Src.ofSlice (w := W) Tryz.underlying23 ⟨b, o, none⟩ l.length cap (l.flatMap cN) (hfl l) (fun j x hx => ?_) (fun x hx => by obtain ⟨z, _, hz⟩ := List.mem_flatMap.1 hx; simp [cN] at hz; rcases hz with rfl | rfl <;> rfl)
  have hj : j < l.length * 2 := by rw [← hfl l]; exact (List.getElem?_eq_some_iff.1 hx).1
  have hjd : j / 2 < l.length := by omega
  have hx2 := flatS cN 2 (fun _ => rfl) l (j / 2) hjd (j % 2) (Nat.mod_lt _ (by decide))
  rw [show j / 2 * 2 + j % 2 = j by omega, hx] at hx2
  have ea : (⟨b, o, none⟩ : Addr).add j = ⟨b, o + j / 2 * 2 + j % 2, none⟩ := by
    by_cases h0 : j = 0
    · subst h0; simp [Addr.add]
    simp [Addr.add, h0]; omega
  rw [ea, hx2]
  have hcc := hc (j / 2) hjd
  rcases (show j % 2 = 0 ∨ j % 2 = 1 by omega) with e | e <;> rw [e]
  · exact hcc.1
  exact hcc.2
theorem srcD {W : World} {no : Option Addr} {l : List (Int × Int)} {cap : Nat} (h : NodesAt W no l) : Src Tryz.prog 2 26 (.slice no l.length cap) l.length (l.flatMap cD) W := by
  by_cases hn : l = []
  · subst hn
    cases no with
    | none => exact Src.ofNil (w := W) Tryz.underlying26 cap
    | some a => exact Src.ofSlice (w := W) Tryz.underlying26 a 0 cap [] (by simp) (fun j x hx => by simp at hx) (fun x hx => by cases hx)
  obtain ⟨b, o, rfl, hc⟩ := h.2 hn
  have hfl : ∀ l : List (Int × Int), (l.flatMap cD).length = l.length * 2 := fun l => by
    induction l with
    | nil => simp
    | cons a l ih => rw [List.flatMap_cons, List.length_append, List.length_cons, Nat.succ_mul, ih]; simp [cD]; omega
  refine Src.ofSlice (w := W) Tryz.underlying26 ⟨b, o, none⟩ l.length cap (l.flatMap cD) (hfl l) (fun j x hx => ?_) (fun x hx => by obtain ⟨z, _, hz⟩ := List.mem_flatMap.1 hx; simp [cD] at hz; rcases hz with rfl | rfl <;> rfl)
  have hj : j < l.length * 2 := by rw [← hfl l]; exact (List.getElem?_eq_some_iff.1 hx).1
  have hjd : j / 2 < l.length := by omega
  have hx2 := flatS cD 2 (fun _ => rfl) l (j / 2) hjd (j % 2) (Nat.mod_lt _ (by decide))
  rw [show j / 2 * 2 + j % 2 = j by omega, hx] at hx2
  have ea : (⟨b, o, none⟩ : Addr).add j = ⟨b, o + j / 2 * 2 + j % 2, none⟩ := by
    by_cases h0 : j = 0
    · subst h0; simp [Addr.add]
    simp [Addr.add, h0]; omega
  rw [ea, hx2]
  have hcc := hc (j / 2) hjd
  rcases (show j % 2 = 0 ∨ j % 2 = 1 by omega) with e | e <;> rw [e]
  · exact hcc.1
  exact hcc.2
theorem srcS {W : World} {no : Option Addr} {l : List (Int × Int × Int)} {cap : Nat} (h : SlotsAt W no l) : Src Tryz.prog 3 27 (.slice no l.length cap) l.length (l.flatMap cS) W := by
  by_cases hn : l = []
  · subst hn
    cases no with
    | none => exact Src.ofNil (w := W) Tryz.underlying27 cap
    | some a => exact Src.ofSlice (w := W) Tryz.underlying27 a 0 cap [] (by simp) (fun j x hx => by simp at hx) (fun x hx => by cases hx)
  obtain ⟨b, o, rfl, hc⟩ := h.2 hn
  have hfl : ∀ l : List (Int × Int × Int), (l.flatMap cS).length = l.length * 3 := fun l => by
    induction l with
    | nil => simp
    | cons a l ih => rw [List.flatMap_cons, List.length_append, List.length_cons, Nat.succ_mul, ih]; simp [cS]; omega
  refine Src.ofSlice (w := W) Tryz.underlying27 ⟨b, o, none⟩ l.length cap (l.flatMap cS) (hfl l) (fun j x hx => ?_) (fun x hx => by obtain ⟨z, _, hz⟩ := List.mem_flatMap.1 hx; simp [cS] at hz; rcases hz with rfl | rfl | rfl <;> rfl)
  have hj : j < l.length * 3 := by rw [← hfl l]; exact (List.getElem?_eq_some_iff.1 hx).1
  have hjd : j / 3 < l.length := by omega
  have hx2 := flatS cS 3 (fun _ => rfl) l (j / 3) hjd (j % 3) (Nat.mod_lt _ (by decide))
  rw [show j / 3 * 3 + j % 3 = j by omega, hx] at hx2
  have ea : (⟨b, o, none⟩ : Addr).add j = ⟨b, o + j / 3 * 3 + j % 3, none⟩ := by
    by_cases h0 : j = 0
    · subst h0; simp [Addr.add]
    simp [Addr.add, h0]; omega
  rw [ea, hx2]
  have hcc := hc (j / 3) hjd
  rcases (show j % 3 = 0 ∨ j % 3 = 1 ∨ j % 3 = 2 by omega) with e | e | e <;> rw [e]
  · exact hcc.1
  · exact hcc.2.1
  exact hcc.2.2
structure WdR (S : Nat → Prop) (W : World) (D : Nat) (fo : Option Addr) (fc : Nat) (no : Option Addr) (nc : Nat) (vo : Option Addr) (vc : Nat) (uo : Option Addr) (uc : Nat) (fs : List FT) (ns : List (ByteArray × ByteArray)) (nds : List (Int × Int)) (sls : List (Int × Int × Int)) : Prop where
  f : RowM S W D fo fc fs
  n : LMk S W 2 cN mN ns no nc
  d : LMk S W 2 cD mD nds vo vc
  s : LMk S W 3 cS mS sls uo uc
theorem WdR.kept {S : Nat → Prop} {W W' : World} {D : Nat} {fo : Option Addr} {fc : Nat} {no : Option Addr} {nc : Nat} {vo : Option Addr} {vc : Nat} {uo : Option Addr} {uc : Nat} {fs : List FT} {ns : List (ByteArray × ByteArray)} {nds : List (Int × Int)} {sls : List (Int × Int × Int)} (k : KpOf S W W') (h : WdR S W D fo fc no nc vo vc uo uc fs ns nds sls) : WdR S W' D fo fc no nc vo vc uo uc fs ns nds sls :=
  ⟨h.f.kept k, h.n.kept k, h.d.kept k, h.s.kept k⟩
theorem WdR.head {S : Nat → Prop} {W : World} {D : Nat} {fo : Option Addr} {fc : Nat} {no : Option Addr} {nc : Nat} {vo : Option Addr} {vc : Nat} {uo : Option Addr} {uc : Nat} {fs : List FT} {ns : List (ByteArray × ByteArray)} {nds : List (Int × Int)} {sls : List (Int × Int × Int)} (h : WdR S W D fo fc no nc vo vc uo uc fs ns nds sls) (hT : Tab W) (hD : D ≤ big) (hS : ∀ b, S b → b < W.heap.size) (h1 : ns.length ≤ big) (h2 : nds.length ≤ big) (h3 : sls.length ≤ big) : HeadAt S D W fo no vo uo fc fs ns nds sls := by
  refine ⟨hT, h.f.rowAt, by have := h.f.mk.1; omega, hD, hS, ⟨h1, fun hn => ?_⟩, ⟨h2, fun hn => ?_⟩, ⟨h3, fun hn => ?_⟩⟩
  · obtain ⟨-, g, e, -, hc, -⟩ := h.n
    exact ⟨g, 0, e, fun i hi => by rw [Nat.zero_add]; exact ⟨hc i hi 0 (by omega), hc i hi 1 (by omega)⟩⟩
  · obtain ⟨-, g, e, -, hc, -⟩ := h.d
    exact ⟨g, 0, e, fun i hi => by rw [Nat.zero_add]; exact ⟨hc i hi 0 (by omega), hc i hi 1 (by omega)⟩⟩
  obtain ⟨-, g, e, -, hc, -⟩ := h.s
  exact ⟨g, 0, e, fun i hi => by rw [Nat.zero_add]; exact ⟨hc i hi 0 (by omega), hc i hi 1 (by omega), hc i hi 2 (by omega)⟩⟩
end Go.Proofs.YtdihbfjjddmbiaaGreatDoor.Kit
