import Derived.Test.YtemleibpmaclmaaTH
import Derived.Test.YtemleibpmaclmaaSN
namespace Go.Proofs.Ytemleibpmaclmaa.Kit
open Go.RowKit Go.Shelf Go.Deep
set_option linter.unusedVariables false

/-! ### a list of messages that grows, beside a reader -/
def oCells (M : Nat → Row × Row) (n : Nat) : List Value := (List.range n).flatMap fun i => [rv (M i).1, rv (M i).2]
theorem oCells_len (M : Nat → Row × Row) (n : Nat) : (oCells M n).length = n * 2 := by
  induction n with
  | zero => rfl
  | succ n ih =>
    unfold oCells at ih ⊢
    rw [List.range_succ, List.flatMap_append, List.length_append, ih]
    simp
    omega
theorem oCells_succ (M : Nat → Row × Row) (n : Nat) : oCells M (n + 1) = oCells M n ++ [rv (M n).1, rv (M n).2] := by
  unfold oCells
  rw [List.range_succ, List.flatMap_append]
  simp
theorem oCells_get (M : Nat → Row × Row) : ∀ (n k : Nat), k < n → (oCells M n)[2 * k]? = some (rv (M k).1) ∧ (oCells M n)[2 * k + 1]? = some (rv (M k).2)
  | 0, k, h => by omega
  | n + 1, k, h => by
    rw [oCells_succ]
    have hl := oCells_len M n
    by_cases c : k < n
    · rw [List.getElem?_append_left (by omega), List.getElem?_append_left (by omega)]
      exact oCells_get M n k c
    · obtain rfl : k = n := by omega
      rw [List.getElem?_append_right (by omega), List.getElem?_append_right (by omega), hl, show 2 * k - k * 2 = 0 by omega, show 2 * k + 1 - k * 2 = 1 by omega]
      exact ⟨rfl, rfl⟩
theorem oCells_congr {M N : Nat → Row × Row} {n : Nat} (h : ∀ i, i < n → M i = N i) : oCells M n = oCells N n := by
  induction n with
  | zero => rfl
  | succ n ih => rw [oCells_succ, oCells_succ, ih (fun i hi => h i (by omega)), h n (by omega)]
structure OutL (W : World) (lo : Option Addr) (lc : Nat) (out : List Msg) (M : Nat → Row × Row) : Prop where
  row : OffRow W 24 2 lo out.length lc (oCells M out.length)
  els : ∀ i (h : i < out.length), W.ownsRow 0 5 1 (rv (M i).1) (M i).1.2.1 (bv out[i].1) ∧ W.ownsRow 0 5 1 (rv (M i).2) (M i).2.2.1 (bv out[i].2)
/-- its blocks -/
def OIs (lo : Option Addr) (lc n : Nat) (M : Nat → Row × Row) (g : Nat) : Prop := (Value.slice lo n lc).ownBlock = some g ∨ ∃ i, i < n ∧ ((rv (M i).1).ownBlock = some g ∨ (rv (M i).2).ownBlock = some g)
theorem OutL.nil (W : World) (M : Nat → Row × Row) : OutL W none 0 [] M := ⟨OffRow.nil _ _ _, fun i h => by simp at h⟩
theorem OutL.kp {W W' : World} {lo : Option Addr} {lc : Nat} {out : List Msg} {M : Nat → Row × Row} (h : OutL W lo lc out M) (e : ∀ g, OIs lo lc out.length M g → W'.heap[g]? = W.heap[g]?) : OutL W' lo lc out M :=
  ⟨h.row.kp fun g hg => e g (.inl hg), fun i hi => ⟨own_kp (h.els i hi).1 fun g hg => e g (.inr ⟨i, hi, .inl hg⟩), own_kp (h.els i hi).2 fun g hg => e g (.inr ⟨i, hi, .inr hg⟩)⟩⟩
theorem OutL.lt {W : World} {lo : Option Addr} {lc : Nat} {out : List Msg} {M : Nat → Row × Row} (h : OutL W lo lc out M) {g : Nat} (k : OIs lo lc out.length M g) : g < W.heap.size := by
  rcases k with k | ⟨i, hi, k | k⟩
  · exact h.row.lt k
  · exact own_lt (h.els i hi).1 g k
  · exact own_lt (h.els i hi).2 g k
/-- over a call on the reader: what is out stays, and stays apart -/
theorem OutL.from {w W V : World} {p T : Nat} {tl : List Value} {n : Nat} {R R' : Nat → Row} {wo wo' : Option Addr} {wc wc' : Nat} {s' : Sc} {lo : Option Addr} {lc : Nat} {out : List Msg} {M : Nat → Row × Row} (h : OutL W lo lc out M) (ha : ∀ g, OIs lo lc out.length M g → ¬ RIs p n R wo wc g) (f : From w W V p T tl n R wo wc s' R' wo' wc') :
    OutL V lo lc out M ∧ ∀ g, OIs lo lc out.length M g → ¬ RIs p s'.ms.length R' wo' wc' g :=
  ⟨h.kp fun g hg => f.kp.block g (h.lt hg) (ha g hg), fun g hg k => by
    rcases f.bk g k with k | k
    · exact ha g hg k
    · have := h.lt hg; omega⟩
theorem OutL.grow {W W' : World} {lo : Option Addr} {lc : Nat} {out : List Msg} {M : Nat → Row × Row} (h : OutL W lo lc out M) (g : Gr W W') : OutL W' lo lc out M := h.kp fun b hb => g.block b (h.lt hb) id
/-- one more -/
theorem OutL.push {W W' : World} {lo lo' : Option Addr} {lc lc' : Nat} {out : List Msg} {M : Nat → Row × Row} {x : Msg} {r1 r2 : Row} (h : OutL W lo lc out M) (o1 : W.ownsRow 0 5 1 (rv r1) r1.2.1 (bv x.1)) (o2 : W.ownsRow 0 5 1 (rv r2) r2.2.1 (bv x.2))
    (hrow : OffRow W' 24 2 lo' (out.length + 1) lc' (oCells M out.length ++ [rv r1, rv r2])) (hk : Keeps W W' (fun g => (Value.slice lo out.length lc).ownBlock = some g)) :
    OutL W' lo' lc' (out ++ [x]) (fun i => if i < out.length then M i else (r1, r2)) := by
  have kp : ∀ {v : Value} {n : Nat} {xs : List Value}, W.ownsRow 0 5 1 v n xs → W'.ownsRow 0 5 1 v n xs := fun o => own_kp o fun g hg => hk.block g (own_lt o g hg) fun e => by
    have := (own_typ o hg).ne (h.row.typ e)
    omega
  refine ⟨?_, fun i hi => ?_⟩
  · rw [List.length_append, List.length_singleton, oCells_succ]
    simp only [Nat.lt_irrefl, if_false]
    rw [oCells_congr (N := M) (fun i hi => by simp only [hi, if_true])]
    exact hrow
  · rw [List.length_append, List.length_singleton] at hi
    by_cases c : i < out.length
    · simp only [c, if_true]
      rw [List.getElem_append_left c]
      exact ⟨kp (h.els i c).1, kp (h.els i c).2⟩
    · have e : i = out.length := by omega
      subst e
      simp only [Nat.lt_irrefl, if_false]
      rw [List.getElem_append_right (Nat.le_refl _)]
      simp only [Nat.sub_self, List.getElem_singleton]
      exact ⟨kp o1, kp o2⟩
/-- as the laws read it -/
theorem OutL.msgs {W : World} {lo : Option Addr} {lc : Nat} {out : List Msg} {M : Nat → Row × Row} (h : OutL W lo lc out M) (hb : ∀ x ∈ out, x.1.length ≤ 140737488351232 ∧ x.2.length ≤ 140737488351232) : MsgsAt W lo out := fun hn => by
  rcases h.row.ex with ⟨_, h0, _⟩ | ⟨g, off, cur, rfl, _⟩
  · exact absurd (List.eq_nil_of_length_eq_zero h0) hn
  · refine ⟨g, off, rfl, fun k hk => ?_⟩
    obtain ⟨g1, g2⟩ := oCells_get M out.length k hk
    have c1 := h.row.cells g1
    have c2 := h.row.cells g2
    obtain ⟨o1, o2⟩ := h.els k hk
    have l1 : out[k].1.length = (M k).1.2.1 := by have := o1.1; simpa [bv] using this
    have l2 : out[k].2.length = (M k).2.2.1 := by have := o2.1; simpa [bv] using this
    obtain ⟨s1, s2⟩ := hb _ (List.getElem_mem hk)
    have cap : ∀ {a : Option Addr} {n c : Nat} {l : List UInt8}, W.ownsRow 0 5 1 (.slice a n c) n (bv l) → l.length = n → l.length ≤ c := fun {a n c l} o e => by
      rcases o.2 with ⟨e', h0⟩ | ⟨g, cap, cur, e', h1, h2, h3, h4, h5, h6⟩
      · cases e'; omega
      · cases e'; omega
    refine ⟨(M k).1.1, (M k).1.2.2, (M k).2.1, (M k).2.2.2, ?_, ?_, cap o1 l1, s1, bytes_of_own o1, cap o2 l2, s2, bytes_of_own o2⟩
    · rw [l1]; exact c1
    · rw [l2]; exact c2
end Go.Proofs.Ytemleibpmaclmaa.Kit
