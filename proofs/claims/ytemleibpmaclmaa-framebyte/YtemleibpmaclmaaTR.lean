import Derived.Test.YtemleibpmaclmaaTQ
namespace Go.Proofs.Ytemleibpmaclmaa.Kit
open Go.RowKit Go.Shelf Go.Deep
set_option linter.unusedVariables false

theorem left_get {a : List UInt8} {j : Nat} (hj : j < (fedF a).ms.length) : (leftF a j).ms = (fedF a).ms[j] :: (leftF a (j + 1)).ms := by
  unfold leftF
  exact List.drop_eq_getElem_cons hj
theorem left_row {a : List UInt8} {j : Nat} (hj : j < (fedF a).ms.length) : (leftF a j).row 3 = (fedF a).ms[j].1 ∧ (leftF a j).row 4 = (fedF a).ms[j].2 := by
  have e := left_get hj
  constructor
  · show ((leftF a j).ms.getD 0 ([], [])).1 = _
    rw [e]; rfl
  · show ((leftF a j).ms.getD 0 ([], [])).2 = _
    rw [e]; rfl
theorem left_pop {a : List UInt8} {j : Nat} (hj : j < (fedF a).ms.length) : popF (leftF a j) = leftF a (j + 1) := by
  have e := left_get hj
  unfold popF
  rw [e]
  rfl
theorem own_len {W : World} {r : Row} {l : List UInt8} (h : W.ownsRow 0 5 1 (rv r) r.2.1 (bv l)) : r.2.1 = l.length := by
  have := h.1
  simp [bv] at this
  omega
theorem held_next {a : List UInt8} {j : Nat} (hj : j < (fedF a).ms.length) : heldN a j = heldN a (j + 1) + sizeM (fedF a).ms[j] := by
  have e : szs ((fedF a).ms.take (j + 1)) = szs ((fedF a).ms.take j) + sizeM (fedF a).ms[j] := by
    rw [List.take_succ_eq_append_getElem hj, szs_add]
    simp [szs]
  have h1 := fed_size a
  have h2 := szs_take (fedF a).ms (j + 1)
  unfold heldN
  omega
theorem Gn.next {w W V V2 V3 : World} {p : Nat} {sh : Bool} {a : List UInt8} {j : Nat} {R : Nat → Row} {wo wo' : Option Addr} {wc wc' : Nat} {lo lo' : Option Addr} {lc lc' : Nat} {M : Nat → Row × Row} (h : Gn w W p sh a j R wo wc lo lc M) (hj : j < (fedF a).ms.length)
    (f : From w W V p 76 [.bool sh, .int .i64 ((heldN a j : Int) - oneSize R)] (leftF a j).ms.length R wo wc (popF (leftF a j)) (pop2 R) wo' wc')
    (hr : ∀ i, i = 3 ∨ i = 4 → V.ownsRow 0 5 1 (rv (R i)) (R i).2.1 (bv ((leftF a j).row i)) ∧ ∀ x, (rv (R i)).ownBlock = some x → w.heap.size ≤ x ∧ ¬ RIs p (popF (leftF a j)).ms.length (pop2 R) wo' wc' x)
    (g : Gr V V2) (hrow : OffRow V3 24 2 lo' (j + 1) lc' (oCells M j ++ [rv (R 3), rv (R 4)])) (hk : Keeps V2 V3 (fun g => (Value.slice lo j lc).ownBlock = some g))
    (hor : (Value.slice lo' (j + 1) lc').ownBlock = (Value.slice lo j lc).ownBlock ∨ ∀ g, (Value.slice lo' (j + 1) lc').ownBlock = some g → V2.heap.size ≤ g) :
    Gn w V3 p sh a (j + 1) (pop2 R) wo' wc' lo' lc' (fun i => if i < j then M i else (R 3, R 4)) := by
  obtain ⟨r3, r4⟩ := left_row hj
  obtain ⟨o3, n3⟩ := hr 3 (.inl rfl)
  obtain ⟨o4, n4⟩ := hr 4 (.inr rfl)
  rw [r3] at o3
  rw [r4] at o4
  have hsz : (oneSize R : Int) = sizeM (fedF a).ms[j] := by
    unfold oneSize sizeM
    rw [own_len o3, own_len o4]
  have hh : (heldN a j : Int) - oneSize R = (heldN a (j + 1) : Int) := by
    have := held_next hj
    rw [hsz]
    omega
  rw [hh] at f
  rw [left_pop hj] at f n3 n4
  obtain ⟨u1, u2⟩ := h.out.from h.ap f
  have htl : ((fedF a).ms.take j).length = j := by rw [List.length_take]; omega
  have u1' := u1.grow g
  have hnewl : ∀ b, (Value.slice lo j lc).ownBlock = some b → w.heap.size ≤ b ∧ b < V2.heap.size ∧ ¬ RIs p (leftF a (j + 1)).ms.length (pop2 R) wo' wc' b := fun b hb => by
    have hb' : OIs lo lc ((fedF a).ms.take j).length M b := .inl (by rw [htl]; exact hb)
    exact ⟨h.new b hb', u1'.lt hb', u2 b hb'⟩
  have hpush := u1'.push (x := (fedF a).ms[j]) (r1 := R 3) (r2 := R 4) (own_kp o3 fun b e => g.block b (own_lt o3 b e) id) (own_kp o4 fun b e => g.block b (own_lt o4 b e) id) (lo' := lo') (lc' := lc') (W' := V3) (by rw [htl]; exact hrow) (by rw [htl]; exact hk)
  rw [htl, ← List.take_succ_eq_append_getElem hj] at hpush
  have htl' : ((fedF a).ms.take (j + 1)).length = j + 1 := by rw [List.length_take]; omega
  have rd2 := f.rd.grow g
  have hgr : Gr w V3 := rd2.gr.trans hk (fun b hb e => by have := (hnewl b e).1; omega)
  have hois : ∀ b, OIs lo' lc' ((fedF a).ms.take (j + 1)).length (fun i => if i < j then M i else (R 3, R 4)) b → (V2.heap.size ≤ b) ∨ OIs lo lc ((fedF a).ms.take j).length M b ∨ (rv (R 3)).ownBlock = some b ∨ (rv (R 4)).ownBlock = some b := fun b k => by
    rw [htl'] at k
    rw [htl]
    rcases k with k | ⟨i, hi, k⟩
    · rcases hor with e | e
      · rw [e] at k; exact .inr (.inl (.inl k))
      · exact .inl (e b k)
    · by_cases c : i < j
      · simp only [c, if_true] at k
        exact .inr (.inl (.inr ⟨i, c, k⟩))
      · simp only [c, if_false] at k
        exact .inr (.inr k)
  have hwV2 : w.heap.size ≤ V2.heap.size := rd2.gr.size
  refine ⟨by omega, rd2.kp (fun b hb => hk.block b (rd2.lt hb) fun e => (hnewl b e).2.2 hb) hgr, hpush, fun b hb k => ?_, fun b hb => ?_⟩
  · rcases hois b hb with e | e | e | e
    · have := rd2.lt k; omega
    · exact u2 b e k
    · exact (n3 b e).2 k
    · exact (n4 b e).2 k
  · rcases hois b hb with e | e | e | e
    · omega
    · exact h.new b e
    · exact (n3 b e).1
    · exact (n4 b e).1
end Go.Proofs.Ytemleibpmaclmaa.Kit
