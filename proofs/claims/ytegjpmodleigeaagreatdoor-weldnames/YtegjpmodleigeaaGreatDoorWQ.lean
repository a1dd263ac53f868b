import Derived.Test.YtegjpmodleigeaaGreatDoorWP
namespace Go.Proofs.YtegjpmodleigeaaGreatDoor.Kit
open Go.RowKit Go.Shelf Go.Deep
open Go.Proofs.YtegjpmodleigeaaGreatDoor.Kd (Ans AnsV cell5 cell2)
set_option linter.unusedVariables false
set_option linter.unusedSimpArgs false
attribute [local go_sem] run_store_func
attribute [local go_sem] Oper.semAt_some
/-- the boxes of pieces, and its list -/
structure PcT (z q fb fcc : Nat) (W : World) (k : Nat) (lo : Option Addr) (lc pl : Nat) (xs : List Value) : Prop where
  fz : W.heap[z]? = some (.cells #[.slice (some ⟨fb, 0, none⟩) 1 fcc] 23)
  nz : W.heap[z + 1]? = some (.cells #[.int .i64 1] 3)
  rz : W.heap[z + 2]? = some (.cells #[.slice none 0 0] 39)
  ez : W.heap[z + 3]? = some (.cells #[.int .i64 0] 33)
  lz : W.heap[z + 4]? = some (.cells #[.slice lo k lc] 39)
  row : W.ownsRow 0 43 2 (.slice lo k lc) k xs
  rl : ∀ g, (Value.slice lo k lc).ownBlock = some g → z ≤ g
  one : ∀ i, i < k → xs[2 * i]? = some (.int .i64 1)
  hq : W.heap[q]? = some (.cells #[.pointer (some ⟨pl, 0, none⟩)] 66)
  lq : z + 5 ≤ q
theorem own_typeN {W : World} {e sz n g : Nat} {v : Value} {xs : List Value} (ho : W.ownsRow 0 e sz v n xs) (h : v.ownBlock = some g) : ∃ cs fz, W.heap[g]? = some (.cells cs e fz) := by
  rcases ho.2 with ⟨rfl, _⟩ | ⟨b, cap, cur, rfl, _, hg, _⟩
  · simp [Value.ownBlock] at h
  · have : b = g := by simpa [Value.ownBlock] using h
    subst this
    exact ⟨_, _, hg⟩
theorem PcT.fr {z q fb fcc k : Nat} {lo : Option Addr} {lc pl : Nat} {xs : List Value} {W V : World} (h : PcT z q fb fcc W k lo lc pl xs) (hf : ∀ (b : Nat) (cs : Array Value) (ty : Nat) (fz : Nat × Nat), W.heap[b]? = some (.cells cs ty fz) → (ty = 23 ∨ ty = 3 ∨ ty = 39 ∨ ty = 33 ∨ ty = 43 ∨ ty = 66) → V.heap[b]? = W.heap[b]?) : PcT z q fb fcc V k lo lc pl xs :=
  ⟨(hf _ _ _ _ h.fz (by simp)).trans h.fz, (hf _ _ _ _ h.nz (by simp)).trans h.nz, (hf _ _ _ _ h.rz (by simp)).trans h.rz, (hf _ _ _ _ h.ez (by simp)).trans h.ez, (hf _ _ _ _ h.lz (by simp)).trans h.lz, row_kp h.row fun g e => by
    obtain ⟨cs, fz, hg⟩ := own_typeN h.row e
    exact hf _ _ _ _ hg (by simp), h.rl, h.one, (hf _ _ _ _ h.hq (by simp)).trans h.hq, h.lq⟩
theorem PcT.gr {z q fb fcc k : Nat} {lo : Option Addr} {lc pl : Nat} {xs : List Value} {W V : World} (h : PcT z q fb fcc W k lo lc pl xs) (g : Gr W V) : PcT z q fb fcc V k lo lc pl xs := h.fr fun b cs ty fz e _ => g.block b (lt_of_heap e) id
theorem PcS.t {z q fb fcc k : Nat} {W : World} (h : PcS z q fb fcc W k) : ∃ lo lc pl xs pc p n m t fo fc, PcT z q fb fcc W k lo lc pl xs ∧ Pil z W pl pc p n m t false fo fc [] := by
  obtain ⟨lo, lc, hb, xs, h1, h2, h3⟩ := h.ls
  obtain ⟨pl, pc, p, n, m, t, fo, fc, hq, hp⟩ := h.pl
  exact ⟨lo, lc, pl, xs, pc, p, n, m, t, fo, fc, ⟨h.fz, h.nz, h.rz, h.ez, hb, h1, h2, h3, hq, h.lq⟩, hp⟩
/-- behind the row: the pile is full -/
theorem pc_add {z q fb fcc k : Nat} {lo : Option Addr} {lc pl : Nat} {xs : List Value} {V w3 : World} (h : PcT z q fb fcc V k lo lc pl xs) (hf : FrP z V w3) : PcT z q fb fcc w3 k lo lc pl xs := h.fr fun b cs ty fz e ht => hf.block b (lt_of_heap e) (fun hq => by
  obtain ⟨_, cs', ty', fz', e', ht'⟩ := hq
  rw [e] at e'
  cases e'
  rcases ht with h | h | h | h | h | h <;> simp [h] at ht')
/-- the pile is done -/
theorem pc_done {z q fb fcc k : Nat} {lo : Option Addr} {lc pl : Nat} {xs : List Value} {u w4 : World} {p : Nat} {cp : Array Value} (h : PcT z q fb fcc u k lo lc pl xs) (hp : u.heap[p]? = some (.cells cp 121)) (hzp : z ≤ p) (k4 : Keeps u w4 (fun b => b = p)) : PcT z q fb fcc w4 k lo lc pl xs ∧ FrR z u w4 := by
  refine ⟨h.fr fun b cs ty fz e ht => k4.block b (lt_of_heap e) (fun e2 => ?_), k4.mono fun b _ e2 => ?_⟩
  · have e3 : b = p := e2
    subst e3
    rw [hp] at e
    cases e
    omega
  · have e3 : b = p := e2
    subst e3
    exact ⟨hzp, _, _, _, hp, by simp⟩
/-- one batch more -/
theorem pc_app {z q fb fcc k : Nat} {lo : Option Addr} {lc pl : Nat} {xs : List Value} {w5 w6 : World} {uo : Option Addr} {uc : Nat} {v : Value} (h : PcT z q fb fcc w5 k lo lc pl xs) (hz : z ≤ w5.heap.size) (ha1 : w6.ownsRow 0 43 2 (.slice uo (k + 1) uc) (k + 1) (xs ++ [.int .i64 1, v])) (ha2 : w5.grownBy w6 (Value.slice lo k lc).ownBlock) (ha3 : (Value.slice uo (k + 1) uc).ownBlock = (Value.slice lo k lc).ownBlock ∨ ∀ g, (Value.slice uo (k + 1) uc).ownBlock = some g → w5.heap.size ≤ g) :
    w6.heap[z + 4]? = some (.cells #[.slice lo k lc] 39) ∧ w6.heap[q]? = some (.cells #[.pointer (some ⟨pl, 0, none⟩)] 66) ∧ FrR z w5 (w6.setCell ⟨z + 4, 0, none⟩ (.slice uo (k + 1) uc)) ∧ PcT z q fb fcc (w6.setCell ⟨z + 4, 0, none⟩ (.slice uo (k + 1) uc)) (k + 1) uo uc pl (xs ++ [.int .i64 1, v]) := by
  have kg := Keeps.ofGrown ha2
  have h43 : ∀ (b : Nat) (cs : Array Value) (ty : Nat) (fz : Nat × Nat), w5.heap[b]? = some (.cells cs ty fz) → ty ≠ 43 → w6.heap[b]? = w5.heap[b]? := fun b cs ty fz e ht => kg.block b (lt_of_heap e) (fun e2 => by
    obtain ⟨cs', fz', hg⟩ := own_typeN h.row e2
    rw [e] at hg
    cases hg
    exact ht rfl)
  have l6 := (h43 _ _ _ _ h.lz (by decide)).trans h.lz
  have ks : Keeps w6 (w6.setCell ⟨z + 4, 0, none⟩ (.slice uo (k + 1) uc)) (fun b => b = z + 4) := Keeps.setCell (S := fun b => b = z + 4) (p := ⟨z + 4, 0, none⟩) (Keeps.refl w6 _) (fun _ => rfl) _
  have tr : ∀ (b : Nat) (cs : Array Value) (ty : Nat) (fz : Nat × Nat), w5.heap[b]? = some (.cells cs ty fz) → ty ≠ 43 → b ≠ z + 4 → (w6.setCell ⟨z + 4, 0, none⟩ (.slice uo (k + 1) uc)).heap[b]? = some (.cells cs ty fz) := fun b cs ty fz e ht hn => by
    have e6 := (h43 b cs ty fz e ht).trans e
    exact (ks.block b (lt_of_heap e6) hn).trans e6
  have lq := h.lq
  have lx := h.row.1
  refine ⟨l6, (h43 _ _ _ _ h.hq (by decide)).trans h.hq, ?_, ⟨tr _ _ _ _ h.fz (by decide) (by omega), tr _ _ _ _ h.nz (by decide) (by omega), tr _ _ _ _ h.rz (by decide) (by omega), tr _ _ _ _ h.ez (by decide) (by omega), ?_, ?_, ?_, ?_, tr _ _ _ _ h.hq (by decide) (by omega), h.lq⟩⟩
  · refine FrR.trans (v := w6) (kg.mono fun b _ e2 => ?_) (ks.mono fun b _ e2 => ?_)
    · obtain ⟨cs', fz', hg⟩ := own_typeN h.row e2
      exact ⟨h.rl b e2, _, _, _, hg, by simp⟩
    · have e3 : b = z + 4 := e2
      subst e3
      exact ⟨by omega, _, _, _, l6, by simp⟩
  · rw [heap_setCell_same w6 (z + 4) 0 _ _ _ l6]; rfl
  · refine row_kp ha1 fun g e => ks.block g (own_lt ha1 g e) (fun e2 => ?_)
    have e3 : g = z + 4 := e2
    subst e3
    obtain ⟨cs', fz', hg⟩ := own_typeN ha1 e
    rw [l6] at hg
    cases hg
  · intro g e
    rcases ha3 with h3 | h3
    · exact h.rl g (by rw [← h3]; exact e)
    · have := h3 g e; omega
  · intro i hi
    by_cases h' : i < k
    · rw [List.getElem?_append_left (by omega)]
      exact h.one i h'
    · have hik : i = k := by omega
      subst hik
      rw [List.getElem?_append_right (by omega), show 2 * i - xs.length = 0 by omega]
      rfl
theorem Pil.kpB {B B0 : Nat} {W V : World} {pl pc p n m t : Nat} {nu : Bool} {fo : Option Addr} {fc : Nat} {xs : List Int} (h : Pil B0 W pl pc p n m t nu fo fc xs) (hB : B ≤ B0) (k : ∀ b, B0 ≤ b → b < W.heap.size → V.heap[b]? = W.heap[b]?) : Pil B V pl pc p n m t nu fo fc xs := (h.kp fun b hb => k b hb.1 hb.lt).low' hB
/-- a new pile -/
theorem pc_new {z q fb fcc k : Nat} {lo : Option Addr} {lc pl : Nat} {xs : List Value} {w7 w8 : World} {pl' pc p n m t : Nat} {fo : Option Addr} {fc : Nat} (h : PcT z q fb fcc w7 k lo lc pl xs) (hz : z ≤ w7.heap.size) (g : Gr w7 w8) (hp : Pil w7.heap.size w8 pl' pc p n m t false fo fc []) :
    w8.heap[q]? = some (.cells #[.pointer (some ⟨pl, 0, none⟩)] 66) ∧ FrR z w7 (w8.setCell ⟨q, 0, none⟩ (.pointer (some ⟨pl', 0, none⟩))) ∧ PcS z q fb fcc (w8.setCell ⟨q, 0, none⟩ (.pointer (some ⟨pl', 0, none⟩))) k := by
  have h8 := h.gr g
  have q7 := lt_of_heap h.hq
  have ks : Keeps w8 (w8.setCell ⟨q, 0, none⟩ (.pointer (some ⟨pl', 0, none⟩))) (fun b => b = q) := Keeps.setCell (S := fun b => b = q) (p := ⟨q, 0, none⟩) (Keeps.refl w8 _) (fun _ => rfl) _
  have lq := h.lq
  have tr : ∀ (b : Nat) (cs : Array Value) (ty : Nat) (fz : Nat × Nat), w8.heap[b]? = some (.cells cs ty fz) → b ≠ q → (w8.setCell ⟨q, 0, none⟩ (.pointer (some ⟨pl', 0, none⟩))).heap[b]? = some (.cells cs ty fz) := fun b cs ty fz e hn => (ks.block b (lt_of_heap e) hn).trans e
  refine ⟨h8.hq, (Gr.frR g).trans (ks.mono fun b _ e2 => ?_), ⟨tr _ _ _ _ h8.fz (by omega), tr _ _ _ _ h8.nz (by omega), tr _ _ _ _ h8.rz (by omega), tr _ _ _ _ h8.ez (by omega), ⟨lo, lc, tr _ _ _ _ h8.lz (by omega), xs, row_kp h8.row fun g e => ks.block g (own_lt h8.row g e) (fun e2 => ?_), h8.rl, h8.one⟩, ⟨pl', pc, p, n, m, t, fo, fc, ?_, ?_⟩, h.lq⟩⟩
  · have e3 : b = q := e2
    subst e3
    exact ⟨by omega, _, _, _, h8.hq, by simp⟩
  · have e3 : g = q := e2
    subst e3
    obtain ⟨cs', fz', hg⟩ := own_typeN h8.row e
    rw [h8.hq] at hg
    cases hg
  · rw [heap_setCell_same w8 q 0 _ _ _ h8.hq]; rfl
  · refine hp.kpB hz fun b hb hl => ks.block b hl (fun e2 => ?_)
    have e3 : b = q := e2
    omega
end Go.Proofs.YtegjpmodleigeaaGreatDoor.Kit
