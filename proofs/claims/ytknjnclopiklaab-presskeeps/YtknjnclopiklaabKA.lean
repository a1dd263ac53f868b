import Derived.Test.YtknjnclopiklaabSF
import Derived.Test.YtknjnclopiklaabRG
import Derived.Test.YtknjnclopiklaabCB
import Derived.Laws.IdiomStrings
namespace Go.Proofs.Ytknjnclopiklaab.Kit
open Go.RowKit Go.Shelf Go.Deep
set_option linter.unusedVariables false

/-! ### rows of bytes that are written -/
structure BRow (W : World) (X n : Nat) (F : Nat → Int) : Prop where
  ex : ∃ c : Array Value, W.heap[X]? = some (.cells c 5 (0, 0)) ∧ n ≤ c.size ∧ ∀ k, k < n → c[k]? = some (.int .u8 (F k))
theorem BRow.cell {W : World} {X n : Nat} {F : Nat → Int} (h : BRow W X n F) {k : Nat} (hk : k < n) : W.cell? ⟨X, k, none⟩ = some (.int .u8 (F k)) := by
  obtain ⟨c, h1, h2, h3⟩ := h.ex
  simp only [World.cell?, h1]
  exact h3 k hk
theorem BRow.frz {W : World} {X n : Nat} {F : Nat → Int} (h : BRow W X n F) (k : Nat) : W.frozen? ⟨X, k, none⟩ = false := by
  obtain ⟨c, h1, h2, h3⟩ := h.ex
  exact Kit.frz h1 k
theorem BRow.lt {W : World} {X n : Nat} {F : Nat → Int} (h : BRow W X n F) : X < W.heap.size := by
  obtain ⟨c, h1, -⟩ := h.ex
  exact lt_of_heap h1
theorem BRow.set {W : World} {X n k : Nat} {F : Nat → Int} (h : BRow W X n F) (hk : k < n) (v : Int) : BRow (W.setCell ⟨X, k, none⟩ (.int .u8 v)) X n (fun j => if j = k then v else F j) := by
  obtain ⟨c, h1, h2, h3⟩ := h.ex
  refine ⟨_, heap_setCell_same W X k c 5 (.int .u8 v) h1, by simp [h2], fun j hj => ?_⟩
  simp only [Array.getElem?_setIfInBounds]
  by_cases e : k = j
  · subst e
    rw [if_pos rfl, if_pos rfl, if_pos (by omega)]
  · rw [if_neg e, if_neg (fun h => e h.symm)]
    exact h3 j hj
theorem BRow.kp {W W' : World} {X n : Nat} {F : Nat → Int} (h : BRow W X n F) (e : W'.heap[X]? = W.heap[X]?) : BRow W' X n F := by
  obtain ⟨c, h1, h2, h3⟩ := h.ex
  exact ⟨c, e.trans h1, h2, h3⟩
theorem BRow.congr {W : World} {X n : Nat} {F G : Nat → Int} (h : BRow W X n F) (e : ∀ k, k < n → F k = G k) : BRow W X n G := by
  obtain ⟨c, h1, h2, h3⟩ := h.ex
  exact ⟨c, h1, h2, fun k hk => by rw [h3 k hk, e k hk]⟩
theorem BRow.of_own {W : World} {vo : Option Addr} {n vc : Nat} {bs : List UInt8} (h : W.ownsRow 0 5 1 (.slice vo n vc) n (bv bs)) (h0 : 0 < n) : ∃ X, vo = some ⟨X, 0, none⟩ ∧ BRow W X n (fun k => ((bs.getD k 0).toNat : Int)) := by
  have hl : bs.length = n := by have := h.1; simpa [bv] using this
  rcases h.2 with ⟨e, h0'⟩ | ⟨g, cap, cur, e, h1, h2, h3, h4, h5, h6⟩
  · omega
  · cases e
    refine ⟨g, rfl, cur, h2, by omega, fun k hk => ?_⟩
    have h7 : (cur.toList.take (n * 1))[k]? = (bv bs)[k]? := by rw [h6]
    rw [List.getElem?_take, if_pos (by omega), Array.getElem?_toList] at h7
    rw [h7]
    unfold bv
    rw [List.getElem?_map, List.getElem?_eq_getElem (by omega), List.getD_eq_getElem?_getD, List.getElem?_eq_getElem (by omega)]
    rfl
theorem BRow.bytes {W : World} {X n : Nat} {F : Nat → Int} (h : BRow W X n F) {bs : List UInt8} (hl : bs.length = n) (hF : ∀ k, k < n → F k = ((bs.getD k 0).toNat : Int)) : BytesAt W (some ⟨X, 0, none⟩) bs := fun hn => by
  refine ⟨X, 0, rfl, fun i hi => ?_⟩
  rw [Nat.zero_add, h.cell (by omega), hF i (by omega), List.getD_eq_getElem?_getD, List.getElem?_eq_getElem hi]
  rfl
/-- nothing but a block has changed -/
theorem Byts.kp {w W W' : World} {vo : Option Addr} {vc n X : Nat} {bs : List UInt8} (h : Byts w W vo vc n bs) (k : Keeps W W' (fun g => g = X)) (hX : w.heap.size ≤ X) (hne : ¬ (Value.slice vo n vc).ownBlock = some X) : Byts w W' vo vc n bs :=
  ⟨own_kp h.own fun b e => k.block b (own_lt h.own b e) (fun q => by subst q; exact hne e), h.gr.trans k (fun j hj e => by omega), h.new⟩
theorem conv_in (W : World) (p : List UInt8) : ∃ cp V, (convert 9 22 (.string ⟨p.toArray⟩)).run Try.prog W = .ok (.slice (some ⟨W.heap.size, 0, none⟩) p.length cp) V ∧ Gr W V ∧ BytesAt V (some ⟨W.heap.size, 0, none⟩) p ∧ p.length ≤ cp := by
  have hs : (⟨p.toArray⟩ : ByteArray).size = p.length := by simp [ByteArray.size]
  have h := run_bytes_of_string W 9 22 5 (⟨p.toArray⟩ : ByteArray) Try.underlying9 Try.underlying22 Try.underlying5
  rw [hs] at h
  refine ⟨_, _, h, (Keeps.refl W _).drew.alloc _, fun hn => ⟨W.heap.size, 0, rfl, fun i hi => ?_⟩, grownCap_ge _ _ _ _⟩
  have hb := heap_alloc_new W.drew (.cells (bytesRow (⟨p.toArray⟩ : ByteArray) (grownCap W p.length 0 5)) 5 ((bytesRow (⟨p.toArray⟩ : ByteArray) (grownCap W p.length 0 5)).size, (bytesRow (⟨p.toArray⟩ : ByteArray) (grownCap W p.length 0 5)).size + 1))
  have hb' := (show W.drew.heap.size = W.heap.size from rfl) ▸ hb
  simp only [World.cell?, hb']
  simp [bytesRow, Array.getElem?_append, hi]
/-! ### a list of rows of bytes -/
def rv (r : Option Addr × Nat × Nat) : Value := .slice r.1 r.2.1 r.2.2
structure Ten (w W : World) (lo : Option Addr) (lc N : Nat) (R : Nat → Option Addr × Nat × Nat) (M : Nat → Nat → Int) : Prop where
  gr : Gr w W
  own : W.ownsRow 0 22 1 (.slice lo N lc) N ((List.range N).map fun i => rv (R i))
  lnew : ∀ g, (Value.slice lo N lc).ownBlock = some g → w.heap.size ≤ g
  row : ∀ i, i < N → 0 < (R i).2.1 → ∃ X, (R i).1 = some ⟨X, 0, none⟩ ∧ w.heap.size ≤ X ∧ BRow W X (R i).2.1 (M i)
  len : ∀ i, i < N → (R i).2.1 ≤ 1000000
  apart : ∀ i j X, i < N → j < N → i ≠ j → 0 < (R i).2.1 → 0 < (R j).2.1 → (R i).1 = some ⟨X, 0, none⟩ → (R j).1 ≠ some ⟨X, 0, none⟩
theorem Ten.empty (w : World) (R : Nat → Option Addr × Nat × Nat) (M : Nat → Nat → Int) : Ten w (w.alloc (.cells #[] 22)) (some ⟨w.heap.size, 0, none⟩) 0 0 R M := by
  refine ⟨gr_alloc _ _, ⟨rfl, .inr ⟨w.heap.size, 0, #[], rfl, Nat.zero_le _, heap_alloc_new w _, by omega, by decide, rfl, rfl⟩⟩, fun g e => ?_, fun i hi => by omega, fun i hi => by omega, fun i j X hi => by omega⟩
  have : w.heap.size = g := by simpa [Value.ownBlock] using e
  omega
theorem Ten.grow {w W W' : World} {lo : Option Addr} {lc N : Nat} {R : Nat → Option Addr × Nat × Nat} {M : Nat → Nat → Int} (h : Ten w W lo lc N R M) (g : Gr W W') : Ten w W' lo lc N R M :=
  ⟨h.gr.trans g (fun _ _ h => h), own_kp h.own fun b e => g.block b (own_lt h.own b e) id, h.lnew, fun i hi h0 => by
    obtain ⟨X, h1, h2, h3⟩ := h.row i hi h0
    exact ⟨X, h1, h2, h3.kp (g.block X h3.lt id)⟩, h.len, h.apart⟩
theorem Ten.cell {w W : World} {lo : Option Addr} {lc N : Nat} {R : Nat → Option Addr × Nat × Nat} {M : Nat → Nat → Int} (h : Ten w W lo lc N R M) (h0 : 0 < N) : ∃ L, lo = some ⟨L, 0, none⟩ ∧ (∃ c, W.heap[L]? = some (.cells c 22 (0, 0))) ∧ ∀ i, i < N → W.cell? ⟨L, i, none⟩ = some (rv (R i)) := by
  rcases h.own.2 with ⟨e, h0'⟩ | ⟨g, cap, cur, e, h1, h2, h3, h4, h5, h6⟩
  · omega
  · cases e
    refine ⟨g, rfl, ⟨cur, h2⟩, fun i hi => ?_⟩
    have h7 : (cur.toList.take (N * 1))[i]? = ((List.range N).map fun i => rv (R i))[i]? := by rw [h6]
    rw [List.getElem?_take, if_pos (by omega), Array.getElem?_toList, List.getElem?_map, List.getElem?_range hi] at h7
    simp only [World.cell?, h2]
    exact h7
/-- a byte is written into a row -/
theorem Ten.set {w W : World} {lo : Option Addr} {lc N i k X : Nat} {R : Nat → Option Addr × Nat × Nat} {M : Nat → Nat → Int} (h : Ten w W lo lc N R M) (hi : i < N) (hk : k < (R i).2.1) (hX : (R i).1 = some ⟨X, 0, none⟩) (v : Int) :
    Ten w (W.setCell ⟨X, k, none⟩ (.int .u8 v)) lo lc N R (fun i' k' => if i' = i ∧ k' = k then v else M i' k') := by
  obtain ⟨X', e1, e2, e3⟩ := h.row i hi (by omega)
  rw [hX] at e1
  cases e1
  obtain ⟨L, l1, ⟨lcur, l2⟩, -⟩ := h.cell (by omega)
  have hLX : L ≠ X := by
    intro e
    subst e
    obtain ⟨c, c1, -⟩ := e3.ex
    rw [l2] at c1
    cases c1
  refine ⟨keeps_set h.gr e2, own_kp h.own fun b e => ?_, h.lnew, fun j hj h0 => ?_, h.len, h.apart⟩
  · have : L = b := by rw [l1] at e; simpa [Value.ownBlock] using e
    subst this
    exact heap_setCell_other W ⟨X, k, none⟩ L _ hLX
  · obtain ⟨Y, y1, y2, y3⟩ := h.row j hj h0
    by_cases e : j = i
    · subst e
      rw [hX] at y1
      cases y1
      exact ⟨X, hX, y2, (y3.set hk v).congr (fun k' _ => by by_cases q : k' = k <;> simp [q])⟩
    · have hne : Y ≠ X := by
        intro q
        subst q
        exact h.apart i j Y hi hj (fun q => e q.symm) (by omega) h0 hX y1
      exact ⟨Y, y1, y2, (y3.kp (heap_setCell_other W ⟨X, k, none⟩ Y _ hne)).congr (fun k' _ => by simp [e])⟩
theorem info22 : (Try.prog.info? 22).map (fun i => (i.zero, i.size, i.bytes)) = some (some (.slice none 0 0), 1, 24) := by kernel_rfl
theorem src_two (w : World) (u v : Value) (hu : u.oneCell' = true) (hv : v.oneCell' = true) : Src Try.prog 1 44 (.slice (some ⟨w.heap.size, 0, none⟩) 2 2) 2 [u, v] (w.alloc (.cells #[u, v] 22)) := by
  refine Src.ofSlice (w := w.alloc (.cells #[u, v] 22)) Try.underlying44 ⟨w.heap.size, 0, none⟩ 2 2 [u, v] (by simp) (fun j x h => ?_) (fun x h => by simp at h; rcases h with rfl | rfl <;> assumption)
  have hb := heap_alloc_new w (.cells #[u, v] 22)
  have e : (⟨w.heap.size, 0, none⟩ : Addr).add j = ⟨w.heap.size, j, none⟩ := by cases j <;> simp [Addr.add]
  rw [e]
  simp only [World.cell?, hb]
  simpa using h
end Go.Proofs.Ytknjnclopiklaab.Kit
