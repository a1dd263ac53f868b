import Derived.Test.YtemleibpmaclmaaFH
namespace Go.Proofs.Ytemleibpmaclmaa.Kit
open Go.RowKit Go.Shelf Go.Deep
set_option linter.unusedVariables false
attribute [local go_sem] run_store_func

/-! ### the book -/
def Typ (W : World) (g t : Nat) : Prop := ∃ c f, W.heap[g]? = some (.cells c t f)
theorem Typ.ne {W : World} {g t s : Nat} (h : Typ W g t) (k : Typ W g s) : t = s := by
  obtain ⟨c, f, h⟩ := h
  obtain ⟨c', f', k⟩ := k
  rw [h] at k
  cases k
  rfl
theorem own_typ {W : World} {t : Nat} {v : Value} {n : Nat} {xs : List Value} (h : W.ownsRow 0 t 1 v n xs) {g : Nat} (e : v.ownBlock = some g) : Typ W g t := by
  rcases h.2 with ⟨rfl, h0⟩ | ⟨g', cap, cur, rfl, _, hgg, _⟩
  · simp [Value.ownBlock] at e
  · simp [Value.ownBlock] at e
    subst e
    exact ⟨_, _, hgg⟩
def rv (r : Option Addr × Nat × Nat) : Value := .slice r.1 r.2.1 r.2.2
theorem info22 : (Try.prog.info? 22).map (fun i => (i.zero, i.size, i.bytes)) = some (some (.slice none 0 0), 1, 24) := by kernel_rfl
structure Bk (w W : World) (K N : Nat) (ao : Option Addr) (ac : Nat) (wo : Option Addr) (wc : Nat) (x2 x3 : Value) (R Q : Nat → Option Addr × Nat × Nat) (D : Nat → List UInt8) : Prop where
  gr : Gr w W
  knew : w.heap.size ≤ K
  box : W.heap[K]? = some (.cells #[.slice ao N ac, .slice wo N wc, x2, x3] 33 (0, 0))
  all : W.ownsRow 0 22 1 (.slice ao N ac) N ((List.range N).map fun i => rv (R i))
  want : W.ownsRow 0 22 1 (.slice wo N wc) N ((List.range N).map fun i => rv (Q i))
  anew : ∀ g, (Value.slice ao N ac).ownBlock = some g → w.heap.size ≤ g ∧ (Value.slice wo N wc).ownBlock ≠ some g
  wnew : ∀ g, (Value.slice wo N wc).ownBlock = some g → w.heap.size ≤ g
  rows : ∀ i, i < N → W.ownsRow 0 5 1 (rv (R i)) (R i).2.1 (bv (D i))
  rnew : ∀ i, i < N → ∀ g, (rv (R i)).ownBlock = some g → w.heap.size ≤ g
  apart : ∀ i j g, i < N → j < N → i ≠ j → (rv (R i)).ownBlock = some g → (rv (R j)).ownBlock ≠ some g
  qlen : ∀ i, i < N → (Q i).2.1 = (D i).length
  len : ∀ i, i < N → (D i).length ≤ 5000000
theorem Bk.new (w W : World) (K : Nat) (g : Gr w W) (hK : w.heap.size ≤ K) (hb : W.heap[K]? = some (.cells #[.slice none 0 0, .slice none 0 0, .slice none 0 0, .slice none 0 0] 33 (0, 0))) (R Q : Nat → Option Addr × Nat × Nat) (D : Nat → List UInt8) : Bk w W K 0 none 0 none 0 (.slice none 0 0) (.slice none 0 0) R Q D :=
  ⟨g, hK, hb, World.ownsRow_nil _ _ _ _, World.ownsRow_nil _ _ _ _, fun g e => by simp [Value.ownBlock] at e, fun g e => by simp [Value.ownBlock] at e, fun i hi => by omega, fun i hi => by omega, fun i j g hi => by omega, fun i hi => by omega, fun i hi => by omega⟩
/-- what a book stands on -/
def Bk.Is {w W : World} {K N : Nat} {ao : Option Addr} {ac : Nat} {wo : Option Addr} {wc : Nat} {x2 x3 : Value} {R Q : Nat → Option Addr × Nat × Nat} {D : Nat → List UInt8} (h : Bk w W K N ao ac wo wc x2 x3 R Q D) (g : Nat) : Prop :=
  g = K ∨ (Value.slice ao N ac).ownBlock = some g ∨ (Value.slice wo N wc).ownBlock = some g ∨ ∃ i, i < N ∧ (rv (R i)).ownBlock = some g
theorem Bk.kp {w W W' : World} {K N : Nat} {ao : Option Addr} {ac : Nat} {wo : Option Addr} {wc : Nat} {x2 x3 : Value} {R Q : Nat → Option Addr × Nat × Nat} {D : Nat → List UInt8} (h : Bk w W K N ao ac wo wc x2 x3 R Q D) (e : ∀ g, h.Is g → W'.heap[g]? = W.heap[g]?) (g : Gr w W') : Bk w W' K N ao ac wo wc x2 x3 R Q D :=
  ⟨g, h.knew, (e K (.inl rfl)).trans h.box, own_kp h.all fun b hb => e b (.inr (.inl hb)), own_kp h.want fun b hb => e b (.inr (.inr (.inl hb))), h.anew, h.wnew, fun i hi => own_kp (h.rows i hi) fun b hb => e b (.inr (.inr (.inr ⟨i, hi, hb⟩))), h.rnew, h.apart, h.qlen, h.len⟩
theorem Bk.lt {w W : World} {K N : Nat} {ao : Option Addr} {ac : Nat} {wo : Option Addr} {wc : Nat} {x2 x3 : Value} {R Q : Nat → Option Addr × Nat × Nat} {D : Nat → List UInt8} (h : Bk w W K N ao ac wo wc x2 x3 R Q D) {g : Nat} (k : h.Is g) : g < W.heap.size := by
  rcases k with rfl | k | k | ⟨i, hi, k⟩
  · exact lt_of_heap h.box
  · exact own_lt h.all g k
  · exact own_lt h.want g k
  · exact own_lt (h.rows i hi) g k
theorem Bk.grow {w W W' : World} {K N : Nat} {ao : Option Addr} {ac : Nat} {wo : Option Addr} {wc : Nat} {x2 x3 : Value} {R Q : Nat → Option Addr × Nat × Nat} {D : Nat → List UInt8} (h : Bk w W K N ao ac wo wc x2 x3 R Q D) (g : Gr W W') : Bk w W' K N ao ac wo wc x2 x3 R Q D :=
  h.kp (fun b hb => g.block b (h.lt hb) id) (h.gr.trans g (fun _ _ h => h))
/-- a list that a box holds has grown -/
structure Fl (W W2 : World) (K T : Nat) (cs : Array Value) (t s : Nat) (v v' : Value) (n' : Nat) (xs' : List Value) : Prop where
  box : W2.heap[K]? = some (.cells cs T (0, 0))
  own : W2.ownsRow 0 t s v' n' xs'
  kp : Keeps W W2 (fun g => g = K ∨ v.ownBlock = some g)
  blk : v'.ownBlock = v.ownBlock ∨ ∀ g, v'.ownBlock = some g → W.heap.size ≤ g
theorem own_kpS {W W' : World} {t s : Nat} {v : Value} {n : Nat} {xs : List Value} (h : W.ownsRow 0 t s v n xs) (e : ∀ g, v.ownBlock = some g → W'.heap[g]? = W.heap[g]?) : W'.ownsRow 0 t s v n xs := by
  refine ⟨h.1, h.2.imp id ?_⟩
  rintro ⟨g, cap, cur, rfl, h0, hg, r⟩
  exact ⟨g, cap, cur, rfl, h0, (e g rfl).trans hg, r⟩
theorem own_typS {W : World} {t s : Nat} {v : Value} {n : Nat} {xs : List Value} (h : W.ownsRow 0 t s v n xs) {g : Nat} (e : v.ownBlock = some g) : Typ W g t := by
  rcases h.2 with ⟨rfl, h0⟩ | ⟨g', cap, cur, rfl, _, hgg, _⟩
  · simp [Value.ownBlock] at e
  · simp [Value.ownBlock] at e
    subst e
    exact ⟨_, _, hgg⟩
theorem fl_mk {W Wa W1 : World} {K T t s j : Nat} {cs : Array Value} {v v' : Value} {n n' : Nat} {xs xs' : List Value} (hb : W.heap[K]? = some (.cells cs T (0, 0))) (hT : T ≠ t) (own : W.ownsRow 0 t s v n xs) (gA : Gr W Wa) (own' : W1.ownsRow 0 t s v' n' xs') (hgrow : Wa.grownBy W1 v.ownBlock) (hblk : v'.ownBlock = v.ownBlock ∨ ∀ g, v'.ownBlock = some g → Wa.heap.size ≤ g) :
    W1.heap[K]? = some (.cells cs T (0, 0)) ∧ Fl W (W1.setCell ⟨K, j, none⟩ v') K T (cs.setIfInBounds j v') t s v v' n' xs' := by
  have hlt : K < W.heap.size := lt_of_heap hb
  have hne : ¬ v.ownBlock = some K := fun e => hT (Typ.ne ⟨_, _, hb⟩ (own_typS own e))
  have k0 : Keeps W W1 (fun g => v.ownBlock = some g) := (gA.mono fun _ _ f => f.elim).trans (Keeps.ofGrown hgrow) (fun _ _ e => e)
  have hb1 : W1.heap[K]? = some (.cells cs T (0, 0)) := (k0.block K hlt hne).trans hb
  have hne' : ¬ v'.ownBlock = some K := fun e => hT (Typ.ne ⟨_, _, hb1⟩ (own_typS own' e))
  refine ⟨hb1, heap_setCell_same W1 K j cs T v' hb1, own_kpS own' fun g e => heap_setCell_other W1 ⟨K, j, none⟩ g v' (fun q => hne' (by rw [e, q])), Keeps.setCell (S := fun g => g = K ∨ v.ownBlock = some g) (p := ⟨K, j, none⟩) (k0.mono fun _ _ e => Or.inr e) (fun _ => Or.inl rfl) v', hblk.imp id fun h g e => Nat.le_trans gA.size (h g e)⟩
theorem own_gr22 {W W' : World} {t : Nat} {v : Value} {n : Nat} {xs : List Value} (o : W.ownsRow 0 t 1 v n xs) (g : Gr W W') : W'.ownsRow 0 t 1 v n xs := own_kp o fun b e => g.block b (own_lt o b e) id
theorem src_row {w : World} (v : Value) (h : v.oneCell' = true) : Src Try.prog 1 30 (.slice (some ⟨w.heap.size, 0, none⟩) 1 1) 1 [v] (w.alloc (.cells #[v] 22)) := by
  refine Src.ofSlice (w := w.alloc (.cells #[v] 22)) Try.underlying30 ⟨w.heap.size, 0, none⟩ 1 1 [v] (by simp) (fun j x hj => ?_) (fun x hx => by simp at hx; subst hx; exact h)
  have hb := heap_alloc_new w (.cells #[v] 22)
  have e : (⟨w.heap.size, 0, none⟩ : Addr).add j = ⟨w.heap.size, j, none⟩ := by cases j <;> simp [Addr.add]
  rw [e]
  simp only [World.cell?, hb]
  simpa using hj
theorem ce4 {W : World} {B t : Nat} {x y z u : Value} (h : W.heap[B]? = some (.cells #[x, y, z, u] t)) : W.cell? ⟨B, 0, none⟩ = some x ∧ W.cell? ⟨B, 1, none⟩ = some y ∧ W.cell? ⟨B, 2, none⟩ = some z ∧ W.cell? ⟨B, 3, none⟩ = some u := by simp [World.cell?, h]
theorem _root_.Go.World.ownsRow.to {W : World} {bo : Option Addr} {bc : Nat} {d : List UInt8} {L : Nat} (h : W.ownsRow 0 5 1 (.slice bo d.length bc) d.length (bv d)) (e : L = d.length) : W.ownsRow 0 5 1 (.slice bo L bc) L (bv d) := by rw [e]; exact h
theorem Bk.added {w W W2 W4 : World} {K N L : Nat} {ao : Option Addr} {ac : Nat} {wo : Option Addr} {wc : Nat} {x2 x3 : Value} {R Q : Nat → Option Addr × Nat × Nat} {D : Nat → List UInt8} (h : Bk w W K N ao ac wo wc x2 x3 R Q D)
    {bo qo : Option Addr} {bc qc : Nat} {d : List UInt8} (hb : W.ownsRow 0 5 1 (.slice bo L bc) L (bv d)) (hd : L ≤ 5000000) (hnew : ∀ g, (Value.slice bo L bc).ownBlock = some g → w.heap.size ≤ g ∧ ∀ i, i < N → (rv (R i)).ownBlock ≠ some g)
    {ao' wo' : Option Addr} {ac' wc' : Nat} {cs : Array Value} (F : Fl W W2 K 33 cs 22 1 (.slice ao N ac) (.slice ao' (N + 1) ac') (N + 1) (((List.range N).map fun i => rv (R i)) ++ [.slice bo L bc]))
    (G : Fl W2 W4 K 33 (#[.slice ao' (N + 1) ac', .slice wo' (N + 1) wc', x2, x3]) 22 1 (.slice wo N wc) (.slice wo' (N + 1) wc') (N + 1) (((List.range N).map fun i => rv (Q i)) ++ [.slice qo L qc])) (hL : L = d.length) :
    Keeps W W4 (fun g => Typ W g 22 ∨ Typ W g 33) ∧ Bk w W4 K (N + 1) ao' ac' wo' wc' x2 x3 (fun i => if i < N then R i else (bo, L, bc)) (fun i => if i < N then Q i else (qo, L, qc)) (fun i => if i < N then D i else d) := by
  have tK : Typ W K 33 := ⟨_, _, h.box⟩
  have k : Keeps W W4 (fun g => g = K ∨ (Value.slice ao N ac).ownBlock = some g ∨ (Value.slice wo N wc).ownBlock = some g) :=
    (F.kp.mono fun b _ e => by rcases e with e | e; exact .inl e; exact .inr (.inl e)).trans (G.kp) (fun j _ e => by rcases e with e | e; exact .inl e; exact .inr (.inr e))
  have k' : Keeps W W4 (fun g => Typ W g 22 ∨ Typ W g 33) := k.mono fun b _ e => by
    rcases e with e | e | e
    · subst e; exact .inr tK
    · exact .inl (own_typ h.all e)
    · exact .inl (own_typ h.want e)
  have n5 : ∀ g, Typ W g 5 → ¬ (Typ W g 22 ∨ Typ W g 33) := fun g t q => by
    rcases q with q | q
    · exact absurd (t.ne q) (by decide)
    · exact absurd (t.ne q) (by decide)
  have row5 : ∀ {v : Value} {n : Nat} {xs : List Value}, W.ownsRow 0 5 1 v n xs → W4.ownsRow 0 5 1 v n xs := fun o => own_kp o fun g e => k'.block g (own_lt o g e) (n5 g (own_typ o e))
  have mapR : ((List.range (N + 1)).map fun i => rv (if i < N then R i else (bo, L, bc))) = ((List.range N).map fun i => rv (R i)) ++ [.slice bo L bc] := by
    rw [List.range_succ, List.map_append]
    congr 1
    · exact List.map_congr_left fun i hi => by rw [if_pos (List.mem_range.1 hi)]
    · simp [rv]
  have mapQ : ((List.range (N + 1)).map fun i => rv (if i < N then Q i else (qo, L, qc))) = ((List.range N).map fun i => rv (Q i)) ++ [.slice qo L qc] := by
    rw [List.range_succ, List.map_append]
    congr 1
    · exact List.map_congr_left fun i hi => by rw [if_pos (List.mem_range.1 hi)]
    · simp [rv]
  have hsz := F.kp.size
  have wn : ∀ g, (Value.slice wo' (N + 1) wc').ownBlock = some g → (Value.slice wo N wc).ownBlock = some g ∨ W2.heap.size ≤ g := fun g e => by
    rcases G.blk with q | q
    · rw [q] at e; exact .inl e
    · exact .inr (q g e)
  have an : ∀ g, (Value.slice ao' (N + 1) ac').ownBlock = some g → ((Value.slice ao N ac).ownBlock = some g ∨ W.heap.size ≤ g) ∧ g < W2.heap.size := fun g e => by
    refine ⟨?_, own_lt F.own g e⟩
    rcases F.blk with q | q
    · rw [q] at e; exact .inl e
    · exact .inr (q g e)
  have disj : ∀ g, (Value.slice ao' (N + 1) ac').ownBlock = some g → (Value.slice wo N wc).ownBlock ≠ some g := fun g e q => by
    rcases (an g e).1 with a | a
    · exact (h.anew g a).2 q
    · have := own_lt h.want g q; omega
  have wsz := h.gr.size
  refine ⟨k', h.gr.trans k (fun j hj e => ?_), h.knew, G.box, ?_, ?_, fun g e => ⟨?_, fun q => ?_⟩, fun g e => ?_, fun i hi => ?_, fun i hi g e => ?_, fun i j g hi hj hij e q => ?_, fun i hi => ?_, fun i hi => ?_⟩
  · rcases e with e | e | e
    · have := h.knew; omega
    · have := (h.anew j e).1; omega
    · have := h.wnew j e; omega
  · rw [mapR]
    exact own_kp F.own fun g e => G.kp.block g (own_lt F.own g e) (fun q => by
      rcases q with q | q
      · subst q; exact absurd (Typ.ne ⟨_, _, F.box⟩ (own_typ F.own e)) (by decide)
      · exact disj g e q)
  · rw [mapQ]; exact G.own
  · rcases (an g e).1 with a | a
    · exact (h.anew g a).1
    · omega
  · rcases wn g q with a | a
    · exact disj g e a
    · have := (an g e).2; omega
  · rcases wn g e with a | a
    · exact h.wnew g a
    · omega
  · by_cases c : i < N
    · simp only [if_pos c]; exact row5 (h.rows i c)
    · simp only [if_neg c]; exact row5 hb
  · by_cases c : i < N
    · simp only [if_pos c] at e; exact h.rnew i c g e
    · simp only [if_neg c] at e; exact (hnew g e).1
  · by_cases c : i < N
    · simp only [if_pos c] at e
      by_cases c' : j < N
      · simp only [if_pos c'] at q; exact h.apart i j g c c' hij e q
      · simp only [if_neg c'] at q; exact (hnew g q).2 i c e
    · simp only [if_neg c] at e
      by_cases c' : j < N
      · simp only [if_pos c'] at q; exact (hnew g e).2 j c' q
      · omega
  · by_cases c : i < N
    · simp only [if_pos c]; exact h.qlen i c
    · simp only [if_neg c]; exact hL
  · by_cases c : i < N
    · simp only [if_pos c]; exact h.len i c
    · simp only [if_neg c]; omega
set_option maxRecDepth 100000 in
set_option maxHeartbeats 2000000 in
theorem add_any {w W : World} {K N : Nat} {ao : Option Addr} {ac : Nat} {wo : Option Addr} {wc : Nat} {x2 x3 : Value} {R Q : Nat → Option Addr × Nat × Nat} {D : Nat → List UInt8} (h : Bk w W K N ao ac wo wc x2 x3 R Q D) (hN : N ≤ 10000000000)
    {bo qo : Option Addr} {bc qc : Nat} {d : List UInt8} (hb : W.ownsRow 0 5 1 (.slice bo d.length bc) d.length (bv d)) (hd : d.length ≤ 5000000) (hnew : ∀ g, (Value.slice bo d.length bc).ownBlock = some g → w.heap.size ≤ g ∧ ∀ i, i < N → (rv (R i)).ownBlock ≠ some g) :
    Calls Try.prog 14 #[.pointer (some ⟨K, 0, none⟩), .slice bo d.length bc, .slice qo d.length qc] W fun e w' => e = .returned (.tuple #[]) ∧ Keeps W w' (fun g => Typ W g 22 ∨ Typ W g 33) ∧ ∃ ao' ac' wo' wc',
      Bk w w' K (N + 1) ao' ac' wo' wc' x2 x3 (fun i => if i < N then R i else (bo, d.length, bc)) (fun i => if i < N then Q i else (qo, d.length, qc)) (fun i => if i < N then D i else d) := by
  have HB := hidM h
  have HR := hidM hb
  have HNw := hidM hnew
  obtain ⟨c0, c1, -⟩ := ce4 h.box
  have f0 := frz h.box 0
  obtain ⟨L, hL⟩ : ∃ L, L = d.length := ⟨_, rfl⟩
  have HL := hidM hL
  rw [← hL]
  have gA := hidM (gr_alloc W (.cells #[.slice bo L bc] 22))
  clear h hb hnew hL
  go_enter Try.func14, Try.ntmps14
  go_wp2_with (at_builtin; refine Hid.out ?_)
  unfold Hid
  refine wpList_append_any _ rfl (.tmp 10) (.tmp 12) 30 30 rfl 22 (.slice none 0 0) 24 Try.underlying30 info22 rfl (.slice ao N ac) N _ rfl (HB.out.grow gA.out).all _ 1 [.slice bo L bc] rfl (src_row _ rfl) (by omega) (by omega) ?_
  intro v' W1 hown hgrow hblk
  obtain ⟨ao1, ac1, rfl⟩ := own_form1 hown
  obtain ⟨hb1, hF⟩ := fl_mk (j := 0) HB.out.box (by decide) HB.out.all gA.out hown hgrow hblk
  have HF := hidM hF
  obtain ⟨t0, -⟩ := ce4 hb1
  have t0f := frz hb1 0
  obtain ⟨-, t1, -⟩ := ce4 hF.box
  have hb2 := hidM hF.box
  clear hown hgrow hblk hF c0 c1 f0 gA
  go_wp2_with (at_builtin; refine Hid.out ?_)
  unfold Hid
  clear t0 t0f t1 hb1
  obtain ⟨W2, hW2⟩ : ∃ W2, W2 = W1.setCell ⟨K, 0, none⟩ (.slice ao1 (N + 1) ac1) := ⟨_, rfl⟩
  have hs : W2.heap.size = W1.heap.size := by rw [hW2]; simp
  rw [← hW2] at HF hb2 ⊢
  rw [← hs]
  clear hW2 hs
  have gA := hidM (gr_alloc W2 (.cells #[.slice qo L qc] 22))
  have HWa : Hid (W2.ownsRow 0 22 1 (.slice wo N wc) N ((List.range N).map fun i => rv (Q i))) := own_kp HB.out.want fun g e => HF.out.kp.block g (own_lt HB.out.want g e) (fun q => by
    rcases q with q | q
    · subst q; exact absurd (Typ.ne ⟨_, _, HB.out.box⟩ (own_typ HB.out.want e)) (by decide)
    · exact (HB.out.anew g q).2 e)
  refine wpList_append_any _ rfl (.tmp 20) (.tmp 22) 30 30 rfl 22 (.slice none 0 0) 24 Try.underlying30 info22 rfl (.slice wo N wc) N _ rfl (own_gr22 HWa.out gA.out) _ 1 [.slice qo L qc] rfl (src_row _ rfl) (by omega) (by omega) ?_
  intro v' W3 hown hgrow hblk
  obtain ⟨wo1, wc1, rfl⟩ := own_form1 hown
  obtain ⟨hb3, hG⟩ := fl_mk (j := 1) hb2.out (by decide) HWa.out gA.out hown hgrow hblk
  have HG := hidM hG
  obtain ⟨-, t0, -⟩ := ce4 hb3
  have t0f := frz hb3 1
  clear hown hgrow hblk hG gA hb3
  have HFin := hidM (HB.out.added (HR.out.to HL.out) (by rw [HL.out]; exact hd) (fun g e => HNw.out g (by rw [← HL.out]; exact e)) HF.out HG.out HL.out)
  go_wp2_with fail
  refine bodyPost_end (v := .tuple #[]) ?_ rfl ⟨rfl, HFin.out.1, _, _, _, _, HFin.out.2⟩
  simp [results, Try.f14, go_sem]
end Go.Proofs.Ytemleibpmaclmaa.Kit
