import Derived.Test.YtjdojbbjbippoaaDoorTC
import Derived.Test.YtjdojbbjbippoaaDoorTG
namespace Go.Proofs.YtjdojbbjbippoaaDoor.Kit
open Go.RowKit Go.Shelf Go.Deep
set_option linter.unusedVariables false

/-! ### elements of a walk that are kept, each in an interval of blocks of its own -/
def wayV (x : WEl) : Value := .slice x.wo x.path.length x.wc
def fCs (x : WEl) : List Value := [.string x.f.name, .bool x.f.nul, .int .i64 x.f.kind, .int .i64 x.f.width, .int .i64 x.f.id, .int .i64 x.f.index, .slice x.fo x.f.kids.length x.fc]
structure El (V : World) (x : WEl) (ws : List Value) (ks : List FT) : Prop where
  way : V.ownsRow 0 3 1 (wayV x) x.path.length ws
  wn : ∀ g, (wayV x).ownBlock = some g → x.mid ≤ g ∧ g < x.hi
  row : Tr V x.d x.lo x.mid x.fo x.fc ks
  kl : ks.length = x.f.kids.length
  bn : x.lo ≤ x.mid ∧ x.mid ≤ x.hi ∧ x.hi ≤ V.heap.size
theorem El.kept {V V' : World} {x : WEl} {ws : List Value} {ks : List FT} (h : El V x ws ks) (k : ∀ b, x.lo ≤ b → b < x.hi → V'.heap[b]? = V.heap[b]?) (hs : V.heap.size ≤ V'.heap.size) : El V' x ws ks := by
  have hb := h.bn
  exact ⟨row_kp h.way fun g e => k g (by have := h.wn g e; omega) (h.wn g e).2, h.wn, h.row.kept fun b h1 h2 => k b h1 (by omega), h.kl, ⟨hb.1, hb.2.1, by omega⟩⟩
structure Els (V : World) (N0 : Nat) (xs : List WEl) (P : Nat → List Value → List FT → Prop) : Prop where
  el : ∀ i (h : i < xs.length), ∃ ws ks, El V xs[i] ws ks ∧ P i ws ks
  ap : ∀ i j (hij : i < j) (hj : j < xs.length), xs[i].hi ≤ xs[j].lo
  lo : ∀ i (h : i < xs.length), N0 ≤ xs[i].lo
theorem Els.off {V : World} {N0 : Nat} {xs : List WEl} {P : Nat → List Value → List FT → Prop} (h : Els V N0 xs P) {i j : Nat} (hi : i < xs.length) (hj : j < xs.length) (hne : j ≠ i) {b : Nat} (h1 : xs[j].lo ≤ b) (h2 : b < xs[j].hi) : ¬ (xs[i].lo ≤ b ∧ b < xs[i].hi) := by
  by_cases e : i < j
  · have := h.ap i j e hj; omega
  · have := h.ap j i (by omega) hi; omega
theorem Els.step {V V' : World} {N0 : Nat} {xs : List WEl} {P P' : Nat → List Value → List FT → Prop} (h : Els V N0 xs P) {i : Nat} (hi : i < xs.length) (k : Keeps V V' (fun b => xs[i].lo ≤ b ∧ b < xs[i].hi)) {ws : List Value} {ks : List FT} (he : El V' xs[i] ws ks) (hP : P' i ws ks) (hPo : ∀ j ws ks, j ≠ i → P j ws ks → P' j ws ks) : Els V' N0 xs P' := by
  refine ⟨fun j hj => ?_, h.ap, h.lo⟩
  by_cases e : j = i
  · subst e; exact ⟨ws, ks, he, hP⟩
  · obtain ⟨ws2, ks2, h2, hp2⟩ := h.el j hj
    exact ⟨ws2, ks2, h2.kept (fun b h1 h3 => k.block b (by have := h2.bn; omega) (h.off hi hj e h1 h3)) k.size, hPo j _ _ e hp2⟩
theorem Els.gr {V V' : World} {N0 : Nat} {xs : List WEl} {P : Nat → List Value → List FT → Prop} (h : Els V N0 xs P) (g : Gr V V') : Els V' N0 xs P :=
  ⟨fun j hj => by
    obtain ⟨ws2, ks2, h2, hp2⟩ := h.el j hj
    exact ⟨ws2, ks2, h2.kept (fun b h1 h3 => g.block b (by have := h2.bn; omega) id) g.size, hp2⟩, h.ap, h.lo⟩
theorem Els.mono {V : World} {N0 : Nat} {xs : List WEl} {P P' : Nat → List Value → List FT → Prop} (h : Els V N0 xs P) (hP : ∀ i ws ks, i < xs.length → P i ws ks → P' i ws ks) : Els V N0 xs P' :=
  ⟨fun j hj => by obtain ⟨ws2, ks2, h2, hp2⟩ := h.el j hj; exact ⟨ws2, ks2, h2, hP j _ _ hj hp2⟩, h.ap, h.lo⟩
/-- the two lists that hold them -/
structure Rw2 (V : World) (b6 b7 : Nat) (v6 v7 : Value) (xs : List WEl) : Prop where
  x6 : V.heap[b6]? = some (.cells #[v6] 67 (0, 0))
  o6 : V.ownsRow 0 26 1 v6 xs.length (xs.map wayV)
  x7 : V.heap[b7]? = some (.cells #[v7] 22 (0, 0))
  o7 : V.ownsRow 0 38 7 v7 xs.length (xs.flatMap fCs)
  a6 : ∀ g, v6.ownBlock = some g → ∀ i (h : i < xs.length), g < xs[i].lo ∨ xs[i].hi ≤ g
  a7 : ∀ g, v7.ownBlock = some g → ∀ i (h : i < xs.length), g < xs[i].lo ∨ xs[i].hi ≤ g
  a8 : ∀ i (h : i < xs.length), b6 < xs[i].lo ∧ b7 < xs[i].lo
theorem Rw2.step {V V' : World} {b6 b7 : Nat} {v6 v7 : Value} {xs : List WEl} (h : Rw2 V b6 b7 v6 v7 xs) {i : Nat} (hi : i < xs.length) (k : Keeps V V' (fun b => xs[i].lo ≤ b ∧ b < xs[i].hi)) : Rw2 V' b6 b7 v6 v7 xs := by
  have h8 := h.a8 i hi
  exact ⟨(k.block _ (lt_of_heap h.x6) (by omega)).trans h.x6, row_kp h.o6 fun g e => k.block g (own_lt h.o6 g e) (by have := h.a6 g e i hi; omega), (k.block _ (lt_of_heap h.x7) (by omega)).trans h.x7, row_kp h.o7 fun g e => k.block g (own_lt h.o7 g e) (by have := h.a7 g e i hi; omega), h.a6, h.a7, h.a8⟩
theorem Rw2.gr {V V' : World} {b6 b7 : Nat} {v6 v7 : Value} {xs : List WEl} (h : Rw2 V b6 b7 v6 v7 xs) (g : Gr V V') : Rw2 V' b6 b7 v6 v7 xs :=
  ⟨(g.block _ (lt_of_heap h.x6) id).trans h.x6, row_kp h.o6 fun b e => g.block b (own_lt h.o6 b e) id, (g.block _ (lt_of_heap h.x7) id).trans h.x7, row_kp h.o7 fun b e => g.block b (own_lt h.o7 b e) id, h.a6, h.a7, h.a8⟩
theorem fCs_len : ∀ xs : List WEl, (xs.flatMap fCs).length = xs.length * 7
  | [] => rfl
  | x :: xs => by
    have ih := fCs_len xs
    simp only [List.flatMap_cons, List.length_append, List.length_cons, fCs, List.length_nil] at ih ⊢
    omega
theorem fCs_at : ∀ (xs : List WEl) (i : Nat) (h : i < xs.length) (t : Nat) (ht : t < 7), (xs.flatMap fCs)[i * 7 + t]? = (fCs xs[i])[t]?
  | [], i, h, _, _ => by simp at h
  | x :: xs, 0, h, t, ht => by
    simp only [List.flatMap_cons, Nat.zero_mul, Nat.zero_add, List.getElem_cons_zero]
    rw [List.getElem?_append_left (by simpa [fCs] using ht)]
  | x :: xs, i + 1, h, t, ht => by
    have ih := fCs_at xs i (by simpa using h) t ht
    simp only [List.flatMap_cons, List.getElem_cons_succ]
    rw [List.getElem?_append_right (by simp [fCs]; omega), ← ih]
    congr 1
    simp [fCs]; omega
/-- what the walk reads of them -/
theorem Rw2.way_at {V : World} {b6 b7 : Nat} {v6 v7 : Value} {xs : List WEl} (h : Rw2 V b6 b7 v6 v7 xs) {i : Nat} (hi : i < xs.length) : ∃ g c, v6 = .slice (some ⟨g, 0, none⟩) xs.length c ∧ xs.length ≤ c ∧ V.cell? ⟨g, i, none⟩ = some (wayV xs[i]) := by
  rcases h.o6.2 with ⟨_, e⟩ | ⟨g, c, cur, e, h1, h2, h3, h4, h5, h6⟩
  · omega
  · refine ⟨g, c, e, h3, ?_⟩
    have := h.o6.cells (g := g) (by rw [e]; rfl) i (wayV xs[i]) (by rw [List.getElem?_map, List.getElem?_eq_getElem hi]; rfl)
    simpa [Addr.add_lit] using this
theorem Rw2.fld_at {V : World} {b6 b7 : Nat} {v6 v7 : Value} {xs : List WEl} (h : Rw2 V b6 b7 v6 v7 xs) {i : Nat} (hi : i < xs.length) : ∃ g c, v7 = .slice (some ⟨g, 0, none⟩) xs.length c ∧ xs.length ≤ c ∧ V.cell? ⟨g, i * 7 + 6, none⟩ = some (.slice xs[i].fo xs[i].f.kids.length xs[i].fc) := by
  rcases h.o7.2 with ⟨_, e⟩ | ⟨g, c, cur, e, h1, h2, h3, h4, h5, h6⟩
  · omega
  · refine ⟨g, c, e, h3, ?_⟩
    have := h.o7.cells (g := g) (by rw [e]; rfl) (i * 7 + 6) (.slice xs[i].fo xs[i].f.kids.length xs[i].fc) (by rw [fCs_at xs i hi 6 (by omega)]; rfl)
    simpa [Addr.add_lit] using this
/-! ### a way that is written over -/
def wst (c : Int) (t : Nat) (p : List Nat) : List Value := (List.range p.length).map fun (j : Nat) => Value.int .i64 (((p[j]! : Nat) : Int) + if j < t then c else 0)
theorem wst_len (c : Int) (t : Nat) (p : List Nat) : (wst c t p).length = p.length := by simp [wst]
theorem wst_at {c : Int} {t : Nat} {p : List Nat} {j : Nat} (h : j < p.length) : (wst c t p)[j]? = some (.int .i64 (((p[j] : Nat) : Int) + if j < t then c else 0)) := by
  simp [wst, h]
theorem wst_zero (c : Int) (p : List Nat) : wst c 0 p = ints p := by
  apply List.ext_getElem?
  intro j
  by_cases h : j < p.length
  · rw [wst_at h]; simp [ints, h]
  · rw [List.getElem?_eq_none (by rw [wst_len]; omega), List.getElem?_eq_none (by simp [ints]; omega)]
theorem wst_set {c : Int} {t : Nat} {p : List Nat} (h : t < p.length) : (wst c t p).set t (.int .i64 (((p[t] : Nat) : Int) + c)) = wst c (t + 1) p := by
  apply List.ext_getElem?
  intro j
  by_cases hj : j < p.length
  · rw [List.getElem?_set]
    by_cases e : t = j
    · subst e
      rw [if_pos rfl, if_pos (by rw [wst_len]; exact h), wst_at hj, if_pos (by omega)]
    · rw [if_neg e, wst_at hj, wst_at hj]
      by_cases e2 : j < t
      · rw [if_pos e2, if_pos (by omega)]
      · rw [if_neg e2, if_neg (by omega)]
  · rw [List.getElem?_eq_none (by rw [List.length_set, wst_len]; omega), List.getElem?_eq_none (by rw [wst_len]; omega)]
theorem own_put {W : World} {t n c g k : Nat} {xs : List Value} (h : W.ownsRow 0 t 1 (.slice (some ⟨g, 0, none⟩) n c) n xs) (u : Value) : (W.setCell ⟨g, k, none⟩ u).ownsRow 0 t 1 (.slice (some ⟨g, 0, none⟩) n c) n (xs.set k u) := by
  rcases h.2 with ⟨q, _⟩ | ⟨g', cap, cur, q, h1, h2, h3, h4, h5, h6⟩
  · cases q
  · cases q
    refine ⟨by rw [List.length_set]; exact h.1, .inr ⟨g, c, _, rfl, h1, heap_setCell_same W g k cur t u h2, h3, h4, by simp [h5], ?_⟩⟩
    rw [Array.toList_setIfInBounds, List.take_set, h6]
theorem own_some {W : World} {t s n : Nat} {vo : Option Addr} {vc : Nat} {xs : List Value} (h : W.ownsRow 0 t s (.slice vo n vc) n xs) (h0 : 0 < n) : ∃ gb, vo = some ⟨gb, 0, none⟩ := by
  rcases h.2 with ⟨_, e⟩ | ⟨g, cap, cur, e, _⟩
  · omega
  · cases e; exact ⟨g, rfl⟩
theorem own_frz {W : World} {t s n g c : Nat} {xs : List Value} (h : W.ownsRow 0 t s (.slice (some ⟨g, 0, none⟩) n c) n xs) (j : Nat) : W.frozen? ⟨g, j, none⟩ = false := by
  rcases h.2 with ⟨q, _⟩ | ⟨g', cap, cur, q, h1, h2, _⟩
  · cases q
  · cases q; exact frz h2 j
/-- how great the numbers of a way are -/
theorem nodes_small {S : Nat → Prop} {W : World} : ∀ (d : Nat) (l : List FT) (ao : Option Addr) (path : List Nat) (inD : Bool), RowAt S W d ao l → ∀ x ∈ nodes d l path inD, ∀ p ∈ x.path, p ∈ path ∨ p < big
  | 0, _, _, _, _, _, x, hx, _, _ => by cases hx
  | d + 1, l, ao, path, inD, hr, x, hx, p, hp => by
    rw [nodes_succ] at hx
    unfold upto at hx
    obtain ⟨i, hi, hx⟩ := List.mem_flatMap.1 hx
    have hil : i < l.length := List.mem_range.1 hi
    have hib : i < big := Nat.lt_of_lt_of_le hil hr.1
    have hpi : ∀ q, q ∈ path ++ [i] → q ∈ path ∨ q < big := fun q hq => by
      rcases List.mem_append.1 hq with hq | hq
      · exact .inl hq
      · rw [List.mem_singleton] at hq; subst hq; exact .inr hib
    rcases List.mem_cons.1 hx with rfl | hx
    · exact hpi p hp
    · obtain ⟨b, o, _, _, hc⟩ := hr.2 (fun e => by subst e; simp at hil)
      obtain ⟨ao', ca', _, _, hk⟩ := hc i hil
      have e : l[i]! = l[i] := by simp [hil]
      rw [e] at hx
      rcases nodes_small d l[i].kids ao' (path ++ [i]) _ hk x hx p hp with h | h
      · exact hpi p h
      · exact .inr h
/-- none of a walk's beginnings -/
def NxW (N : List LS) (xs : List WEl) : Prop := ¬ ∃ ls, ls <+: N ∧ WM xs ls
theorem WM.at_ {xs : List WEl} {ls N : List LS} (h : WM xs ls) (hp : ls <+: N) {i : Nat} (hi : i < xs.length) : ∃ hN : i < N.length, xs[i].path = N[i].path ∧ xs[i].f = N[i].fld := by
  unfold WM at h
  have hl : xs.length = ls.length := by have := congrArg List.length h; simpa using this
  have hi' : i < ls.length := by omega
  have hpl := hp.length_le
  have e1 : ls[i] = N[i]'(by omega) := hp.getElem hi'
  have := congrArg (fun l => l[i]?) h
  simp [hi, hi'] at this
  exact ⟨by omega, by rw [← e1]; exact this⟩
theorem NxW.len {N : List LS} {xs : List WEl} (h : N.length < xs.length) : NxW N xs := fun ⟨ls, hp, hm⟩ => by
  obtain ⟨h1, _⟩ := hm.at_ hp h
  omega
theorem NxW.path {N : List LS} {xs : List WEl} {x : WEl} (hl : xs.length < N.length) (h : x.path.length ≠ N[xs.length].path.length) : NxW N (xs ++ [x]) := fun ⟨ls, hp, hm⟩ => by
  obtain ⟨h1, h2, _⟩ := hm.at_ hp (i := xs.length) (by simp)
  simp at h2
  exact h (by rw [h2])
end Go.Proofs.YtjdojbbjbippoaaDoor.Kit
