import Derived.Test.YtemleibpmaclmaaSA
import Derived.Test.YtemleibpmaclmaaFK
namespace Go.Proofs.Ytemleibpmaclmaa.Kit
open Go.RowKit Go.Shelf Go.Deep
set_option linter.unusedVariables false

/-! ### rows that begin somewhere in a block of one's own -/
structure OffRow (W : World) (t s : Nat) (vo : Option Addr) (n vc : Nat) (xs : List Value) : Prop where
  len : xs.length = n * s
  ex : (vo = none ∧ n = 0 ∧ vc = 0) ∨ ∃ g off cur, vo = some ⟨g, off, none⟩ ∧ W.heap[g]? = some (.cells cur t (0, 0)) ∧ n ≤ vc ∧ vc ≤ maxLen ∧ off + vc * s ≤ cur.size ∧ (cur.toList.drop off).take (n * s) = xs
theorem OffRow.kp {W W' : World} {t s : Nat} {vo : Option Addr} {n vc : Nat} {xs : List Value} (h : OffRow W t s vo n vc xs) (e : ∀ g, (Value.slice vo n vc).ownBlock = some g → W'.heap[g]? = W.heap[g]?) : OffRow W' t s vo n vc xs := by
  refine ⟨h.len, h.ex.imp id ?_⟩
  rintro ⟨g, off, cur, rfl, hg, r⟩
  exact ⟨g, off, cur, rfl, (e g rfl).trans hg, r⟩
theorem OffRow.lt {W : World} {t s : Nat} {vo : Option Addr} {n vc : Nat} {xs : List Value} (h : OffRow W t s vo n vc xs) {g : Nat} (e : (Value.slice vo n vc).ownBlock = some g) : g < W.heap.size := by
  rcases h.ex with ⟨rfl, -⟩ | ⟨g', off, cur, rfl, hg, -⟩
  · simp [Value.ownBlock] at e
  · simp [Value.ownBlock] at e; subst e; exact lt_of_heap hg
theorem OffRow.typ {W : World} {t s : Nat} {vo : Option Addr} {n vc : Nat} {xs : List Value} (h : OffRow W t s vo n vc xs) {g : Nat} (e : (Value.slice vo n vc).ownBlock = some g) : Typ W g t := by
  rcases h.ex with ⟨rfl, -⟩ | ⟨g', off, cur, rfl, hg, -⟩
  · simp [Value.ownBlock] at e
  · simp [Value.ownBlock] at e; subst e; exact ⟨_, _, hg⟩
theorem OffRow.nil (W : World) (t s : Nat) : OffRow W t s none 0 0 [] := ⟨by simp, .inl ⟨rfl, rfl, rfl⟩⟩
theorem OffRow.cells {W : World} {t s : Nat} {g off n vc : Nat} {xs : List Value} (h : OffRow W t s (some ⟨g, off, none⟩) n vc xs) {j : Nat} {u : Value} (hj : xs[j]? = some u) : W.cell? ⟨g, off + j, none⟩ = some u := by
  rcases h.ex with ⟨e, -⟩ | ⟨g', off', cur, e, hg, h1, h2, h3, h4⟩
  · cases e
  · cases e
    rw [← h4] at hj
    have hlt : j < n * s := by
      have := (List.getElem?_eq_some_iff.1 hj).1
      rw [h4, h.len] at this
      exact this
    rw [List.getElem?_take, if_pos hlt, List.getElem?_drop, Array.getElem?_toList] at hj
    simp only [World.cell?, hg]
    exact hj
section
variable {P : Program} (w : World)
theorem run_append_off (t tx ty e : TypeId) (i : TypeInfo) (z : Value) (ht : P.underlying t = some (.slice e)) (hi : P.info? e = some i) (hz : i.zero = some z) (hzs : z.cells.size = i.size) (hs0 : 0 < i.size)
    (vo : Option Addr) (n vc : Nat) (xs : List Value) (hown : OffRow w e i.size vo n vc xs) (x : Value) (m : Nat) (news : List Value) (hs : Src P i.size tx x m news w)
    (h63 : n + m ≤ 9223372036854775807) (hbytes : (n + m) * i.bytes ≤ 140737488355328) :
    ∃ vo' vc' w', (Builtin.append_ #[t, tx] ty #[.slice vo n vc, x]).run P w = .ok (.slice vo' (n + m) vc') w' ∧ OffRow w' e i.size vo' (n + m) vc' (xs ++ news) ∧ w.grownBy w' (Value.slice vo n vc).ownBlock ∧
      ((Value.slice vo' (n + m) vc').ownBlock = (Value.slice vo n vc).ownBlock ∨ (∀ g, (Value.slice vo' (n + m) vc').ownBlock = some g → w.heap.size ≤ g) ∧ w.grownBy w' none) := by
  have hlen : (xs ++ news).length = (n + m) * i.size := by rw [List.length_append, hown.len, hs.newsLen, Nat.add_mul]
  have grown : ∀ (olds : List Value) (old : Nat), old < n + m → ∀ (row : Option Nat), olds = xs →
      OffRow (w.drew.alloc (.cells ((olds ++ news).toArray ++ Builtin.zeroCells z.cells (grownCap w (n + m) old e - (n + m))) e)) e i.size (some ⟨w.heap.size, 0, none⟩) (n + m) (grownCap w (n + m) old e) (xs ++ news) ∧
      w.grownBy (w.drew.alloc (.cells ((olds ++ news).toArray ++ Builtin.zeroCells z.cells (grownCap w (n + m) old e - (n + m))) e)) row := by
    intro olds old ho row he
    subst he
    have hge := grownCap_ge w (n + m) old e
    have hcm : grownCap w (n + m) old e ≤ maxLen := grownCap_le_maxLen w (n + m) old e h63
    refine ⟨⟨hlen, .inr ⟨w.heap.size, 0, _, rfl, heap_alloc_new w.drew _, hge, hcm, ?_, ?_⟩⟩, ⟨rfl, rfl, rfl, by simp, fun k hk _ => Below.heap_alloc w.drew _ k hk⟩⟩
    · simp only [Array.size_append, List.size_toArray, size_zeroCells, hzs, hlen, Nat.zero_add]
      rw [← Nat.add_mul]
      have : n + m + (grownCap w (n + m) old e - (n + m)) = grownCap w (n + m) old e := by omega
      rw [this]
      exact Nat.le_refl _
    · simp only [Array.toList_append, List.drop_zero]
      rw [← hlen]
      exact List.take_left
  rcases hown.ex with ⟨rfl, rfl, rfl⟩ | ⟨g, off, cur, rfl, hg, hnc, hcm, hcs, htake⟩
  · have hx : xs = [] := List.eq_nil_of_length_eq_zero (by simpa using hown.len)
    subst hx
    by_cases hm : m = 0
    · subst hm
      have hn : news = [] := List.eq_nil_of_length_eq_zero (by simpa using hs.newsLen)
      subst hn
      refine ⟨none, 0, w, ?_, by simpa using OffRow.nil w e i.size, ⟨rfl, rfl, rfl, Nat.le_refl _, fun _ _ _ => rfl⟩, .inl rfl⟩
      have hc := hs.cells
      have hl := hs.len
      rcases hs.kind with ⟨e', hk⟩ | hk <;> simp [Builtin.append_, run_underlying ht, run_underlying hk, sizeOf, typeInfo, hi, hl, hc]
    · have hr := run_append_grow_src (P := P) w t tx ty e i z ht hi hz none 0 0 [] (by simpa using run_firstCells_none w.drew i.size 0 0 0) x m news hs (by omega) (by omega) (growslice_fits (by omega) hbytes)
      have hgr := fun row => grown [] 0 (by omega) row rfl
      exact ⟨_, _, _, hr, (hgr none).1, (hgr _).2, .inr ⟨fun g hg => by simp [Value.ownBlock] at hg; omega, (hgr none).2⟩⟩
  · have holds : ∀ j u, xs[j]? = some u → w.cell? ((⟨g, off, none⟩ : Addr).add j) = some u := fun j u hj => by
      have := hown.cells hj
      have e : (⟨g, off, none⟩ : Addr).add j = ⟨g, off + j, none⟩ := by cases j <;> simp [Addr.add]
      rw [e]; exact this
    by_cases hroom : n + m ≤ vc
    · have hl := hs.newsLen
      have hfit : off + n * i.size + news.length ≤ cur.size := by
        rw [hl, Nat.add_assoc, ← Nat.add_mul]
        exact Nat.le_trans (Nat.add_le_add_left (Nat.mul_le_mul_right _ hroom) _) hcs
      have hst := run_storeCells_at P g (off + n * i.size) e news 0 cur w hg (by simpa using hfit) hs.one
      simp only [Nat.add_zero] at hst
      have hr : (Builtin.append_ #[t, tx] ty #[.slice (some ⟨g, off, none⟩) n vc, x]).run P w = .ok (.slice (some ⟨g, off, none⟩) (n + m) vc) (w.setRow g (cur.toList.take (off + n * i.size) ++ news ++ cur.toList.drop (off + n * i.size + news.length)).toArray) := by
        rcases hs.kind with ⟨e', hk⟩ | hk <;> simp [Builtin.append_, run_underlying ht, run_underlying hk, sizeOf, typeInfo, hi, hs.len, hroom, hs.cells, Addr.add_lit, hst]
      refine ⟨_, _, _, hr, ⟨hlen, .inr ⟨g, off, _, rfl, setRow_heap w g cur _ e _ hg, hroom, hcm, ?_, ?_⟩⟩, ⟨rfl, rfl, rfl, by simp, fun k _ hk => setRow_other w g k _ (fun e => hk (by simp [Value.ownBlock, e]))⟩, .inl rfl⟩
      · simp only [List.size_toArray, List.length_append, List.length_take, List.length_drop, Array.length_toList]
        omega
      · have hxl := hown.len
        have e1 : cur.toList.take (off + n * i.size) = cur.toList.take off ++ xs := by
          rw [List.take_add, htake]
        have hol : (cur.toList.take off).length = off := by rw [List.length_take, Array.length_toList]; omega
        rw [e1]
        simp only [List.append_assoc]
        rw [List.drop_left' hol, ← List.append_assoc, ← hlen]
        exact List.take_left
    · have hr := run_append_grow_src (P := P) w t tx ty e i z ht hi hz (some ⟨g, off, none⟩) n vc xs (run_firstCells_some w.drew i.size n ⟨g, off, none⟩ n vc xs hown.len (by simpa using holds)) x m news hs (by omega) (by omega) (growslice_fits (by omega) hbytes)
      have hgr := fun row => grown xs vc (by omega) row rfl
      exact ⟨_, _, _, hr, (hgr none).1, (hgr _).2, .inr ⟨fun g hg => by simp [Value.ownBlock] at hg; omega, (hgr none).2⟩⟩
end
end Go.Proofs.Ytemleibpmaclmaa.Kit
