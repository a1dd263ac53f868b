import Derived.Test.YteggcdhibcjneaaGreatDoorNA
namespace Go.Proofs.YteggcdhibcjneaaGreatDoor.Kit
variable {nx : Bool}
open Go.RowKit Go.Shelf Go.Deep
open Go.Proofs.YteggcdhibcjneaaGreatDoor.Kd (Ans AnsV cell5 cell2)
set_option linter.unusedVariables false
set_option linter.unusedSimpArgs false
attribute [local go_sem] run_store_func

theorem info34 : (Tryz.prog.info? 34).map (fun i => (i.zero, i.size, i.bytes)) = some (some (.slice none 0 0), 1, 24) := by kernel_rfl
theorem mkM80 (w : World) : (Instr.makeMap 80 none).run Tryz.prog w = .ok (.map (some w.heap.size)) (w.alloc (.map #[] 0)) := by kernel_rfl
theorem results_cell82 {fn : Func} {t : Tmp} {tmps : Array Value} {g : Nat} {cs : Array Value} {w : World} (h : fn.results = #[.cell t 82]) (ht : tmps.getD t undef = .pointer (some ⟨g, 0, none⟩)) (hg : w.heap[g]? = some (.cells cs 82 (0, 0))) (hi : (Tryz.prog.info? 82).map (·.size) = some cs.size) :
    (results fn tmps).run Tryz.prog w = .ok (.agg cs) w := by
  have hl := run_loadVar_row (P := Tryz.prog) w g 82 82 cs (0, 0) _ hg Tryz.underlying82 rfl hi
  unfold results
  rw [h]
  simp only [Array.mapM_eq_mapM_toList, List.mapM_cons, List.mapM_nil, ht]
  simp [asAddr, hl]
/-- what the index holds under a hash: one list, of one row -/
def Ent (u : World) (i : Int) (v : Value) : Prop := ∃ lb lc ib ic cur, v = .slice (some ⟨lb, 0, none⟩) 1 lc ∧ u.heap[lb]? = some (.cells cur 34) ∧ cur[0]? = some (.slice (some ⟨ib, 0, none⟩) 1 ic) ∧ u.heap[ib]? = some (.cells #[.int .i64 i] 3)
theorem Ent.gr {u w : World} {i : Int} {v : Value} (h : Ent u i v) (g : Gr u w) : Ent w i v := by
  obtain ⟨lb, lc, ib, ic, cur, h1, h2, h3, h4⟩ := h
  exact ⟨lb, lc, ib, ic, cur, h1, (g.block _ (lt_of_heap h2) id).trans h2, h3, (g.block _ (lt_of_heap h4) id).trans h4⟩
theorem Ent.put {u : World} {m : Nat} {l : List (Int × Value)} {o : Obj} {i : Int} {v : Value} (h : Ent u i v) (hm : MpAt u m l) : Ent (u.putObj m o) i v := by
  obtain ⟨lb, lc, ib, ic, cur, h1, h2, h3, h4⟩ := h
  have hn : ∀ b c t, u.heap[b]? = some (.cells c t) → b ≠ m := fun b c t hb e => by
    subst e
    unfold MpAt at hm
    rw [hm] at hb
    cases hb
  exact ⟨lb, lc, ib, ic, cur, h1, ((keeps_put u m o).block _ (lt_of_heap h2) (hn _ _ _ h2)).trans h2, h3, ((keeps_put u m o).block _ (lt_of_heap h4) (hn _ _ _ h4)).trans h4⟩
def IxL (u : World) (k : Nat) (l : List (Int × Value)) : Prop := k = 0 ∧ l = [] ∨ k = 1 ∧ (∃ v, l = [(hR 8, v)] ∧ Ent u 0 v) ∨ k = 2 ∧ ∃ v v', l = [(hR 8, v), (hR 5, v')] ∧ Ent u 0 v ∧ Ent u 1 v'
def IxI (W : World) (gr xb m rb k : Nat) (l : List (Int × Value)) (u : World) : Prop := Gr W u ∧ u.heap[xb]? = some (.cells #[.slice (some ⟨gr, 0, none⟩) 2 2, .map (some m)] 82) ∧ u.heap[rb]? = some (.cells #[.slice none 0 0, .map none] 82) ∧ MpAt u m l ∧ IxL u k l ∧ W.heap.size ≤ rb ∧ rb < m ∧ m < xb
theorem ix_lk {u : World} {k : Nat} {l : List (Int × Value)} {x : Int} (h : IxL u k l) (hx : k = 0 ∧ x = 8 ∨ k = 1 ∧ x = 5) : lkO l (hR x) 0 = none := by
  rcases hx with ⟨rfl, rfl⟩ | ⟨rfl, rfl⟩
  · rcases h with ⟨-, rfl⟩ | ⟨h, -⟩ | ⟨h, -⟩
    · rfl
    · omega
    · omega
  · rcases h with ⟨h, -⟩ | ⟨-, v, rfl, -⟩ | ⟨h, -⟩
    · omega
    · simp [lkO, hR58]
    · omega
theorem ix_end {W u w7 : World} {gr xb m rb k ib ic g9 cap : Nat} {cur : Array Value} {l : List (Int × Value)} {x : Int} (h : IxI W gr xb m rb k l u) (hx : k = 0 ∧ x = 8 ∨ k = 1 ∧ x = 5) (g : Gr u w7) (h1 : w7.heap[g9]? = some (.cells cur 34)) (h0 : cur[0]? = some (.slice (some ⟨ib, 0, none⟩) 1 ic)) (h2 : w7.heap[ib]? = some (.cells #[.int .i64 k] 3)) :
    ∃ X, (Instr.mapUpdate 80 (.map (some m)) (.int .u64 (hR x)) (.slice (some ⟨g9, 0, none⟩) 1 cap)).run Tryz.prog w7 = .ok () X ∧ X.cell? ⟨xb, 1, none⟩ = some (.map (some m)) ∧ ∃ l', IxI W gr xb m rb (k + 1) l' X := by
  obtain ⟨hW, hxb, hrb, hm, hl, n1, n2, n3⟩ := h
  have hm7 : MpAt w7 m l := (g.block _ (lt_of_heap hm) id).trans hm
  have hWs := hW.size
  have e : Ent w7 k (.slice (some ⟨g9, 0, none⟩) 1 cap) := ⟨_, _, _, _, _, rfl, h1, h0, h2⟩
  have hkp := keeps_put w7 m (.map (mkE (l ++ [(hR x, .slice (some ⟨g9, 0, none⟩) 1 cap)]) 0).toArray (l.length + 1))
  have hxb7 := (g.block _ (lt_of_heap hxb) id).trans hxb
  have hrb7 := (g.block _ (lt_of_heap hrb) id).trans hrb
  have hxX := (hkp.block _ (lt_of_heap hxb7) (fun e => by have e' : xb = m := e; omega)).trans hxb7
  refine ⟨_, run_up w7 m l (hR x) _ hm7 (ix_lk hl hx), (cell2 hxX).2, l ++ [(hR x, .slice (some ⟨g9, 0, none⟩) 1 cap)], ?_⟩
  refine ⟨(hW.trans g (fun _ _ h => h)).trans hkp (fun j hj e => by have e' : j = m := e; omega), hxX, (hkp.block _ (lt_of_heap hrb7) (fun e => by have e' : rb = m := e; omega)).trans hrb7, ?_, ?_, n1, n2, n3⟩
  · unfold MpAt
    rw [World.putObj_heap_same (lt_of_heap hm7)]
    simp
  · rcases hx with ⟨rfl, rfl⟩ | ⟨rfl, rfl⟩
    · rcases hl with ⟨-, rfl⟩ | ⟨h, -⟩ | ⟨h, -⟩
      · exact .inr (.inl ⟨rfl, _, rfl, e.put hm7⟩)
      · omega
      · omega
    · rcases hl with ⟨h, -⟩ | ⟨-, v, rfl, hv⟩ | ⟨h, -⟩
      · omega
      · exact .inr (.inr ⟨rfl, _, _, rfl, (hv.gr g).put hm7, e.put hm7⟩)
      · omega
theorem rwCells {ls cs : Nat → Nat} {k gr : Nat} {u : World} (hk : k < 2) (h : u.heap[gr]? = some (.cells (rwK ls cs 2 2) 86)) : u.cell? ⟨gr, 4 * k, none⟩ = some (.bool false) ∧ u.cell? ⟨gr, 4 * k + 1, none⟩ = some (.int .i64 0) ∧ u.cell? ⟨gr, 4 * k + 2, none⟩ = some (.string ⟨#[]⟩) ∧ u.cell? ⟨gr, 4 * k + 3, none⟩ = some (.slice (some ⟨ls k, 0, none⟩) 1 (cs k)) := by
  rcases (show k = 0 ∨ k = 1 by omega) with rfl | rfl <;> (refine ⟨?_, ?_, ?_, ?_⟩ <;> simp [World.cell?, h] <;> rfl)
theorem srcI {Z : World} {z : Nat} {v : Value} (h : Z.heap[z]? = some (.cells #[v] 34)) (hv : v.oneCell' = true) : Src Tryz.prog 1 109 (.slice (some ⟨z, 0, none⟩) 1 1) 1 [v] Z := by
  refine Src.ofSlice (w := Z) Tryz.underlying109 ⟨z, 0, none⟩ 1 1 [v] rfl (fun j u hj => ?_) (fun u hu => by simp at hu; subst hu; exact hv)
  rw [Addr.add_lit, Nat.zero_add]
  match j, hj with
  | 0, hj => cases hj; exact cell1 h
  | j + 1, hj => simp at hj
end Go.Proofs.YteggcdhibcjneaaGreatDoor.Kit
