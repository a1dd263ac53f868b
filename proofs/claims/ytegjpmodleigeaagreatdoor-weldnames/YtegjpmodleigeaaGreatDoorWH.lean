import Derived.Test.YtegjpmodleigeaaGreatDoorWG
set_option maxRecDepth 100000
set_option maxHeartbeats 4000000
namespace Go.Proofs.YtegjpmodleigeaaGreatDoor.Kit
open Go.RowKit Go.Shelf Go.Deep
open Go.Proofs.YtegjpmodleigeaaGreatDoor.Kd (Ans AnsV cell5 cell2)
set_option linter.unusedVariables false
set_option linter.unusedSimpArgs false
attribute [local go_sem] run_store_func
theorem mk57 (w : World) : (Instr.makeSlice 57 (.int .i64 1) (.int .i64 1)).run Tryz.prog w = .ok (.slice (some ⟨w.heap.size, 0, none⟩) 1 1) (w.alloc (.cells #[.pointer none] 79)) := by kernel_rfl
theorem results_cell59t {fn : Func} {t u : Tmp} {tmps : Array Value} {g : Nat} {cs : Array Value} {w : World} (h : fn.results = #[.cell t 59, .tmp u]) (ht : tmps.getD t undef = .pointer (some ⟨g, 0, none⟩)) (hg : w.heap[g]? = some (.cells cs 59 (0, 0))) (hi : (Tryz.prog.info? 59).map (·.size) = some cs.size) :
    (results fn tmps).run Tryz.prog w = .ok (.tuple #[.agg cs, tmps.getD u undef]) w := by
  have hl := run_loadVar_row (P := Tryz.prog) w g 59 59 cs (0, 0) _ hg Tryz.underlying59 rfl hi
  unfold results
  rw [h]
  simp only [Array.mapM_eq_mapM_toList, List.mapM_cons, List.mapM_nil, ht]
  simp [asAddr, hl]
/-- a column that is looked into: its list of one, and what is known of it -/
def OpI (W wr : World) (cb a : Nat) (Rr : World → Nat → Prop) : Prop := Gr W wr ∧ W.heap.size ≤ cb ∧ wr.heap[cb]? = some (.cells #[.pointer (some ⟨a, 0, none⟩)] 79) ∧ Rr wr a
theorem opened17 (Rr : World → Nat → Prop) (fb fcc xb xc : Nat) (ao : Option Addr) (ca : Nat) (R Ln Of : Nat) (bo : Option Addr) (bc : Nat) (W : World) (hf : W.heap[fb]? = some (.cells #[.string nmA, .bool false, .int .i64 3, .int .i64 0, .int .i64 0, .int .i64 0, .slice ao 0 ca] 27)) (hx : W.heap[xb]? = some (.cells #[.int .i64 Ln, .int .i64 Of, .int .i64 0, .slice bo 2 bc, .slice none 0 0, .slice none 0 0] 32)) (hRs : ∀ u v a (S : Nat → Prop), Rr u a → Keeps u v S → (∀ b, S b → W.heap.size ≤ b ∧ b < W.heap.size + 4) → Rr v a) (hO : ∀ u, Gr W u → W.heap.size + 4 ≤ u.heap.size → Calls Tryz.prog 25 #[.agg #[.string nmA, .bool false, .int .i64 3, .int .i64 0, .int .i64 0, .int .i64 0, .slice ao 0 ca], .agg #[.int .i64 Ln, .int .i64 Of, .int .i64 0, .slice bo 2 bc, .slice none 0 0, .slice none 0 0]] u fun e w' => ∃ a, e = .returned (.tuple #[.pointer (some ⟨a, 0, none⟩), .agg #[.int .i64 0, .slice none 0 0, .int .i64 0]]) ∧ Gr u w' ∧ Rr w' a) :
    Calls Tryz.prog 17 #[.slice (some ⟨fb, 0, none⟩) 1 fcc, .agg #[.int .i64 R, .slice (some ⟨xb, 0, none⟩) 1 xc]] W fun e w' => ∃ cb a, e = .returned (.tuple #[.agg #[.int .i64 R, .slice (some ⟨cb, 0, none⟩) 1 1], .int .i64 0]) ∧ OpI W w' cb a Rr := by
  obtain ⟨A0, hA0⟩ : ∃ A0, W.alloc (.cells #[.int .i64 R, .slice (some ⟨xb, 0, none⟩) 1 xc] 43) = A0 := ⟨_, rfl⟩
  have g0 : Gr W A0 := by rw [← hA0]; exact gr_alloc W _
  have s0 : A0.heap.size = W.heap.size + 1 := by rw [← hA0]; simp
  have b0 : A0.heap[W.heap.size]? = some (.cells #[.int .i64 R, .slice (some ⟨xb, 0, none⟩) 1 xc] 43) := by rw [← hA0]; exact heap_alloc_new W _
  obtain ⟨A, hA⟩ : ∃ A, A0.alloc (.cells #[.int .i64 0, .slice none 0 0] 59) = A := ⟨_, rfl⟩
  have g1 : Gr A0 A := by rw [← hA]; exact gr_alloc A0 _
  have sA : A.heap.size = W.heap.size + 2 := by rw [← hA]; simp [s0]
  have bA : A.heap[W.heap.size + 1]? = some (.cells #[.int .i64 0, .slice none 0 0] 59) := by rw [← hA, ← s0]; exact heap_alloc_new A0 _
  have b1 := (g1.block _ (lt_of_heap b0) id).trans b0
  have gA : Gr W A := g0.trans g1 (fun _ _ h => h)
  have HS : Hid (∀ u, Gr A u → u.cell? ⟨W.heap.size, 0, none⟩ = some (.int .i64 R) ∧ u.cell? ⟨W.heap.size, 1, none⟩ = some (.slice (some ⟨xb, 0, none⟩) 1 xc)) := fun u g => cell2 ((g.block _ (lt_of_heap b1) id).trans b1)
  have HRg : Hid (∀ u v a, Gr u v → Rr u a → Rr v a) := fun u v a g h => hRs u v a (fun _ => False) h g (fun b e => e.elim)
  have HRest : Hid (∀ cb pb X, (Gr A X ∧ X.heap[cb]? = some (.cells #[.pointer none] 79) ∧ X.heap[pb]? = some (.cells #[.int .i64 R, .slice (some ⟨cb, 0, none⟩) 1 1] 59) ∧ A.heap.size ≤ cb ∧ A.heap.size ≤ pb ∧ cb ≤ A.heap.size + 1) → (X.cell? ⟨W.heap.size, 0, none⟩ = some (.int .i64 R) ∧ X.cell? ⟨W.heap.size, 1, none⟩ = some (.slice (some ⟨xb, 0, none⟩) 1 xc)) ∧ (X.cell? ⟨xb, 0, none⟩ = some (.int .i64 Ln) ∧ X.cell? ⟨xb, 1, none⟩ = some (.int .i64 Of) ∧ X.cell? ⟨xb, 2, none⟩ = some (.int .i64 0) ∧ X.cell? ⟨xb, 3, none⟩ = some (.slice bo 2 bc) ∧ X.cell? ⟨xb, 4, none⟩ = some (.slice none 0 0) ∧ X.cell? ⟨xb, 5, none⟩ = some (.slice none 0 0)) ∧ ∃ X2, X.alloc (.cells #[.int .i64 Ln, .int .i64 Of, .int .i64 0, .slice bo 2 bc, .slice none 0 0, .slice none 0 0] 32) = X2 ∧ X2.heap[X.heap.size]? = some (.cells #[.int .i64 Ln, .int .i64 Of, .int .i64 0, .slice bo 2 bc, .slice none 0 0, .slice none 0 0] 32) ∧ (∀ u, Gr X2 u → (u.cell? ⟨fb, 0, none⟩ = some (.string nmA) ∧ u.cell? ⟨fb, 1, none⟩ = some (.bool false) ∧ u.cell? ⟨fb, 2, none⟩ = some (.int .i64 3) ∧ u.cell? ⟨fb, 3, none⟩ = some (.int .i64 0) ∧ u.cell? ⟨fb, 4, none⟩ = some (.int .i64 0) ∧ u.cell? ⟨fb, 5, none⟩ = some (.int .i64 0) ∧ u.cell? ⟨fb, 6, none⟩ = some (.slice ao 0 ca)) ∧ (u.cell? ⟨X.heap.size, 0, none⟩ = some (.int .i64 Ln) ∧ u.cell? ⟨X.heap.size, 1, none⟩ = some (.int .i64 Of) ∧ u.cell? ⟨X.heap.size, 2, none⟩ = some (.int .i64 0) ∧ u.cell? ⟨X.heap.size, 3, none⟩ = some (.slice bo 2 bc) ∧ u.cell? ⟨X.heap.size, 4, none⟩ = some (.slice none 0 0) ∧ u.cell? ⟨X.heap.size, 5, none⟩ = some (.slice none 0 0))) ∧ (∀ u, Gr X2 u → Calls Tryz.prog 25 #[.agg #[.string nmA, .bool false, .int .i64 3, .int .i64 0, .int .i64 0, .int .i64 0, .slice ao 0 ca], .agg #[.int .i64 Ln, .int .i64 Of, .int .i64 0, .slice bo 2 bc, .slice none 0 0, .slice none 0 0]] u fun e w' => ∃ a, e = .returned (.tuple #[.pointer (some ⟨a, 0, none⟩), .agg #[.int .i64 0, .slice none 0 0, .int .i64 0]]) ∧ Gr u w' ∧ Rr w' a) ∧ (∀ u a, Gr X2 u → Rr u a → u.heap[pb]? = some (.cells #[.int .i64 R, .slice (some ⟨cb, 0, none⟩) 1 1] 59) ∧ u.heap[cb]? = some (.cells #[.pointer none] 79) ∧ ((u.setCell ⟨cb, 0, none⟩ (.pointer (some ⟨a, 0, none⟩))).heap[pb]? = some (.cells #[.int .i64 R, .slice (some ⟨cb, 0, none⟩) 1 1] 59) ∧ (u.setCell ⟨cb, 0, none⟩ (.pointer (some ⟨a, 0, none⟩))).heap[W.heap.size + 1]? = some (.cells #[.int .i64 0, .slice none 0 0] 59)) ∧ OpI W (u.setCell ⟨cb, 0, none⟩ (.pointer (some ⟨a, 0, none⟩))) cb a Rr) ∧ (∀ wr a, ((wr.heap[pb]? = some (.cells #[.int .i64 R, .slice (some ⟨cb, 0, none⟩) 1 1] 59) ∧ wr.heap[W.heap.size + 1]? = some (.cells #[.int .i64 0, .slice none 0 0] 59)) ∧ OpI W wr cb a Rr) → wr.heap[pb]? = some (.cells #[.int .i64 R, .slice (some ⟨cb, 0, none⟩) 1 1] 59) ∧ wr.heap[W.heap.size + 1]? = some (.cells #[.int .i64 0, .slice none 0 0] 59) ∧ (setAll wr (W.heap.size + 1) [(0, .int .i64 R), (1, .slice (some ⟨cb, 0, none⟩) 1 1)]).heap[W.heap.size + 1]? = some (.cells #[.int .i64 R, .slice (some ⟨cb, 0, none⟩) 1 1] 59) ∧ OpI W (setAll wr (W.heap.size + 1) [(0, .int .i64 R), (1, .slice (some ⟨cb, 0, none⟩) 1 1)]) cb a Rr)) := fun cb pb X ⟨g, hcb, hpb, lc, lp, lu⟩ => by
    have gX := gA.trans g (fun _ _ h => h)
    have hne : pb ≠ cb := fun e => by subst e; rw [hpb] at hcb; simp at hcb
    have h1 := lt_of_heap hcb
    have h2 := lt_of_heap hpb
    have hfX := (gX.block _ (lt_of_heap hf) id).trans hf
    have hxX := (gX.block _ (lt_of_heap hx) id).trans hx
    obtain ⟨X2, hX2⟩ : ∃ X2, X.alloc (.cells #[.int .i64 Ln, .int .i64 Of, .int .i64 0, .slice bo 2 bc, .slice none 0 0, .slice none 0 0] 32) = X2 := ⟨_, rfl⟩
    have g2 : Gr X X2 := by rw [← hX2]; exact gr_alloc X _
    have hb2 : X2.heap[X.heap.size]? = some (.cells #[.int .i64 Ln, .int .i64 Of, .int .i64 0, .slice bo 2 bc, .slice none 0 0, .slice none 0 0] 32) := by rw [← hX2]; exact heap_alloc_new X _
    have hf2 := (g2.block _ (lt_of_heap hfX) id).trans hfX
    refine ⟨HS.out X g, cell6 hxX, X2, hX2, hb2, fun u gu => ⟨cell7 ((gu.block _ (lt_of_heap hf2) id).trans hf2), cell6 ((gu.block _ (lt_of_heap hb2) id).trans hb2)⟩, fun u gu => ?_, fun u a gu hr => ?_, fun wr a ⟨⟨e0, ez⟩, gw, lw, ew, rw'⟩ => ?_⟩
    · have gWu := (gX.trans g2 (fun _ _ h => h)).trans gu (fun _ _ h => h)
      exact hO u gWu (by have := g2.size; have := gu.size; omega)
    · have gXu := g2.trans gu (fun _ _ h => h)
      have hpu := (gXu.block _ h2 id).trans hpb
      have hcu := (gXu.block _ h1 id).trans hcb
      have ks : Keeps u (u.setCell ⟨cb, 0, none⟩ (.pointer (some ⟨a, 0, none⟩))) (fun z => z = cb) := Keeps.setCell (S := fun z => z = cb) (p := ⟨cb, 0, none⟩) (Keeps.refl u _) (fun _ => rfl) _
      have bX := (g.block _ (lt_of_heap bA) id).trans bA
      have bu := (gXu.block _ (lt_of_heap bX) id).trans bX
      refine ⟨hpu, hcu, ⟨(ks.block _ (lt_of_heap hpu) hne).trans hpu, (ks.block _ (lt_of_heap bu) (fun e => by have e' : W.heap.size + 1 = cb := e; omega)).trans bu⟩, (gX.trans gXu (fun _ _ h => h)).trans ks (fun j hj e => by have e' : j = cb := e; omega), by omega, ?_, hRs _ _ a _ hr ks (fun b e => by have e' : b = cb := e; omega)⟩
      rw [heap_setCell_same u cb 0 _ _ _ hcu]; rfl
    · have ks := setAll_kp (W.heap.size + 1) [(0, .int .i64 R), (1, .slice (some ⟨cb, 0, none⟩) 1 1)] wr
      refine ⟨e0, ez, setAll_blk (W.heap.size + 1) 59 _ wr _ ez, gw.trans ks (fun j hj e => by have e' : j = W.heap.size + 1 := e; omega), lw, (ks.block _ (lt_of_heap ew) (fun e => by have e' : cb = W.heap.size + 1 := e; omega)).trans ew, hRs _ _ a _ rw' ks (fun b e => by have e' : b = W.heap.size + 1 := e; omega)⟩
  clear gA bA b1 g0 b0 g1 sA hf hx hRs hO
  go_enter Tryz.func17, Tryz.ntmps17
  go_wp2_with fail
  clear hA hA0
  refine wp_region_held_drew (S := fun w' => w'.cell? ⟨W.heap.size, 0, none⟩ = some (.int .i64 R) ∧ w'.cell? ⟨W.heap.size, 1, none⟩ = some (.slice (some ⟨xb, 0, none⟩) 1 xc)) (by kernel_rfl) (HS.out _ gr_drew) (fun hHeld => ?_)
  refine wpAnyH_take (i := 0) (oi := { dst := some 11, op := Op.fieldAddr 43 (Operand.tmp 3) 0, type := 0, pos := "open.go:56", after := #[], guard := none }) (v := ?v0a1) rfl (by kernel_rfl) (by kernel_rfl) (by kernel_rfl) (fun _ _ _ h => h) (Or.inl ⟨by rfl, ?y0a1⟩) (by assumption) ?r0a1
  case y0a1 => (intro w hSw; obtain ⟨s0, s1⟩ := hSw; go_simp; (try with_reducible rfl))
  (try simp only [Act.put]); (try simp only [List.setIfInBounds_toArray]); (try simp only [List.set_cons_succ]); (try simp only [List.set_cons_zero])
  refine wpAnyH_take (i := 1) (oi := { dst := some 12, op := Op.load 3 (Operand.tmp 11), type := 3, pos := "open.go:56", after := #[{ on := 0, ground := Ground.data }], guard := none }) (v := ?v1a2) rfl (by kernel_rfl) (by kernel_rfl) (by kernel_rfl) (fun _ _ _ h => h) (Or.inl ⟨by rfl, ?y1a2⟩) (by assumption) ?r1a2
  case y1a2 => (intro w hSw; obtain ⟨s0, s1⟩ := hSw; go_simp; (try with_reducible rfl))
  (try simp only [Act.put]); (try simp only [List.setIfInBounds_toArray]); (try simp only [List.set_cons_succ]); (try simp only [List.set_cons_zero])
  refine wpAnyH_take (i := 2) (oi := { dst := some 13, op := Op.fieldAddr 43 (Operand.tmp 3) 1, type := 0, pos := "open.go:56", after := #[], guard := none }) (v := ?v2a3) rfl (by kernel_rfl) (by kernel_rfl) (by kernel_rfl) (fun _ _ _ h => h) (Or.inl ⟨by rfl, ?y2a3⟩) (by assumption) ?r2a3
  case y2a3 => (intro w hSw; obtain ⟨s0, s1⟩ := hSw; go_simp; (try with_reducible rfl))
  (try simp only [Act.put]); (try simp only [List.setIfInBounds_toArray]); (try simp only [List.set_cons_succ]); (try simp only [List.set_cons_zero])
  refine wpAnyH_take (i := 3) (oi := { dst := some 14, op := Op.load 30 (Operand.tmp 13), type := 30, pos := "open.go:56", after := #[{ on := 2, ground := Ground.data }], guard := none }) (v := ?v3a4) rfl (by kernel_rfl) (by kernel_rfl) (by kernel_rfl) (fun _ _ _ h => h) (Or.inl ⟨by rfl, ?y3a4⟩) (by assumption) ?r3a4
  case y3a4 => (intro w hSw; obtain ⟨s0, s1⟩ := hSw; go_simp; (try with_reducible rfl))
  (try simp only [Act.put]); (try simp only [List.setIfInBounds_toArray]); (try simp only [List.set_cons_succ]); (try simp only [List.set_cons_zero])
  refine wpAnyH_take (i := 4) (oi := { dst := some 15, op := Op.call { callee := Callee.builtin Builtin.len, args := #[Operand.tmp 14], argTypes := #[30] }, type := 3, pos := "open.go:56", after := #[{ on := 3, ground := Ground.data }], guard := none }) (v := ?v4a5) rfl (by kernel_rfl) (by kernel_rfl) (by kernel_rfl) (fun _ _ _ h => h) (Or.inl ⟨by rfl, ?y4a5⟩) (by assumption) ?r4a5
  case y4a5 => (intro w hSw; obtain ⟨s0, s1⟩ := hSw; go_simp; (try with_reducible rfl))
  (try simp only [Act.put]); (try simp only [List.setIfInBounds_toArray]); (try simp only [List.set_cons_succ]); (try simp only [List.set_cons_zero])
  refine wpAnyH_ready (rs := [5, 7]) (by kernel_rfl) (by simp) ?_
  refine (AllReadyH.cons (o := { dst := some 16, op := Op.makeSlice 57 (Operand.tmp 15) (Operand.tmp 15), type := 57, pos := "open.go:56", after := #[{ on := 4, ground := Ground.data }, { on := 4, ground := Ground.data }], guard := none }) rfl (fun Kc hK => ?_) (AllReadyH.cons (o := { dst := some 6, op := Op.alloc 59, type := 0, pos := "open.go:56", after := #[], guard := none }) rfl (fun Kc hK => ?_) AllReadyH.nil))
  · have HG1 : Hid (Gr A (A.drew.alloc (.cells #[.pointer none] 79))) := Keeps.trans gr_drew (gr_alloc A.drew _) (fun _ _ h => h)
    have hd : (A.drew.alloc (.cells #[.pointer none] 79)).heap[A.heap.size]? = some (.cells #[.pointer none] 79) := heap_alloc_new A.drew _
    obtain ⟨X1, hX1⟩ : ∃ X1, A.drew.alloc (.cells #[.pointer none] 79) = X1 := ⟨_, rfl⟩
    have hsz : X1.heap.size = A.heap.size + 1 := by rw [← hX1]; simp
    rw [hX1] at HG1 hd
    have HD0 := hidM hd
    clear hd
    have hmk := mk57
    go_simp
    refine hK.out _ _ (HS.out _ HG1.out) (fun hHeld => ?_)
    clear hK Kc hmk
    (try simp only [Act.put]); (try simp only [List.setIfInBounds_toArray]); (try simp only [List.set_cons_succ]); (try simp only [List.set_cons_zero])
    refine wpAnyH_take (i := 6) (oi := { dst := some 17, op := Op.build 59 #[(0, Operand.tmp 12), (1, Operand.tmp 16)], type := 59, pos := "open.go:56", after := #[{ on := 1, ground := Ground.data }, { on := 5, ground := Ground.data }], guard := none }) (v := ?v6b1) rfl (by kernel_rfl) (by kernel_rfl) (by kernel_rfl) (fun _ _ _ h => h) (Or.inl ⟨by rfl, ?y6b1⟩) (by assumption) ?r6b1
    case y6b1 => (intro w hSw; obtain ⟨s0, s1⟩ := hSw; go_simp; (try with_reducible rfl))
    (try simp only [Act.put]); (try simp only [List.setIfInBounds_toArray]); (try simp only [List.set_cons_succ]); (try simp only [List.set_cons_zero])
    refine wpAnyH_ready (rs := [7]) (by kernel_rfl) (by simp) ?_
    refine (AllReadyH.cons (o := { dst := some 6, op := Op.alloc 59, type := 0, pos := "open.go:56", after := #[], guard := none }) rfl (fun Kc hK => ?_) AllReadyH.nil)
    have HG2 := hidM (HG1.out.alloc (.cells #[.int .i64 0, .slice none 0 0] 59))
    have HG3 := hidM (HG1.out.alloc (.cells #[.int .i64 R, .slice (some ⟨A.heap.size, 0, none⟩) 1 1] 59))
    have HB3 := hidM (heap_alloc_new X1 (.cells #[.int .i64 R, .slice (some ⟨A.heap.size, 0, none⟩) 1 1] 59))
    go_simp
    refine hK.out _ _ (HS.out _ HG2.out) (fun hHeld => ?_)
    clear hK Kc
    (try simp only [Act.put]); (try simp only [List.setIfInBounds_toArray]); (try simp only [List.set_cons_succ]); (try simp only [List.set_cons_zero])
    refine wpAnyH_ready (rs := [8]) (by kernel_rfl) (by simp) ?_
    refine (AllReadyH.cons (o := { dst := none, op := Op.store 59 (Operand.tmp 6) (Operand.tmp 17), type := 0, pos := "open.go:56", after := #[{ on := 7, ground := Ground.data }, { on := 6, ground := Ground.data }, { on := 0, ground := Ground.phase }, { on := 1, ground := Ground.phase }, { on := 2, ground := Ground.phase }, { on := 3, ground := Ground.phase }, { on := 4, ground := Ground.phase }, { on := 5, ground := Ground.phase }, { on := 6, ground := Ground.phase }, { on := 7, ground := Ground.phase }], guard := none }) rfl (fun Kc hK => ?_) AllReadyH.nil)
    go_simp
    refine hK.out _ _ (HS.out _ HG3.out) (fun hHeld => ?_)
    clear hK Kc
    (try simp only [Act.put]); (try simp only [List.setIfInBounds_toArray]); (try simp only [List.set_cons_succ]); (try simp only [List.set_cons_zero])
    obtain ⟨X, hX⟩ : ∃ X, X1.alloc (.cells #[.int .i64 R, .slice (some ⟨A.heap.size, 0, none⟩) 1 1] 59) = X := ⟨_, rfl⟩
    have gX : Gr X1 X := by rw [← hX]; exact gr_alloc X1 _
    rw [hX] at HG3 HB3 ⊢
    have HX : Hid (Gr A X ∧ X.heap[A.heap.size]? = some (.cells #[.pointer none] 79) ∧ X.heap[A.heap.size + 1]? = some (.cells #[.int .i64 R, .slice (some ⟨A.heap.size, 0, none⟩) 1 1] 59) ∧ A.heap.size ≤ A.heap.size ∧ A.heap.size ≤ A.heap.size + 1 ∧ A.heap.size ≤ A.heap.size + 1) := ⟨HG3.out, (gX.block _ (lt_of_heap HD0.out) id).trans HD0.out, (by rw [← hsz]; exact HB3.out), Nat.le_refl _, by omega, by omega⟩
    clear gX HG1 HG2 HG3 HB3 HD0 hX hX1
    refine wpAnyH_done (by kernel_rfl) ?_ _
    obtain ⟨⟨q0, q1⟩, hxd, X2, hX2, hbx, HS5', HO', HZ', HE'⟩ := HRest.out A.heap.size (A.heap.size + 1) X HX.out
    have HS5 := hidM HS5'
    have HO := hidM HO'
    have HZ := hidM HZ'
    have HE := hidM HE'
    clear HS5' HO' HZ' HE' HX
    obtain ⟨t0, t1, t2, t3, t4, t5⟩ := hxd
    go_wp2_with fail
    go_loopw [21] (fun j wr => (j = .int .i64 0 ∧ X = wr) ∨ (j = .int .i64 1 ∧ ∃ a, Hid ((wr.heap[(A.heap.size + 1)]? = some (.cells #[.int .i64 R, .slice (some ⟨A.heap.size, 0, none⟩) 1 1] 59) ∧ wr.heap[W.heap.size + 1]? = some (.cells #[.int .i64 0, .slice none 0 0] 59)) ∧ OpI W wr A.heap.size a Rr))) (fun j _ => 1 - (intOf j).toNat)
    case atStart => exact .inl ⟨rfl, rfl⟩
    case round =>
      rcases hrel with ⟨rfl, rfl⟩ | ⟨rfl, a, HI⟩
      · obtain ⟨-, -, -, -, y4, y5⟩ := cell6 hbx
        have z4 := frz hbx 4
        have z5 := frz hbx 5
        have i4 := set_idT (j := 4) (v := .slice none 0 0) hbx rfl
        have i5 := set_idT (j := 5) (v := .slice none 0 0) hbx rfl
        go_wp2_with fail
        clear hX2 y4 y5 z4 z5 i4 i5
        refine wp_region_held_drew (S := fun w' => (w'.cell? ⟨fb, 0, none⟩ = some (.string nmA) ∧ w'.cell? ⟨fb, 1, none⟩ = some (.bool false) ∧ w'.cell? ⟨fb, 2, none⟩ = some (.int .i64 3) ∧ w'.cell? ⟨fb, 3, none⟩ = some (.int .i64 0) ∧ w'.cell? ⟨fb, 4, none⟩ = some (.int .i64 0) ∧ w'.cell? ⟨fb, 5, none⟩ = some (.int .i64 0) ∧ w'.cell? ⟨fb, 6, none⟩ = some (.slice ao 0 ca)) ∧ (w'.cell? ⟨X.heap.size, 0, none⟩ = some (.int .i64 Ln) ∧ w'.cell? ⟨X.heap.size, 1, none⟩ = some (.int .i64 Of) ∧ w'.cell? ⟨X.heap.size, 2, none⟩ = some (.int .i64 0) ∧ w'.cell? ⟨X.heap.size, 3, none⟩ = some (.slice bo 2 bc) ∧ w'.cell? ⟨X.heap.size, 4, none⟩ = some (.slice none 0 0) ∧ w'.cell? ⟨X.heap.size, 5, none⟩ = some (.slice none 0 0))) (by kernel_rfl) (HS5.out _ gr_drew) (fun hHeld => ?_)
        refine wpAnyH_take (i := 0) (oi := { dst := some 27, op := Op.move (Operand.tmp 0), type := 23, pos := "open.go:58", after := #[], guard := none }) (v := ?v0p11) rfl (by kernel_rfl) (by kernel_rfl) (by kernel_rfl) (fun _ _ _ h => h) (Or.inl ⟨by rfl, ?y0p11⟩) (by assumption) ?r0p11
        case y0p11 => (intro w hSw; obtain ⟨⟨f0, f1, f2, f3, f4, f5, f6⟩, ⟨d0, d1, d2, d3, d4, d5⟩⟩ := hSw; go_simp; (try with_reducible rfl))
        (try simp only [Act.put]); (try simp only [List.setIfInBounds_toArray]); (try simp only [List.set_cons_succ]); (try simp only [List.set_cons_zero])
        refine wpAnyH_take (i := 1) (oi := { dst := some 28, op := Op.move (Operand.tmp 7), type := 3, pos := "open.go:58", after := #[], guard := none }) (v := ?v1p12) rfl (by kernel_rfl) (by kernel_rfl) (by kernel_rfl) (fun _ _ _ h => h) (Or.inl ⟨by rfl, ?y1p12⟩) (by assumption) ?r1p12
        case y1p12 => (intro w hSw; obtain ⟨⟨f0, f1, f2, f3, f4, f5, f6⟩, ⟨d0, d1, d2, d3, d4, d5⟩⟩ := hSw; go_simp; (try with_reducible rfl))
        (try simp only [Act.put]); (try simp only [List.setIfInBounds_toArray]); (try simp only [List.set_cons_succ]); (try simp only [List.set_cons_zero])
        refine wpAnyH_take (i := 2) (oi := { dst := some 29, op := Op.indexAddr 23 (Operand.tmp 27) (Operand.tmp 28), type := 0, pos := "open.go:58", after := #[{ on := 0, ground := Ground.data }, { on := 1, ground := Ground.data }], guard := none }) (v := ?v2p13) rfl (by kernel_rfl) (by kernel_rfl) (by kernel_rfl) (fun _ _ _ h => h) (Or.inl ⟨by rfl, ?y2p13⟩) (by assumption) ?r2p13
        case y2p13 => (intro w hSw; obtain ⟨⟨f0, f1, f2, f3, f4, f5, f6⟩, ⟨d0, d1, d2, d3, d4, d5⟩⟩ := hSw; go_simp; (try with_reducible rfl))
        (try simp only [Act.put]); (try simp only [List.setIfInBounds_toArray]); (try simp only [List.set_cons_succ]); (try simp only [List.set_cons_zero])
        refine wpAnyH_take (i := 3) (oi := { dst := some 30, op := Op.load 27 (Operand.tmp 29), type := 27, pos := "open.go:58", after := #[{ on := 2, ground := Ground.data }], guard := none }) (v := ?v3p14) rfl (by kernel_rfl) (by kernel_rfl) (by kernel_rfl) (fun _ _ _ h => h) (Or.inl ⟨by rfl, ?y3p14⟩) (by assumption) ?r3p14
        case y3p14 => (intro w hSw; obtain ⟨⟨f0, f1, f2, f3, f4, f5, f6⟩, ⟨d0, d1, d2, d3, d4, d5⟩⟩ := hSw; go_simp; (try with_reducible rfl))
        (try simp only [Act.put]); (try simp only [List.setIfInBounds_toArray]); (try simp only [List.set_cons_succ]); (try simp only [List.set_cons_zero])
        refine wpAnyH_take (i := 4) (oi := { dst := some 31, op := Op.load 32 (Operand.tmp 8), type := 32, pos := "open.go:58", after := #[], guard := none }) (v := ?v4p15) rfl (by kernel_rfl) (by kernel_rfl) (by kernel_rfl) (fun _ _ _ h => h) (Or.inl ⟨by rfl, ?y4p15⟩) (by assumption) ?r4p15
        case y4p15 => (intro w hSw; obtain ⟨⟨f0, f1, f2, f3, f4, f5, f6⟩, ⟨d0, d1, d2, d3, d4, d5⟩⟩ := hSw; go_simp; (try with_reducible rfl))
        (try simp only [Act.put]); (try simp only [List.setIfInBounds_toArray]); (try simp only [List.set_cons_succ]); (try simp only [List.set_cons_zero])
        refine wpAnyH_ready (rs := [5, 9]) (by kernel_rfl) (by simp) ?_
        refine (AllReadyH.cons (o := { dst := some 32, op := Op.call { callee := Callee.value (Operand.func 25), args := #[Operand.tmp 30, Operand.tmp 31], argTypes := #[27, 32] }, type := 80, pos := "open.go:58", after := #[{ on := 3, ground := Ground.data }, { on := 4, ground := Ground.data }], guard := none }) rfl (fun Kc hK => ?_) (AllReadyH.cons (o := { dst := some 10, op := Op.alloc 46, type := 0, pos := "open.go:58", after := #[], guard := none }) rfl (fun Kc hK => ?_) AllReadyH.nil))
        · go_simp
          go_at_call 25
          refine Calls.mono (HO.out _ gr_drew) ?_
          rintro e' w1 ⟨a, rfl, g1, hR1⟩
          have HG1 : Hid (Gr X2 w1) := Keeps.trans gr_drew g1 (fun _ _ h => h)
          clear g1
          go_wp2_with fail
          refine hK.out _ _ (HS5.out _ HG1.out) (fun hHeld => ?_)
          clear hK Kc
          (try simp only [Act.put]); (try simp only [List.setIfInBounds_toArray]); (try simp only [List.set_cons_succ]); (try simp only [List.set_cons_zero])
          refine wpAnyH_take (i := 6) (oi := { dst := some 26, op := Op.move (Operand.tmp 32), type := 80, pos := "open.go:58", after := #[{ on := 5, ground := Ground.data }], guard := none }) (v := ?v6q11) rfl (by kernel_rfl) (by kernel_rfl) (by kernel_rfl) (fun _ _ _ h => h) (Or.inl ⟨by rfl, ?y6q11⟩) (by assumption) ?r6q11
          case y6q11 => (intro w hSw; obtain ⟨⟨f0, f1, f2, f3, f4, f5, f6⟩, ⟨d0, d1, d2, d3, d4, d5⟩⟩ := hSw; go_simp; (try with_reducible rfl))
          (try simp only [Act.put]); (try simp only [List.setIfInBounds_toArray]); (try simp only [List.set_cons_succ]); (try simp only [List.set_cons_zero])
          refine wpAnyH_take (i := 7) (oi := { dst := some 33, op := Op.extract (Operand.tmp 26) 0, type := 79, pos := "open.go:58", after := #[{ on := 6, ground := Ground.data }], guard := none }) (v := ?v7q12) rfl (by kernel_rfl) (by kernel_rfl) (by kernel_rfl) (fun _ _ _ h => h) (Or.inl ⟨by rfl, ?y7q12⟩) (by assumption) ?r7q12
          case y7q12 => (intro w hSw; obtain ⟨⟨f0, f1, f2, f3, f4, f5, f6⟩, ⟨d0, d1, d2, d3, d4, d5⟩⟩ := hSw; go_simp; (try with_reducible rfl))
          (try simp only [Act.put]); (try simp only [List.setIfInBounds_toArray]); (try simp only [List.set_cons_succ]); (try simp only [List.set_cons_zero])
          refine wpAnyH_take (i := 8) (oi := { dst := some 34, op := Op.extract (Operand.tmp 26) 1, type := 46, pos := "open.go:58", after := #[{ on := 6, ground := Ground.data }, { on := 10, ground := Ground.gcOnly Departure.lateStores }], guard := none }) (v := ?v8q13) rfl (by kernel_rfl) (by kernel_rfl) (by kernel_rfl) (fun _ _ _ h => h) (Or.inl ⟨by rfl, ?y8q13⟩) (by assumption) ?r8q13
          case y8q13 => (intro w hSw; obtain ⟨⟨f0, f1, f2, f3, f4, f5, f6⟩, ⟨d0, d1, d2, d3, d4, d5⟩⟩ := hSw; go_simp; (try with_reducible rfl))
          (try simp only [Act.put]); (try simp only [List.setIfInBounds_toArray]); (try simp only [List.set_cons_succ]); (try simp only [List.set_cons_zero])
          refine wpAnyH_ready (rs := [9]) (by kernel_rfl) (by simp) ?_
          refine (AllReadyH.cons (o := { dst := some 10, op := Op.alloc 46, type := 0, pos := "open.go:58", after := #[], guard := none }) rfl (fun Kc hK => ?_) AllReadyH.nil)
          have HG2 := hidM (HG1.out.alloc (.cells #[.int .i64 0, .slice none 0 0, .int .i64 0] 46))
          have hbe := heap_alloc_new w1 (.cells #[.int .i64 0, .slice none 0 0, .int .i64 0] 46)
          obtain ⟨V, hV⟩ : ∃ V, w1.alloc (.cells #[.int .i64 0, .slice none 0 0, .int .i64 0] 46) = V := ⟨_, rfl⟩
          rw [hV] at HG2 hbe
          have gV : Gr w1 V := by rw [← hV]; exact gr_alloc w1 _
          have hR1' := HRg.out _ _ a gV hR1
          obtain ⟨v0, v1, v2⟩ := cell3V hbe
          have w0 := frz hbe 0
          have w1' := frz hbe 1
          have w2' := frz hbe 2
          have i0 := set_idT (j := 0) (v := .int .i64 0) hbe rfl
          have i1 := set_idT (j := 1) (v := .slice none 0 0) hbe rfl
          have i2 := set_idT (j := 2) (v := .int .i64 0) hbe rfl
          go_simp
          refine hK.out _ _ (HS5.out _ HG2.out) (fun hHeld => ?_)
          clear hK Kc
          (try simp only [Act.put]); (try simp only [List.setIfInBounds_toArray]); (try simp only [List.set_cons_succ]); (try simp only [List.set_cons_zero])
          refine wpAnyH_take (i := 10) (oi := { dst := some 9, op := Op.assign (Operand.tmp 33), type := 79, pos := "open.go:58", after := #[{ on := 7, ground := Ground.data }, { on := 5, ground := Ground.chain }, { on := 0, ground := Ground.phase }, { on := 1, ground := Ground.phase }, { on := 2, ground := Ground.phase }, { on := 3, ground := Ground.phase }, { on := 4, ground := Ground.phase }, { on := 5, ground := Ground.phase }, { on := 6, ground := Ground.phase }, { on := 7, ground := Ground.phase }, { on := 8, ground := Ground.textOnly Departure.lateStores }, { on := 9, ground := Ground.phase }], guard := none }) (v := ?v10s11) rfl (by kernel_rfl) (by kernel_rfl) (by kernel_rfl) (fun _ _ _ h => h) (Or.inl ⟨by rfl, ?y10s11⟩) (by assumption) ?r10s11
          case y10s11 => (intro w hSw; obtain ⟨⟨f0, f1, f2, f3, f4, f5, f6⟩, ⟨d0, d1, d2, d3, d4, d5⟩⟩ := hSw; go_simp; (try with_reducible rfl))
          (try simp only [Act.put]); (try simp only [List.setIfInBounds_toArray]); (try simp only [List.set_cons_succ]); (try simp only [List.set_cons_zero])
          refine wpAnyH_ready (rs := [11]) (by kernel_rfl) (by simp) ?_
          refine (AllReadyH.cons (o := { dst := none, op := Op.store 46 (Operand.tmp 10) (Operand.tmp 34), type := 0, pos := "open.go:58", after := #[{ on := 9, ground := Ground.data }, { on := 8, ground := Ground.data }, { on := 10, ground := Ground.chain }, { on := 0, ground := Ground.phase }, { on := 1, ground := Ground.phase }, { on := 2, ground := Ground.phase }, { on := 3, ground := Ground.phase }, { on := 4, ground := Ground.phase }, { on := 5, ground := Ground.phase }, { on := 6, ground := Ground.phase }, { on := 7, ground := Ground.phase }, { on := 8, ground := Ground.phase }, { on := 9, ground := Ground.phase }, { on := 10, ground := Ground.phase }], guard := none }) rfl (fun Kc hK => ?_) AllReadyH.nil)
          go_simp
          refine hK.out _ _ (HS5.out _ HG2.out) (fun hHeld => ?_)
          clear hK Kc v0 v1 v2 w0 w1' w2' i0 i1 i2
          (try simp only [Act.put]); (try simp only [List.setIfInBounds_toArray]); (try simp only [List.set_cons_succ]); (try simp only [List.set_cons_zero])
          refine wpAnyH_done (by kernel_rfl) ?_ _
          have ey := cell3V hbe
          obtain ⟨y0, y1, y2⟩ := ey
          obtain ⟨x1, x2, x3, x4⟩ := HZ.out _ a HG2.out hR1'
          obtain ⟨u0, u1⟩ := cell2 x1
          have u2 := cell1 x2
          have zz := frz x2 0
          obtain ⟨U, hU⟩ : ∃ U, (V).setCell ⟨A.heap.size, 0, none⟩ (.pointer (some ⟨a, 0, none⟩)) = U := ⟨_, rfl⟩
          rw [hU] at x3 x4
          have HX := hidM (And.intro x3 x4)
          clear x1 x2 x3 x4
          go_wp2_with fail
          go_roundw
          case rel => exact .inr ⟨by go_num, a, HX⟩
          case measure => simp [intOf]
        · have HG0 : Hid (Gr X2 (X2.drew.alloc (.cells #[.int .i64 0, .slice none 0 0, .int .i64 0] 46))) := Keeps.trans gr_drew (gr_alloc X2.drew _) (fun _ _ h => h)
          have hbe0 : (X2.drew.alloc (.cells #[.int .i64 0, .slice none 0 0, .int .i64 0] 46)).heap[X2.heap.size]? = some (.cells #[.int .i64 0, .slice none 0 0, .int .i64 0] 46) := heap_alloc_new X2.drew _
          obtain ⟨V0, hV0⟩ : ∃ V0, X2.drew.alloc (.cells #[.int .i64 0, .slice none 0 0, .int .i64 0] 46) = V0 := ⟨_, rfl⟩
          rw [hV0] at HG0 hbe0
          go_simp
          refine hK.out _ _ (HS5.out _ HG0.out) (fun hHeld => ?_)
          clear hK Kc
          (try simp only [Act.put]); (try simp only [List.setIfInBounds_toArray]); (try simp only [List.set_cons_succ]); (try simp only [List.set_cons_zero])
          refine wpAnyH_ready (rs := [5]) (by kernel_rfl) (by simp) ?_
          refine (AllReadyH.cons (o := { dst := some 32, op := Op.call { callee := Callee.value (Operand.func 25), args := #[Operand.tmp 30, Operand.tmp 31], argTypes := #[27, 32] }, type := 80, pos := "open.go:58", after := #[{ on := 3, ground := Ground.data }, { on := 4, ground := Ground.data }], guard := none }) rfl (fun Kc hK => ?_) AllReadyH.nil)
          go_simp
          go_at_call 25
          refine Calls.mono (HO.out _ HG0.out) ?_
          rintro e' w1 ⟨a, rfl, g1, hR1⟩
          have HG1 := hidM (HG0.out.trans g1 (fun _ _ h => h))
          have hbe := (g1.block _ (lt_of_heap hbe0) id).trans hbe0
          clear g1
          have hR1' := hR1
          go_wp2_with fail
          refine hK.out _ _ (HS5.out _ HG1.out) (fun hHeld => ?_)
          clear hK Kc
          (try simp only [Act.put]); (try simp only [List.setIfInBounds_toArray]); (try simp only [List.set_cons_succ]); (try simp only [List.set_cons_zero])
          refine wpAnyH_take (i := 6) (oi := { dst := some 26, op := Op.move (Operand.tmp 32), type := 80, pos := "open.go:58", after := #[{ on := 5, ground := Ground.data }], guard := none }) (v := ?v6w11) rfl (by kernel_rfl) (by kernel_rfl) (by kernel_rfl) (fun _ _ _ h => h) (Or.inl ⟨by rfl, ?y6w11⟩) (by assumption) ?r6w11
          case y6w11 => (intro w hSw; obtain ⟨⟨f0, f1, f2, f3, f4, f5, f6⟩, ⟨d0, d1, d2, d3, d4, d5⟩⟩ := hSw; go_simp; (try with_reducible rfl))
          (try simp only [Act.put]); (try simp only [List.setIfInBounds_toArray]); (try simp only [List.set_cons_succ]); (try simp only [List.set_cons_zero])
          refine wpAnyH_take (i := 7) (oi := { dst := some 33, op := Op.extract (Operand.tmp 26) 0, type := 79, pos := "open.go:58", after := #[{ on := 6, ground := Ground.data }], guard := none }) (v := ?v7w12) rfl (by kernel_rfl) (by kernel_rfl) (by kernel_rfl) (fun _ _ _ h => h) (Or.inl ⟨by rfl, ?y7w12⟩) (by assumption) ?r7w12
          case y7w12 => (intro w hSw; obtain ⟨⟨f0, f1, f2, f3, f4, f5, f6⟩, ⟨d0, d1, d2, d3, d4, d5⟩⟩ := hSw; go_simp; (try with_reducible rfl))
          (try simp only [Act.put]); (try simp only [List.setIfInBounds_toArray]); (try simp only [List.set_cons_succ]); (try simp only [List.set_cons_zero])
          refine wpAnyH_take (i := 8) (oi := { dst := some 34, op := Op.extract (Operand.tmp 26) 1, type := 46, pos := "open.go:58", after := #[{ on := 6, ground := Ground.data }, { on := 10, ground := Ground.gcOnly Departure.lateStores }], guard := none }) (v := ?v8w13) rfl (by kernel_rfl) (by kernel_rfl) (by kernel_rfl) (fun _ _ _ h => h) (Or.inl ⟨by rfl, ?y8w13⟩) (by assumption) ?r8w13
          case y8w13 => (intro w hSw; obtain ⟨⟨f0, f1, f2, f3, f4, f5, f6⟩, ⟨d0, d1, d2, d3, d4, d5⟩⟩ := hSw; go_simp; (try with_reducible rfl))
          (try simp only [Act.put]); (try simp only [List.setIfInBounds_toArray]); (try simp only [List.set_cons_succ]); (try simp only [List.set_cons_zero])
          refine wpAnyH_take (i := 10) (oi := { dst := some 9, op := Op.assign (Operand.tmp 33), type := 79, pos := "open.go:58", after := #[{ on := 7, ground := Ground.data }, { on := 5, ground := Ground.chain }, { on := 0, ground := Ground.phase }, { on := 1, ground := Ground.phase }, { on := 2, ground := Ground.phase }, { on := 3, ground := Ground.phase }, { on := 4, ground := Ground.phase }, { on := 5, ground := Ground.phase }, { on := 6, ground := Ground.phase }, { on := 7, ground := Ground.phase }, { on := 8, ground := Ground.textOnly Departure.lateStores }, { on := 9, ground := Ground.phase }], guard := none }) (v := ?v10x11) rfl (by kernel_rfl) (by kernel_rfl) (by kernel_rfl) (fun _ _ _ h => h) (Or.inl ⟨by rfl, ?y10x11⟩) (by assumption) ?r10x11
          case y10x11 => (intro w hSw; obtain ⟨⟨f0, f1, f2, f3, f4, f5, f6⟩, ⟨d0, d1, d2, d3, d4, d5⟩⟩ := hSw; go_simp; (try with_reducible rfl))
          (try simp only [Act.put]); (try simp only [List.setIfInBounds_toArray]); (try simp only [List.set_cons_succ]); (try simp only [List.set_cons_zero])
          obtain ⟨v0, v1, v2⟩ := cell3V hbe
          have w0 := frz hbe 0
          have w1' := frz hbe 1
          have w2' := frz hbe 2
          have i0 := set_idT (j := 0) (v := .int .i64 0) hbe rfl
          have i1 := set_idT (j := 1) (v := .slice none 0 0) hbe rfl
          have i2 := set_idT (j := 2) (v := .int .i64 0) hbe rfl
          refine wpAnyH_ready (rs := [11]) (by kernel_rfl) (by simp) ?_
          refine (AllReadyH.cons (o := { dst := none, op := Op.store 46 (Operand.tmp 10) (Operand.tmp 34), type := 0, pos := "open.go:58", after := #[{ on := 9, ground := Ground.data }, { on := 8, ground := Ground.data }, { on := 10, ground := Ground.chain }, { on := 0, ground := Ground.phase }, { on := 1, ground := Ground.phase }, { on := 2, ground := Ground.phase }, { on := 3, ground := Ground.phase }, { on := 4, ground := Ground.phase }, { on := 5, ground := Ground.phase }, { on := 6, ground := Ground.phase }, { on := 7, ground := Ground.phase }, { on := 8, ground := Ground.phase }, { on := 9, ground := Ground.phase }, { on := 10, ground := Ground.phase }], guard := none }) rfl (fun Kc hK => ?_) AllReadyH.nil)
          go_simp
          refine hK.out _ _ (HS5.out _ HG1.out) (fun hHeld => ?_)
          clear hK Kc v0 v1 v2 w0 w1' w2' i0 i1 i2 hbe0
          (try simp only [Act.put]); (try simp only [List.setIfInBounds_toArray]); (try simp only [List.set_cons_succ]); (try simp only [List.set_cons_zero])
          refine wpAnyH_done (by kernel_rfl) ?_ _
          have ey := cell3V hbe
          obtain ⟨y0, y1, y2⟩ := ey
          obtain ⟨x1, x2, x3, x4⟩ := HZ.out _ a HG1.out hR1'
          obtain ⟨u0, u1⟩ := cell2 x1
          have u2 := cell1 x2
          have zz := frz x2 0
          obtain ⟨U, hU⟩ : ∃ U, (w1).setCell ⟨A.heap.size, 0, none⟩ (.pointer (some ⟨a, 0, none⟩)) = U := ⟨_, rfl⟩
          rw [hU] at x3 x4
          have HX := hidM (And.intro x3 x4)
          clear x1 x2 x3 x4
          go_wp2_with fail
          go_roundw
          case rel => exact .inr ⟨by go_num, a, HX⟩
          case measure => simp [intOf]
      · obtain ⟨e0, e1, e2, e3⟩ := HE.out wr a HI.out
        obtain ⟨b0, b1⟩ := cell2 e0
        obtain ⟨r0, r1⟩ := cell2 e1
        have z0 := frz e1 0
        have z1 := frz e1 1
        obtain ⟨U, hU⟩ : ∃ U, setAll wr (W.heap.size + 1) [(0, .int .i64 R), (1, .slice (some ⟨A.heap.size, 0, none⟩) 1 1)] = U := ⟨_, rfl⟩
        rw [hU] at e2 e3
        simp only [setAll] at hU
        have HE2 := hidM e2
        have HE3 := hidM e3
        clear e0 e1 e2 e3 q0 q1 t0 t1 t2 t3 t4 t5
        go_wp2_with fail
        (try simp only [Exit.inBlock, Exit.then])
        refine bodyPost_ret (results_cell59t rfl rfl (by with_reducible exact HE2.out) (by kernel_rfl)) rfl ?_
        exact ⟨_, a, rfl, HE3.out⟩
  · have HG1 : Hid (Gr A (A.drew.alloc (.cells #[.int .i64 0, .slice none 0 0] 59))) := Keeps.trans gr_drew (gr_alloc A.drew _) (fun _ _ h => h)
    have hd : (A.drew.alloc (.cells #[.int .i64 0, .slice none 0 0] 59)).heap[A.heap.size]? = some (.cells #[.int .i64 0, .slice none 0 0] 59) := heap_alloc_new A.drew _
    obtain ⟨X1, hX1⟩ : ∃ X1, A.drew.alloc (.cells #[.int .i64 0, .slice none 0 0] 59) = X1 := ⟨_, rfl⟩
    have hsz : X1.heap.size = A.heap.size + 1 := by rw [← hX1]; simp
    rw [hX1] at HG1 hd
    have HD0 := hidM hd
    clear hd
    go_simp
    refine hK.out _ _ (HS.out _ HG1.out) (fun hHeld => ?_)
    clear hK Kc
    (try simp only [Act.put]); (try simp only [List.setIfInBounds_toArray]); (try simp only [List.set_cons_succ]); (try simp only [List.set_cons_zero])
    refine wpAnyH_ready (rs := [5]) (by kernel_rfl) (by simp) ?_
    refine (AllReadyH.cons (o := { dst := some 16, op := Op.makeSlice 57 (Operand.tmp 15) (Operand.tmp 15), type := 57, pos := "open.go:56", after := #[{ on := 4, ground := Ground.data }, { on := 4, ground := Ground.data }], guard := none }) rfl (fun Kc hK => ?_) AllReadyH.nil)
    have hmk := mk57
    have HG2 := hidM (HG1.out.alloc (.cells #[.pointer none] 79))
    have HB2 := hidM (heap_alloc_new X1 (.cells #[.pointer none] 79))
    obtain ⟨X0, hX0⟩ : ∃ X0, X1.alloc (.cells #[.pointer none] 79) = X0 := ⟨_, rfl⟩
    have gX0 : Gr X1 X0 := by rw [← hX0]; exact gr_alloc X1 _
    rw [hX0] at HG2 HB2
    have hbb := (gX0.block _ (lt_of_heap HD0.out) id).trans HD0.out
    go_simp
    refine hK.out _ _ (HS.out _ HG2.out) (fun hHeld => ?_)
    clear hK Kc hmk
    (try simp only [Act.put]); (try simp only [List.setIfInBounds_toArray]); (try simp only [List.set_cons_succ]); (try simp only [List.set_cons_zero])
    refine wpAnyH_take (i := 6) (oi := { dst := some 17, op := Op.build 59 #[(0, Operand.tmp 12), (1, Operand.tmp 16)], type := 59, pos := "open.go:56", after := #[{ on := 1, ground := Ground.data }, { on := 5, ground := Ground.data }], guard := none }) (v := ?v6c1) rfl (by kernel_rfl) (by kernel_rfl) (by kernel_rfl) (fun _ _ _ h => h) (Or.inl ⟨by rfl, ?y6c1⟩) (by assumption) ?r6c1
    case y6c1 => (intro w hSw; obtain ⟨s0, s1⟩ := hSw; go_simp; (try with_reducible rfl))
    (try simp only [Act.put]); (try simp only [List.setIfInBounds_toArray]); (try simp only [List.set_cons_succ]); (try simp only [List.set_cons_zero])
    obtain ⟨y0, y1⟩ := cell2 hbb
    have z0 := frz hbb 0
    have z1 := frz hbb 1
    have hset := setAll_blk A.heap.size 59 [(0, .int .i64 R), (1, .slice (some ⟨A.heap.size + 1, 0, none⟩) 1 1)] X0 _ hbb
    have kset := setAll_kp A.heap.size [(0, .int .i64 R), (1, .slice (some ⟨A.heap.size + 1, 0, none⟩) 1 1)] X0
    obtain ⟨X, hX⟩ : ∃ X, setAll X0 A.heap.size [(0, .int .i64 R), (1, .slice (some ⟨A.heap.size + 1, 0, none⟩) 1 1)] = X := ⟨_, rfl⟩
    rw [hX] at hset kset
    have HX : Hid (Gr A X ∧ X.heap[A.heap.size + 1]? = some (.cells #[.pointer none] 79) ∧ X.heap[A.heap.size]? = some (.cells #[.int .i64 R, .slice (some ⟨A.heap.size + 1, 0, none⟩) 1 1] 59) ∧ A.heap.size ≤ A.heap.size + 1 ∧ A.heap.size ≤ A.heap.size ∧ A.heap.size + 1 ≤ A.heap.size + 1) := ⟨HG2.out.trans kset (fun j hj e => by have e' : j = A.heap.size := e; omega), (kset.block _ (by have := lt_of_heap HB2.out; omega) (fun e => by have e' : A.heap.size + 1 = A.heap.size := e; omega)).trans (by rw [← hsz]; exact HB2.out), hset, by omega, Nat.le_refl _, Nat.le_refl _⟩
    simp only [setAll] at hX
    refine wpAnyH_ready (rs := [8]) (by kernel_rfl) (by simp) ?_
    refine (AllReadyH.cons (o := { dst := none, op := Op.store 59 (Operand.tmp 6) (Operand.tmp 17), type := 0, pos := "open.go:56", after := #[{ on := 7, ground := Ground.data }, { on := 6, ground := Ground.data }, { on := 0, ground := Ground.phase }, { on := 1, ground := Ground.phase }, { on := 2, ground := Ground.phase }, { on := 3, ground := Ground.phase }, { on := 4, ground := Ground.phase }, { on := 5, ground := Ground.phase }, { on := 6, ground := Ground.phase }, { on := 7, ground := Ground.phase }], guard := none }) rfl (fun Kc hK => ?_) AllReadyH.nil)
    go_simp
    refine hK.out _ _ (HS.out _ HX.out.1) (fun hHeld => ?_)
    clear hK Kc y0 y1 z0 z1 hset kset hbb gX0 HG1 HG2 HB2 HD0 hX hX1 hX0
    (try simp only [Act.put]); (try simp only [List.setIfInBounds_toArray]); (try simp only [List.set_cons_succ]); (try simp only [List.set_cons_zero])
    refine wpAnyH_done (by kernel_rfl) ?_ _
    obtain ⟨⟨q0, q1⟩, hxd, X2, hX2, hbx, HS5', HO', HZ', HE'⟩ := HRest.out (A.heap.size + 1) A.heap.size X HX.out
    have HS5 := hidM HS5'
    have HO := hidM HO'
    have HZ := hidM HZ'
    have HE := hidM HE'
    clear HS5' HO' HZ' HE' HX
    obtain ⟨t0, t1, t2, t3, t4, t5⟩ := hxd
    go_wp2_with fail
    go_loopw [21] (fun j wr => (j = .int .i64 0 ∧ X = wr) ∨ (j = .int .i64 1 ∧ ∃ a, Hid ((wr.heap[A.heap.size]? = some (.cells #[.int .i64 R, .slice (some ⟨(A.heap.size + 1), 0, none⟩) 1 1] 59) ∧ wr.heap[W.heap.size + 1]? = some (.cells #[.int .i64 0, .slice none 0 0] 59)) ∧ OpI W wr (A.heap.size + 1) a Rr))) (fun j _ => 1 - (intOf j).toNat)
    case atStart => exact .inl ⟨rfl, rfl⟩
    case round =>
      rcases hrel with ⟨rfl, rfl⟩ | ⟨rfl, a, HI⟩
      · obtain ⟨-, -, -, -, y4, y5⟩ := cell6 hbx
        have z4 := frz hbx 4
        have z5 := frz hbx 5
        have i4 := set_idT (j := 4) (v := .slice none 0 0) hbx rfl
        have i5 := set_idT (j := 5) (v := .slice none 0 0) hbx rfl
        go_wp2_with fail
        clear hX2 y4 y5 z4 z5 i4 i5
        refine wp_region_held_drew (S := fun w' => (w'.cell? ⟨fb, 0, none⟩ = some (.string nmA) ∧ w'.cell? ⟨fb, 1, none⟩ = some (.bool false) ∧ w'.cell? ⟨fb, 2, none⟩ = some (.int .i64 3) ∧ w'.cell? ⟨fb, 3, none⟩ = some (.int .i64 0) ∧ w'.cell? ⟨fb, 4, none⟩ = some (.int .i64 0) ∧ w'.cell? ⟨fb, 5, none⟩ = some (.int .i64 0) ∧ w'.cell? ⟨fb, 6, none⟩ = some (.slice ao 0 ca)) ∧ (w'.cell? ⟨X.heap.size, 0, none⟩ = some (.int .i64 Ln) ∧ w'.cell? ⟨X.heap.size, 1, none⟩ = some (.int .i64 Of) ∧ w'.cell? ⟨X.heap.size, 2, none⟩ = some (.int .i64 0) ∧ w'.cell? ⟨X.heap.size, 3, none⟩ = some (.slice bo 2 bc) ∧ w'.cell? ⟨X.heap.size, 4, none⟩ = some (.slice none 0 0) ∧ w'.cell? ⟨X.heap.size, 5, none⟩ = some (.slice none 0 0))) (by kernel_rfl) (HS5.out _ gr_drew) (fun hHeld => ?_)
        refine wpAnyH_take (i := 0) (oi := { dst := some 27, op := Op.move (Operand.tmp 0), type := 23, pos := "open.go:58", after := #[], guard := none }) (v := ?v0p21) rfl (by kernel_rfl) (by kernel_rfl) (by kernel_rfl) (fun _ _ _ h => h) (Or.inl ⟨by rfl, ?y0p21⟩) (by assumption) ?r0p21
        case y0p21 => (intro w hSw; obtain ⟨⟨f0, f1, f2, f3, f4, f5, f6⟩, ⟨d0, d1, d2, d3, d4, d5⟩⟩ := hSw; go_simp; (try with_reducible rfl))
        (try simp only [Act.put]); (try simp only [List.setIfInBounds_toArray]); (try simp only [List.set_cons_succ]); (try simp only [List.set_cons_zero])
        refine wpAnyH_take (i := 1) (oi := { dst := some 28, op := Op.move (Operand.tmp 7), type := 3, pos := "open.go:58", after := #[], guard := none }) (v := ?v1p22) rfl (by kernel_rfl) (by kernel_rfl) (by kernel_rfl) (fun _ _ _ h => h) (Or.inl ⟨by rfl, ?y1p22⟩) (by assumption) ?r1p22
        case y1p22 => (intro w hSw; obtain ⟨⟨f0, f1, f2, f3, f4, f5, f6⟩, ⟨d0, d1, d2, d3, d4, d5⟩⟩ := hSw; go_simp; (try with_reducible rfl))
        (try simp only [Act.put]); (try simp only [List.setIfInBounds_toArray]); (try simp only [List.set_cons_succ]); (try simp only [List.set_cons_zero])
        refine wpAnyH_take (i := 2) (oi := { dst := some 29, op := Op.indexAddr 23 (Operand.tmp 27) (Operand.tmp 28), type := 0, pos := "open.go:58", after := #[{ on := 0, ground := Ground.data }, { on := 1, ground := Ground.data }], guard := none }) (v := ?v2p23) rfl (by kernel_rfl) (by kernel_rfl) (by kernel_rfl) (fun _ _ _ h => h) (Or.inl ⟨by rfl, ?y2p23⟩) (by assumption) ?r2p23
        case y2p23 => (intro w hSw; obtain ⟨⟨f0, f1, f2, f3, f4, f5, f6⟩, ⟨d0, d1, d2, d3, d4, d5⟩⟩ := hSw; go_simp; (try with_reducible rfl))
        (try simp only [Act.put]); (try simp only [List.setIfInBounds_toArray]); (try simp only [List.set_cons_succ]); (try simp only [List.set_cons_zero])
        refine wpAnyH_take (i := 3) (oi := { dst := some 30, op := Op.load 27 (Operand.tmp 29), type := 27, pos := "open.go:58", after := #[{ on := 2, ground := Ground.data }], guard := none }) (v := ?v3p24) rfl (by kernel_rfl) (by kernel_rfl) (by kernel_rfl) (fun _ _ _ h => h) (Or.inl ⟨by rfl, ?y3p24⟩) (by assumption) ?r3p24
        case y3p24 => (intro w hSw; obtain ⟨⟨f0, f1, f2, f3, f4, f5, f6⟩, ⟨d0, d1, d2, d3, d4, d5⟩⟩ := hSw; go_simp; (try with_reducible rfl))
        (try simp only [Act.put]); (try simp only [List.setIfInBounds_toArray]); (try simp only [List.set_cons_succ]); (try simp only [List.set_cons_zero])
        refine wpAnyH_take (i := 4) (oi := { dst := some 31, op := Op.load 32 (Operand.tmp 8), type := 32, pos := "open.go:58", after := #[], guard := none }) (v := ?v4p25) rfl (by kernel_rfl) (by kernel_rfl) (by kernel_rfl) (fun _ _ _ h => h) (Or.inl ⟨by rfl, ?y4p25⟩) (by assumption) ?r4p25
        case y4p25 => (intro w hSw; obtain ⟨⟨f0, f1, f2, f3, f4, f5, f6⟩, ⟨d0, d1, d2, d3, d4, d5⟩⟩ := hSw; go_simp; (try with_reducible rfl))
        (try simp only [Act.put]); (try simp only [List.setIfInBounds_toArray]); (try simp only [List.set_cons_succ]); (try simp only [List.set_cons_zero])
        refine wpAnyH_ready (rs := [5, 9]) (by kernel_rfl) (by simp) ?_
        refine (AllReadyH.cons (o := { dst := some 32, op := Op.call { callee := Callee.value (Operand.func 25), args := #[Operand.tmp 30, Operand.tmp 31], argTypes := #[27, 32] }, type := 80, pos := "open.go:58", after := #[{ on := 3, ground := Ground.data }, { on := 4, ground := Ground.data }], guard := none }) rfl (fun Kc hK => ?_) (AllReadyH.cons (o := { dst := some 10, op := Op.alloc 46, type := 0, pos := "open.go:58", after := #[], guard := none }) rfl (fun Kc hK => ?_) AllReadyH.nil))
        · go_simp
          go_at_call 25
          refine Calls.mono (HO.out _ gr_drew) ?_
          rintro e' w1 ⟨a, rfl, g1, hR1⟩
          have HG1 : Hid (Gr X2 w1) := Keeps.trans gr_drew g1 (fun _ _ h => h)
          clear g1
          go_wp2_with fail
          refine hK.out _ _ (HS5.out _ HG1.out) (fun hHeld => ?_)
          clear hK Kc
          (try simp only [Act.put]); (try simp only [List.setIfInBounds_toArray]); (try simp only [List.set_cons_succ]); (try simp only [List.set_cons_zero])
          refine wpAnyH_take (i := 6) (oi := { dst := some 26, op := Op.move (Operand.tmp 32), type := 80, pos := "open.go:58", after := #[{ on := 5, ground := Ground.data }], guard := none }) (v := ?v6q21) rfl (by kernel_rfl) (by kernel_rfl) (by kernel_rfl) (fun _ _ _ h => h) (Or.inl ⟨by rfl, ?y6q21⟩) (by assumption) ?r6q21
          case y6q21 => (intro w hSw; obtain ⟨⟨f0, f1, f2, f3, f4, f5, f6⟩, ⟨d0, d1, d2, d3, d4, d5⟩⟩ := hSw; go_simp; (try with_reducible rfl))
          (try simp only [Act.put]); (try simp only [List.setIfInBounds_toArray]); (try simp only [List.set_cons_succ]); (try simp only [List.set_cons_zero])
          refine wpAnyH_take (i := 7) (oi := { dst := some 33, op := Op.extract (Operand.tmp 26) 0, type := 79, pos := "open.go:58", after := #[{ on := 6, ground := Ground.data }], guard := none }) (v := ?v7q22) rfl (by kernel_rfl) (by kernel_rfl) (by kernel_rfl) (fun _ _ _ h => h) (Or.inl ⟨by rfl, ?y7q22⟩) (by assumption) ?r7q22
          case y7q22 => (intro w hSw; obtain ⟨⟨f0, f1, f2, f3, f4, f5, f6⟩, ⟨d0, d1, d2, d3, d4, d5⟩⟩ := hSw; go_simp; (try with_reducible rfl))
          (try simp only [Act.put]); (try simp only [List.setIfInBounds_toArray]); (try simp only [List.set_cons_succ]); (try simp only [List.set_cons_zero])
          refine wpAnyH_take (i := 8) (oi := { dst := some 34, op := Op.extract (Operand.tmp 26) 1, type := 46, pos := "open.go:58", after := #[{ on := 6, ground := Ground.data }, { on := 10, ground := Ground.gcOnly Departure.lateStores }], guard := none }) (v := ?v8q23) rfl (by kernel_rfl) (by kernel_rfl) (by kernel_rfl) (fun _ _ _ h => h) (Or.inl ⟨by rfl, ?y8q23⟩) (by assumption) ?r8q23
          case y8q23 => (intro w hSw; obtain ⟨⟨f0, f1, f2, f3, f4, f5, f6⟩, ⟨d0, d1, d2, d3, d4, d5⟩⟩ := hSw; go_simp; (try with_reducible rfl))
          (try simp only [Act.put]); (try simp only [List.setIfInBounds_toArray]); (try simp only [List.set_cons_succ]); (try simp only [List.set_cons_zero])
          refine wpAnyH_ready (rs := [9]) (by kernel_rfl) (by simp) ?_
          refine (AllReadyH.cons (o := { dst := some 10, op := Op.alloc 46, type := 0, pos := "open.go:58", after := #[], guard := none }) rfl (fun Kc hK => ?_) AllReadyH.nil)
          have HG2 := hidM (HG1.out.alloc (.cells #[.int .i64 0, .slice none 0 0, .int .i64 0] 46))
          have hbe := heap_alloc_new w1 (.cells #[.int .i64 0, .slice none 0 0, .int .i64 0] 46)
          obtain ⟨V, hV⟩ : ∃ V, w1.alloc (.cells #[.int .i64 0, .slice none 0 0, .int .i64 0] 46) = V := ⟨_, rfl⟩
          rw [hV] at HG2 hbe
          have gV : Gr w1 V := by rw [← hV]; exact gr_alloc w1 _
          have hR1' := HRg.out _ _ a gV hR1
          obtain ⟨v0, v1, v2⟩ := cell3V hbe
          have w0 := frz hbe 0
          have w1' := frz hbe 1
          have w2' := frz hbe 2
          have i0 := set_idT (j := 0) (v := .int .i64 0) hbe rfl
          have i1 := set_idT (j := 1) (v := .slice none 0 0) hbe rfl
          have i2 := set_idT (j := 2) (v := .int .i64 0) hbe rfl
          go_simp
          refine hK.out _ _ (HS5.out _ HG2.out) (fun hHeld => ?_)
          clear hK Kc
          (try simp only [Act.put]); (try simp only [List.setIfInBounds_toArray]); (try simp only [List.set_cons_succ]); (try simp only [List.set_cons_zero])
          refine wpAnyH_take (i := 10) (oi := { dst := some 9, op := Op.assign (Operand.tmp 33), type := 79, pos := "open.go:58", after := #[{ on := 7, ground := Ground.data }, { on := 5, ground := Ground.chain }, { on := 0, ground := Ground.phase }, { on := 1, ground := Ground.phase }, { on := 2, ground := Ground.phase }, { on := 3, ground := Ground.phase }, { on := 4, ground := Ground.phase }, { on := 5, ground := Ground.phase }, { on := 6, ground := Ground.phase }, { on := 7, ground := Ground.phase }, { on := 8, ground := Ground.textOnly Departure.lateStores }, { on := 9, ground := Ground.phase }], guard := none }) (v := ?v10s21) rfl (by kernel_rfl) (by kernel_rfl) (by kernel_rfl) (fun _ _ _ h => h) (Or.inl ⟨by rfl, ?y10s21⟩) (by assumption) ?r10s21
          case y10s21 => (intro w hSw; obtain ⟨⟨f0, f1, f2, f3, f4, f5, f6⟩, ⟨d0, d1, d2, d3, d4, d5⟩⟩ := hSw; go_simp; (try with_reducible rfl))
          (try simp only [Act.put]); (try simp only [List.setIfInBounds_toArray]); (try simp only [List.set_cons_succ]); (try simp only [List.set_cons_zero])
          refine wpAnyH_ready (rs := [11]) (by kernel_rfl) (by simp) ?_
          refine (AllReadyH.cons (o := { dst := none, op := Op.store 46 (Operand.tmp 10) (Operand.tmp 34), type := 0, pos := "open.go:58", after := #[{ on := 9, ground := Ground.data }, { on := 8, ground := Ground.data }, { on := 10, ground := Ground.chain }, { on := 0, ground := Ground.phase }, { on := 1, ground := Ground.phase }, { on := 2, ground := Ground.phase }, { on := 3, ground := Ground.phase }, { on := 4, ground := Ground.phase }, { on := 5, ground := Ground.phase }, { on := 6, ground := Ground.phase }, { on := 7, ground := Ground.phase }, { on := 8, ground := Ground.phase }, { on := 9, ground := Ground.phase }, { on := 10, ground := Ground.phase }], guard := none }) rfl (fun Kc hK => ?_) AllReadyH.nil)
          go_simp
          refine hK.out _ _ (HS5.out _ HG2.out) (fun hHeld => ?_)
          clear hK Kc v0 v1 v2 w0 w1' w2' i0 i1 i2
          (try simp only [Act.put]); (try simp only [List.setIfInBounds_toArray]); (try simp only [List.set_cons_succ]); (try simp only [List.set_cons_zero])
          refine wpAnyH_done (by kernel_rfl) ?_ _
          have ey := cell3V hbe
          obtain ⟨y0, y1, y2⟩ := ey
          obtain ⟨x1, x2, x3, x4⟩ := HZ.out _ a HG2.out hR1'
          obtain ⟨u0, u1⟩ := cell2 x1
          have u2 := cell1 x2
          have zz := frz x2 0
          obtain ⟨U, hU⟩ : ∃ U, (V).setCell ⟨(A.heap.size + 1), 0, none⟩ (.pointer (some ⟨a, 0, none⟩)) = U := ⟨_, rfl⟩
          rw [hU] at x3 x4
          have HX := hidM (And.intro x3 x4)
          clear x1 x2 x3 x4
          go_wp2_with fail
          go_roundw
          case rel => exact .inr ⟨by go_num, a, HX⟩
          case measure => simp [intOf]
        · have HG0 : Hid (Gr X2 (X2.drew.alloc (.cells #[.int .i64 0, .slice none 0 0, .int .i64 0] 46))) := Keeps.trans gr_drew (gr_alloc X2.drew _) (fun _ _ h => h)
          have hbe0 : (X2.drew.alloc (.cells #[.int .i64 0, .slice none 0 0, .int .i64 0] 46)).heap[X2.heap.size]? = some (.cells #[.int .i64 0, .slice none 0 0, .int .i64 0] 46) := heap_alloc_new X2.drew _
          obtain ⟨V0, hV0⟩ : ∃ V0, X2.drew.alloc (.cells #[.int .i64 0, .slice none 0 0, .int .i64 0] 46) = V0 := ⟨_, rfl⟩
          rw [hV0] at HG0 hbe0
          go_simp
          refine hK.out _ _ (HS5.out _ HG0.out) (fun hHeld => ?_)
          clear hK Kc
          (try simp only [Act.put]); (try simp only [List.setIfInBounds_toArray]); (try simp only [List.set_cons_succ]); (try simp only [List.set_cons_zero])
          refine wpAnyH_ready (rs := [5]) (by kernel_rfl) (by simp) ?_
          refine (AllReadyH.cons (o := { dst := some 32, op := Op.call { callee := Callee.value (Operand.func 25), args := #[Operand.tmp 30, Operand.tmp 31], argTypes := #[27, 32] }, type := 80, pos := "open.go:58", after := #[{ on := 3, ground := Ground.data }, { on := 4, ground := Ground.data }], guard := none }) rfl (fun Kc hK => ?_) AllReadyH.nil)
          go_simp
          go_at_call 25
          refine Calls.mono (HO.out _ HG0.out) ?_
          rintro e' w1 ⟨a, rfl, g1, hR1⟩
          have HG1 := hidM (HG0.out.trans g1 (fun _ _ h => h))
          have hbe := (g1.block _ (lt_of_heap hbe0) id).trans hbe0
          clear g1
          have hR1' := hR1
          go_wp2_with fail
          refine hK.out _ _ (HS5.out _ HG1.out) (fun hHeld => ?_)
          clear hK Kc
          (try simp only [Act.put]); (try simp only [List.setIfInBounds_toArray]); (try simp only [List.set_cons_succ]); (try simp only [List.set_cons_zero])
          refine wpAnyH_take (i := 6) (oi := { dst := some 26, op := Op.move (Operand.tmp 32), type := 80, pos := "open.go:58", after := #[{ on := 5, ground := Ground.data }], guard := none }) (v := ?v6w21) rfl (by kernel_rfl) (by kernel_rfl) (by kernel_rfl) (fun _ _ _ h => h) (Or.inl ⟨by rfl, ?y6w21⟩) (by assumption) ?r6w21
          case y6w21 => (intro w hSw; obtain ⟨⟨f0, f1, f2, f3, f4, f5, f6⟩, ⟨d0, d1, d2, d3, d4, d5⟩⟩ := hSw; go_simp; (try with_reducible rfl))
          (try simp only [Act.put]); (try simp only [List.setIfInBounds_toArray]); (try simp only [List.set_cons_succ]); (try simp only [List.set_cons_zero])
          refine wpAnyH_take (i := 7) (oi := { dst := some 33, op := Op.extract (Operand.tmp 26) 0, type := 79, pos := "open.go:58", after := #[{ on := 6, ground := Ground.data }], guard := none }) (v := ?v7w22) rfl (by kernel_rfl) (by kernel_rfl) (by kernel_rfl) (fun _ _ _ h => h) (Or.inl ⟨by rfl, ?y7w22⟩) (by assumption) ?r7w22
          case y7w22 => (intro w hSw; obtain ⟨⟨f0, f1, f2, f3, f4, f5, f6⟩, ⟨d0, d1, d2, d3, d4, d5⟩⟩ := hSw; go_simp; (try with_reducible rfl))
          (try simp only [Act.put]); (try simp only [List.setIfInBounds_toArray]); (try simp only [List.set_cons_succ]); (try simp only [List.set_cons_zero])
          refine wpAnyH_take (i := 8) (oi := { dst := some 34, op := Op.extract (Operand.tmp 26) 1, type := 46, pos := "open.go:58", after := #[{ on := 6, ground := Ground.data }, { on := 10, ground := Ground.gcOnly Departure.lateStores }], guard := none }) (v := ?v8w23) rfl (by kernel_rfl) (by kernel_rfl) (by kernel_rfl) (fun _ _ _ h => h) (Or.inl ⟨by rfl, ?y8w23⟩) (by assumption) ?r8w23
          case y8w23 => (intro w hSw; obtain ⟨⟨f0, f1, f2, f3, f4, f5, f6⟩, ⟨d0, d1, d2, d3, d4, d5⟩⟩ := hSw; go_simp; (try with_reducible rfl))
          (try simp only [Act.put]); (try simp only [List.setIfInBounds_toArray]); (try simp only [List.set_cons_succ]); (try simp only [List.set_cons_zero])
          refine wpAnyH_take (i := 10) (oi := { dst := some 9, op := Op.assign (Operand.tmp 33), type := 79, pos := "open.go:58", after := #[{ on := 7, ground := Ground.data }, { on := 5, ground := Ground.chain }, { on := 0, ground := Ground.phase }, { on := 1, ground := Ground.phase }, { on := 2, ground := Ground.phase }, { on := 3, ground := Ground.phase }, { on := 4, ground := Ground.phase }, { on := 5, ground := Ground.phase }, { on := 6, ground := Ground.phase }, { on := 7, ground := Ground.phase }, { on := 8, ground := Ground.textOnly Departure.lateStores }, { on := 9, ground := Ground.phase }], guard := none }) (v := ?v10x21) rfl (by kernel_rfl) (by kernel_rfl) (by kernel_rfl) (fun _ _ _ h => h) (Or.inl ⟨by rfl, ?y10x21⟩) (by assumption) ?r10x21
          case y10x21 => (intro w hSw; obtain ⟨⟨f0, f1, f2, f3, f4, f5, f6⟩, ⟨d0, d1, d2, d3, d4, d5⟩⟩ := hSw; go_simp; (try with_reducible rfl))
          (try simp only [Act.put]); (try simp only [List.setIfInBounds_toArray]); (try simp only [List.set_cons_succ]); (try simp only [List.set_cons_zero])
          obtain ⟨v0, v1, v2⟩ := cell3V hbe
          have w0 := frz hbe 0
          have w1' := frz hbe 1
          have w2' := frz hbe 2
          have i0 := set_idT (j := 0) (v := .int .i64 0) hbe rfl
          have i1 := set_idT (j := 1) (v := .slice none 0 0) hbe rfl
          have i2 := set_idT (j := 2) (v := .int .i64 0) hbe rfl
          refine wpAnyH_ready (rs := [11]) (by kernel_rfl) (by simp) ?_
          refine (AllReadyH.cons (o := { dst := none, op := Op.store 46 (Operand.tmp 10) (Operand.tmp 34), type := 0, pos := "open.go:58", after := #[{ on := 9, ground := Ground.data }, { on := 8, ground := Ground.data }, { on := 10, ground := Ground.chain }, { on := 0, ground := Ground.phase }, { on := 1, ground := Ground.phase }, { on := 2, ground := Ground.phase }, { on := 3, ground := Ground.phase }, { on := 4, ground := Ground.phase }, { on := 5, ground := Ground.phase }, { on := 6, ground := Ground.phase }, { on := 7, ground := Ground.phase }, { on := 8, ground := Ground.phase }, { on := 9, ground := Ground.phase }, { on := 10, ground := Ground.phase }], guard := none }) rfl (fun Kc hK => ?_) AllReadyH.nil)
          go_simp
          refine hK.out _ _ (HS5.out _ HG1.out) (fun hHeld => ?_)
          clear hK Kc v0 v1 v2 w0 w1' w2' i0 i1 i2 hbe0
          (try simp only [Act.put]); (try simp only [List.setIfInBounds_toArray]); (try simp only [List.set_cons_succ]); (try simp only [List.set_cons_zero])
          refine wpAnyH_done (by kernel_rfl) ?_ _
          have ey := cell3V hbe
          obtain ⟨y0, y1, y2⟩ := ey
          obtain ⟨x1, x2, x3, x4⟩ := HZ.out _ a HG1.out hR1'
          obtain ⟨u0, u1⟩ := cell2 x1
          have u2 := cell1 x2
          have zz := frz x2 0
          obtain ⟨U, hU⟩ : ∃ U, (w1).setCell ⟨(A.heap.size + 1), 0, none⟩ (.pointer (some ⟨a, 0, none⟩)) = U := ⟨_, rfl⟩
          rw [hU] at x3 x4
          have HX := hidM (And.intro x3 x4)
          clear x1 x2 x3 x4
          go_wp2_with fail
          go_roundw
          case rel => exact .inr ⟨by go_num, a, HX⟩
          case measure => simp [intOf]
      · obtain ⟨e0, e1, e2, e3⟩ := HE.out wr a HI.out
        obtain ⟨b0, b1⟩ := cell2 e0
        obtain ⟨r0, r1⟩ := cell2 e1
        have z0 := frz e1 0
        have z1 := frz e1 1
        obtain ⟨U, hU⟩ : ∃ U, setAll wr (W.heap.size + 1) [(0, .int .i64 R), (1, .slice (some ⟨(A.heap.size + 1), 0, none⟩) 1 1)] = U := ⟨_, rfl⟩
        rw [hU] at e2 e3
        simp only [setAll] at hU
        have HE2 := hidM e2
        have HE3 := hidM e3
        clear e0 e1 e2 e3 q0 q1 t0 t1 t2 t3 t4 t5
        go_wp2_with fail
        (try simp only [Exit.inBlock, Exit.then])
        refine bodyPost_ret (results_cell59t rfl rfl (by with_reducible exact HE2.out) (by kernel_rfl)) rfl ?_
        exact ⟨_, a, rfl, HE3.out⟩
end Go.Proofs.YtegjpmodleigeaaGreatDoor.Kit
