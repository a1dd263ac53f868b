import Derived.Test.YtegjpmodleigeaaGreatDoorWT
set_option maxRecDepth 100000
set_option maxHeartbeats 4000000
namespace Go.Proofs.YtegjpmodleigeaaGreatDoor.Kit
open Go.RowKit Go.Shelf Go.Deep
open Go.Proofs.YtegjpmodleigeaaGreatDoor.Kd (Ans AnsV cell5 cell2)
set_option linter.unusedVariables false
set_option linter.unusedSimpArgs false
attribute [local go_sem] run_store_func
attribute [local go_sem] Oper.semAt_some
theorem check7 (W : World) (hT : Tab W) : Calls Tryz.prog 7 #[.agg #[.string ⟨#[97]⟩, .bool false, .int .i64 3, .int .i64 0, .int .i64 0, .int .i64 0, .slice none 0 0]] W fun e w' => ∃ vo vn vc tt, e = .returned (.agg #[.int .i64 0, .slice vo vn vc, .int .i64 tt]) ∧ Gr W w' := by
  obtain ⟨tt, h⟩ := leaf_tells (ao := none) (ca := 0) hT (allR false)
  refine (h W (Keeps.refl _ _)).mono ?_
  rintro e w' ⟨vo, vc, rfl, g, -⟩
  exact ⟨vo, _, vc, tt, rfl, g⟩
theorem check11 (fb fcc : Nat) (W : World) (hT : Tab W) (hc : 1 ≤ fcc) (hf : W.heap[fb]? = some (.cells #[.string nmA, .bool false, .int .i64 3, .int .i64 0, .int .i64 0, .int .i64 0, .slice none 0 0] 27)) : Calls Tryz.prog 11 #[.agg #[.slice (some ⟨fb, 0, none⟩) 1 fcc, .slice none 0 0]] W fun e w' => ∃ vo vn vc tt, e = .returned (.agg #[.int .i64 0, .slice vo vn vc, .int .i64 tt]) ∧ Gr W w' := by
  refine (check_fault (S := fun b => b = fb) (D := 1) (fo := some ⟨fb, 0, none⟩) (no := none) (cf := fcc) (cn := 0) (fs := [leafF nmA false 3]) (ns := []) (w := W) hT (row_leaf rfl hf) hc (by decide) (fun b e => by have e' : b = fb := e; rw [e']; exact lt_of_heap hf) ⟨by decide, fun h => absurd rfl h⟩ W (Keeps.refl _ _)).mono ?_
  rintro e w' ⟨er, vo, vn, vc, tt, rfl, g, p, h1, h2, -⟩
  have hF : FaultIs (listsE 1 []) (nodes 1 [leafF nmA false 3] [] false) 0 [] 0 := .inr (.inl ⟨rfl, allR false, rfl, rfl, rfl⟩)
  obtain ⟨rfl, -, -⟩ := hF.one h2
  exact ⟨vo, vn, vc, tt, rfl, g⟩
theorem DatX.c {w : World} {lb : Nat} {bo : Option Addr} (h : DatX w lb bo [5, 6]) (hT : Tab w) : ∃ qc v2, bo = some ⟨qc, 0, none⟩ ∧ DatC_c w qc v2 2 ∧ lb ≤ qc ∧ lb ≤ v2 := by
  obtain ⟨qb, v2, h0, h1, h2, h3, h4, h5⟩ := h
  exact ⟨qb, v2, h0, ⟨⟨_, _, h3⟩, h4, h5 0 5 (by decide), h5 1 6 (by decide), Nat.le_refl _, hT⟩, h1, h2⟩
def cb2 (c0 c1 x : Nat) : Nat := if x = 0 then c0 else c1
def vs2 (x : Nat) : Int := if x = 0 then 5 else 6
theorem arrays5 (xb xc qa bca va cca qb bcb vb ccb : Nat) (W : World) (hT : Tab W) (hx : W.heap[xb]? = some (.cells #[.int .i64 1, .int .i64 0, .int .i64 0, .slice (some ⟨qa, 0, none⟩) 2 bca, .slice none 0 0, .slice none 0 0, .int .i64 1, .int .i64 1, .int .i64 0, .slice (some ⟨qb, 0, none⟩) 2 bcb, .slice none 0 0, .slice none 0 0] 32)) (hc : 2 ≤ xc) (hDa : DatC_a W qa va cca) (hDb : DatC_b W qb vb ccb) :
    Calls Tryz.prog 5 #[.agg #[.string ⟨#[97]⟩, .bool false, .int .i64 3, .int .i64 0, .int .i64 0, .int .i64 0, .slice none 0 0], .slice (some ⟨xb, 0, none⟩) 2 xc] W fun e w' => ∃ qc bc v2, e = .returned (.tuple #[.agg #[.int .i64 2, .int .i64 0, .int .i64 0, .slice (some ⟨qc, 0, none⟩) 2 bc, .slice none 0 0, .slice none 0 0], .int .i64 0]) ∧ Gr W w' ∧ DatC_c w' qc v2 2 := by
  obtain ⟨z, hz⟩ : ∃ z, W.heap.size = z := ⟨_, rfl⟩
  obtain ⟨A1, hA1⟩ : ∃ A, W.alloc (.cells #[.string ⟨#[97]⟩, .bool false, .int .i64 3, .int .i64 0, .int .i64 0, .int .i64 0, .slice none 0 0] 27) = A := ⟨_, rfl⟩
  have g1 : Gr W A1 := by rw [← hA1]; exact gr_alloc W _
  have s1 : A1.heap.size = z + 1 := by rw [← hA1, ← hz]; simp
  have b1 : A1.heap[z]? = some (.cells #[.string ⟨#[97]⟩, .bool false, .int .i64 3, .int .i64 0, .int .i64 0, .int .i64 0, .slice none 0 0] 27) := by rw [← hA1, ← hz]; exact heap_alloc_new W _
  obtain ⟨A2, hA2⟩ : ∃ A, A1.alloc (.cells #[.int .i64 0, .int .i64 0, .int .i64 0, .slice none 0 0, .slice none 0 0, .slice none 0 0] 32) = A := ⟨_, rfl⟩
  have g2 : Gr A1 A2 := by rw [← hA2]; exact gr_alloc A1 _
  have s2 : A2.heap.size = z + 2 := by rw [← hA2]; simp [s1]
  have b2 : A2.heap[z + 1]? = some (.cells #[.int .i64 0, .int .i64 0, .int .i64 0, .slice none 0 0, .slice none 0 0, .slice none 0 0] 32) := by rw [← hA2, ← s1]; exact heap_alloc_new A1 _
  have gW : Gr W A2 := g1.trans g2 (fun _ _ h => h)
  have b12 := (g2.block _ (lt_of_heap b1) id).trans b1
  have lva := block_lt_of_cell hDa.x0
  have lvb := block_lt_of_cell hDb.x0
  simp only at lva lvb
  have HF : Hid (∀ u, Gr A2 u → u.cell? ⟨z, 0, none⟩ = some (.string ⟨#[97]⟩) ∧ u.cell? ⟨z, 1, none⟩ = some (.bool false) ∧ u.cell? ⟨z, 2, none⟩ = some (.int .i64 3) ∧ u.cell? ⟨z, 3, none⟩ = some (.int .i64 0) ∧ u.cell? ⟨z, 4, none⟩ = some (.int .i64 0) ∧ u.cell? ⟨z, 5, none⟩ = some (.int .i64 0) ∧ u.cell? ⟨z, 6, none⟩ = some (.slice none 0 0)) := fun u g => by
    have h := (g.block _ (lt_of_heap b12) id).trans b12
    refine ⟨?_, ?_, ?_, ?_, ?_, ?_, ?_⟩ <;> simp [World.cell?, h]
  have H7 := hidM (check7 A2 (hT.gr gW))
  have H8 : Hid (∀ u B1, Gr A2 u → u.alloc (.cells #[.string ⟨#[97]⟩, .bool false, .int .i64 3, .int .i64 0, .int .i64 0, .int .i64 0, .slice none 0 0] 27) = B1 → Calls Tryz.prog 8 #[.slice (some ⟨u.heap.size, 0, none⟩) 1 1, .slice (some ⟨xb, 0, none⟩) 2 xc] B1 fun e w2 => ∃ cb0 a0 cb1 a1, e = .returned (.tuple #[.slice (some ⟨B1.heap.size, 0, none⟩) 2 2, .int .i64 0]) ∧ Hid (Gr A2 w2 ∧ St2 B1 w2 B1.heap.size cb0 a0 cb1 a1 ∧ w2.heap[u.heap.size]? = some (.cells #[.string nmA, .bool false, .int .i64 3, .int .i64 0, .int .i64 0, .int .i64 0, .slice none 0 0] 27))) := fun u B1 g hB => by
    have gB : Gr u B1 := by rw [← hB]; exact gr_alloc u _
    have bB : B1.heap[u.heap.size]? = some (.cells #[.string nmA, .bool false, .int .i64 3, .int .i64 0, .int .i64 0, .int .i64 0, .slice none 0 0] 27) := by rw [← hB]; exact heap_alloc_new u _
    have gWB := (gW.trans g (fun _ _ h => h)).trans gB (fun _ _ h => h)
    have lWB := gWB.size
    refine (openedArrays8 u.heap.size 1 xb xc none 0 qa bca va cca qb bcb vb ccb B1 bB ((gWB.block _ (lt_of_heap hx) id).trans hx) hc (hDa.gr gWB) (hDb.gr gWB) (by omega) (by omega)).mono ?_
    rintro e w2 ⟨cb0, a0, cb1, a1, rfl, h⟩
    exact ⟨cb0, a0, cb1, a1, rfl, (g.trans gB (fun _ _ h => h)).trans h.1 (fun _ _ h => h), h, (h.1.block _ (lt_of_heap bB) id).trans bB⟩
  have H9 : Hid (∀ w2 w3 fb P cb0 a0 cb1 a1 B1, Gr A2 w2 → St2 B1 w2 P cb0 a0 cb1 a1 → w2.heap[fb]? = some (.cells #[.string nmA, .bool false, .int .i64 3, .int .i64 0, .int .i64 0, .int .i64 0, .slice none 0 0] 27) → w2.alloc (.cells #[.slice (some ⟨P, 0, none⟩) 2 2] 48) = w3 → Calls Tryz.prog 9 #[.slice (some ⟨fb, 0, none⟩) 1 1, .func (.func 21) #[] #[.pointer (some ⟨w2.heap.size, 0, none⟩)]] w3 fun e w4 => ∃ db qc bc v2, e = .returned (.tuple #[.agg #[.int .i64 2, .slice (some ⟨db, 0, none⟩) 1 1], .int .i64 0]) ∧ Hid (Gr A2 w4 ∧ w4.heap[db]? = some (.cells #[.int .i64 2, .int .i64 0, .int .i64 0, .slice (some ⟨qc, 0, none⟩) 2 bc, .slice none 0 0, .slice none 0 0] 32) ∧ DatC_c w4 qc v2 2 ∧ z + 2 ≤ qc ∧ z + 2 ≤ v2)) := fun w2 w3 fb P cb0 a0 cb1 a1 B1 g hs hf hw => by
    obtain ⟨-, hp, hc1, ⟨h1, -, r1⟩, hc0, h0, -, r0⟩ := hs
    have g3 : Gr w2 w3 := by rw [← hw]; exact gr_alloc w2 _
    have b3 : w3.heap[w2.heap.size]? = some (.cells #[.slice (some ⟨P, 0, none⟩) 2 2] 48) := by rw [← hw]; exact heap_alloc_new w2 _
    have gA3 := g.trans g3 (fun _ _ h => h)
    have gW3 := gW.trans gA3 (fun _ _ h => h)
    have lA3 := gA3.size
    have p3 := (g3.block _ (lt_of_heap hp) id).trans hp
    have c0 := cell1 ((g3.block _ (lt_of_heap hc0) id).trans hc0)
    have c1 := cell1 ((g3.block _ (lt_of_heap hc1) id).trans hc1)
    have G0 := r0.get0.gr g3
    have G1 := r1.get0.gr g3
    refine (laid9 (cb2 cb0 cb1) (fun _ => 1) (fun _ => 0) (cb2 a0 a1) vs2 21 #[.pointer (some ⟨w2.heap.size, 0, none⟩)] (Sj w2.heap.size P) fb 1 none 0 w3 (enters_of Tryz.func21 (by kernel_rfl) rfl) (hT.gr gW3) ((g3.block _ (lt_of_heap hf) id).trans hf) (fun x hx => ?_) (fun x hx => ?_) (fun x hx => ?_) (fun b hb => ?_) (fun u gu => ?_)).mono ?_
    · have : x = 0 ∨ x = 1 := by omega
      rcases this with rfl | rfl
      · exact G0
      · exact G1
    · have : x = 0 ∨ x = 1 := by omega
      rcases this with rfl | rfl
      · exact c0
      · exact c1
    · have : x = 0 ∨ x = 1 := by omega
      rcases this with rfl | rfl
      · decide
      · decide
    · rcases hb with e | e
      · rw [e]; exact lt_of_heap b3
      · rw [e]; exact lt_of_heap p3
    · exact seq21 9 w2.heap.size P 2 cb0 cb1 (by decide) _ rfl rfl u ((gu.block _ (lt_of_heap b3) id).trans b3) ((gu.block _ (lt_of_heap p3) id).trans p3) (Nat.le_refl _)
    · rintro e w4 ⟨db, bo, bc, rfl, g4, hdb, hX⟩
      have gA4 := gA3.trans g4 (fun _ _ h => h)
      have hX' : DatX w4 w3.heap.size bo [5, 6] := hX
      obtain ⟨qc, v2, rfl, hD, l1, l2⟩ := hX'.c (hT.gr (gW.trans gA4 (fun _ _ h => h)))
      exact ⟨db, qc, bc, v2, rfl, gA4, hdb, hD, by omega, by omega⟩
  have HE : Hid (∀ w4 w5 db qc bc v2, Gr A2 w4 → w4.heap[db]? = some (.cells #[.int .i64 2, .int .i64 0, .int .i64 0, .slice (some ⟨qc, 0, none⟩) 2 bc, .slice none 0 0, .slice none 0 0] 32) → DatC_c w4 qc v2 2 → z + 2 ≤ qc → z + 2 ≤ v2 → w4.alloc (.cells #[.int .i64 2, .slice (some ⟨db, 0, none⟩) 1 1] 43) = w5 → w5.heap[w4.heap.size]? = some (.cells #[.int .i64 2, .slice (some ⟨db, 0, none⟩) 1 1] 43) ∧ w5.heap[db]? = some (.cells #[.int .i64 2, .int .i64 0, .int .i64 0, .slice (some ⟨qc, 0, none⟩) 2 bc, .slice none 0 0, .slice none 0 0] 32) ∧ w5.heap[z + 1]? = some (.cells #[.int .i64 0, .int .i64 0, .int .i64 0, .slice none 0 0, .slice none 0 0, .slice none 0 0] 32) ∧ (setAll w5 (z + 1) [(0, .int .i64 2), (1, .int .i64 0), (2, .int .i64 0), (3, .slice (some ⟨qc, 0, none⟩) 2 bc), (4, .slice none 0 0), (5, .slice none 0 0)]).heap[z + 1]? = some (.cells #[.int .i64 2, .int .i64 0, .int .i64 0, .slice (some ⟨qc, 0, none⟩) 2 bc, .slice none 0 0, .slice none 0 0] 32) ∧ Gr W (setAll w5 (z + 1) [(0, .int .i64 2), (1, .int .i64 0), (2, .int .i64 0), (3, .slice (some ⟨qc, 0, none⟩) 2 bc), (4, .slice none 0 0), (5, .slice none 0 0)]) ∧ DatC_c (setAll w5 (z + 1) [(0, .int .i64 2), (1, .int .i64 0), (2, .int .i64 0), (3, .slice (some ⟨qc, 0, none⟩) 2 bc), (4, .slice none 0 0), (5, .slice none 0 0)]) qc v2 2) := fun w4 w5 db qc bc v2 g hdb hD l1 l2 hw => by
    have g5 : Gr w4 w5 := by rw [← hw]; exact gr_alloc w4 _
    have b5 : w5.heap[w4.heap.size]? = some (.cells #[.int .i64 2, .slice (some ⟨db, 0, none⟩) 1 1] 43) := by rw [← hw]; exact heap_alloc_new w4 _
    have gA5 := g.trans g5 (fun _ _ h => h)
    have z5 := (gA5.block _ (lt_of_heap b2) id).trans b2
    have ks := setAll_kp (z + 1) [(0, .int .i64 2), (1, .int .i64 0), (2, .int .i64 0), (3, .slice (some ⟨qc, 0, none⟩) 2 bc), (4, .slice none 0 0), (5, .slice none 0 0)] w5
    have kb := setAll_blk (z + 1) 32 [(0, .int .i64 2), (1, .int .i64 0), (2, .int .i64 0), (3, .slice (some ⟨qc, 0, none⟩) 2 bc), (4, .slice none 0 0), (5, .slice none 0 0)] w5 _ z5
    have D5 := hD.gr g5
    have no : ∀ b, z + 2 ≤ b → ¬ ((fun b => b = z + 1) b) := fun b h e => by have e' : b = z + 1 := e; omega
    have gWU : Gr W (setAll w5 (z + 1) [(0, .int .i64 2), (1, .int .i64 0), (2, .int .i64 0), (3, .slice (some ⟨qc, 0, none⟩) 2 bc), (4, .slice none 0 0), (5, .slice none 0 0)]) := (gW.trans gA5 (fun _ _ h => h)).trans ks (fun j hj e => by have e' : j = z + 1 := e; omega)
    refine ⟨b5, (g5.block _ (lt_of_heap hdb) id).trans hdb, z5, kb, gWU, ⟨D5.b0.imp fun _ h => h.imp fun _ h => ks.cell' h (no qc l1), ks.cell' D5.b1 (no qc l1), ks.cell' D5.x0 (no v2 l2), ks.cell' D5.x1 (no v2 l2), D5.n2, hT.gr gWU⟩⟩
  obtain ⟨f0, f1, f2, f3, f4, f5, f6⟩ := HF.out A2 (Keeps.refl _ _)
  clear hT hx hc hDa hDb g1 b1 g2 b2 gW b12 lva lvb s2
  have hfl : ∀ (tt : Int) vo vn vc w, (Instr.field 46 (.agg #[.int .i64 0, .slice vo vn vc, .int .i64 tt]) 0).run Tryz.prog w = .ok (.int .i64 0) w := fun tt vo vn vc w => by kernel_rfl
  go_enter Tryz.func5, Tryz.ntmps5
  go_wp2_with (first
    | (go_at_call 7; refine H7.out.mono ?_; rintro e w1 ⟨vo, vn, vc, tt, rfl, gw1⟩; clear f0 f1 f2 f3 f4 f5 f6; obtain ⟨f0, f1, f2, f3, f4, f5, f6⟩ := HF.out w1 gw1; obtain ⟨B1, hB1⟩ : ∃ B1, w1.alloc (.cells #[.string ⟨#[97]⟩, .bool false, .int .i64 3, .int .i64 0, .int .i64 0, .int .i64 0, .slice none 0 0] 27) = B1 := ⟨_, rfl⟩; have H8' := hidM (H8.out w1 B1 gw1 hB1))
    | (go_at_call 8; clear f0 f1 f2 f3 f4 f5 f6; refine H8'.out.mono ?_; rintro e w2 ⟨cb0, a0, cb1, a1, rfl, HS8⟩; have H10 := hidM (joined10 (some ⟨B1.heap.size, 0, none⟩) 2 2 w2); obtain ⟨w3, hw3⟩ : ∃ w3, w2.alloc (.cells #[.slice (some ⟨B1.heap.size, 0, none⟩) 2 2] 48) = w3 := ⟨_, rfl⟩; have H9' := hidM (H9.out w2 w3 w1.heap.size B1.heap.size cb0 a0 cb1 a1 B1 HS8.out.1 HS8.out.2.1 HS8.out.2.2 hw3))
    | (go_at_call 10; refine H10.out.mono ?_; rintro e w3' ⟨rfl, hw3'⟩; rw [hw3] at hw3'; subst hw3')
    | (go_at_call 9; refine H9'.out.mono ?_; rintro e w4 ⟨db, qc, bc, v2, rfl, HS9⟩; obtain ⟨w5, hw5⟩ : ∃ w5, w4.alloc (.cells #[.int .i64 2, .slice (some ⟨db, 0, none⟩) 1 1] 43) = w5 := ⟨_, rfl⟩; obtain ⟨e1, e2, e3, e4, e5, e6⟩ := HE.out w4 w5 db qc bc v2 HS9.out.1 HS9.out.2.1 HS9.out.2.2.1 HS9.out.2.2.2.1 HS9.out.2.2.2.2 hw5; obtain ⟨k0, k1⟩ := cell2 e1; obtain ⟨d0, d1, d2, d3, d4, d5⟩ := cell6 e2; obtain ⟨t0, t1, t2, t3, t4, t5⟩ := cell6 e3; have z0 := frz e3 0; have z1 := frz e3 1; have z2 := frz e3 2; have z3 := frz e3 3; have z4 := frz e3 4; have z5 := frz e3 5; obtain ⟨U, hU⟩ : ∃ U, setAll w5 (z + 1) [(0, .int .i64 2), (1, .int .i64 0), (2, .int .i64 0), (3, .slice (some ⟨qc, 0, none⟩) 2 bc), (4, .slice none 0 0), (5, .slice none 0 0)] = U := ⟨_, rfl⟩; rw [hU] at e4 e5 e6; simp only [setAll] at hU; have HU := hidM (And.intro e4 (And.intro e5 e6)); clear e1 e2 e3 e4 e5 e6 hw3))
  (try simp only [Exit.inBlock, Exit.then])
  refine bodyPost_ret (results_cell31t rfl rfl (by with_reducible exact HU.out.1) (by kernel_rfl)) rfl ?_
  exact ⟨qc, bc, v2, rfl, HU.out.2.1, HU.out.2.2⟩
end Go.Proofs.YtegjpmodleigeaaGreatDoor.Kit
namespace Go.Proofs.YtegjpmodleigeaaGreatDoor.Kit
open Go.RowKit Go.Shelf Go.Deep
open Go.Proofs.YtegjpmodleigeaaGreatDoor.Kd (Ans AnsV cell5 cell2)
set_option linter.unusedVariables false
set_option linter.unusedSimpArgs false
attribute [local go_sem] run_store_func
attribute [local go_sem] Oper.semAt_some
theorem cut6 (fb xb qc bc v2 : Nat) (W : World) (hT : Tab W) (hf : W.heap[fb]? = some (.cells #[.string nmA, .bool false, .int .i64 3, .int .i64 0, .int .i64 0, .int .i64 0, .slice none 0 0] 27)) (hx : W.heap[xb]? = some (.cells #[.int .i64 2, .int .i64 0, .int .i64 0, .slice (some ⟨qc, 0, none⟩) 2 bc, .slice none 0 0, .slice none 0 0] 32)) (hD : DatC_c W qc v2 2) :
    Calls Tryz.prog 6 #[.agg #[.slice (some ⟨fb, 0, none⟩) 1 1, .slice none 0 0], .agg #[.int .i64 2, .slice (some ⟨xb, 0, none⟩) 1 1], .int .i64 1] W fun e w' => ∃ lb lc, e = .returned (.tuple #[.slice (some ⟨lb, 0, none⟩) 2 lc, .int .i64 0]) ∧ Gr W w' ∧ 2 ≤ lc ∧ w'.cell? ⟨lb, 2, none⟩ = some (.int .i64 1) := by
  obtain ⟨z, hz⟩ : ∃ z, W.heap.size = z := ⟨_, rfl⟩
  obtain ⟨A1, hA1⟩ : ∃ A, W.alloc (.cells #[.slice (some ⟨fb, 0, none⟩) 1 1, .slice none 0 0] 38) = A := ⟨_, rfl⟩
  have g1 : Gr W A1 := by rw [← hA1]; exact gr_alloc W _
  have s1 : A1.heap.size = z + 1 := by rw [← hA1, ← hz]; simp
  have b1 : A1.heap[z]? = some (.cells #[.slice (some ⟨fb, 0, none⟩) 1 1, .slice none 0 0] 38) := by rw [← hA1, ← hz]; exact heap_alloc_new W _
  obtain ⟨A2, hA2⟩ : ∃ A, A1.alloc (.cells #[.int .i64 2, .slice (some ⟨xb, 0, none⟩) 1 1] 43) = A := ⟨_, rfl⟩
  have g2 : Gr A1 A2 := by rw [← hA2]; exact gr_alloc A1 _
  have b2 : A2.heap[z + 1]? = some (.cells #[.int .i64 2, .slice (some ⟨xb, 0, none⟩) 1 1] 43) := by rw [← hA2, ← s1]; exact heap_alloc_new A1 _
  have gW : Gr W A2 := g1.trans g2 (fun _ _ h => h)
  have b12 := (g2.block _ (lt_of_heap b1) id).trans b1
  have HBx : Hid (∀ u, Gr A2 u → (u.cell? ⟨z, 0, none⟩ = some (.slice (some ⟨fb, 0, none⟩) 1 1) ∧ u.cell? ⟨z, 1, none⟩ = some (.slice none 0 0)) ∧ (u.cell? ⟨z + 1, 0, none⟩ = some (.int .i64 2) ∧ u.cell? ⟨z + 1, 1, none⟩ = some (.slice (some ⟨xb, 0, none⟩) 1 1))) := fun u g => ⟨cell2 ((g.block _ (lt_of_heap b12) id).trans b12), cell2 ((g.block _ (lt_of_heap b2) id).trans b2)⟩
  have lv := block_lt_of_cell hD.x0
  simp only at lv
  have H11 := hidM (check11 fb 1 A2 (hT.gr gW) (Nat.le_refl _) ((gW.block _ (lt_of_heap hf) id).trans hf))
  have H12 : Hid (∀ u, Gr A2 u → Calls Tryz.prog 12 #[.slice (some ⟨fb, 0, none⟩) 1 1, .agg #[.int .i64 2, .slice (some ⟨xb, 0, none⟩) 1 1]] u fun e w2 => ∃ cb a, e = .returned (.tuple #[.agg #[.int .i64 2, .slice (some ⟨cb, 0, none⟩) 1 1], .int .i64 0]) ∧ Hid (Gr A2 w2 ∧ w2.heap[cb]? = some (.cells #[.pointer (some ⟨a, 0, none⟩)] 79) ∧ GetA w2 a 0 5 ∧ GetA w2 a 1 6)) := fun u g => by
    have gu := gW.trans g (fun _ _ h => h)
    have lu := gu.size
    refine (openedBatch12 fb 1 xb 1 none 0 qc bc v2 2 u ((gu.block _ (lt_of_heap hf) id).trans hf) ((gu.block _ (lt_of_heap hx) id).trans hx) (hD.gr gu) (by omega)).mono ?_
    rintro e w2 ⟨cb, a, rfl, g2, h1, h2, h3⟩
    exact ⟨cb, a, rfl, g.trans g2 (fun _ _ h => h), h1, h2, h3⟩
  have H14 : Hid (∀ w2 w3 w4 cb a, Gr A2 w2 → w2.heap[cb]? = some (.cells #[.pointer (some ⟨a, 0, none⟩)] 79) → GetA w2 a 0 5 → GetA w2 a 1 6 → Gr w2 w3 → w3.alloc (.cells #[.int .i64 2, .slice (some ⟨cb, 0, none⟩) 1 1] 59) = w4 → Calls Tryz.prog 14 #[.slice (some ⟨fb, 0, none⟩) 1 1, .func (.func 24) #[] #[.pointer (some ⟨w3.heap.size, 0, none⟩)], .int .i64 1] w4 fun e w5 => ∃ lb lc, e = .returned (.tuple #[.slice (some ⟨lb, 0, none⟩) 2 lc, .int .i64 0]) ∧ Gr w4 w5 ∧ 2 ≤ lc ∧ w5.cell? ⟨lb, 2, none⟩ = some (.int .i64 1)) := fun w2 w3 w4 cb a g hcb G0 G1 g3 hw => by
    have g4 : Gr w3 w4 := by rw [← hw]; exact gr_alloc w3 _
    have b4 : w4.heap[w3.heap.size]? = some (.cells #[.int .i64 2, .slice (some ⟨cb, 0, none⟩) 1 1] 59) := by rw [← hw]; exact heap_alloc_new w3 _
    have g24 := g3.trans g4 (fun _ _ h => h)
    have gW4 := (gW.trans g (fun _ _ h => h)).trans g24 (fun _ _ h => h)
    have c4 := cell1 ((g24.block _ (lt_of_heap hcb) id).trans hcb)
    refine pieces14 (fun _ => cb) (fun _ => 1) (fun x => x) (fun _ => a) vs2 24 #[.pointer (some ⟨w3.heap.size, 0, none⟩)] (fun b => b = w3.heap.size) fb 1 none 0 w4 (enters_of Tryz.func24 (by kernel_rfl) rfl) (hT.gr gW4) ((gW4.block _ (lt_of_heap hf) id).trans hf) (fun x hx => ?_) (fun x hx => c4) (fun x hx => ?_) (fun b hb => ?_) (fun u gu => ?_)
    · have : x = 0 ∨ x = 1 := by omega
      rcases this with rfl | rfl
      · exact G0.gr g24
      · exact G1.gr g24
    · have : x = 0 ∨ x = 1 := by omega
      rcases this with rfl | rfl
      · decide
      · decide
    · have e' : b = w3.heap.size := hb
      rw [e']
      exact lt_of_heap b4
    · exact seq24 9 w3.heap.size 2 cb 1 u ((gu.block _ (lt_of_heap b4) id).trans b4) (by decide)
  obtain ⟨⟨f0, f1⟩, f2, f3⟩ := HBx.out A2 (Keeps.refl _ _)
  have hfl : ∀ (tt : Int) vo vn vc w, (Instr.field 46 (.agg #[.int .i64 0, .slice vo vn vc, .int .i64 tt]) 0).run Tryz.prog w = .ok (.int .i64 0) w := fun tt vo vn vc w => by kernel_rfl
  clear hT hf hx hD g1 b1 g2 b2 b12 lv
  have HGW := hidM gW
  clear gW
  go_enter Tryz.func6, Tryz.ntmps6
  go_wp2_with (first
    | (go_at_call 11; refine H11.out.mono ?_; rintro e w1 ⟨vo, vn, vc, tt, rfl, gw1⟩; clear f0 f1 f2 f3; obtain ⟨⟨f0, f1⟩, f2, f3⟩ := HBx.out w1 gw1; have H12' := hidM (H12.out w1 gw1); clear gw1)
    | (go_at_call 12; refine H12'.out.mono ?_; rintro e w2 ⟨cb, a, rfl, HS⟩; obtain ⟨w3, hw3⟩ : ∃ w3, w2.alloc (.cells #[.int .i64 2, .slice (some ⟨cb, 0, none⟩) 1 1] 59) = w3 := ⟨_, rfl⟩; have g3 : Gr w2 w3 := (by rw [← hw3]; exact gr_alloc w2 _); have bp : w3.heap[w2.heap.size]? = some (.cells #[.int .i64 2, .slice (some ⟨cb, 0, none⟩) 1 1] 59) := (by rw [← hw3]; exact heap_alloc_new w2 _); have gA3 := HS.out.1.trans g3 (fun _ _ h => h); clear f0 f1 f2 f3; obtain ⟨⟨f0, f1⟩, f2, f3⟩ := HBx.out w3 gA3; obtain ⟨p0, p1⟩ := cell2 bp; have HG3 := hidM (And.intro g3 (And.intro gA3 bp)); clear g3 gA3 bp H12')
    | (go_at_call 13; refine (tooMany13 _).mono ?_; rintro e w3' ⟨rfl, hw⟩; have hw2 := hw.symm; clear hw; subst hw2))
  obtain ⟨g3, gA3, bp⟩ := HG3.out
  have HC : Hid (∀ u, Gr w3 u → u.cell? ⟨z, 0, none⟩ = some (.slice (some ⟨fb, 0, none⟩) 1 1) ∧ u.cell? ⟨w2.heap.size, 0, none⟩ = some (.int .i64 2) ∧ u.cell? ⟨w2.heap.size, 1, none⟩ = some (.slice (some ⟨cb, 0, none⟩) 1 1)) := fun u g => ⟨(HBx.out u (gA3.trans g (fun _ _ h => h))).1.1, cell2 ((g.block _ (lt_of_heap bp) id).trans bp)⟩
  obtain ⟨wd, hwd⟩ : ∃ wd, w3.drew = wd := ⟨_, rfl⟩
  obtain ⟨W4, hW4⟩ : ∃ W4, wd.alloc (.cells #[.int .i64 2, .slice (some ⟨cb, 0, none⟩) 1 1] 59) = W4 := ⟨_, rfl⟩
  have gd : Gr w3 wd := by rw [← hwd]; exact gr_drew
  have g4 : Gr wd W4 := by rw [← hW4]; exact gr_alloc wd _
  have HG4 := hidM (gd.trans g4 (fun _ _ h => h))
  have H15 : Hid (Calls Tryz.prog 15 #[.agg #[.int .i64 2, .slice (some ⟨cb, 0, none⟩) 1 1]] wd fun e w' => e = .returned (.func (.func 24) #[] #[.pointer (some ⟨wd.heap.size, 0, none⟩)]) ∧ w' = W4) := by
    have h := all15 2 cb 1 wd
    rw [← hW4]
    exact h
  have H14' := hidM (H14.out w2 wd W4 cb a HS.out.1 HS.out.2.1 HS.out.2.2.1 HS.out.2.2.2 (g3.trans gd (fun _ _ h => h)) hW4)
  have HGf : Hid (Gr W w3) := HGW.out.trans gA3 (fun _ _ h => h)
  clear g3 gA3 bp gd g4 hW4 f0 f1 f2 f3 p0 p1 hw3 H14 H12 H11 HBx HG3 HS
  refine wp_region_held_drew (S := fun w' => w'.cell? ⟨z, 0, none⟩ = some (.slice (some ⟨fb, 0, none⟩) 1 1) ∧ w'.cell? ⟨w2.heap.size, 0, none⟩ = some (.int .i64 2) ∧ w'.cell? ⟨w2.heap.size, 1, none⟩ = some (.slice (some ⟨cb, 0, none⟩) 1 1)) (by kernel_rfl) (HC.out _ gr_drew) (fun hHeld => ?_)
  rw [hwd] at hHeld ⊢
  refine wpAnyH_take (i := 0) (oi := { dst := some 30, op := Op.fieldAddr 38 (Operand.tmp 3) 0, type := 0, pos := "weld.go:72", after := #[], guard := none }) (v := ?v0a1) rfl (by kernel_rfl) (by kernel_rfl) (by kernel_rfl) (fun _ _ _ h => h) (Or.inl ⟨by rfl, ?y0a1⟩) (by assumption) ?r0a1
  case y0a1 => (intro w hSw; obtain ⟨s0, s1, s2⟩ := hSw; go_simp; (try with_reducible rfl))
  (try simp only [Act.put]); (try simp only [List.setIfInBounds_toArray]); (try simp only [List.set_cons_succ]); (try simp only [List.set_cons_zero])
  refine wpAnyH_take (i := 1) (oi := { dst := some 31, op := Op.load 23 (Operand.tmp 30), type := 23, pos := "weld.go:72", after := #[{ on := 0, ground := Ground.data }], guard := none }) (v := ?v1a2) rfl (by kernel_rfl) (by kernel_rfl) (by kernel_rfl) (fun _ _ _ h => h) (Or.inl ⟨by rfl, ?y1a2⟩) (by assumption) ?r1a2
  case y1a2 => (intro w hSw; obtain ⟨s0, s1, s2⟩ := hSw; go_simp; (try with_reducible rfl))
  (try simp only [Act.put]); (try simp only [List.setIfInBounds_toArray]); (try simp only [List.set_cons_succ]); (try simp only [List.set_cons_zero])
  refine wpAnyH_take (i := 2) (oi := { dst := some 32, op := Op.load 59 (Operand.tmp 8), type := 59, pos := "weld.go:72", after := #[], guard := none }) (v := ?v2a3) rfl (by kernel_rfl) (by kernel_rfl) (by kernel_rfl) (fun _ _ _ h => h) (Or.inl ⟨by rfl, ?y2a3⟩) (by assumption) ?r2a3
  case y2a3 => (intro w hSw; obtain ⟨s0, s1, s2⟩ := hSw; go_simp; (try with_reducible rfl))
  (try simp only [Act.put]); (try simp only [List.setIfInBounds_toArray]); (try simp only [List.set_cons_succ]); (try simp only [List.set_cons_zero])
  refine wpAnyH_take (i := 4) (oi := { dst := some 34, op := Op.move (Operand.tmp 2), type := 3, pos := "weld.go:72", after := #[], guard := none }) (v := ?v4a4) rfl (by kernel_rfl) (by kernel_rfl) (by kernel_rfl) (fun _ _ _ h => h) (Or.inl ⟨by rfl, ?y4a4⟩) (by assumption) ?r4a4
  case y4a4 => (intro w hSw; obtain ⟨s0, s1, s2⟩ := hSw; go_simp; (try with_reducible rfl))
  (try simp only [Act.put]); (try simp only [List.setIfInBounds_toArray]); (try simp only [List.set_cons_succ]); (try simp only [List.set_cons_zero])
  refine wpAnyH_ready (rs := [3]) (by kernel_rfl) (by simp) ?_
  refine (AllReadyH.cons (o := { dst := some 33, op := Op.call { callee := Callee.value (Operand.func 15), args := #[Operand.tmp 32], argTypes := #[59] }, type := 54, pos := "weld.go:72", after := #[{ on := 2, ground := Ground.data }], guard := none }) rfl (fun Kc hK => ?_) AllReadyH.nil)
  go_simp
  go_at_call 15
  refine Calls.mono H15.out ?_
  rintro e' w4 ⟨rfl, hw4⟩
  have hw5 := hw4.symm
  clear hw4
  subst hw5
  go_wp2_with fail
  refine hK.out _ _ (HC.out _ HG4.out) (fun hHeld => ?_)
  clear hK Kc
  (try simp only [Act.put]); (try simp only [List.setIfInBounds_toArray]); (try simp only [List.set_cons_succ]); (try simp only [List.set_cons_zero])
  refine wpAnyH_ready (rs := [5]) (by kernel_rfl) (by simp) ?_
  refine (AllReadyH.cons (o := { dst := some 35, op := Op.call { callee := Callee.value (Operand.func 14), args := #[Operand.tmp 31, Operand.tmp 33, Operand.tmp 34], argTypes := #[23, 54, 3] }, type := 40, pos := "weld.go:72", after := #[{ on := 1, ground := Ground.data }, { on := 3, ground := Ground.data }, { on := 4, ground := Ground.data }, { on := 3, ground := Ground.chain }], guard := none }) rfl (fun Kc hK => ?_) AllReadyH.nil)
  go_simp
  go_at_call 14
  refine Calls.mono H14'.out ?_
  rintro e' w5 ⟨lb, lc, rfl, g5, hlc, hl⟩
  have HG5 := hidM (HG4.out.trans g5 (fun _ _ h => h))
  have HE := hidM (And.intro g5 hl)
  have HLc := hidM hlc
  clear g5 hl hlc
  go_wp2_with fail
  refine hK.out _ _ (HC.out _ HG5.out) (fun hHeld => ?_)
  clear hK Kc
  (try simp only [Act.put]); (try simp only [List.setIfInBounds_toArray]); (try simp only [List.set_cons_succ]); (try simp only [List.set_cons_zero])
  refine wpAnyH_take (i := 6) (oi := { dst := some 36, op := Op.extract (Operand.tmp 35) 0, type := 39, pos := "weld.go:72", after := #[{ on := 5, ground := Ground.data }], guard := none }) (v := ?v6b1) rfl (by kernel_rfl) (by kernel_rfl) (by kernel_rfl) (fun _ _ _ h => h) (Or.inl ⟨by rfl, ?y6b1⟩) (by assumption) ?r6b1
  case y6b1 => (intro w hSw; obtain ⟨s0, s1, s2⟩ := hSw; go_simp; (try with_reducible rfl))
  (try simp only [Act.put]); (try simp only [List.setIfInBounds_toArray]); (try simp only [List.set_cons_succ]); (try simp only [List.set_cons_zero])
  refine wpAnyH_take (i := 7) (oi := { dst := some 37, op := Op.extract (Operand.tmp 35) 1, type := 33, pos := "weld.go:72", after := #[{ on := 5, ground := Ground.data }], guard := none }) (v := ?v7b2) rfl (by kernel_rfl) (by kernel_rfl) (by kernel_rfl) (fun _ _ _ h => h) (Or.inl ⟨by rfl, ?y7b2⟩) (by assumption) ?r7b2
  case y7b2 => (intro w hSw; obtain ⟨s0, s1, s2⟩ := hSw; go_simp; (try with_reducible rfl))
  (try simp only [Act.put]); (try simp only [List.setIfInBounds_toArray]); (try simp only [List.set_cons_succ]); (try simp only [List.set_cons_zero])
  refine wpAnyH_take (i := 8) (oi := { dst := some 6, op := Op.assign (Operand.tmp 36), type := 39, pos := "weld.go:72", after := #[{ on := 6, ground := Ground.data }, { on := 5, ground := Ground.chain }, { on := 0, ground := Ground.phase }, { on := 1, ground := Ground.phase }, { on := 2, ground := Ground.phase }, { on := 3, ground := Ground.phase }, { on := 4, ground := Ground.phase }, { on := 5, ground := Ground.phase }, { on := 6, ground := Ground.phase }, { on := 7, ground := Ground.phase }], guard := none }) (v := ?v8b3) rfl (by kernel_rfl) (by kernel_rfl) (by kernel_rfl) (fun _ _ _ h => h) (Or.inl ⟨by rfl, ?y8b3⟩) (by assumption) ?r8b3
  case y8b3 => (intro w hSw; obtain ⟨s0, s1, s2⟩ := hSw; go_simp; (try with_reducible rfl))
  (try simp only [Act.put]); (try simp only [List.setIfInBounds_toArray]); (try simp only [List.set_cons_succ]); (try simp only [List.set_cons_zero])
  refine wpAnyH_take (i := 9) (oi := { dst := some 7, op := Op.assign (Operand.tmp 37), type := 33, pos := "weld.go:72", after := #[{ on := 7, ground := Ground.data }, { on := 8, ground := Ground.chain }, { on := 0, ground := Ground.phase }, { on := 1, ground := Ground.phase }, { on := 2, ground := Ground.phase }, { on := 3, ground := Ground.phase }, { on := 4, ground := Ground.phase }, { on := 5, ground := Ground.phase }, { on := 6, ground := Ground.phase }, { on := 7, ground := Ground.phase }, { on := 8, ground := Ground.phase }], guard := none }) (v := ?v9b4) rfl (by kernel_rfl) (by kernel_rfl) (by kernel_rfl) (fun _ _ _ h => h) (Or.inl ⟨by rfl, ?y9b4⟩) (by assumption) ?r9b4
  case y9b4 => (intro w hSw; obtain ⟨s0, s1, s2⟩ := hSw; go_simp; (try with_reducible rfl))
  (try simp only [Act.put]); (try simp only [List.setIfInBounds_toArray]); (try simp only [List.set_cons_succ]); (try simp only [List.set_cons_zero])
  refine wpAnyH_done (by kernel_rfl) ?_ _
  go_wp2_with fail
  go_ret2
  exact ⟨lb, lc, rfl, (HGf.out.trans HG4.out (fun _ _ h => h)).trans HE.out.1 (fun _ _ h => h), HLc.out, HE.out.2⟩
end Go.Proofs.YtegjpmodleigeaaGreatDoor.Kit
