import Derived.Test.YtegjpmodleigeaaGreatDoorXB
import Derived.Test.YtegjpmodleigeaaGreatDoorIkInkA
set_option maxRecDepth 100000
set_option maxHeartbeats 4000000
namespace Go.Proofs.YtegjpmodleigeaaGreatDoor.Kit
open Go.RowKit Go.Shelf Go.Deep
open Go.Proofs.YtegjpmodleigeaaGreatDoor.Kd (Ans AnsV cell5 cell2)
open Go.Proofs.YtegjpmodleigeaaGreatDoor.Ink (OwnRow)
set_option linter.unusedVariables false
set_option linter.unusedSimpArgs false
attribute [local go_sem] run_store_func
theorem results_tcell50 {fn : Func} {t u : Tmp} {tmps : Array Value} {g : Nat} {cs : Array Value} {w : World} (h : fn.results = #[.tmp u, .cell t 46]) (ht : tmps.getD t undef = .pointer (some ⟨g, 0, none⟩)) (hg : w.heap[g]? = some (.cells cs 46 (0, 0))) (hi : (Tryz.prog.info? 46).map (·.size) = some cs.size) :
    (results fn tmps).run Tryz.prog w = .ok (.tuple #[tmps.getD u undef, .agg cs]) w := by
  have hl := run_loadVar_row (P := Tryz.prog) w g 46 46 cs (0, 0) _ hg Tryz.underlying46 rfl hi
  unfold results
  rw [h]
  simp only [Array.mapM_eq_mapM_toList, List.mapM_cons, List.mapM_nil, ht]
  simp [asAddr, hl]
theorem open18_a (qb bc v2 c2 : Nat) (ao : Option Addr) (ca : Nat) (W : World) (hD : DatC_a W qb v2 c2) :
    Calls Tryz.prog 25 #[.agg #[.string nmA, .bool false, .int .i64 3, .int .i64 0, .int .i64 0, .int .i64 0, .slice ao 0 ca], .agg (dCo 1 0 (.slice (some ⟨qb, 0, none⟩) 2 bc))] W fun e w' => ∃ a q r rc fo fc, e = .returned (.tuple #[.pointer (some ⟨a, 0, none⟩), .agg #[.int .i64 0, .slice none 0 0, .int .i64 0]]) ∧ Gr W w' ∧ (W.heap.size ≤ a ∧ W.heap.size ≤ q ∧ W.heap.size ≤ r) ∧ NdA w' q r rc false fo fc 1 0 v2 1 c2 ∧ w'.heap[a]? = some (.cells #[.pointer (some ⟨q, 0, none⟩), .int .i64 0, .int .i64 1, .pointer none] 111) := by
  obtain ⟨A0, hA0⟩ : ∃ A0, W.alloc (.cells #[.string nmA, .bool false, .int .i64 3, .int .i64 0, .int .i64 0, .int .i64 0, .slice ao 0 ca] 27) = A0 := ⟨_, rfl⟩
  have g0 : Gr W A0 := by rw [← hA0]; exact gr_alloc W _
  have b0 : A0.heap[W.heap.size]? = some (.cells #[.string nmA, .bool false, .int .i64 3, .int .i64 0, .int .i64 0, .int .i64 0, .slice ao 0 ca] 27) := by rw [← hA0]; exact heap_alloc_new W _
  obtain ⟨A1, hA1⟩ : ∃ A1, A0.alloc (.cells (dCo 1 0 (.slice (some ⟨qb, 0, none⟩) 2 bc)) 32) = A1 := ⟨_, rfl⟩
  have g1 : Gr A0 A1 := by rw [← hA1]; exact gr_alloc A0 _
  have b1 : A1.heap[A0.heap.size]? = some (.cells (dCo 1 0 (.slice (some ⟨qb, 0, none⟩) 2 bc)) 32) := by rw [← hA1]; exact heap_alloc_new A0 _
  obtain ⟨A2, hA2⟩ : ∃ A2, A1.alloc (.cells #[.int .i64 0, .slice none 0 0, .int .i64 0] 46) = A2 := ⟨_, rfl⟩
  have g2 : Gr A1 A2 := by rw [← hA2]; exact gr_alloc A1 _
  have b2 : A2.heap[A1.heap.size]? = some (.cells #[.int .i64 0, .slice none 0 0, .int .i64 0] 46) := by rw [← hA2]; exact heap_alloc_new A1 _
  have g12 := g1.trans g2 (fun _ _ h => h)
  have gW : Gr W A2 := g0.trans g12 (fun _ _ h => h)
  obtain ⟨a0, a1, a2, a3, a4, a5, a6⟩ := cell7 ((g12.block _ (lt_of_heap b0) id).trans b0)
  obtain ⟨d0, d1, d2, d3, d4, d5⟩ := cell6 ((g2.block _ (lt_of_heap b1) id).trans b1)
  have HC : Hid (Calls Tryz.prog 35 #[.agg #[.string nmA, .bool false, .int .i64 3, .int .i64 0, .int .i64 0, .int .i64 0, .slice ao 0 ca], .agg #[.int .i64 1, .int .i64 0, .int .i64 0, .slice (some ⟨qb, 0, none⟩) 2 bc, .slice none 0 0, .slice none 0 0]] A2 fun e w' => ∃ q r rc fo fc, e = .returned (.tuple #[.pointer (some ⟨q, 0, none⟩), .agg #[.int .i64 0, .slice none 0 0, .int .i64 0]]) ∧ Gr A2 w' ∧ A2.heap.size ≤ q ∧ A2.heap.size ≤ r ∧ NdA w' q r rc false fo fc 1 0 v2 1 c2) := opened34_a qb bc v2 c2 ao ca A2 (hD.gr gW)
  have HB := hidM b2
  have HG := hidM gW
  clear g0 b0 g1 b1 g2 b2 g12 gW hD
  unfold dCo at hA1 ⊢
  go_enter Tryz.func25, Tryz.ntmps25
  go_wp2_with (go_at_call 35; refine HC.out.mono ?_; rintro e w1 ⟨q, r, rc, fo, fc, rfl, g1, hq1, hr1, hn1⟩; clear a0 a1 a2 a3 a4 a5 a6 d0 d1 d2 d3 d4 d5 hA0 hA1 hA2; obtain ⟨V, hV⟩ : ∃ V, w1.alloc (.cells #[.int .i64 0, .slice none 0 0, .int .i64 0] 46) = V := ⟨_, rfl⟩; have gV : Gr w1 V := (by rw [← hV]; exact gr_alloc w1 _); have hbv : V.heap[w1.heap.size]? = some (.cells #[.int .i64 0, .slice none 0 0, .int .i64 0] 46) := (by rw [← hV]; exact heap_alloc_new w1 _); obtain ⟨y0, y1, y2⟩ := cell3V hbv; have z0 := frz hbv 0; have z1 := frz hbv 1; have z2 := frz hbv 2; have i0 := set_id (j := 0) (v := .int .i64 0) hbv rfl; have i1 := set_id (j := 1) (v := .slice none 0 0) hbv rfl; have i2 := set_id (j := 2) (v := .int .i64 0) hbv rfl; obtain ⟨m8, m9, m10⟩ := cellN (hn1.gr gV).nd; obtain ⟨X, hX⟩ : ∃ X, V.alloc (.cells #[.pointer (some ⟨q, 0, none⟩), .int .i64 0, .int .i64 1, .pointer none] 111) = X := ⟨_, rfl⟩; have gX : Gr V X := (by rw [← hX]; exact gr_alloc V _); have hbx : X.heap[V.heap.size]? = some (.cells #[.pointer (some ⟨q, 0, none⟩), .int .i64 0, .int .i64 1, .pointer none] 111) := (by rw [← hX]; exact heap_alloc_new V _); have g2X := g1.trans (gV.trans gX (fun _ _ h => h)) (fun _ _ h => h); have hb5 := (g2X.block _ (lt_of_heap HB.out) id).trans HB.out; obtain ⟨x0, x1, x2⟩ := cell3V hb5; have s0 := frz hb5 0; have s1 := frz hb5 1; have s2 := frz hb5 2; have k0 := set_id (j := 0) (v := .int .i64 0) hb5 rfl; have k1 := set_id (j := 1) (v := .slice none 0 0) hb5 rfl; have k2 := set_id (j := 2) (v := .int .i64 0) hb5 rfl; have HE : Hid (Gr W X ∧ (W.heap.size ≤ V.heap.size ∧ W.heap.size ≤ q ∧ W.heap.size ≤ r) ∧ NdA X q r rc false fo fc 1 0 v2 1 c2 ∧ X.heap[V.heap.size]? = some (.cells #[.pointer (some ⟨q, 0, none⟩), .int .i64 0, .int .i64 1, .pointer none] 111)) := (by have h1 := HG.out.size; have h2 := g1.size; have h3 := gV.size; exact ⟨HG.out.trans g2X (fun _ _ h => h), ⟨by omega, by omega, by omega⟩, hn1.gr (gV.trans gX (fun _ _ h => h)), hbx⟩); have HB5 := hidM hb5; clear gV hbv gX hbx g2X hb5 g1 hq1 hr1 hn1)
  (try simp only [Exit.inBlock, Exit.then])
  refine bodyPost_ret (results_tcell50 rfl rfl (by with_reducible exact HB5.out) (by kernel_rfl)) rfl ?_
  exact ⟨_, q, r, rc, fo, fc, rfl, HE.out⟩
theorem open18_b (qb bc v2 c2 : Nat) (ao : Option Addr) (ca : Nat) (W : World) (hD : DatC_b W qb v2 c2) :
    Calls Tryz.prog 25 #[.agg #[.string nmA, .bool false, .int .i64 3, .int .i64 0, .int .i64 0, .int .i64 0, .slice ao 0 ca], .agg (dCo 1 1 (.slice (some ⟨qb, 0, none⟩) 2 bc))] W fun e w' => ∃ a q r rc fo fc, e = .returned (.tuple #[.pointer (some ⟨a, 0, none⟩), .agg #[.int .i64 0, .slice none 0 0, .int .i64 0]]) ∧ Gr W w' ∧ (W.heap.size ≤ a ∧ W.heap.size ≤ q ∧ W.heap.size ≤ r) ∧ NdA w' q r rc false fo fc 1 1 v2 2 c2 ∧ w'.heap[a]? = some (.cells #[.pointer (some ⟨q, 0, none⟩), .int .i64 0, .int .i64 1, .pointer none] 111) := by
  obtain ⟨A0, hA0⟩ : ∃ A0, W.alloc (.cells #[.string nmA, .bool false, .int .i64 3, .int .i64 0, .int .i64 0, .int .i64 0, .slice ao 0 ca] 27) = A0 := ⟨_, rfl⟩
  have g0 : Gr W A0 := by rw [← hA0]; exact gr_alloc W _
  have b0 : A0.heap[W.heap.size]? = some (.cells #[.string nmA, .bool false, .int .i64 3, .int .i64 0, .int .i64 0, .int .i64 0, .slice ao 0 ca] 27) := by rw [← hA0]; exact heap_alloc_new W _
  obtain ⟨A1, hA1⟩ : ∃ A1, A0.alloc (.cells (dCo 1 1 (.slice (some ⟨qb, 0, none⟩) 2 bc)) 32) = A1 := ⟨_, rfl⟩
  have g1 : Gr A0 A1 := by rw [← hA1]; exact gr_alloc A0 _
  have b1 : A1.heap[A0.heap.size]? = some (.cells (dCo 1 1 (.slice (some ⟨qb, 0, none⟩) 2 bc)) 32) := by rw [← hA1]; exact heap_alloc_new A0 _
  obtain ⟨A2, hA2⟩ : ∃ A2, A1.alloc (.cells #[.int .i64 0, .slice none 0 0, .int .i64 0] 46) = A2 := ⟨_, rfl⟩
  have g2 : Gr A1 A2 := by rw [← hA2]; exact gr_alloc A1 _
  have b2 : A2.heap[A1.heap.size]? = some (.cells #[.int .i64 0, .slice none 0 0, .int .i64 0] 46) := by rw [← hA2]; exact heap_alloc_new A1 _
  have g12 := g1.trans g2 (fun _ _ h => h)
  have gW : Gr W A2 := g0.trans g12 (fun _ _ h => h)
  obtain ⟨a0, a1, a2, a3, a4, a5, a6⟩ := cell7 ((g12.block _ (lt_of_heap b0) id).trans b0)
  obtain ⟨d0, d1, d2, d3, d4, d5⟩ := cell6 ((g2.block _ (lt_of_heap b1) id).trans b1)
  have HC : Hid (Calls Tryz.prog 35 #[.agg #[.string nmA, .bool false, .int .i64 3, .int .i64 0, .int .i64 0, .int .i64 0, .slice ao 0 ca], .agg #[.int .i64 1, .int .i64 1, .int .i64 0, .slice (some ⟨qb, 0, none⟩) 2 bc, .slice none 0 0, .slice none 0 0]] A2 fun e w' => ∃ q r rc fo fc, e = .returned (.tuple #[.pointer (some ⟨q, 0, none⟩), .agg #[.int .i64 0, .slice none 0 0, .int .i64 0]]) ∧ Gr A2 w' ∧ A2.heap.size ≤ q ∧ A2.heap.size ≤ r ∧ NdA w' q r rc false fo fc 1 1 v2 2 c2) := opened34_b qb bc v2 c2 ao ca A2 (hD.gr gW)
  have HB := hidM b2
  have HG := hidM gW
  clear g0 b0 g1 b1 g2 b2 g12 gW hD
  unfold dCo at hA1 ⊢
  go_enter Tryz.func25, Tryz.ntmps25
  go_wp2_with (go_at_call 35; refine HC.out.mono ?_; rintro e w1 ⟨q, r, rc, fo, fc, rfl, g1, hq1, hr1, hn1⟩; clear a0 a1 a2 a3 a4 a5 a6 d0 d1 d2 d3 d4 d5 hA0 hA1 hA2; obtain ⟨V, hV⟩ : ∃ V, w1.alloc (.cells #[.int .i64 0, .slice none 0 0, .int .i64 0] 46) = V := ⟨_, rfl⟩; have gV : Gr w1 V := (by rw [← hV]; exact gr_alloc w1 _); have hbv : V.heap[w1.heap.size]? = some (.cells #[.int .i64 0, .slice none 0 0, .int .i64 0] 46) := (by rw [← hV]; exact heap_alloc_new w1 _); obtain ⟨y0, y1, y2⟩ := cell3V hbv; have z0 := frz hbv 0; have z1 := frz hbv 1; have z2 := frz hbv 2; have i0 := set_id (j := 0) (v := .int .i64 0) hbv rfl; have i1 := set_id (j := 1) (v := .slice none 0 0) hbv rfl; have i2 := set_id (j := 2) (v := .int .i64 0) hbv rfl; obtain ⟨m8, m9, m10⟩ := cellN (hn1.gr gV).nd; obtain ⟨X, hX⟩ : ∃ X, V.alloc (.cells #[.pointer (some ⟨q, 0, none⟩), .int .i64 0, .int .i64 1, .pointer none] 111) = X := ⟨_, rfl⟩; have gX : Gr V X := (by rw [← hX]; exact gr_alloc V _); have hbx : X.heap[V.heap.size]? = some (.cells #[.pointer (some ⟨q, 0, none⟩), .int .i64 0, .int .i64 1, .pointer none] 111) := (by rw [← hX]; exact heap_alloc_new V _); have g2X := g1.trans (gV.trans gX (fun _ _ h => h)) (fun _ _ h => h); have hb5 := (g2X.block _ (lt_of_heap HB.out) id).trans HB.out; obtain ⟨x0, x1, x2⟩ := cell3V hb5; have s0 := frz hb5 0; have s1 := frz hb5 1; have s2 := frz hb5 2; have k0 := set_id (j := 0) (v := .int .i64 0) hb5 rfl; have k1 := set_id (j := 1) (v := .slice none 0 0) hb5 rfl; have k2 := set_id (j := 2) (v := .int .i64 0) hb5 rfl; have HE : Hid (Gr W X ∧ (W.heap.size ≤ V.heap.size ∧ W.heap.size ≤ q ∧ W.heap.size ≤ r) ∧ NdA X q r rc false fo fc 1 1 v2 2 c2 ∧ X.heap[V.heap.size]? = some (.cells #[.pointer (some ⟨q, 0, none⟩), .int .i64 0, .int .i64 1, .pointer none] 111)) := (by have h1 := HG.out.size; have h2 := g1.size; have h3 := gV.size; exact ⟨HG.out.trans g2X (fun _ _ h => h), ⟨by omega, by omega, by omega⟩, hn1.gr (gV.trans gX (fun _ _ h => h)), hbx⟩); have HB5 := hidM hb5; clear gV hbv gX hbx g2X hb5 g1 hq1 hr1 hn1)
  (try simp only [Exit.inBlock, Exit.then])
  refine bodyPost_ret (results_tcell50 rfl rfl (by with_reducible exact HB5.out) (by kernel_rfl)) rfl ?_
  exact ⟨_, q, r, rc, fo, fc, rfl, HE.out⟩
theorem open18_c (qb bc v2 c2 : Nat) (ao : Option Addr) (ca : Nat) (W : World) (hD : DatC_c W qb v2 c2) :
    Calls Tryz.prog 25 #[.agg #[.string nmA, .bool false, .int .i64 3, .int .i64 0, .int .i64 0, .int .i64 0, .slice ao 0 ca], .agg (dCo 2 0 (.slice (some ⟨qb, 0, none⟩) 2 bc))] W fun e w' => ∃ a q r rc fo fc, e = .returned (.tuple #[.pointer (some ⟨a, 0, none⟩), .agg #[.int .i64 0, .slice none 0 0, .int .i64 0]]) ∧ Gr W w' ∧ (W.heap.size ≤ a ∧ W.heap.size ≤ q ∧ W.heap.size ≤ r) ∧ NdA w' q r rc false fo fc 2 0 v2 2 c2 ∧ w'.heap[a]? = some (.cells #[.pointer (some ⟨q, 0, none⟩), .int .i64 0, .int .i64 2, .pointer none] 111) := by
  obtain ⟨A0, hA0⟩ : ∃ A0, W.alloc (.cells #[.string nmA, .bool false, .int .i64 3, .int .i64 0, .int .i64 0, .int .i64 0, .slice ao 0 ca] 27) = A0 := ⟨_, rfl⟩
  have g0 : Gr W A0 := by rw [← hA0]; exact gr_alloc W _
  have b0 : A0.heap[W.heap.size]? = some (.cells #[.string nmA, .bool false, .int .i64 3, .int .i64 0, .int .i64 0, .int .i64 0, .slice ao 0 ca] 27) := by rw [← hA0]; exact heap_alloc_new W _
  obtain ⟨A1, hA1⟩ : ∃ A1, A0.alloc (.cells (dCo 2 0 (.slice (some ⟨qb, 0, none⟩) 2 bc)) 32) = A1 := ⟨_, rfl⟩
  have g1 : Gr A0 A1 := by rw [← hA1]; exact gr_alloc A0 _
  have b1 : A1.heap[A0.heap.size]? = some (.cells (dCo 2 0 (.slice (some ⟨qb, 0, none⟩) 2 bc)) 32) := by rw [← hA1]; exact heap_alloc_new A0 _
  obtain ⟨A2, hA2⟩ : ∃ A2, A1.alloc (.cells #[.int .i64 0, .slice none 0 0, .int .i64 0] 46) = A2 := ⟨_, rfl⟩
  have g2 : Gr A1 A2 := by rw [← hA2]; exact gr_alloc A1 _
  have b2 : A2.heap[A1.heap.size]? = some (.cells #[.int .i64 0, .slice none 0 0, .int .i64 0] 46) := by rw [← hA2]; exact heap_alloc_new A1 _
  have g12 := g1.trans g2 (fun _ _ h => h)
  have gW : Gr W A2 := g0.trans g12 (fun _ _ h => h)
  obtain ⟨a0, a1, a2, a3, a4, a5, a6⟩ := cell7 ((g12.block _ (lt_of_heap b0) id).trans b0)
  obtain ⟨d0, d1, d2, d3, d4, d5⟩ := cell6 ((g2.block _ (lt_of_heap b1) id).trans b1)
  have HC : Hid (Calls Tryz.prog 35 #[.agg #[.string nmA, .bool false, .int .i64 3, .int .i64 0, .int .i64 0, .int .i64 0, .slice ao 0 ca], .agg #[.int .i64 2, .int .i64 0, .int .i64 0, .slice (some ⟨qb, 0, none⟩) 2 bc, .slice none 0 0, .slice none 0 0]] A2 fun e w' => ∃ q r rc fo fc, e = .returned (.tuple #[.pointer (some ⟨q, 0, none⟩), .agg #[.int .i64 0, .slice none 0 0, .int .i64 0]]) ∧ Gr A2 w' ∧ A2.heap.size ≤ q ∧ A2.heap.size ≤ r ∧ NdA w' q r rc false fo fc 2 0 v2 2 c2) := opened34_c qb bc v2 c2 ao ca A2 (hD.gr gW)
  have HB := hidM b2
  have HG := hidM gW
  clear g0 b0 g1 b1 g2 b2 g12 gW hD
  unfold dCo at hA1 ⊢
  go_enter Tryz.func25, Tryz.ntmps25
  go_wp2_with (go_at_call 35; refine HC.out.mono ?_; rintro e w1 ⟨q, r, rc, fo, fc, rfl, g1, hq1, hr1, hn1⟩; clear a0 a1 a2 a3 a4 a5 a6 d0 d1 d2 d3 d4 d5 hA0 hA1 hA2; obtain ⟨V, hV⟩ : ∃ V, w1.alloc (.cells #[.int .i64 0, .slice none 0 0, .int .i64 0] 46) = V := ⟨_, rfl⟩; have gV : Gr w1 V := (by rw [← hV]; exact gr_alloc w1 _); have hbv : V.heap[w1.heap.size]? = some (.cells #[.int .i64 0, .slice none 0 0, .int .i64 0] 46) := (by rw [← hV]; exact heap_alloc_new w1 _); obtain ⟨y0, y1, y2⟩ := cell3V hbv; have z0 := frz hbv 0; have z1 := frz hbv 1; have z2 := frz hbv 2; have i0 := set_id (j := 0) (v := .int .i64 0) hbv rfl; have i1 := set_id (j := 1) (v := .slice none 0 0) hbv rfl; have i2 := set_id (j := 2) (v := .int .i64 0) hbv rfl; obtain ⟨m8, m9, m10⟩ := cellN (hn1.gr gV).nd; obtain ⟨X, hX⟩ : ∃ X, V.alloc (.cells #[.pointer (some ⟨q, 0, none⟩), .int .i64 0, .int .i64 2, .pointer none] 111) = X := ⟨_, rfl⟩; have gX : Gr V X := (by rw [← hX]; exact gr_alloc V _); have hbx : X.heap[V.heap.size]? = some (.cells #[.pointer (some ⟨q, 0, none⟩), .int .i64 0, .int .i64 2, .pointer none] 111) := (by rw [← hX]; exact heap_alloc_new V _); have g2X := g1.trans (gV.trans gX (fun _ _ h => h)) (fun _ _ h => h); have hb5 := (g2X.block _ (lt_of_heap HB.out) id).trans HB.out; obtain ⟨x0, x1, x2⟩ := cell3V hb5; have s0 := frz hb5 0; have s1 := frz hb5 1; have s2 := frz hb5 2; have k0 := set_id (j := 0) (v := .int .i64 0) hb5 rfl; have k1 := set_id (j := 1) (v := .slice none 0 0) hb5 rfl; have k2 := set_id (j := 2) (v := .int .i64 0) hb5 rfl; have HE : Hid (Gr W X ∧ (W.heap.size ≤ V.heap.size ∧ W.heap.size ≤ q ∧ W.heap.size ≤ r) ∧ NdA X q r rc false fo fc 2 0 v2 2 c2 ∧ X.heap[V.heap.size]? = some (.cells #[.pointer (some ⟨q, 0, none⟩), .int .i64 0, .int .i64 2, .pointer none] 111)) := (by have h1 := HG.out.size; have h2 := g1.size; have h3 := gV.size; exact ⟨HG.out.trans g2X (fun _ _ h => h), ⟨by omega, by omega, by omega⟩, hn1.gr (gV.trans gX (fun _ _ h => h)), hbx⟩); have HB5 := hidM hb5; clear gV hbv gX hbx g2X hb5 g1 hq1 hr1 hn1)
  (try simp only [Exit.inBlock, Exit.then])
  refine bodyPost_ret (results_tcell50 rfl rfl (by with_reducible exact HB5.out) (by kernel_rfl)) rfl ?_
  exact ⟨_, q, r, rc, fo, fc, rfl, HE.out⟩
end Go.Proofs.YtegjpmodleigeaaGreatDoor.Kit
namespace Go.Proofs.YtegjpmodleigeaaGreatDoor.Kit
open Go.RowKit Go.Shelf Go.Deep
open Go.Proofs.YtegjpmodleigeaaGreatDoor.Kd (Ans AnsV cell5 cell2)
set_option linter.unusedVariables false
set_option linter.unusedSimpArgs false
attribute [local go_sem] run_store_func
theorem clone64 (W : World) : Calls Tryz.prog 64 #[.slice none 0 0] W fun e w' => e = .returned (.slice none 0 0) ∧ W = w' := by
  have hb : ∀ w : World, (binOp .eql 86 (.slice none 0 0) (.slice none 0 0)).run Tryz.prog w = .ok (.bool true) w := fun w => by kernel_rfl
  go_enter Tryz.func64, Tryz.ntmps64
  go_wp2
  go_ret
  exact ⟨rfl, rfl⟩
theorem results_cell88 {fn : Func} {t : Tmp} {tmps : Array Value} {g : Nat} {cs : Array Value} {w : World} (h : fn.results = #[.cell t 88]) (ht : tmps.getD t undef = .pointer (some ⟨g, 0, none⟩)) (hg : w.heap[g]? = some (.cells cs 88 (0, 0))) (hi : (Tryz.prog.info? 88).map (·.size) = some cs.size) :
    (results fn tmps).run Tryz.prog w = .ok (.agg cs) w := by
  have hl := run_loadVar_row (P := Tryz.prog) w g 88 88 cs (0, 0) _ hg Tryz.underlying88 rfl hi
  unfold results
  rw [h]
  simp only [Array.mapM_eq_mapM_toList, List.mapM_cons, List.mapM_nil, ht]
  simp [asAddr, hl]
theorem set_idT {W : World} {b ty j : Nat} {c : Array Value} {v : Value} (h : W.heap[b]? = some (.cells c ty)) (hv : c.setIfInBounds j v = c) : W.setCell ⟨b, j, none⟩ v = W := by
  have hm : (W.setCell ⟨b, j, none⟩ v).heap = W.heap := by
    apply Array.ext_getElem?
    intro i
    by_cases e : i = b
    · subst e
      rw [heap_setCell_same W i j _ _ v h, h, hv]
    · exact heap_setCell_other _ _ _ _ e
  show ({ W with heap := (W.setCell ⟨b, j, none⟩ v).heap } : World) = W
  rw [hm]
theorem copied41 (vn : Bool) (x : Int) (W : World) : Calls Tryz.prog 41 #[.agg #[.bool vn, .int .i64 x, .string ⟨#[]⟩, .slice none 0 0]] W fun e w' => e = .returned (.agg #[.bool vn, .int .i64 x, .string ⟨#[]⟩, .slice none 0 0]) ∧ Gr W w' := by
  obtain ⟨A0, hA0⟩ : ∃ A0, W.alloc (.cells #[.bool vn, .int .i64 x, .string ⟨#[]⟩, .slice none 0 0] 88) = A0 := ⟨_, rfl⟩
  have g0 : Gr W A0 := by rw [← hA0]; exact gr_alloc W _
  have b0 : A0.heap[W.heap.size]? = some (.cells #[.bool vn, .int .i64 x, .string ⟨#[]⟩, .slice none 0 0] 88) := by rw [← hA0]; exact heap_alloc_new W _
  obtain ⟨A, hA⟩ : ∃ A, A0.alloc (.cells #[.bool false, .int .i64 0, .string ⟨#[]⟩, .slice none 0 0] 88) = A := ⟨_, rfl⟩
  have g1 : Gr A0 A := by rw [← hA]; exact gr_alloc A0 _
  have b2 : A.heap[A0.heap.size]? = some (.cells #[.bool false, .int .i64 0, .string ⟨#[]⟩, .slice none 0 0] 88) := by rw [← hA]; exact heap_alloc_new A0 _
  have b1 := (g1.block _ (lt_of_heap b0) id).trans b0
  obtain ⟨q0, q1, q2, q3⟩ := cell4 b1
  obtain ⟨r0, r1, r2, r3⟩ := cell4 b2
  have z3 := frz b1 3
  have y0 := frz b2 0
  have y1 := frz b2 1
  have y2 := frz b2 2
  have y3 := frz b2 3
  have hid := set_idT (j := 3) (v := .slice none 0 0) b1 rfl
  have gA : Gr W A := g0.trans g1 (fun _ _ h => h)
  have hG := low_setAll gA g0.size [(0, .bool vn), (1, .int .i64 x), (2, .string ⟨#[]⟩), (3, .slice none 0 0)]
  have hB := setAll_blk A0.heap.size 88 [(0, .bool vn), (1, .int .i64 x), (2, .string ⟨#[]⟩), (3, .slice none 0 0)] A _ b2
  obtain ⟨U, hU⟩ : ∃ U, setAll A A0.heap.size [(0, .bool vn), (1, .int .i64 x), (2, .string ⟨#[]⟩), (3, .slice none 0 0)] = U := ⟨_, rfl⟩
  rw [hU] at hG hB
  have HX : Hid (U.heap[A0.heap.size]? = some (.cells #[.bool vn, .int .i64 x, .string ⟨#[]⟩, .slice none 0 0] 88) ∧ Gr W U) := ⟨hB, hG⟩
  simp only [setAll] at hU
  clear g0 b0 g1 b1 b2 gA hG hB
  go_enter Tryz.func41, Tryz.ntmps41
  go_wp2_with (go_at_call 64; refine (clone64 _).mono ?_; rintro e w1 ⟨rfl, rfl⟩)
  go_loopw [12] (fun i wr => i = .int .i64 0 ∧ A = wr) (fun _ _ => 0)
  case atStart => exact ⟨rfl, rfl⟩
  case round =>
    obtain ⟨rfl, rfl⟩ := hrel
    go_wp2_with fail
    (try simp only [Exit.inBlock, Exit.then])
    refine bodyPost_ret (results_cell88 rfl rfl (by with_reducible exact HX.out.1) (by kernel_rfl)) rfl ?_
    exact ⟨rfl, HX.out.2⟩
theorem ptr_someT (n : Nat) (w : World) : (binOp .eql 118 (.pointer (some ⟨n, 0, none⟩)) (.pointer none)).run Tryz.prog w = .ok (.bool false) w := by kernel_rfl
def AddQ (B : Nat) (W : World) (p n m t : Nat) (s : Int) (nu : Bool) (fo : Option Addr) (fc : Nat) (rows wt : Int) (L : Nat) (bs xs : List Value) (x : Int) (w' : World) : Prop := FrD B W w' ∧ w'.heap[p]? = some (.cells (bdC nu fo fc n t (rows + 1)) 121) ∧ ∃ vo' vc' lo' lc', Nd B w' n m t (s + 1) (s + 1) (.slice none 0 0) nu (wt + 16) vo' (L + 1) vc' (bs ++ [.bool true]) lo' lc' (xs ++ [.int .i64 x])
theorem nd_begin {B : Nat} {W w2 : World} {n m t : Nat} {s k k2 : Int} {st : Value} {nu : Bool} {wt : Int} {vo : Option Addr} {L vc : Nat} {bs : List Value} {lo : Option Addr} {lc : Nat} {xs : List Value} (h : Nd B W n m t s k st nu wt vo L vc bs lo lc xs) (g : Keeps W w2 (fun z => z = t)) (ht : w2.heap[t]? = some (.cells #[.int .i64 k2, st] 117)) : FrN B W w2 ∧ Nd B w2 n m t s k2 st nu wt vo L vc bs lo lc xs := by
  have ne : ∀ {b ty : Nat} {c : Array Value} {fz : Nat × Nat}, W.heap[b]? = some (.cells c ty fz) → ty ≠ 117 → ¬ (b = t) := fun hb h2 e => by
    subst e; rw [h.ht] at hb; cases hb; exact h2 rfl
  refine ⟨g.mono fun q hq e => ?_, (g.block _ (lt_of_heap h.hn) (ne h.hn (by decide))).trans h.hn, (g.block _ (lt_of_heap h.hm) (ne h.hm (by decide))).trans h.hm, ht, row_kp h.rv fun q e => g.block q (own_lt h.rv q e) ?_, row_kp h.rl fun q e => g.block q (own_lt h.rl q e) ?_, h.low, h.bv, h.bl⟩
  · subst e; exact ⟨h.low.2.2, _, 117, _, h.ht, .inr (.inr (.inr (.inr rfl)))⟩
  · obtain ⟨c1, f1, k1⟩ := own_type h.rv e
    exact ne k1 (by decide)
  · obtain ⟨c1, f1, k1⟩ := own_type h.rl e
    exact ne k1 (by decide)
theorem add27 (B p n m t : Nat) (s : Int) (nu : Bool) (fo : Option Addr) (fc : Nat) (rows : Int) (wt : Int) (vo : Option Addr) (L vc : Nat) (bs : List Value) (lo : Option Addr) (lc : Nat) (xs : List Value) (x : Int) (W : World) (hT : Tab W) (hp : W.heap[p]? = some (.cells (bdC nu fo fc n t rows) 121)) (h : Nd B W n m t s s (.slice none 0 0) nu wt vo L vc bs lo lc xs) (hB : B ≤ W.heap.size) (hBp : B ≤ p) (hL : L ≤ 4000) (hw : 0 ≤ wt ∧ wt ≤ 1000000) (hr : 0 ≤ rows ∧ rows ≤ 100000) (hs : 0 ≤ s ∧ s ≤ 100000) (hfit : fitN nu 3 false x = true) :
    Calls Tryz.prog 27 #[.pointer (some ⟨p, 0, none⟩), .agg #[.bool false, .int .i64 x, .string ⟨#[]⟩, .slice none 0 0]] W fun e w' => e = .returned (.int .i64 0) ∧ AddQ B W p n m t s nu fo fc rows wt L bs xs x w' := by
  obtain ⟨A, hA⟩ : ∃ A, W.alloc (.cells #[.bool false, .int .i64 x, .string ⟨#[]⟩, .slice none 0 0] 88) = A := ⟨_, rfl⟩
  have gA : Gr W A := by rw [← hA]; exact gr_alloc W _
  have hb : A.heap[W.heap.size]? = some (.cells #[.bool false, .int .i64 x, .string ⟨#[]⟩, .slice none 0 0] 88) := by rw [← hA]; exact heap_alloc_new W _
  have hpA := (gA.block p (lt_of_heap hp) id).trans hp
  have HS0 : Hid (C8 A.drew p W.heap.size nu fo fc false x none 0) := c8 hpA hb
  have HF := hidM (leaf_fits (w := W) (ao := fo) (ca := fc) hT (allR nu) (by decide) false x none 0 A.drew (gA.trans gr_drew (fun _ _ h => h)))
  rw [hfit] at HF
  have HK : Hid (∀ w1, Gr A.drew w1 → C8 w1 p W.heap.size nu fo fc false x none 0 ∧ w1.cell? ⟨p, 8, none⟩ = some (.pointer (some ⟨t, 0, none⟩)) ∧ w1.heap[W.heap.size]? = some (.cells #[.bool false, .int .i64 x, .string ⟨#[]⟩, .slice none 0 0] 88) ∧ w1.heap[p]? = some (.cells (bdC nu fo fc n t rows) 121) ∧ Gr W w1 ∧ Nd B w1 n m t s s (.slice none 0 0) nu wt vo L vc bs lo lc xs) := fun w1 g => by
    have g1 : Gr A w1 := Keeps.trans gr_drew g (fun _ _ h => h)
    have g2 : Gr W w1 := gA.trans g1 (fun _ _ h => h)
    have hp1 := (g1.block p (lt_of_heap hpA) id).trans hpA
    have hb1 := (g1.block _ (lt_of_heap hb) id).trans hb
    exact ⟨c8 hp1 hb1, by simp [World.cell?, hp1, bdC], hb1, hp1, g2, h.gr g2⟩
  have HQ : Hid (∀ w1 w2, Gr A.drew w1 → Keeps w1 w2 (fun z => z = t) → w2.heap[t]? = some (.cells #[.int .i64 (s + 1), .slice none 0 0] 117) → (w2.cell? ⟨W.heap.size, 0, none⟩ = some (.bool false) ∧ w2.cell? ⟨W.heap.size, 1, none⟩ = some (.int .i64 x) ∧ w2.cell? ⟨W.heap.size, 2, none⟩ = some (.string ⟨#[]⟩) ∧ w2.cell? ⟨W.heap.size, 3, none⟩ = some (.slice none 0 0)) ∧ ∀ w3, Gr w2 w3 → Calls Tryz.prog 40 #[.pointer (some ⟨p, 0, none⟩), .agg #[.bool false, .int .i64 x, .string ⟨#[]⟩, .slice none 0 0]] w3 fun e w' => e = .returned (.int .i64 0) ∧ AddQ B W p n m t s nu fo fc rows wt L bs xs x w') := fun w1 w2 g1 k2 t2 => by
    obtain ⟨-, -, hb1, hp1, g2, hn1⟩ := HK.out w1 g1
    obtain ⟨f2, hn2⟩ := nd_begin hn1 k2 t2
    have hb2 := f2.oth hb1 (by decide) (by decide) (by decide) (by decide) (by decide)
    have hp2 := f2.oth hp1 (by decide) (by decide) (by decide) (by decide) (by decide)
    refine ⟨cell4 hb2, fun w3 g3 => ?_⟩
    have hp3 := (g3.block _ (lt_of_heap hp2) id).trans hp2
    refine (take16 B p n m t s (s + 1) (by omega) nu fo fc rows wt vo L vc bs lo lc xs false x none 0 w3 hp3 (hn2.gr g3) (Nat.le_trans (Nat.le_trans (Nat.le_trans hB g2.size) (Keeps.size f2)) g3.size) hBp hL hw hr).mono ?_
    rintro e w' ⟨rfl, hf, hp', hn⟩
    exact ⟨rfl, (((Gr.frD g2).trans f2.frD).trans (Gr.frD g3)).trans hf, hp', hn⟩
  have p7 : A.cell? ⟨p, 7, none⟩ = some (.pointer (some ⟨n, 0, none⟩)) := by simp [World.cell?, hpA, bdC]
  have hptr := ptr_someT n
  have HHS := hidM hs
  unfold C8 at HS0 HK
  clear h hp hb hpA gA hT hfit hs
  go_enter Tryz.func27, Tryz.ntmps27
  go_wp2_with fail
  go_region_held3 (fun w' => w'.cell? ⟨p, 0, none⟩ = some (.string nmA) ∧ w'.cell? ⟨p, 1, none⟩ = some (.bool nu) ∧ w'.cell? ⟨p, 2, none⟩ = some (.int .i64 3) ∧ w'.cell? ⟨p, 3, none⟩ = some (.int .i64 0) ∧ w'.cell? ⟨p, 4, none⟩ = some (.int .i64 0) ∧ w'.cell? ⟨p, 5, none⟩ = some (.int .i64 0) ∧ w'.cell? ⟨p, 6, none⟩ = some (.slice fo 0 fc) ∧ w'.cell? ⟨W.heap.size, 0, none⟩ = some (.bool false) ∧ w'.cell? ⟨W.heap.size, 1, none⟩ = some (.int .i64 x) ∧ w'.cell? ⟨W.heap.size, 2, none⟩ = some (.string ⟨#[]⟩) ∧ w'.cell? ⟨W.heap.size, 3, none⟩ = some (.slice none 0 0)) (first | with_reducible exact HS0.out | with_reducible exact HS1.out) ((go_at_call 38; refine HF.out.mono ?_; rintro e w1 ⟨rfl, g1⟩; have HG1 := hidM g1; obtain ⟨a1, a2, a3, a4, a5, a6⟩ := HK.out w1 g1; have HS1 := hidM a1; have HND := hidM a6; obtain ⟨-, -, -, -, -, -, -, y0, y1, y2, y3⟩ := a1; clear g1 a3 a4 a5 a6))
  go_wp2_with (first
    | (go_at_call 39; refine (begin39 t s _ _ HND.out.ht HHS.out).mono ?_; rintro e w2 ⟨rfl, k2, t2⟩; obtain ⟨⟨x0, x1, x2, x3⟩, hq⟩ := HQ.out w1 w2 HG1.out k2 t2; have HX := hidM hq; clear y0 y1 y2 y3 k2 t2 hq)
    | (go_at_call 41; refine (copied41 false x _).mono ?_; rintro e w3 ⟨rfl, g3⟩; have HC := hidM (HX.out w3 g3); clear g3)
    | (go_at_call 40; refine HC.out.mono ?_; rintro e w4 ⟨rfl, hq⟩; have HR := hidM hq; clear hq))
  go_ret
  exact ⟨rfl, HR.out⟩
end Go.Proofs.YtegjpmodleigeaaGreatDoor.Kit
