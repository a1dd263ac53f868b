import Derived.Test.YtknnoiomdngmfaaGreatDoorLQ
import Derived.Test.YtknnoiomdngmfaaGreatDoorUR
set_option maxRecDepth 100000
set_option maxHeartbeats 4000000
namespace Go.Proofs.YtknnoiomdngmfaaGreatDoor.Kit
open Go.RowKit Go.Shelf Go.Deep
set_option linter.unusedVariables false
set_option linter.unusedSimpArgs false
attribute [local go_sem] run_store_func
theorem outR_f (a : FT) (ao : Option Addr) (ca tb : Nat) (W : World) (ht : TyAt W tb 0 a ao ca) (hC : ∀ u, Gr W u → Calls Tryz.prog 27 #[.slice (some ⟨tb, 0, none⟩) 2 2] u fun e w' => e = .returned (.bool false) ∧ Gr u w') :
    Calls Tryz.prog 11 #[.int .i64 5, .slice (some ⟨tb, 0, none⟩) 2 2] W fun e w' => e = .returned (.tuple #[.agg #[.int .i64 a.kind, .int .i64 a.width, .int .i64 a.id, .int .i64 a.index, .slice ao a.kids.length ca], .bool (false)]) ∧ Gr W w' := by
  obtain ⟨A0, hA0⟩ := ex (W.alloc (.cells #[.int .i64 0, .int .i64 0, .int .i64 0, .int .i64 0, .slice none 0 0] 24))
  obtain ⟨A1, hA1⟩ := ex (A0.alloc (.cells #[.int .i64 0, .int .i64 0, .int .i64 0, .int .i64 0, .slice none 0 0] 24))
  obtain ⟨V, hV⟩ := ex (stA A1 A0.heap.size b5)
  obtain ⟨HO, g1, g0, b1, z0⟩ := outW_new W A0 A1 V hA0 hA1 hV
  obtain ⟨y0, y1, y2, y3, y4⟩ := cell5p b1
  obtain ⟨x0, x1, x2, x3, x4⟩ := frz5 b1
  have a0 : A1.cell? ⟨tb, 0, none⟩ = some (.int .i64 a.kind) := g1.cell' ht.1 id
  have d0 : A0.cell? ⟨tb, 0, none⟩ = some (.int .i64 a.kind) := g0.cell' ht.1 id
  have HT := hidM (outT HO (fun u => u.cell? ⟨tb, 0, none⟩ = some (.int .i64 a.kind) ∧ u.cell? ⟨tb, 1, none⟩ = some (.int .i64 a.width) ∧ u.cell? ⟨tb, 2, none⟩ = some (.int .i64 a.id) ∧ u.cell? ⟨tb, 3, none⟩ = some (.int .i64 a.index) ∧ u.cell? ⟨tb, 4, none⟩ = some (.slice ao a.kids.length ca)) (fun u g h => ht.gr g) (.int .i64 a.kind) (.int .i64 a.width) (.int .i64 a.id) (.int .i64 a.index) (.slice ao a.kids.length ca))
  have HC := hidM (hC V.drew HO.gr.drew)
  have HS0 := hidM (HT.out V.drew (Keeps.refl _ _)).1
  clear hC HO g1 g0 b1 z0 ht
  simp only [b5, stA] at hV
  go_enter Tryz.func11, Tryz.ntmps11
  go_wp2_with fail
  clear y0 y1 y2 y3 y4 x0 x1 x2 x3 x4 a0 d0 hA0 hA1 hV
  refine wp_region_held_drew (S := fun w' => w'.cell? ⟨tb, 0, none⟩ = some (.int .i64 a.kind) ∧ w'.cell? ⟨tb, 1, none⟩ = some (.int .i64 a.width) ∧ w'.cell? ⟨tb, 2, none⟩ = some (.int .i64 a.id) ∧ w'.cell? ⟨tb, 3, none⟩ = some (.int .i64 a.index) ∧ w'.cell? ⟨tb, 4, none⟩ = some (.slice ao a.kids.length ca)) (by kernel_rfl) (HS0.out) (fun hHeld => ?_)
  refine tk 0 ?_
  refine tk 1 ?_
  refine tk 2 ?_
  refine tk 3 ?_
  refine rd1 4 fun Kc hK => ?_
  go_simp
  go_at_call 27
  refine Calls.mono (HC.out) ?_
  rintro e' w2 ⟨rfl, g2⟩; obtain ⟨hs2, hz2, hu2, hg2, hsU⟩ := HT.out w2 g2; have HS2 := hidM hs2; have HSU := hidM hsU; have HU2 := hidM hu2; have HG2 := hidM hg2; have HZ2 := hidM hz2; clear g2 hs2 hsU hu2 hg2 hz2
  go_wp2_with fail
  refine hK.out _ _ (HS2.out) (fun hHeld => ?_)
  clear hK Kc
  try simp only [Act.put, lA, lB, lC]
  refine tk 5 ?_
  refine sk 6 ?_
  refine sk 7 ?_
  refine tk 8 ?_
  refine rd1 9 fun Kc hK => ?_
  obtain ⟨c0, c1, c2, c3, c4⟩ := cell5p HZ2.out
  obtain ⟨x0, x1, x2, x3, x4⟩ := frz5 HZ2.out
  obtain ⟨U, hU⟩ := ex (stA w2 W.heap.size [(0, .int .i64 a.kind), (1, .int .i64 a.width), (2, .int .i64 a.id), (3, .int .i64 a.index), (4, .slice ao a.kids.length ca)])
  rw [hU] at HU2 HG2 HSU
  simp only [stA] at hU
  go_simp
  refine hK.out _ _ (HSU.out) (fun hHeld => ?_)
  clear hK Kc
  try simp only [Act.put, lA, lB, lC]
  refine tk 10 ?_
  refine wpAnyH_done (by kernel_rfl) ?_ _
  go_wp2_with fail
  (try simp only [Exit.inBlock, Exit.then])
  refine bodyPost_ret (results_c24t rfl rfl (by with_reducible exact HU2.out) (by kernel_rfl)) rfl ?_
  exact ⟨rfl, HG2.out⟩
theorem outR_t (a : FT) (ao : Option Addr) (ca tb : Nat) (W : World) (ht : TyAt W tb 0 a ao ca) (hC : ∀ u, Gr W u → Calls Tryz.prog 27 #[.slice (some ⟨tb, 0, none⟩) 2 2] u fun e w' => e = .returned (.bool true) ∧ Gr u w') :
    Calls Tryz.prog 11 #[.int .i64 5, .slice (some ⟨tb, 0, none⟩) 2 2] W fun e w' => e = .returned (.tuple #[.agg #[.int .i64 a.kind, .int .i64 a.width, .int .i64 a.id, .int .i64 a.index, .slice ao a.kids.length ca], .bool (decide (3 ≤ a.kind) && decide (a.kind ≤ 10))]) ∧ Gr W w' := by
  obtain ⟨A0, hA0⟩ := ex (W.alloc (.cells #[.int .i64 0, .int .i64 0, .int .i64 0, .int .i64 0, .slice none 0 0] 24))
  obtain ⟨A1, hA1⟩ := ex (A0.alloc (.cells #[.int .i64 0, .int .i64 0, .int .i64 0, .int .i64 0, .slice none 0 0] 24))
  obtain ⟨V, hV⟩ := ex (stA A1 A0.heap.size b5)
  obtain ⟨HO, g1, g0, b1, z0⟩ := outW_new W A0 A1 V hA0 hA1 hV
  obtain ⟨y0, y1, y2, y3, y4⟩ := cell5p b1
  obtain ⟨x0, x1, x2, x3, x4⟩ := frz5 b1
  have a0 : A1.cell? ⟨tb, 0, none⟩ = some (.int .i64 a.kind) := g1.cell' ht.1 id
  have d0 : A0.cell? ⟨tb, 0, none⟩ = some (.int .i64 a.kind) := g0.cell' ht.1 id
  have HT := hidM (outT HO (fun u => u.cell? ⟨tb, 0, none⟩ = some (.int .i64 a.kind) ∧ u.cell? ⟨tb, 1, none⟩ = some (.int .i64 a.width) ∧ u.cell? ⟨tb, 2, none⟩ = some (.int .i64 a.id) ∧ u.cell? ⟨tb, 3, none⟩ = some (.int .i64 a.index) ∧ u.cell? ⟨tb, 4, none⟩ = some (.slice ao a.kids.length ca)) (fun u g h => ht.gr g) (.int .i64 a.kind) (.int .i64 a.width) (.int .i64 a.id) (.int .i64 a.index) (.slice ao a.kids.length ca))
  have HC := hidM (hC V.drew HO.gr.drew)
  have HV := hidM (whole28 a.kind)
  have HS0 := hidM (HT.out V.drew (Keeps.refl _ _)).1
  clear hC HO g1 g0 b1 z0 ht
  simp only [b5, stA] at hV
  go_enter Tryz.func11, Tryz.ntmps11
  go_wp2_with fail
  clear y0 y1 y2 y3 y4 x0 x1 x2 x3 x4 a0 d0 hA0 hA1 hV
  refine wp_region_held_drew (S := fun w' => w'.cell? ⟨tb, 0, none⟩ = some (.int .i64 a.kind) ∧ w'.cell? ⟨tb, 1, none⟩ = some (.int .i64 a.width) ∧ w'.cell? ⟨tb, 2, none⟩ = some (.int .i64 a.id) ∧ w'.cell? ⟨tb, 3, none⟩ = some (.int .i64 a.index) ∧ w'.cell? ⟨tb, 4, none⟩ = some (.slice ao a.kids.length ca)) (by kernel_rfl) (HS0.out) (fun hHeld => ?_)
  refine tk 0 ?_
  refine tk 1 ?_
  refine tk 2 ?_
  refine tk 3 ?_
  refine rd1 4 fun Kc hK => ?_
  go_simp
  go_at_call 27
  refine Calls.mono (HC.out) ?_
  rintro e' w2 ⟨rfl, g2⟩; obtain ⟨hs2, hz2, hu2, hg2, hsU⟩ := HT.out w2 g2; have HS2 := hidM hs2; have HSU := hidM hsU; have HU2 := hidM hu2; have HG2 := hidM hg2; have HZ2 := hidM hz2; clear g2 hs2 hsU hu2 hg2 hz2
  go_wp2_with fail
  refine hK.out _ _ (HS2.out) (fun hHeld => ?_)
  clear hK Kc
  try simp only [Act.put, lA, lB, lC]
  refine tk 5 ?_
  refine tk 6 ?_
  refine rd1 7 fun Kc hK => ?_
  go_simp
  go_at_call 28
  refine Calls.mono (HV.out _) ?_
  rintro e' w3 ⟨rfl, hw⟩; subst hw
  go_wp2_with fail
  refine hK.out _ _ (HS2.out) (fun hHeld => ?_)
  clear hK Kc
  try simp only [Act.put, lA, lB, lC]
  refine tk 8 ?_
  refine rd1 9 fun Kc hK => ?_
  obtain ⟨c0, c1, c2, c3, c4⟩ := cell5p HZ2.out
  obtain ⟨x0, x1, x2, x3, x4⟩ := frz5 HZ2.out
  obtain ⟨U, hU⟩ := ex (stA w2 W.heap.size [(0, .int .i64 a.kind), (1, .int .i64 a.width), (2, .int .i64 a.id), (3, .int .i64 a.index), (4, .slice ao a.kids.length ca)])
  rw [hU] at HU2 HG2 HSU
  simp only [stA] at hU
  go_simp
  refine hK.out _ _ (HSU.out) (fun hHeld => ?_)
  clear hK Kc
  try simp only [Act.put, lA, lB, lC]
  refine tk 10 ?_
  refine wpAnyH_done (by kernel_rfl) ?_ _
  go_wp2_with fail
  (try simp only [Exit.inBlock, Exit.then])
  refine bodyPost_ret (results_c24t rfl rfl (by with_reducible exact HU2.out) (by kernel_rfl)) rfl ?_
  exact ⟨rfl, HG2.out⟩
theorem outE (op : Int) (hop : op = 7 ∨ op = 8 ∨ op = 9 ∨ op = 10 ∨ op = 11 ∨ op = 12) (a : FT) (ao : Option Addr) (ca tb : Nat) (r : Bool) (W : World) (ht : TyAt W tb 0 a ao ca) (hC : ∀ u, Gr W u → Calls Tryz.prog 27 #[.slice (some ⟨tb, 0, none⟩) 2 2] u fun e w' => e = .returned (.bool r) ∧ Gr u w') :
    Calls Tryz.prog 11 #[.int .i64 op, .slice (some ⟨tb, 0, none⟩) 2 2] W fun e w' => e = .returned (.tuple #[.agg #[.int .i64 2, .int .i64 0, .int .i64 0, .int .i64 0, .slice none 0 0], .bool (r)]) ∧ Gr W w' := by
  obtain ⟨A0, hA0⟩ := ex (W.alloc (.cells #[.int .i64 0, .int .i64 0, .int .i64 0, .int .i64 0, .slice none 0 0] 24))
  obtain ⟨A1, hA1⟩ := ex (A0.alloc (.cells #[.int .i64 0, .int .i64 0, .int .i64 0, .int .i64 0, .slice none 0 0] 24))
  obtain ⟨V, hV⟩ := ex (stA A1 A0.heap.size b5)
  obtain ⟨HO, g1, g0, b1, z0⟩ := outW_new W A0 A1 V hA0 hA1 hV
  obtain ⟨y0, y1, y2, y3, y4⟩ := cell5p b1
  obtain ⟨x0, x1, x2, x3, x4⟩ := frz5 b1
  have a0 : A1.cell? ⟨tb, 0, none⟩ = some (.int .i64 a.kind) := g1.cell' ht.1 id
  have d0 : A0.cell? ⟨tb, 0, none⟩ = some (.int .i64 a.kind) := g0.cell' ht.1 id
  have HT := hidM (outT HO (fun u => u.cell? ⟨A0.heap.size, 0, none⟩ = some (.int .i64 2) ∧ u.cell? ⟨A0.heap.size, 1, none⟩ = some (.int .i64 0) ∧ u.cell? ⟨A0.heap.size, 2, none⟩ = some (.int .i64 0) ∧ u.cell? ⟨A0.heap.size, 3, none⟩ = some (.int .i64 0) ∧ u.cell? ⟨A0.heap.size, 4, none⟩ = some (.slice none 0 0)) (fun u g h => by rw [z0]; exact cell5p h) (.int .i64 2) (.int .i64 0) (.int .i64 0) (.int .i64 0) (.slice none 0 0))
  have HC := hidM (hC V.drew HO.gr.drew)
  have HS0 := hidM (HT.out V.drew (Keeps.refl _ _)).1
  clear hC HO g1 g0 b1 z0 ht
  simp only [b5, stA] at hV
  rcases hop with rfl | rfl | rfl | rfl | rfl | rfl
  all_goals
    (go_enter Tryz.func11, Tryz.ntmps11
     go_wp2_with fail
     clear y0 y1 y2 y3 y4 x0 x1 x2 x3 x4 a0 d0 hA0 hA1 hV
     refine wp_region_held_drew (S := fun w' => w'.cell? ⟨A0.heap.size, 0, none⟩ = some (.int .i64 2) ∧ w'.cell? ⟨A0.heap.size, 1, none⟩ = some (.int .i64 0) ∧ w'.cell? ⟨A0.heap.size, 2, none⟩ = some (.int .i64 0) ∧ w'.cell? ⟨A0.heap.size, 3, none⟩ = some (.int .i64 0) ∧ w'.cell? ⟨A0.heap.size, 4, none⟩ = some (.slice none 0 0)) (by kernel_rfl) (HS0.out) (fun hHeld => ?_)
     refine tk 0 ?_
     refine tk 1 ?_
     refine rd1 2 fun Kc hK => ?_
     go_simp
     go_at_call 27
     refine Calls.mono (HC.out) ?_
     rintro e' w2 ⟨rfl, g2⟩; obtain ⟨hs2, hz2, hu2, hg2, hsU⟩ := HT.out w2 g2; have HS2 := hidM hs2; have HSU := hidM hsU; have HU2 := hidM hu2; have HG2 := hidM hg2; have HZ2 := hidM hz2; clear g2 hs2 hsU hu2 hg2 hz2
     go_wp2_with fail
     refine hK.out _ _ (HS2.out) (fun hHeld => ?_)
     clear hK Kc
     try simp only [Act.put, lA, lB, lC]
     refine rd1 3 fun Kc hK => ?_
     obtain ⟨c0, c1, c2, c3, c4⟩ := cell5p HZ2.out
     obtain ⟨x0, x1, x2, x3, x4⟩ := frz5 HZ2.out
     obtain ⟨U, hU⟩ := ex (stA w2 W.heap.size [(0, .int .i64 2), (1, .int .i64 0), (2, .int .i64 0), (3, .int .i64 0), (4, .slice none 0 0)])
     rw [hU] at HU2 HG2 HSU
     simp only [stA] at hU
     go_simp
     refine hK.out _ _ (HSU.out) (fun hHeld => ?_)
     clear hK Kc
     try simp only [Act.put, lA, lB, lC]
     refine tk 4 ?_
     refine wpAnyH_done (by kernel_rfl) ?_ _
     go_wp2_with fail
     (try simp only [Exit.inBlock, Exit.then])
     refine bodyPost_ret (results_c24t rfl rfl (by with_reducible exact HU2.out) (by kernel_rfl)) rfl ?_
     exact ⟨rfl, HG2.out⟩)
theorem outElse (a : FT) (ao : Option Addr) (ca tb : Nat) (r : Bool) (W : World) (ht : TyAt W tb 0 a ao ca) (hC : ∀ u, Gr W u → Calls Tryz.prog 27 #[.slice (some ⟨tb, 0, none⟩) 2 2] u fun e w' => e = .returned (.bool r) ∧ Gr u w') :
    Calls Tryz.prog 11 #[.int .i64 17, .slice (some ⟨tb, 0, none⟩) 2 2] W fun e w' => e = .returned (.tuple #[.agg #[.int .i64 a.kind, .int .i64 a.width, .int .i64 a.id, .int .i64 a.index, .slice ao a.kids.length ca], .bool (r)]) ∧ Gr W w' := by
  obtain ⟨A0, hA0⟩ := ex (W.alloc (.cells #[.int .i64 0, .int .i64 0, .int .i64 0, .int .i64 0, .slice none 0 0] 24))
  obtain ⟨A1, hA1⟩ := ex (A0.alloc (.cells #[.int .i64 0, .int .i64 0, .int .i64 0, .int .i64 0, .slice none 0 0] 24))
  obtain ⟨V, hV⟩ := ex (stA A1 A0.heap.size b5)
  obtain ⟨HO, g1, g0, b1, z0⟩ := outW_new W A0 A1 V hA0 hA1 hV
  obtain ⟨y0, y1, y2, y3, y4⟩ := cell5p b1
  obtain ⟨x0, x1, x2, x3, x4⟩ := frz5 b1
  have a0 : A1.cell? ⟨tb, 0, none⟩ = some (.int .i64 a.kind) := g1.cell' ht.1 id
  have d0 : A0.cell? ⟨tb, 0, none⟩ = some (.int .i64 a.kind) := g0.cell' ht.1 id
  have HT := hidM (outT HO (fun u => u.cell? ⟨tb, 0, none⟩ = some (.int .i64 a.kind) ∧ u.cell? ⟨tb, 1, none⟩ = some (.int .i64 a.width) ∧ u.cell? ⟨tb, 2, none⟩ = some (.int .i64 a.id) ∧ u.cell? ⟨tb, 3, none⟩ = some (.int .i64 a.index) ∧ u.cell? ⟨tb, 4, none⟩ = some (.slice ao a.kids.length ca)) (fun u g h => ht.gr g) (.int .i64 a.kind) (.int .i64 a.width) (.int .i64 a.id) (.int .i64 a.index) (.slice ao a.kids.length ca))
  have HC := hidM (hC V.drew HO.gr.drew)
  have HS0 := hidM (HT.out V.drew (Keeps.refl _ _)).1
  clear hC HO g1 g0 b1 z0 ht
  simp only [b5, stA] at hV
  go_enter Tryz.func11, Tryz.ntmps11
  go_wp2_with fail
  clear y0 y1 y2 y3 y4 x0 x1 x2 x3 x4 a0 d0 hA0 hA1 hV
  refine wp_region_held_drew (S := fun w' => w'.cell? ⟨tb, 0, none⟩ = some (.int .i64 a.kind) ∧ w'.cell? ⟨tb, 1, none⟩ = some (.int .i64 a.width) ∧ w'.cell? ⟨tb, 2, none⟩ = some (.int .i64 a.id) ∧ w'.cell? ⟨tb, 3, none⟩ = some (.int .i64 a.index) ∧ w'.cell? ⟨tb, 4, none⟩ = some (.slice ao a.kids.length ca)) (by kernel_rfl) (HS0.out) (fun hHeld => ?_)
  refine tk 0 ?_
  refine tk 1 ?_
  refine tk 2 ?_
  refine tk 3 ?_
  refine rd1 4 fun Kc hK => ?_
  go_simp
  go_at_call 27
  refine Calls.mono (HC.out) ?_
  rintro e' w2 ⟨rfl, g2⟩; obtain ⟨hs2, hz2, hu2, hg2, hsU⟩ := HT.out w2 g2; have HS2 := hidM hs2; have HSU := hidM hsU; have HU2 := hidM hu2; have HG2 := hidM hg2; have HZ2 := hidM hz2; clear g2 hs2 hsU hu2 hg2 hz2
  go_wp2_with fail
  refine hK.out _ _ (HS2.out) (fun hHeld => ?_)
  clear hK Kc
  try simp only [Act.put, lA, lB, lC]
  refine rd1 5 fun Kc hK => ?_
  obtain ⟨c0, c1, c2, c3, c4⟩ := cell5p HZ2.out
  obtain ⟨x0, x1, x2, x3, x4⟩ := frz5 HZ2.out
  obtain ⟨U, hU⟩ := ex (stA w2 W.heap.size [(0, .int .i64 a.kind), (1, .int .i64 a.width), (2, .int .i64 a.id), (3, .int .i64 a.index), (4, .slice ao a.kids.length ca)])
  rw [hU] at HU2 HG2 HSU
  simp only [stA] at hU
  go_simp
  refine hK.out _ _ (HSU.out) (fun hHeld => ?_)
  clear hK Kc
  try simp only [Act.put, lA, lB, lC]
  refine tk 6 ?_
  refine wpAnyH_done (by kernel_rfl) ?_ _
  go_wp2_with fail
  (try simp only [Exit.inBlock, Exit.then])
  refine bodyPost_ret (results_c24t rfl rfl (by with_reducible exact HU2.out) (by kernel_rfl)) rfl ?_
  exact ⟨rfl, HG2.out⟩
theorem outB_f (op : Int) (hop : op = 13 ∨ op = 14) (a : FT) (ao : Option Addr) (ca tb : Nat) (W : World) (ht : TyAt W tb 0 a ao ca) (hC : ∀ u, Gr W u → Calls Tryz.prog 27 #[.slice (some ⟨tb, 0, none⟩) 2 2] u fun e w' => e = .returned (.bool false) ∧ Gr u w') :
    Calls Tryz.prog 11 #[.int .i64 op, .slice (some ⟨tb, 0, none⟩) 2 2] W fun e w' => e = .returned (.tuple #[.agg #[.int .i64 2, .int .i64 0, .int .i64 0, .int .i64 0, .slice none 0 0], .bool (false)]) ∧ Gr W w' := by
  obtain ⟨A0, hA0⟩ := ex (W.alloc (.cells #[.int .i64 0, .int .i64 0, .int .i64 0, .int .i64 0, .slice none 0 0] 24))
  obtain ⟨A1, hA1⟩ := ex (A0.alloc (.cells #[.int .i64 0, .int .i64 0, .int .i64 0, .int .i64 0, .slice none 0 0] 24))
  obtain ⟨V, hV⟩ := ex (stA A1 A0.heap.size b5)
  obtain ⟨HO, g1, g0, b1, z0⟩ := outW_new W A0 A1 V hA0 hA1 hV
  obtain ⟨y0, y1, y2, y3, y4⟩ := cell5p b1
  obtain ⟨x0, x1, x2, x3, x4⟩ := frz5 b1
  have a0 : A1.cell? ⟨tb, 0, none⟩ = some (.int .i64 a.kind) := g1.cell' ht.1 id
  have d0 : A0.cell? ⟨tb, 0, none⟩ = some (.int .i64 a.kind) := g0.cell' ht.1 id
  have HT := hidM (outT HO (fun u => u.cell? ⟨A0.heap.size, 0, none⟩ = some (.int .i64 2) ∧ u.cell? ⟨A0.heap.size, 1, none⟩ = some (.int .i64 0) ∧ u.cell? ⟨A0.heap.size, 2, none⟩ = some (.int .i64 0) ∧ u.cell? ⟨A0.heap.size, 3, none⟩ = some (.int .i64 0) ∧ u.cell? ⟨A0.heap.size, 4, none⟩ = some (.slice none 0 0)) (fun u g h => by rw [z0]; exact cell5p h) (.int .i64 2) (.int .i64 0) (.int .i64 0) (.int .i64 0) (.slice none 0 0))
  have HC := hidM (hC V.drew HO.gr.drew)
  have HS0 := hidM (HT.out V.drew (Keeps.refl _ _)).1
  clear hC HO g1 g0 b1 z0 ht
  simp only [b5, stA] at hV
  rcases hop with rfl | rfl
  all_goals
    (go_enter Tryz.func11, Tryz.ntmps11
     go_wp2_with fail
     clear y0 y1 y2 y3 y4 x0 x1 x2 x3 x4 a0 d0 hA0 hA1 hV
     refine wp_region_held_drew (S := fun w' => w'.cell? ⟨A0.heap.size, 0, none⟩ = some (.int .i64 2) ∧ w'.cell? ⟨A0.heap.size, 1, none⟩ = some (.int .i64 0) ∧ w'.cell? ⟨A0.heap.size, 2, none⟩ = some (.int .i64 0) ∧ w'.cell? ⟨A0.heap.size, 3, none⟩ = some (.int .i64 0) ∧ w'.cell? ⟨A0.heap.size, 4, none⟩ = some (.slice none 0 0)) (by kernel_rfl) (HS0.out) (fun hHeld => ?_)
     refine tk 0 ?_
     refine tk 1 ?_
     refine rd1 2 fun Kc hK => ?_
     go_simp
     go_at_call 27
     refine Calls.mono (HC.out) ?_
     rintro e' w2 ⟨rfl, g2⟩; obtain ⟨hs2, hz2, hu2, hg2, hsU⟩ := HT.out w2 g2; have HS2 := hidM hs2; have HSU := hidM hsU; have HU2 := hidM hu2; have HG2 := hidM hg2; have HZ2 := hidM hz2; clear g2 hs2 hsU hu2 hg2 hz2
     go_wp2_with fail
     refine hK.out _ _ (HS2.out) (fun hHeld => ?_)
     clear hK Kc
     try simp only [Act.put, lA, lB, lC]
     refine tk 3 ?_
     refine sk 4 ?_
     refine sk 5 ?_
     refine tk 6 ?_
     refine rd1 7 fun Kc hK => ?_
     obtain ⟨c0, c1, c2, c3, c4⟩ := cell5p HZ2.out
     obtain ⟨x0, x1, x2, x3, x4⟩ := frz5 HZ2.out
     obtain ⟨U, hU⟩ := ex (stA w2 W.heap.size [(0, .int .i64 2), (1, .int .i64 0), (2, .int .i64 0), (3, .int .i64 0), (4, .slice none 0 0)])
     rw [hU] at HU2 HG2 HSU
     simp only [stA] at hU
     go_simp
     refine hK.out _ _ (HSU.out) (fun hHeld => ?_)
     clear hK Kc
     try simp only [Act.put, lA, lB, lC]
     refine tk 8 ?_
     refine wpAnyH_done (by kernel_rfl) ?_ _
     go_wp2_with fail
     (try simp only [Exit.inBlock, Exit.then])
     refine bodyPost_ret (results_c24t rfl rfl (by with_reducible exact HU2.out) (by kernel_rfl)) rfl ?_
     exact ⟨rfl, HG2.out⟩)
theorem outB_t (op : Int) (hop : op = 13 ∨ op = 14) (a : FT) (ao : Option Addr) (ca tb : Nat) (W : World) (ht : TyAt W tb 0 a ao ca) (hC : ∀ u, Gr W u → Calls Tryz.prog 27 #[.slice (some ⟨tb, 0, none⟩) 2 2] u fun e w' => e = .returned (.bool true) ∧ Gr u w') :
    Calls Tryz.prog 11 #[.int .i64 op, .slice (some ⟨tb, 0, none⟩) 2 2] W fun e w' => e = .returned (.tuple #[.agg #[.int .i64 2, .int .i64 0, .int .i64 0, .int .i64 0, .slice none 0 0], .bool (a.kind == 2)]) ∧ Gr W w' := by
  obtain ⟨A0, hA0⟩ := ex (W.alloc (.cells #[.int .i64 0, .int .i64 0, .int .i64 0, .int .i64 0, .slice none 0 0] 24))
  obtain ⟨A1, hA1⟩ := ex (A0.alloc (.cells #[.int .i64 0, .int .i64 0, .int .i64 0, .int .i64 0, .slice none 0 0] 24))
  obtain ⟨V, hV⟩ := ex (stA A1 A0.heap.size b5)
  obtain ⟨HO, g1, g0, b1, z0⟩ := outW_new W A0 A1 V hA0 hA1 hV
  obtain ⟨y0, y1, y2, y3, y4⟩ := cell5p b1
  obtain ⟨x0, x1, x2, x3, x4⟩ := frz5 b1
  have a0 : A1.cell? ⟨tb, 0, none⟩ = some (.int .i64 a.kind) := g1.cell' ht.1 id
  have d0 : A0.cell? ⟨tb, 0, none⟩ = some (.int .i64 a.kind) := g0.cell' ht.1 id
  have HT := hidM (outT HO (fun u => u.cell? ⟨A0.heap.size, 0, none⟩ = some (.int .i64 2) ∧ u.cell? ⟨A0.heap.size, 1, none⟩ = some (.int .i64 0) ∧ u.cell? ⟨A0.heap.size, 2, none⟩ = some (.int .i64 0) ∧ u.cell? ⟨A0.heap.size, 3, none⟩ = some (.int .i64 0) ∧ u.cell? ⟨A0.heap.size, 4, none⟩ = some (.slice none 0 0)) (fun u g h => by rw [z0]; exact cell5p h) (.int .i64 2) (.int .i64 0) (.int .i64 0) (.int .i64 0) (.slice none 0 0))
  have HC := hidM (hC V.drew HO.gr.drew)
  have HS0 := hidM (HT.out V.drew (Keeps.refl _ _)).1
  clear hC HO g1 g0 b1 z0 ht
  simp only [b5, stA] at hV
  rcases hop with rfl | rfl
  all_goals
    (go_enter Tryz.func11, Tryz.ntmps11
     go_wp2_with fail
     clear y0 y1 y2 y3 y4 x0 x1 x2 x3 x4 a0 d0 hA0 hA1 hV
     refine wp_region_held_drew (S := fun w' => w'.cell? ⟨A0.heap.size, 0, none⟩ = some (.int .i64 2) ∧ w'.cell? ⟨A0.heap.size, 1, none⟩ = some (.int .i64 0) ∧ w'.cell? ⟨A0.heap.size, 2, none⟩ = some (.int .i64 0) ∧ w'.cell? ⟨A0.heap.size, 3, none⟩ = some (.int .i64 0) ∧ w'.cell? ⟨A0.heap.size, 4, none⟩ = some (.slice none 0 0)) (by kernel_rfl) (HS0.out) (fun hHeld => ?_)
     refine tk 0 ?_
     refine tk 1 ?_
     refine rd1 2 fun Kc hK => ?_
     go_simp
     go_at_call 27
     refine Calls.mono (HC.out) ?_
     rintro e' w2 ⟨rfl, g2⟩; obtain ⟨hs2, hz2, hu2, hg2, hsU⟩ := HT.out w2 g2; have HS2 := hidM hs2; have HSU := hidM hsU; have HU2 := hidM hu2; have HG2 := hidM hg2; have HZ2 := hidM hz2; clear g2 hs2 hsU hu2 hg2 hz2
     go_wp2_with fail
     refine hK.out _ _ (HS2.out) (fun hHeld => ?_)
     clear hK Kc
     try simp only [Act.put, lA, lB, lC]
     refine tk 3 ?_
     refine tk 4 ?_
     refine tk 5 ?_
     refine tk 6 ?_
     refine rd1 7 fun Kc hK => ?_
     obtain ⟨c0, c1, c2, c3, c4⟩ := cell5p HZ2.out
     obtain ⟨x0, x1, x2, x3, x4⟩ := frz5 HZ2.out
     obtain ⟨U, hU⟩ := ex (stA w2 W.heap.size [(0, .int .i64 2), (1, .int .i64 0), (2, .int .i64 0), (3, .int .i64 0), (4, .slice none 0 0)])
     rw [hU] at HU2 HG2 HSU
     simp only [stA] at hU
     go_simp
     refine hK.out _ _ (HSU.out) (fun hHeld => ?_)
     clear hK Kc
     try simp only [Act.put, lA, lB, lC]
     refine tk 8 ?_
     refine wpAnyH_done (by kernel_rfl) ?_ _
     go_wp2_with fail
     (try simp only [Exit.inBlock, Exit.then])
     refine bodyPost_ret (results_c24t rfl rfl (by with_reducible exact HU2.out) (by kernel_rfl)) rfl ?_
     exact ⟨rfl, HG2.out⟩)
theorem outN (a : FT) (ao : Option Addr) (ca tb : Nat) (W : World) (ht : TyAt W tb 0 a ao ca) (hC : ∀ u, Gr W u → Calls Tryz.prog 27 #[.slice (some ⟨tb, 0, none⟩) 1 1] u fun e w' => e = .returned (.bool true) ∧ Gr u w') :
    Calls Tryz.prog 11 #[.int .i64 15, .slice (some ⟨tb, 0, none⟩) 1 1] W fun e w' => e = .returned (.tuple #[.agg #[.int .i64 2, .int .i64 0, .int .i64 0, .int .i64 0, .slice none 0 0], .bool (a.kind == 2)]) ∧ Gr W w' := by
  obtain ⟨A0, hA0⟩ := ex (W.alloc (.cells #[.int .i64 0, .int .i64 0, .int .i64 0, .int .i64 0, .slice none 0 0] 24))
  obtain ⟨A1, hA1⟩ := ex (A0.alloc (.cells #[.int .i64 0, .int .i64 0, .int .i64 0, .int .i64 0, .slice none 0 0] 24))
  obtain ⟨V, hV⟩ := ex (stA A1 A0.heap.size b5)
  obtain ⟨HO, g1, g0, b1, z0⟩ := outW_new W A0 A1 V hA0 hA1 hV
  obtain ⟨y0, y1, y2, y3, y4⟩ := cell5p b1
  obtain ⟨x0, x1, x2, x3, x4⟩ := frz5 b1
  have a0 : A1.cell? ⟨tb, 0, none⟩ = some (.int .i64 a.kind) := g1.cell' ht.1 id
  have d0 : A0.cell? ⟨tb, 0, none⟩ = some (.int .i64 a.kind) := g0.cell' ht.1 id
  have HT := hidM (outT HO (fun u => u.cell? ⟨A0.heap.size, 0, none⟩ = some (.int .i64 2) ∧ u.cell? ⟨A0.heap.size, 1, none⟩ = some (.int .i64 0) ∧ u.cell? ⟨A0.heap.size, 2, none⟩ = some (.int .i64 0) ∧ u.cell? ⟨A0.heap.size, 3, none⟩ = some (.int .i64 0) ∧ u.cell? ⟨A0.heap.size, 4, none⟩ = some (.slice none 0 0)) (fun u g h => by rw [z0]; exact cell5p h) (.int .i64 2) (.int .i64 0) (.int .i64 0) (.int .i64 0) (.slice none 0 0))
  have HC := hidM (hC V.drew HO.gr.drew)
  have HS0 := hidM (HT.out V.drew (Keeps.refl _ _)).1
  clear hC HO g1 g0 b1 z0 ht
  simp only [b5, stA] at hV
  go_enter Tryz.func11, Tryz.ntmps11
  go_wp2_with fail
  clear y0 y1 y2 y3 y4 x0 x1 x2 x3 x4 a0 d0 hA0 hA1 hV
  refine wp_region_held_drew (S := fun w' => w'.cell? ⟨A0.heap.size, 0, none⟩ = some (.int .i64 2) ∧ w'.cell? ⟨A0.heap.size, 1, none⟩ = some (.int .i64 0) ∧ w'.cell? ⟨A0.heap.size, 2, none⟩ = some (.int .i64 0) ∧ w'.cell? ⟨A0.heap.size, 3, none⟩ = some (.int .i64 0) ∧ w'.cell? ⟨A0.heap.size, 4, none⟩ = some (.slice none 0 0)) (by kernel_rfl) (HS0.out) (fun hHeld => ?_)
  refine tk 0 ?_
  refine tk 1 ?_
  refine rd1 2 fun Kc hK => ?_
  go_simp
  go_at_call 27
  refine Calls.mono (HC.out) ?_
  rintro e' w2 ⟨rfl, g2⟩; obtain ⟨hs2, hz2, hu2, hg2, hsU⟩ := HT.out w2 g2; have HS2 := hidM hs2; have HSU := hidM hsU; have HU2 := hidM hu2; have HG2 := hidM hg2; have HZ2 := hidM hz2; clear g2 hs2 hsU hu2 hg2 hz2
  go_wp2_with fail
  refine hK.out _ _ (HS2.out) (fun hHeld => ?_)
  clear hK Kc
  try simp only [Act.put, lA, lB, lC]
  refine tk 3 ?_
  refine tk 4 ?_
  refine tk 5 ?_
  refine tk 6 ?_
  refine rd1 7 fun Kc hK => ?_
  obtain ⟨c0, c1, c2, c3, c4⟩ := cell5p HZ2.out
  obtain ⟨x0, x1, x2, x3, x4⟩ := frz5 HZ2.out
  obtain ⟨U, hU⟩ := ex (stA w2 W.heap.size [(0, .int .i64 2), (1, .int .i64 0), (2, .int .i64 0), (3, .int .i64 0), (4, .slice none 0 0)])
  rw [hU] at HU2 HG2 HSU
  simp only [stA] at hU
  go_simp
  refine hK.out _ _ (HSU.out) (fun hHeld => ?_)
  clear hK Kc
  try simp only [Act.put, lA, lB, lC]
  refine tk 8 ?_
  refine wpAnyH_done (by kernel_rfl) ?_ _
  go_wp2_with fail
  (try simp only [Exit.inBlock, Exit.then])
  refine bodyPost_ret (results_c24t rfl rfl (by with_reducible exact HU2.out) (by kernel_rfl)) rfl ?_
  exact ⟨rfl, HG2.out⟩
theorem outIf_t (a : FT) (ao : Option Addr) (ca tb : Nat) (r : Bool) (W : World) (k0 : Int) (hk0 : W.cell? ⟨tb, 0, none⟩ = some (.int .i64 k0)) (ht : TyAt W tb 5 a ao ca) (hk : (k0 == 2) = true) (hC : ∀ u, Gr W u → Calls Tryz.prog 27 #[.slice (some ⟨tb, 5, none⟩) 2 2] u fun e w' => e = .returned (.bool r) ∧ Gr u w') :
    Calls Tryz.prog 11 #[.int .i64 18, .slice (some ⟨tb, 0, none⟩) 3 3] W fun e w' => e = .returned (.tuple #[.agg #[.int .i64 a.kind, .int .i64 a.width, .int .i64 a.id, .int .i64 a.index, .slice ao a.kids.length ca], .bool (r)]) ∧ Gr W w' := by
  obtain ⟨A0, hA0⟩ := ex (W.alloc (.cells #[.int .i64 0, .int .i64 0, .int .i64 0, .int .i64 0, .slice none 0 0] 24))
  obtain ⟨A1, hA1⟩ := ex (A0.alloc (.cells #[.int .i64 0, .int .i64 0, .int .i64 0, .int .i64 0, .slice none 0 0] 24))
  obtain ⟨V, hV⟩ := ex (stA A1 A0.heap.size b5)
  obtain ⟨HO, g1, g0, b1, z0⟩ := outW_new W A0 A1 V hA0 hA1 hV
  obtain ⟨y0, y1, y2, y3, y4⟩ := cell5p b1
  obtain ⟨x0, x1, x2, x3, x4⟩ := frz5 b1
  have a0 : A1.cell? ⟨tb, 0, none⟩ = some (.int .i64 k0) := g1.cell' hk0 id
  have d0 : A0.cell? ⟨tb, 0, none⟩ = some (.int .i64 k0) := g0.cell' hk0 id
  have HT := hidM (outT HO (fun u => u.cell? ⟨tb, 5, none⟩ = some (.int .i64 a.kind) ∧ u.cell? ⟨tb, 6, none⟩ = some (.int .i64 a.width) ∧ u.cell? ⟨tb, 7, none⟩ = some (.int .i64 a.id) ∧ u.cell? ⟨tb, 8, none⟩ = some (.int .i64 a.index) ∧ u.cell? ⟨tb, 9, none⟩ = some (.slice ao a.kids.length ca)) (fun u g h => ht.gr g) (.int .i64 a.kind) (.int .i64 a.width) (.int .i64 a.id) (.int .i64 a.index) (.slice ao a.kids.length ca))
  have HC := hidM (hC V.drew HO.gr.drew)
  have HS0 := hidM (HT.out V.drew (Keeps.refl _ _)).1
  clear hC hk0 HO g1 g0 b1 z0 ht
  simp only [b5, stA] at hV
  go_enter Tryz.func11, Tryz.ntmps11
  go_wp2_with fail
  clear y0 y1 y2 y3 y4 x0 x1 x2 x3 x4 a0 d0 hA0 hA1 hV
  refine wp_region_held_drew (S := fun w' => w'.cell? ⟨tb, 5, none⟩ = some (.int .i64 a.kind) ∧ w'.cell? ⟨tb, 6, none⟩ = some (.int .i64 a.width) ∧ w'.cell? ⟨tb, 7, none⟩ = some (.int .i64 a.id) ∧ w'.cell? ⟨tb, 8, none⟩ = some (.int .i64 a.index) ∧ w'.cell? ⟨tb, 9, none⟩ = some (.slice ao a.kids.length ca)) (by kernel_rfl) (HS0.out) (fun hHeld => ?_)
  refine tk 0 ?_
  refine tk 1 ?_
  refine tk 2 ?_
  refine tk 3 ?_
  refine tk 4 ?_
  refine tk 5 ?_
  refine tk 6 ?_
  refine tk 7 ?_
  refine rd1 8 fun Kc hK => ?_
  go_simp
  go_at_call 27
  refine Calls.mono (HC.out) ?_
  rintro e' w2 ⟨rfl, g2⟩; obtain ⟨hs2, hz2, hu2, hg2, hsU⟩ := HT.out w2 g2; have HS2 := hidM hs2; have HSU := hidM hsU; have HU2 := hidM hu2; have HG2 := hidM hg2; have HZ2 := hidM hz2; clear g2 hs2 hsU hu2 hg2 hz2
  go_wp2_with fail
  refine hK.out _ _ (HS2.out) (fun hHeld => ?_)
  clear hK Kc
  try simp only [Act.put, lA, lB, lC]
  refine tk 9 ?_
  refine rd1 10 fun Kc hK => ?_
  obtain ⟨c0, c1, c2, c3, c4⟩ := cell5p HZ2.out
  obtain ⟨x0, x1, x2, x3, x4⟩ := frz5 HZ2.out
  obtain ⟨U, hU⟩ := ex (stA w2 W.heap.size [(0, .int .i64 a.kind), (1, .int .i64 a.width), (2, .int .i64 a.id), (3, .int .i64 a.index), (4, .slice ao a.kids.length ca)])
  rw [hU] at HU2 HG2 HSU
  simp only [stA] at hU
  go_simp
  refine hK.out _ _ (HSU.out) (fun hHeld => ?_)
  clear hK Kc
  try simp only [Act.put, lA, lB, lC]
  refine tk 11 ?_
  refine wpAnyH_done (by kernel_rfl) ?_ _
  go_wp2_with fail
  (try simp only [Exit.inBlock, Exit.then])
  refine bodyPost_ret (results_c24t rfl rfl (by with_reducible exact HU2.out) (by kernel_rfl)) rfl ?_
  exact ⟨rfl, HG2.out⟩
theorem outIf_f (a : FT) (ao : Option Addr) (ca tb : Nat) (W : World) (k0 : Int) (hk0 : W.cell? ⟨tb, 0, none⟩ = some (.int .i64 k0)) (ht : TyAt W tb 5 a ao ca) (hk : (k0 == 2) = false) :
    Calls Tryz.prog 11 #[.int .i64 18, .slice (some ⟨tb, 0, none⟩) 3 3] W fun e w' => e = .returned (.tuple #[.agg #[.int .i64 a.kind, .int .i64 a.width, .int .i64 a.id, .int .i64 a.index, .slice ao a.kids.length ca], .bool (false)]) ∧ Gr W w' := by
  obtain ⟨A0, hA0⟩ := ex (W.alloc (.cells #[.int .i64 0, .int .i64 0, .int .i64 0, .int .i64 0, .slice none 0 0] 24))
  obtain ⟨A1, hA1⟩ := ex (A0.alloc (.cells #[.int .i64 0, .int .i64 0, .int .i64 0, .int .i64 0, .slice none 0 0] 24))
  obtain ⟨V, hV⟩ := ex (stA A1 A0.heap.size b5)
  obtain ⟨HO, g1, g0, b1, z0⟩ := outW_new W A0 A1 V hA0 hA1 hV
  obtain ⟨y0, y1, y2, y3, y4⟩ := cell5p b1
  obtain ⟨x0, x1, x2, x3, x4⟩ := frz5 b1
  have a0 : A1.cell? ⟨tb, 0, none⟩ = some (.int .i64 k0) := g1.cell' hk0 id
  have d0 : A0.cell? ⟨tb, 0, none⟩ = some (.int .i64 k0) := g0.cell' hk0 id
  have HT := hidM (outT HO (fun u => u.cell? ⟨tb, 5, none⟩ = some (.int .i64 a.kind) ∧ u.cell? ⟨tb, 6, none⟩ = some (.int .i64 a.width) ∧ u.cell? ⟨tb, 7, none⟩ = some (.int .i64 a.id) ∧ u.cell? ⟨tb, 8, none⟩ = some (.int .i64 a.index) ∧ u.cell? ⟨tb, 9, none⟩ = some (.slice ao a.kids.length ca)) (fun u g h => ht.gr g) (.int .i64 a.kind) (.int .i64 a.width) (.int .i64 a.id) (.int .i64 a.index) (.slice ao a.kids.length ca))
  have HS0 := hidM (HT.out V.drew (Keeps.refl _ _)).1
  clear hk0 HO g1 g0 b1 z0 ht
  simp only [b5, stA] at hV
  go_enter Tryz.func11, Tryz.ntmps11
  go_wp2_with fail
  clear y0 y1 y2 y3 y4 x0 x1 x2 x3 x4 a0 d0 hA0 hA1 hV
  refine wp_region_held_drew (S := fun w' => w'.cell? ⟨tb, 5, none⟩ = some (.int .i64 a.kind) ∧ w'.cell? ⟨tb, 6, none⟩ = some (.int .i64 a.width) ∧ w'.cell? ⟨tb, 7, none⟩ = some (.int .i64 a.id) ∧ w'.cell? ⟨tb, 8, none⟩ = some (.int .i64 a.index) ∧ w'.cell? ⟨tb, 9, none⟩ = some (.slice ao a.kids.length ca)) (by kernel_rfl) (HS0.out) (fun hHeld => ?_)
  refine tk 0 ?_
  refine tk 1 ?_
  refine tk 2 ?_
  refine tk 3 ?_
  refine tk 4 ?_
  refine tk 5 ?_
  refine sk 6 ?_
  refine sk 7 ?_
  refine sk 8 ?_
  refine tk 9 ?_
  generalize V.drew = Y at *
  obtain ⟨hs2, hz2, hu2, hg2, hsU⟩ := HT.out Y (Keeps.refl _ _); have HS2 := hidM hs2; have HSU := hidM hsU; have HU2 := hidM hu2; have HG2 := hidM hg2; have HZ2 := hidM hz2; clear hs2 hsU hu2 hg2 hz2
  refine rd1 10 fun Kc hK => ?_
  obtain ⟨c0, c1, c2, c3, c4⟩ := cell5p HZ2.out
  obtain ⟨x0, x1, x2, x3, x4⟩ := frz5 HZ2.out
  obtain ⟨U, hU⟩ := ex (stA Y W.heap.size [(0, .int .i64 a.kind), (1, .int .i64 a.width), (2, .int .i64 a.id), (3, .int .i64 a.index), (4, .slice ao a.kids.length ca)])
  rw [hU] at HU2 HG2 HSU
  simp only [stA] at hU
  go_simp
  refine hK.out _ _ (HSU.out) (fun hHeld => ?_)
  clear hK Kc
  try simp only [Act.put, lA, lB, lC]
  refine tk 11 ?_
  refine wpAnyH_done (by kernel_rfl) ?_ _
  go_wp2_with fail
  (try simp only [Exit.inBlock, Exit.then])
  refine bodyPost_ret (results_c24t rfl rfl (by with_reducible exact HU2.out) (by kernel_rfl)) rfl ?_
  exact ⟨rfl, HG2.out⟩
end Go.Proofs.YtknnoiomdngmfaaGreatDoor.Kit
