import Derived.Test.YtknnoiomdngmfaaGreatDoorLQ
import Derived.Test.YtknnoiomdngmfaaGreatDoorUR
import Derived.Test.YtknnoiomdngmfaaGreatDoorUI
import Derived.Test.YtknnoiomdngmfaaGreatDoorUK
import Derived.Test.YtknnoiomdngmfaaGreatDoorWH
set_option maxRecDepth 100000
set_option maxHeartbeats 4000000
namespace Go.Proofs.YtknnoiomdngmfaaGreatDoor.Kit
open Go.RowKit Go.Shelf Go.Deep
set_option linter.unusedVariables false
set_option linter.unusedSimpArgs false
attribute [local go_sem] run_store_func
theorem outG_f (a : FT) (ao : Option Addr) (ca tb : Nat) (W : World) (ht : TyAt W tb 0 a ao ca) (hC : ∀ u, Gr W u → Calls Tryz.prog 27 #[.slice (some ⟨tb, 0, none⟩) 2 2] u fun e w' => e = .returned (.bool false) ∧ Gr u w') :
    Calls Tryz.prog 11 #[.int .i64 19, .slice (some ⟨tb, 0, none⟩) 2 2] W fun e w' => e = .returned (.tuple #[.agg #[.int .i64 a.kind, .int .i64 a.width, .int .i64 a.id, .int .i64 a.index, .slice ao a.kids.length ca], .bool (false)]) ∧ Gr W w' := by
  obtain ⟨A0, hA0⟩ := ex (W.alloc (.cells #[.int .i64 0, .int .i64 0, .int .i64 0, .int .i64 0, .slice none 0 0] 24))
  obtain ⟨A1, hA1⟩ := ex (A0.alloc (.cells #[.int .i64 0, .int .i64 0, .int .i64 0, .int .i64 0, .slice none 0 0] 24))
  obtain ⟨V, hV⟩ := ex (stA A1 A0.heap.size b5)
  obtain ⟨HO, g1, g0, b1, z0⟩ := outW_new W A0 A1 V hA0 hA1 hV
  obtain ⟨y0, y1, y2, y3, y4⟩ := cell5p b1
  obtain ⟨x0, x1, x2, x3, x4⟩ := frz5 b1
  have a0 : A1.cell? ⟨tb, 0, none⟩ = some (.int .i64 a.kind) := g1.cell' ht.1 id
  have d0 : A0.cell? ⟨tb, 0, none⟩ = some (.int .i64 a.kind) := g0.cell' ht.1 id
  have HT := hidM (outT HO (fun u => u.cell? ⟨tb, 0, none⟩ = some (.int .i64 a.kind) ∧ u.cell? ⟨tb, 1, none⟩ = some (.int .i64 a.width) ∧ u.cell? ⟨tb, 2, none⟩ = some (.int .i64 a.id) ∧ u.cell? ⟨tb, 3, none⟩ = some (.int .i64 a.index) ∧ u.cell? ⟨tb, 4, none⟩ = some (.slice ao a.kids.length ca)) (fun u g h => ht.gr g) (.int .i64 a.kind) (.int .i64 a.width) (.int .i64 a.id) (.int .i64 a.index) (.slice ao a.kids.length ca))
  have HC := hidM (hC V.drew HO.gr.drew)
  have HS0 := hidM (HT.out V.drew (Keeps.refl _ _)).1
  clear hC HO g1 g0 b1 z0 ht
  simp only [b5, stA] at hV
  go_enter Tryz.func11, Tryz.ntmps11
  go_wp2_with fail
  clear y0 y1 y2 y3 y4 x0 x1 x2 x3 x4 a0 d0 hA0 hA1 hV
  refine wp_region_held_drew (S := fun w' => w'.cell? ⟨tb, 0, none⟩ = some (.int .i64 a.kind) ∧ w'.cell? ⟨tb, 1, none⟩ = some (.int .i64 a.width) ∧ w'.cell? ⟨tb, 2, none⟩ = some (.int .i64 a.id) ∧ w'.cell? ⟨tb, 3, none⟩ = some (.int .i64 a.index) ∧ w'.cell? ⟨tb, 4, none⟩ = some (.slice ao a.kids.length ca)) (by kernel_rfl) (HS0.out) (fun hHeld => ?_)
  refine tk 0 ?_
  refine tk 1 ?_
  refine tk 2 ?_
  refine tk 3 ?_
  refine rd1 4 fun Kc hK => ?_
  go_simp
  go_at_call 27
  refine Calls.mono (HC.out) ?_
  rintro e' w2 ⟨rfl, g2⟩; obtain ⟨hs2, hz2, hu2, hg2, hsU⟩ := HT.out w2 g2; have HS2 := hidM hs2; have HSU := hidM hsU; have HU2 := hidM hu2; have HG2 := hidM hg2; have HZ2 := hidM hz2; clear g2 hs2 hsU hu2 hg2 hz2
  go_wp2_with fail
  refine hK.out _ _ (HS2.out) (fun hHeld => ?_)
  clear hK Kc
  try simp only [Act.put, lA, lB, lC]
  refine tk 5 ?_
  refine sk 6 ?_
  refine sk 7 ?_
  refine tk 8 ?_
  refine rd1 9 fun Kc hK => ?_
  obtain ⟨c0, c1, c2, c3, c4⟩ := cell5p HZ2.out
  obtain ⟨x0, x1, x2, x3, x4⟩ := frz5 HZ2.out
  obtain ⟨U, hU⟩ := ex (stA w2 W.heap.size [(0, .int .i64 a.kind), (1, .int .i64 a.width), (2, .int .i64 a.id), (3, .int .i64 a.index), (4, .slice ao a.kids.length ca)])
  rw [hU] at HU2 HG2 HSU
  simp only [stA] at hU
  go_simp
  refine hK.out _ _ (HSU.out) (fun hHeld => ?_)
  clear hK Kc
  try simp only [Act.put, lA, lB, lC]
  refine tk 10 ?_
  refine wpAnyH_done (by kernel_rfl) ?_ _
  go_wp2_with fail
  (try simp only [Exit.inBlock, Exit.then])
  refine bodyPost_ret (results_c24t rfl rfl (by with_reducible exact HU2.out) (by kernel_rfl)) rfl ?_
  exact ⟨rfl, HG2.out⟩
theorem outG_t (a : FT) (ao : Option Addr) (ca tb : Nat) (W : World) (ht : TyAt W tb 0 a ao ca) (hC : ∀ u, Gr W u → Calls Tryz.prog 27 #[.slice (some ⟨tb, 0, none⟩) 2 2] u fun e w' => e = .returned (.bool true) ∧ Gr u w') :
    Calls Tryz.prog 11 #[.int .i64 19, .slice (some ⟨tb, 0, none⟩) 2 2] W fun e w' => e = .returned (.tuple #[.agg #[.int .i64 a.kind, .int .i64 a.width, .int .i64 a.id, .int .i64 a.index, .slice ao a.kids.length ca], .bool (a.kind == 12 || a.kind == 13)]) ∧ Gr W w' := by
  obtain ⟨A0, hA0⟩ := ex (W.alloc (.cells #[.int .i64 0, .int .i64 0, .int .i64 0, .int .i64 0, .slice none 0 0] 24))
  obtain ⟨A1, hA1⟩ := ex (A0.alloc (.cells #[.int .i64 0, .int .i64 0, .int .i64 0, .int .i64 0, .slice none 0 0] 24))
  obtain ⟨V, hV⟩ := ex (stA A1 A0.heap.size b5)
  obtain ⟨HO, g1, g0, b1, z0⟩ := outW_new W A0 A1 V hA0 hA1 hV
  obtain ⟨y0, y1, y2, y3, y4⟩ := cell5p b1
  obtain ⟨x0, x1, x2, x3, x4⟩ := frz5 b1
  have a0 : A1.cell? ⟨tb, 0, none⟩ = some (.int .i64 a.kind) := g1.cell' ht.1 id
  have d0 : A0.cell? ⟨tb, 0, none⟩ = some (.int .i64 a.kind) := g0.cell' ht.1 id
  have HT := hidM (outT HO (fun u => u.cell? ⟨tb, 0, none⟩ = some (.int .i64 a.kind) ∧ u.cell? ⟨tb, 1, none⟩ = some (.int .i64 a.width) ∧ u.cell? ⟨tb, 2, none⟩ = some (.int .i64 a.id) ∧ u.cell? ⟨tb, 3, none⟩ = some (.int .i64 a.index) ∧ u.cell? ⟨tb, 4, none⟩ = some (.slice ao a.kids.length ca)) (fun u g h => ht.gr g) (.int .i64 a.kind) (.int .i64 a.width) (.int .i64 a.id) (.int .i64 a.index) (.slice ao a.kids.length ca))
  have HC := hidM (hC V.drew HO.gr.drew)
  have HV := hidM (letters29 a.kind)
  have HS0 := hidM (HT.out V.drew (Keeps.refl _ _)).1
  clear hC HO g1 g0 b1 z0 ht
  simp only [b5, stA] at hV
  go_enter Tryz.func11, Tryz.ntmps11
  go_wp2_with fail
  clear y0 y1 y2 y3 y4 x0 x1 x2 x3 x4 a0 d0 hA0 hA1 hV
  refine wp_region_held_drew (S := fun w' => w'.cell? ⟨tb, 0, none⟩ = some (.int .i64 a.kind) ∧ w'.cell? ⟨tb, 1, none⟩ = some (.int .i64 a.width) ∧ w'.cell? ⟨tb, 2, none⟩ = some (.int .i64 a.id) ∧ w'.cell? ⟨tb, 3, none⟩ = some (.int .i64 a.index) ∧ w'.cell? ⟨tb, 4, none⟩ = some (.slice ao a.kids.length ca)) (by kernel_rfl) (HS0.out) (fun hHeld => ?_)
  refine tk 0 ?_
  refine tk 1 ?_
  refine tk 2 ?_
  refine tk 3 ?_
  refine rd1 4 fun Kc hK => ?_
  go_simp
  go_at_call 27
  refine Calls.mono (HC.out) ?_
  rintro e' w2 ⟨rfl, g2⟩; obtain ⟨hs2, hz2, hu2, hg2, hsU⟩ := HT.out w2 g2; have HS2 := hidM hs2; have HSU := hidM hsU; have HU2 := hidM hu2; have HG2 := hidM hg2; have HZ2 := hidM hz2; clear g2 hs2 hsU hu2 hg2 hz2
  go_wp2_with fail
  refine hK.out _ _ (HS2.out) (fun hHeld => ?_)
  clear hK Kc
  try simp only [Act.put, lA, lB, lC]
  refine tk 5 ?_
  refine tk 6 ?_
  refine rd1 7 fun Kc hK => ?_
  go_simp
  go_at_call 29
  refine Calls.mono (HV.out _) ?_
  rintro e' w3 ⟨rfl, hw⟩; subst hw
  go_wp2_with fail
  refine hK.out _ _ (HS2.out) (fun hHeld => ?_)
  clear hK Kc
  try simp only [Act.put, lA, lB, lC]
  refine tk 8 ?_
  refine rd1 9 fun Kc hK => ?_
  obtain ⟨c0, c1, c2, c3, c4⟩ := cell5p HZ2.out
  obtain ⟨x0, x1, x2, x3, x4⟩ := frz5 HZ2.out
  obtain ⟨U, hU⟩ := ex (stA w2 W.heap.size [(0, .int .i64 a.kind), (1, .int .i64 a.width), (2, .int .i64 a.id), (3, .int .i64 a.index), (4, .slice ao a.kids.length ca)])
  rw [hU] at HU2 HG2 HSU
  simp only [stA] at hU
  go_simp
  refine hK.out _ _ (HSU.out) (fun hHeld => ?_)
  clear hK Kc
  try simp only [Act.put, lA, lB, lC]
  refine tk 10 ?_
  refine wpAnyH_done (by kernel_rfl) ?_ _
  go_wp2_with fail
  (try simp only [Exit.inBlock, Exit.then])
  refine bodyPost_ret (results_c24t rfl rfl (by with_reducible exact HU2.out) (by kernel_rfl)) rfl ?_
  exact ⟨rfl, HG2.out⟩
theorem outH_f (op : Int) (hop : op = 21 ∨ op = 22) (a : FT) (ao : Option Addr) (ca tb : Nat) (W : World) (ht : TyAt W tb 0 a ao ca) (hC : ∀ u, Gr W u → Calls Tryz.prog 27 #[.slice (some ⟨tb, 0, none⟩) 2 2] u fun e w' => e = .returned (.bool false) ∧ Gr u w') :
    Calls Tryz.prog 11 #[.int .i64 op, .slice (some ⟨tb, 0, none⟩) 2 2] W fun e w' => e = .returned (.tuple #[.agg #[.int .i64 2, .int .i64 0, .int .i64 0, .int .i64 0, .slice none 0 0], .bool (false)]) ∧ Gr W w' := by
  obtain ⟨A0, hA0⟩ := ex (W.alloc (.cells #[.int .i64 0, .int .i64 0, .int .i64 0, .int .i64 0, .slice none 0 0] 24))
  obtain ⟨A1, hA1⟩ := ex (A0.alloc (.cells #[.int .i64 0, .int .i64 0, .int .i64 0, .int .i64 0, .slice none 0 0] 24))
  obtain ⟨V, hV⟩ := ex (stA A1 A0.heap.size b5)
  obtain ⟨HO, g1, g0, b1, z0⟩ := outW_new W A0 A1 V hA0 hA1 hV
  obtain ⟨y0, y1, y2, y3, y4⟩ := cell5p b1
  obtain ⟨x0, x1, x2, x3, x4⟩ := frz5 b1
  have a0 : A1.cell? ⟨tb, 0, none⟩ = some (.int .i64 a.kind) := g1.cell' ht.1 id
  have d0 : A0.cell? ⟨tb, 0, none⟩ = some (.int .i64 a.kind) := g0.cell' ht.1 id
  have HT := hidM (outT HO (fun u => u.cell? ⟨A0.heap.size, 0, none⟩ = some (.int .i64 2) ∧ u.cell? ⟨A0.heap.size, 1, none⟩ = some (.int .i64 0) ∧ u.cell? ⟨A0.heap.size, 2, none⟩ = some (.int .i64 0) ∧ u.cell? ⟨A0.heap.size, 3, none⟩ = some (.int .i64 0) ∧ u.cell? ⟨A0.heap.size, 4, none⟩ = some (.slice none 0 0)) (fun u g h => by rw [z0]; exact cell5p h) (.int .i64 2) (.int .i64 0) (.int .i64 0) (.int .i64 0) (.slice none 0 0))
  have HC := hidM (hC V.drew HO.gr.drew)
  have HS0 := hidM (HT.out V.drew (Keeps.refl _ _)).1
  clear hC HO g1 g0 b1 z0 ht
  simp only [b5, stA] at hV
  rcases hop with rfl | rfl
  all_goals
    (go_enter Tryz.func11, Tryz.ntmps11
     go_wp2_with fail
     clear y0 y1 y2 y3 y4 x0 x1 x2 x3 x4 a0 d0 hA0 hA1 hV
     refine wp_region_held_drew (S := fun w' => w'.cell? ⟨A0.heap.size, 0, none⟩ = some (.int .i64 2) ∧ w'.cell? ⟨A0.heap.size, 1, none⟩ = some (.int .i64 0) ∧ w'.cell? ⟨A0.heap.size, 2, none⟩ = some (.int .i64 0) ∧ w'.cell? ⟨A0.heap.size, 3, none⟩ = some (.int .i64 0) ∧ w'.cell? ⟨A0.heap.size, 4, none⟩ = some (.slice none 0 0)) (by kernel_rfl) (HS0.out) (fun hHeld => ?_)
     refine tk 0 ?_
     refine tk 1 ?_
     refine rd1 2 fun Kc hK => ?_
     go_simp
     go_at_call 27
     refine Calls.mono (HC.out) ?_
     rintro e' w2 ⟨rfl, g2⟩; obtain ⟨hs2, hz2, hu2, hg2, hsU⟩ := HT.out w2 g2; have HS2 := hidM hs2; have HSU := hidM hsU; have HU2 := hidM hu2; have HG2 := hidM hg2; have HZ2 := hidM hz2; clear g2 hs2 hsU hu2 hg2 hz2
     go_wp2_with fail
     refine hK.out _ _ (HS2.out) (fun hHeld => ?_)
     clear hK Kc
     try simp only [Act.put, lA, lB, lC]
     refine tk 3 ?_
     refine sk 4 ?_
     refine sk 5 ?_
     refine tk 6 ?_
     refine rd1 7 fun Kc hK => ?_
     obtain ⟨c0, c1, c2, c3, c4⟩ := cell5p HZ2.out
     obtain ⟨x0, x1, x2, x3, x4⟩ := frz5 HZ2.out
     obtain ⟨U, hU⟩ := ex (stA w2 W.heap.size [(0, .int .i64 2), (1, .int .i64 0), (2, .int .i64 0), (3, .int .i64 0), (4, .slice none 0 0)])
     rw [hU] at HU2 HG2 HSU
     simp only [stA] at hU
     go_simp
     refine hK.out _ _ (HSU.out) (fun hHeld => ?_)
     clear hK Kc
     try simp only [Act.put, lA, lB, lC]
     refine tk 8 ?_
     refine wpAnyH_done (by kernel_rfl) ?_ _
     go_wp2_with fail
     (try simp only [Exit.inBlock, Exit.then])
     refine bodyPost_ret (results_c24t rfl rfl (by with_reducible exact HU2.out) (by kernel_rfl)) rfl ?_
     exact ⟨rfl, HG2.out⟩)
theorem outH_t (op : Int) (hop : op = 21 ∨ op = 22) (a : FT) (ao : Option Addr) (ca tb : Nat) (W : World) (ht : TyAt W tb 0 a ao ca) (hC : ∀ u, Gr W u → Calls Tryz.prog 27 #[.slice (some ⟨tb, 0, none⟩) 2 2] u fun e w' => e = .returned (.bool true) ∧ Gr u w') :
    Calls Tryz.prog 11 #[.int .i64 op, .slice (some ⟨tb, 0, none⟩) 2 2] W fun e w' => e = .returned (.tuple #[.agg #[.int .i64 2, .int .i64 0, .int .i64 0, .int .i64 0, .slice none 0 0], .bool (a.kind == 12 || a.kind == 13)]) ∧ Gr W w' := by
  obtain ⟨A0, hA0⟩ := ex (W.alloc (.cells #[.int .i64 0, .int .i64 0, .int .i64 0, .int .i64 0, .slice none 0 0] 24))
  obtain ⟨A1, hA1⟩ := ex (A0.alloc (.cells #[.int .i64 0, .int .i64 0, .int .i64 0, .int .i64 0, .slice none 0 0] 24))
  obtain ⟨V, hV⟩ := ex (stA A1 A0.heap.size b5)
  obtain ⟨HO, g1, g0, b1, z0⟩ := outW_new W A0 A1 V hA0 hA1 hV
  obtain ⟨y0, y1, y2, y3, y4⟩ := cell5p b1
  obtain ⟨x0, x1, x2, x3, x4⟩ := frz5 b1
  have a0 : A1.cell? ⟨tb, 0, none⟩ = some (.int .i64 a.kind) := g1.cell' ht.1 id
  have d0 : A0.cell? ⟨tb, 0, none⟩ = some (.int .i64 a.kind) := g0.cell' ht.1 id
  have HT := hidM (outT HO (fun u => u.cell? ⟨A0.heap.size, 0, none⟩ = some (.int .i64 2) ∧ u.cell? ⟨A0.heap.size, 1, none⟩ = some (.int .i64 0) ∧ u.cell? ⟨A0.heap.size, 2, none⟩ = some (.int .i64 0) ∧ u.cell? ⟨A0.heap.size, 3, none⟩ = some (.int .i64 0) ∧ u.cell? ⟨A0.heap.size, 4, none⟩ = some (.slice none 0 0)) (fun u g h => by rw [z0]; exact cell5p h) (.int .i64 2) (.int .i64 0) (.int .i64 0) (.int .i64 0) (.slice none 0 0))
  have HC := hidM (hC V.drew HO.gr.drew)
  have HV := hidM (letters29 a.kind)
  have HS0 := hidM (HT.out V.drew (Keeps.refl _ _)).1
  clear hC HO g1 g0 b1 z0 ht
  simp only [b5, stA] at hV
  rcases hop with rfl | rfl
  all_goals
    (go_enter Tryz.func11, Tryz.ntmps11
     go_wp2_with fail
     clear y0 y1 y2 y3 y4 x0 x1 x2 x3 x4 a0 d0 hA0 hA1 hV
     refine wp_region_held_drew (S := fun w' => w'.cell? ⟨A0.heap.size, 0, none⟩ = some (.int .i64 2) ∧ w'.cell? ⟨A0.heap.size, 1, none⟩ = some (.int .i64 0) ∧ w'.cell? ⟨A0.heap.size, 2, none⟩ = some (.int .i64 0) ∧ w'.cell? ⟨A0.heap.size, 3, none⟩ = some (.int .i64 0) ∧ w'.cell? ⟨A0.heap.size, 4, none⟩ = some (.slice none 0 0)) (by kernel_rfl) (HS0.out) (fun hHeld => ?_)
     refine tk 0 ?_
     refine tk 1 ?_
     refine rd1 2 fun Kc hK => ?_
     go_simp
     go_at_call 27
     refine Calls.mono (HC.out) ?_
     rintro e' w2 ⟨rfl, g2⟩; obtain ⟨hs2, hz2, hu2, hg2, hsU⟩ := HT.out w2 g2; have HS2 := hidM hs2; have HSU := hidM hsU; have HU2 := hidM hu2; have HG2 := hidM hg2; have HZ2 := hidM hz2; clear g2 hs2 hsU hu2 hg2 hz2
     go_wp2_with fail
     refine hK.out _ _ (HS2.out) (fun hHeld => ?_)
     clear hK Kc
     try simp only [Act.put, lA, lB, lC]
     refine tk 3 ?_
     refine tk 4 ?_
     refine rd1 5 fun Kc hK => ?_
     go_simp
     go_at_call 29
     refine Calls.mono (HV.out _) ?_
     rintro e' w3 ⟨rfl, hw⟩; subst hw
     go_wp2_with fail
     refine hK.out _ _ (HS2.out) (fun hHeld => ?_)
     clear hK Kc
     try simp only [Act.put, lA, lB, lC]
     refine tk 6 ?_
     refine rd1 7 fun Kc hK => ?_
     obtain ⟨c0, c1, c2, c3, c4⟩ := cell5p HZ2.out
     obtain ⟨x0, x1, x2, x3, x4⟩ := frz5 HZ2.out
     obtain ⟨U, hU⟩ := ex (stA w2 W.heap.size [(0, .int .i64 2), (1, .int .i64 0), (2, .int .i64 0), (3, .int .i64 0), (4, .slice none 0 0)])
     rw [hU] at HU2 HG2 HSU
     simp only [stA] at hU
     go_simp
     refine hK.out _ _ (HSU.out) (fun hHeld => ?_)
     clear hK Kc
     try simp only [Act.put, lA, lB, lC]
     refine tk 8 ?_
     refine wpAnyH_done (by kernel_rfl) ?_ _
     go_wp2_with fail
     (try simp only [Exit.inBlock, Exit.then])
     refine bodyPost_ret (results_c24t rfl rfl (by with_reducible exact HU2.out) (by kernel_rfl)) rfl ?_
     exact ⟨rfl, HG2.out⟩)
theorem outNeg (a : FT) (ao : Option Addr) (ca tb : Nat) (W : World) (ht : TyAt W tb 0 a ao ca) :
    Calls Tryz.prog 11 #[.int .i64 6, .slice (some ⟨tb, 0, none⟩) 1 1] W fun e w' => e = .returned (.tuple #[.agg #[.int .i64 a.kind, .int .i64 a.width, .int .i64 a.id, .int .i64 a.index, .slice ao a.kids.length ca], .bool ((decide (3 ≤ a.kind) && decide (a.kind ≤ 6)) || a.kind == 11)]) ∧ Gr W w' := by
  obtain ⟨A0, hA0⟩ := ex (W.alloc (.cells #[.int .i64 0, .int .i64 0, .int .i64 0, .int .i64 0, .slice none 0 0] 24))
  obtain ⟨A1, hA1⟩ := ex (A0.alloc (.cells #[.int .i64 0, .int .i64 0, .int .i64 0, .int .i64 0, .slice none 0 0] 24))
  obtain ⟨V, hV⟩ := ex (stA A1 A0.heap.size b5)
  obtain ⟨HO, g1, g0, b1, z0⟩ := outW_new W A0 A1 V hA0 hA1 hV
  obtain ⟨y0, y1, y2, y3, y4⟩ := cell5p b1
  obtain ⟨x0, x1, x2, x3, x4⟩ := frz5 b1
  have a0 : A1.cell? ⟨tb, 0, none⟩ = some (.int .i64 a.kind) := g1.cell' ht.1 id
  have d0 : A0.cell? ⟨tb, 0, none⟩ = some (.int .i64 a.kind) := g0.cell' ht.1 id
  obtain ⟨⟨s0, s1, s2, s3, s4⟩, hz2, hu2, hg2, -⟩ := outT HO (fun u => u.cell? ⟨tb, 0, none⟩ = some (.int .i64 a.kind) ∧ u.cell? ⟨tb, 1, none⟩ = some (.int .i64 a.width) ∧ u.cell? ⟨tb, 2, none⟩ = some (.int .i64 a.id) ∧ u.cell? ⟨tb, 3, none⟩ = some (.int .i64 a.index) ∧ u.cell? ⟨tb, 4, none⟩ = some (.slice ao a.kids.length ca)) (fun u g h => ht.gr g) (.int .i64 a.kind) (.int .i64 a.width) (.int .i64 a.id) (.int .i64 a.index) (.slice ao a.kids.length ca) V ⟨rfl, rfl, rfl, Nat.le_refl _, fun _ _ _ => rfl⟩
  obtain ⟨c0, c1, c2, c3, c4⟩ := cell5p hz2
  obtain ⟨w0, w1, w2, w3, w4⟩ := frz5 hz2
  obtain ⟨U, hU⟩ := ex (stA V W.heap.size [(0, .int .i64 a.kind), (1, .int .i64 a.width), (2, .int .i64 a.id), (3, .int .i64 a.index), (4, .slice ao a.kids.length ca)])
  rw [hU] at hu2 hg2
  have HU2 := hidM hu2
  have HG2 := hidM hg2
  clear HO g1 g0 b1 z0 ht hz2 hu2 hg2
  simp only [b5, stA] at hV hU
  go_enter Tryz.func11, Tryz.ntmps11
  go_wp2_with fail
  all_goals (try simp only [Exit.inBlock, Exit.then])
  all_goals refine bodyPost_ret (results_c24t rfl rfl (by with_reducible exact HU2.out) (by kernel_rfl)) rfl ?_
  all_goals (refine ⟨?_, HG2.out⟩; first | rfl | (simp; omega) | (simp_all; done) | (simp_all; omega))
theorem outNull (a : FT) (ao : Option Addr) (ca tb : Nat) (W : World) (ht : TyAt W tb 0 a ao ca) :
    Calls Tryz.prog 11 #[.int .i64 16, .slice (some ⟨tb, 0, none⟩) 1 1] W fun e w' => e = .returned (.tuple #[.agg #[.int .i64 2, .int .i64 0, .int .i64 0, .int .i64 0, .slice none 0 0], .bool (true)]) ∧ Gr W w' := by
  obtain ⟨A0, hA0⟩ := ex (W.alloc (.cells #[.int .i64 0, .int .i64 0, .int .i64 0, .int .i64 0, .slice none 0 0] 24))
  obtain ⟨A1, hA1⟩ := ex (A0.alloc (.cells #[.int .i64 0, .int .i64 0, .int .i64 0, .int .i64 0, .slice none 0 0] 24))
  obtain ⟨V, hV⟩ := ex (stA A1 A0.heap.size b5)
  obtain ⟨HO, g1, g0, b1, z0⟩ := outW_new W A0 A1 V hA0 hA1 hV
  obtain ⟨y0, y1, y2, y3, y4⟩ := cell5p b1
  obtain ⟨x0, x1, x2, x3, x4⟩ := frz5 b1
  have a0 : A1.cell? ⟨tb, 0, none⟩ = some (.int .i64 a.kind) := g1.cell' ht.1 id
  have d0 : A0.cell? ⟨tb, 0, none⟩ = some (.int .i64 a.kind) := g0.cell' ht.1 id
  obtain ⟨⟨s0, s1, s2, s3, s4⟩, hz2, hu2, hg2, -⟩ := outT HO (fun u => u.cell? ⟨A0.heap.size, 0, none⟩ = some (.int .i64 2) ∧ u.cell? ⟨A0.heap.size, 1, none⟩ = some (.int .i64 0) ∧ u.cell? ⟨A0.heap.size, 2, none⟩ = some (.int .i64 0) ∧ u.cell? ⟨A0.heap.size, 3, none⟩ = some (.int .i64 0) ∧ u.cell? ⟨A0.heap.size, 4, none⟩ = some (.slice none 0 0)) (fun u g h => by rw [z0]; exact cell5p h) (.int .i64 2) (.int .i64 0) (.int .i64 0) (.int .i64 0) (.slice none 0 0) V ⟨rfl, rfl, rfl, Nat.le_refl _, fun _ _ _ => rfl⟩
  obtain ⟨c0, c1, c2, c3, c4⟩ := cell5p hz2
  obtain ⟨w0, w1, w2, w3, w4⟩ := frz5 hz2
  obtain ⟨U, hU⟩ := ex (stA V W.heap.size [(0, .int .i64 2), (1, .int .i64 0), (2, .int .i64 0), (3, .int .i64 0), (4, .slice none 0 0)])
  rw [hU] at hu2 hg2
  have HU2 := hidM hu2
  have HG2 := hidM hg2
  clear HO g1 g0 b1 z0 ht hz2 hu2 hg2
  simp only [b5, stA] at hV hU
  go_enter Tryz.func11, Tryz.ntmps11
  go_wp2_with fail
  all_goals (try simp only [Exit.inBlock, Exit.then])
  all_goals refine bodyPost_ret (results_c24t rfl rfl (by with_reducible exact HU2.out) (by kernel_rfl)) rfl ?_
  all_goals (refine ⟨?_, HG2.out⟩; first | rfl | (simp; omega) | (simp_all; done) | (simp_all; omega))
theorem outLen (a : FT) (ao : Option Addr) (ca tb : Nat) (W : World) (ht : TyAt W tb 0 a ao ca) :
    Calls Tryz.prog 11 #[.int .i64 20, .slice (some ⟨tb, 0, none⟩) 1 1] W fun e w' => e = .returned (.tuple #[.agg #[.int .i64 6, .int .i64 0, .int .i64 0, .int .i64 0, .slice none 0 0], .bool (decide (12 ≤ a.kind) && decide (a.kind ≤ 16))]) ∧ Gr W w' := by
  obtain ⟨A0, hA0⟩ := ex (W.alloc (.cells #[.int .i64 0, .int .i64 0, .int .i64 0, .int .i64 0, .slice none 0 0] 24))
  obtain ⟨A1, hA1⟩ := ex (A0.alloc (.cells #[.int .i64 0, .int .i64 0, .int .i64 0, .int .i64 0, .slice none 0 0] 24))
  obtain ⟨V, hV⟩ := ex (stA A1 A0.heap.size b5)
  obtain ⟨HO, g1, g0, b1, z0⟩ := outW_new W A0 A1 V hA0 hA1 hV
  obtain ⟨y0, y1, y2, y3, y4⟩ := cell5p b1
  obtain ⟨x0, x1, x2, x3, x4⟩ := frz5 b1
  have a0 : A1.cell? ⟨tb, 0, none⟩ = some (.int .i64 a.kind) := g1.cell' ht.1 id
  have d0 : A0.cell? ⟨tb, 0, none⟩ = some (.int .i64 a.kind) := g0.cell' ht.1 id
  obtain ⟨⟨s0, s1, s2, s3, s4⟩, hz2, hu2, hg2, -⟩ := outT HO (fun u => u.cell? ⟨tb, 0, none⟩ = some (.int .i64 a.kind) ∧ u.cell? ⟨tb, 1, none⟩ = some (.int .i64 a.width) ∧ u.cell? ⟨tb, 2, none⟩ = some (.int .i64 a.id) ∧ u.cell? ⟨tb, 3, none⟩ = some (.int .i64 a.index) ∧ u.cell? ⟨tb, 4, none⟩ = some (.slice ao a.kids.length ca)) (fun u g h => ht.gr g) (.int .i64 6) (.int .i64 0) (.int .i64 0) (.int .i64 0) (.slice none 0 0) V ⟨rfl, rfl, rfl, Nat.le_refl _, fun _ _ _ => rfl⟩
  obtain ⟨c0, c1, c2, c3, c4⟩ := cell5p hz2
  obtain ⟨w0, w1, w2, w3, w4⟩ := frz5 hz2
  obtain ⟨U, hU⟩ := ex (stA V W.heap.size [(0, .int .i64 6), (1, .int .i64 0), (2, .int .i64 0), (3, .int .i64 0), (4, .slice none 0 0)])
  rw [hU] at hu2 hg2
  have HU2 := hidM hu2
  have HG2 := hidM hg2
  clear HO g1 g0 b1 z0 ht hz2 hu2 hg2
  simp only [b5, stA] at hV hU
  go_enter Tryz.func11, Tryz.ntmps11
  go_wp2_with fail
  all_goals (try simp only [Exit.inBlock, Exit.then])
  all_goals refine bodyPost_ret (results_c24t rfl rfl (by with_reducible exact HU2.out) (by kernel_rfl)) rfl ?_
  all_goals (refine ⟨?_, HG2.out⟩; first | rfl | (simp; omega) | (simp_all; done) | (simp_all; omega))
theorem outA (op : Int) (hop : op = 1 ∨ op = 2 ∨ op = 3 ∨ op = 4) (a : FT) (ao : Option Addr) (ca tb : Nat) (r : Bool) (W : World) (ht : TyAt W tb 0 a ao ca) (hC : ∀ u, Gr W u → Calls Tryz.prog 27 #[.slice (some ⟨tb, 0, none⟩) 2 2] u fun e w' => e = .returned (.bool r) ∧ Gr u w') :
    Calls Tryz.prog 11 #[.int .i64 op, .slice (some ⟨tb, 0, none⟩) 2 2] W fun e w' => e = .returned (.tuple #[.agg #[.int .i64 a.kind, .int .i64 a.width, .int .i64 a.id, .int .i64 a.index, .slice ao a.kids.length ca], .bool (r && (((decide (3 ≤ a.kind) && decide (a.kind ≤ 10))) || a.kind == 11))]) ∧ Gr W w' := by
  cases r
  · exact outA_f op hop a ao ca tb W ht hC
  cases hv : ((decide (3 ≤ a.kind) && decide (a.kind ≤ 10)))
  · exact outA_tf op hop a ao ca tb W ht hv hC
  exact outA_tt op hop a ao ca tb W ht hv hC
theorem outR (a : FT) (ao : Option Addr) (ca tb : Nat) (r : Bool) (W : World) (ht : TyAt W tb 0 a ao ca) (hC : ∀ u, Gr W u → Calls Tryz.prog 27 #[.slice (some ⟨tb, 0, none⟩) 2 2] u fun e w' => e = .returned (.bool r) ∧ Gr u w') :
    Calls Tryz.prog 11 #[.int .i64 5, .slice (some ⟨tb, 0, none⟩) 2 2] W fun e w' => e = .returned (.tuple #[.agg #[.int .i64 a.kind, .int .i64 a.width, .int .i64 a.id, .int .i64 a.index, .slice ao a.kids.length ca], .bool (r && ((decide (3 ≤ a.kind) && decide (a.kind ≤ 10))))]) ∧ Gr W w' := by
  cases r
  · exact outR_f a ao ca tb W ht hC
  exact outR_t a ao ca tb W ht hC
theorem outB (op : Int) (hop : op = 13 ∨ op = 14) (a : FT) (ao : Option Addr) (ca tb : Nat) (r : Bool) (W : World) (ht : TyAt W tb 0 a ao ca) (hC : ∀ u, Gr W u → Calls Tryz.prog 27 #[.slice (some ⟨tb, 0, none⟩) 2 2] u fun e w' => e = .returned (.bool r) ∧ Gr u w') :
    Calls Tryz.prog 11 #[.int .i64 op, .slice (some ⟨tb, 0, none⟩) 2 2] W fun e w' => e = .returned (.tuple #[.agg #[.int .i64 2, .int .i64 0, .int .i64 0, .int .i64 0, .slice none 0 0], .bool (r && (a.kind == 2))]) ∧ Gr W w' := by
  cases r
  · exact outB_f op hop a ao ca tb W ht hC
  exact outB_t op hop a ao ca tb W ht hC
theorem outG (a : FT) (ao : Option Addr) (ca tb : Nat) (r : Bool) (W : World) (ht : TyAt W tb 0 a ao ca) (hC : ∀ u, Gr W u → Calls Tryz.prog 27 #[.slice (some ⟨tb, 0, none⟩) 2 2] u fun e w' => e = .returned (.bool r) ∧ Gr u w') :
    Calls Tryz.prog 11 #[.int .i64 19, .slice (some ⟨tb, 0, none⟩) 2 2] W fun e w' => e = .returned (.tuple #[.agg #[.int .i64 a.kind, .int .i64 a.width, .int .i64 a.id, .int .i64 a.index, .slice ao a.kids.length ca], .bool (r && (a.kind == 12 || a.kind == 13))]) ∧ Gr W w' := by
  cases r
  · exact outG_f a ao ca tb W ht hC
  exact outG_t a ao ca tb W ht hC
theorem outH (op : Int) (hop : op = 21 ∨ op = 22) (a : FT) (ao : Option Addr) (ca tb : Nat) (r : Bool) (W : World) (ht : TyAt W tb 0 a ao ca) (hC : ∀ u, Gr W u → Calls Tryz.prog 27 #[.slice (some ⟨tb, 0, none⟩) 2 2] u fun e w' => e = .returned (.bool r) ∧ Gr u w') :
    Calls Tryz.prog 11 #[.int .i64 op, .slice (some ⟨tb, 0, none⟩) 2 2] W fun e w' => e = .returned (.tuple #[.agg #[.int .i64 2, .int .i64 0, .int .i64 0, .int .i64 0, .slice none 0 0], .bool (r && (a.kind == 12 || a.kind == 13))]) ∧ Gr W w' := by
  cases r
  · exact outH_f op hop a ao ca tb W ht hC
  exact outH_t op hop a ao ca tb W ht hC
theorem leaf_and {d : Nat} {a b : FT} {two X : Bool} (hta : tableB a = true) (htb : tableB b = true) (h2 : two = (b.kind == a.kind)) (hX : X = true → 2 ≤ a.kind ∧ a.kind ≤ 13) : (two && X) = (alkB d a b && X) := by
  cases X with
  | false => simp
  | true => rw [h2, alkB_leaf hta htb (hX rfl).1 (hX rfl).2]
theorem len_eq (k : Int) : (((((k == 12 || k == 13) || k == 14) || k == 15) || k == 16)) = (decide (12 ≤ k) && decide (k ≤ 16)) := by
  by_cases h : 12 ≤ k ∧ k ≤ 16
  · have hc : k = 12 ∨ k = 13 ∨ k = 14 ∨ k = 15 ∨ k = 16 := by omega
    rcases hc with rfl | rfl | rfl | rfl | rfl <;> rfl
  have e1 : (decide (12 ≤ k) && decide (k ≤ 16)) = false := by simp; omega
  rw [e1]
  simp
  omega
theorem swA (op : Int) (hop : op = 1 ∨ op = 2 ∨ op = 3 ∨ op = 4) (S : Nat → Prop) (W w : World) (d x0 y gp cp : Nat) (f g : Nat → FT) (xs : List Value) (lv : Value) (two : Bool) {a : Act} (ha : IsA op lv (.slice (some ⟨gp, 0, none⟩) 2 cp) x0 y (anyN f 2) (allN f 2) two (g 0).kind a) (QQ : Ending → World → Prop) (h : Ref5 S W d 2 x0 y gp cp f g xs w)
    (hT : ∀ (ok : Bool), ok = (two && ((decide (3 ≤ (g 0).kind) && decide ((g 0).kind ≤ 10)) || (g 0).kind == 11)) → ∀ (w' : World) (ao : Option Addr) (ca : Nat) (a : Act), IsT x0 y ok a → Tl5 S W d x0 y (f 0).name (anyN f 2) (g 0) ao ca w' → tail5.wp Tryz.prog (bodyPost Tryz.prog Tryz.f5 QQ) a w') :
    rest5.wp Tryz.prog (bodyPost Tryz.prog Tryz.f5 QQ) a w := by
  cases ha
  have hrow := h.row
  obtain ⟨_, bo1, cb1, ⟨_, bo0, cb0, e0, ty0, rfl⟩, ty1, rfl⟩ := hrow
  have e0' : _ = [] := e0
  subst e0'
  have hoc := own_cells h.own
  have hcpI : (2 : Int) ≤ (cp : Int) := by have := hoc.2.2; omega
  have ho := h.out
  obtain ⟨q0, q1, q2, q3, q4, q5, q6⟩ := cell7p ho
  obtain ⟨f0, f1, f2, f3, f4, f5, f6⟩ := frz7 ho
  have p1 : w.cell? ⟨gp, 1, none⟩ = some (.bool (f 0).nul) := hoc.1 1 _ rfl
  have p2 : w.cell? ⟨gp, 2, none⟩ = some (.int .i64 (g 0).kind) := hoc.1 2 _ rfl
  have p3 : w.cell? ⟨gp, 3, none⟩ = some (.int .i64 (g 0).width) := hoc.1 3 _ rfl
  have p4 : w.cell? ⟨gp, 4, none⟩ = some (.int .i64 (g 0).id) := hoc.1 4 _ rfl
  have p5 : w.cell? ⟨gp, 5, none⟩ = some (.int .i64 (g 0).index) := hoc.1 5 _ rfl
  have p6 : w.cell? ⟨gp, 6, none⟩ = some (.slice bo0 (g 0).kids.length cb0) := hoc.1 6 _ rfl
  have p8 : w.cell? ⟨gp, 8, none⟩ = some (.bool (f 1).nul) := hoc.1 8 _ rfl
  have p9 : w.cell? ⟨gp, 9, none⟩ = some (.int .i64 (g 1).kind) := hoc.1 9 _ rfl
  have p10 : w.cell? ⟨gp, 10, none⟩ = some (.int .i64 (g 1).width) := hoc.1 10 _ rfl
  have p11 : w.cell? ⟨gp, 11, none⟩ = some (.int .i64 (g 1).id) := hoc.1 11 _ rfl
  have p12 : w.cell? ⟨gp, 12, none⟩ = some (.int .i64 (g 1).index) := hoc.1 12 _ rfl
  have p13 : w.cell? ⟨gp, 13, none⟩ = some (.slice bo1 (g 1).kids.length cb1) := hoc.1 13 _ rfl
  obtain ⟨V, hV⟩ := ex (stA w y [(2, .int .i64 (g 0).kind), (3, .int .i64 (g 0).width), (4, .int .i64 (g 0).id), (5, .int .i64 (g 0).index), (6, .slice bo0 (g 0).kids.length cb0)])
  have ks : Keeps w V (fun z => z = y) := by rw [← hV]; exact stA_kp _ _ _
  have hfin : V.heap[y]? = some (.cells #[.string (f 0).name, .bool (anyN f 2), .int .i64 (g 0).kind, .int .i64 (g 0).width, .int .i64 (g 0).id, .int .i64 (g 0).index, .slice bo0 (g 0).kids.length cb0] 26) := by
    have h2 := stA_blk y 26 [(2, .int .i64 (g 0).kind), (3, .int .i64 (g 0).width), (4, .int .i64 (g 0).id), (5, .int .i64 (g 0).index), (6, .slice bo0 (g 0).kids.length cb0)] w _ ho
    rw [hV] at h2
    simpa [stC, boolT, int64T, FT.kind, FT.width, FT.id, FT.index, FT.kids] using h2
  have HE := hidM (h.tl (Keeps.refl _ _) ks hfin ty0)
  clear ks hfin
  simp only [stA] at hV
  obtain ⟨v, hv⟩ := ex ((decide (3 ≤ (g 0).kind) && decide ((g 0).kind ≤ 10)))
  rw [hv] at hT
  have HV : Hid (∀ u, Calls Tryz.prog 18 #[.int .i64 (g 0).kind] u fun e w' => e = .returned (.bool v) ∧ u = w') := fun u => by have h := wholeR18 (g 0).kind u; rwa [hv] at h
  clear hv
  have HT := hidM hT
  clear h ho hoc hT ty0 ty1
  rcases hop with rfl | rfl | rfl | rfl
  all_goals cases two
  all_goals cases v
  all_goals
    (simp only [rest5, sq2, Tryz.f5, Option.getD, act5]
     refine cut1 (fun C hC => ?_)
     have HC : Hid (C = tail5) := hC.trans (by kernel_rfl)
     clear hC
     go_wp2_with (go_at_call 18; refine (HV.out _).mono ?_; rintro e w1 ⟨rfl, hw⟩; subst hw)
     all_goals (rw [HC.out]; refine HT.out _ ?_ _ _ _ _ IsT.mk HE.out; first | rfl))
variable {S : Nat → Prop} {w : World} {d b o lc : Nat} {f g : Nat → FT} {ao : Nat → Option Addr} {ca : Nat → Nat}
theorem pA (op : Int) (hop : op = 1 ∨ op = 2 ∨ op = 3 ∨ op = 4) (h : Cx S w d b o lc 2 f g ao ca) (er tt : Int) (p : List Nat) (hF : FaultIs (0, 0) (nodes (d + 3) [(fT (f 0).name (anyN f 2) (g 0))] [] false) er p tt) :
    Calls Tryz.prog 4 #[.int .i64 op, .slice (some ⟨b, o, none⟩) 2 lc] w (AtQ w (d + 3) (ansR (alkB d (g 0) (g 1) && (((decide (3 ≤ (g 0).kind) && decide ((g 0).kind ≤ 10))) || (g 0).kind == 11)) er (fT (f 0).name (anyN f 2) (g 0)))) := by
  have hc : CellsAt w b o (f 0) (ao 0) (ca 0) := by have := (h.hF 0 (by decide)).c; simpa using this
  have hN : argN op = 2 := by rcases hop with rfl | rfl | rfl | rfl <;> rfl
  refine prog 2 (by decide) S d b o lc op (f 0).name (anyN f 2) (alkB d (g 0) (g 1) && (((decide (3 ≤ (g 0).kind) && decide ((g 0).kind ≤ 10))) || (g 0).kind == 11)) (g 0) (Pl2 S w d g) w er tt p h.hT h.hS h.hd hF hN h.hlc hc.c0 h.none2 h.types2 (fun u tb k hP => ?_) (fun u k => ?_)
  · obtain ⟨bo0, cb0, bo1, cb1, a0, a1, t0, t1⟩ := hP
    refine Calls.mono (outA op hop (g 0) bo0 cb0 tb _ u a0 (fun u' k' => areAlike27_2 (g 0) (g 1) bo0 bo1 cb0 cb1 tb 0 _ u' (a0.gr k') (a1.gr k') ((h.alike (i := 0) (j := 1) (by decide) (by decide) t0 t1).1.gr (k.tr k')))) ?_
    rintro e w' ⟨rfl, gw⟩
    exact ⟨bo0, cb0, rfl, gw, t0⟩
  have e16 : (op == 16) = false := by rcases hop with rfl | rfl | rfl | rfl <;> rfl
  have e17 : (op == 17) = false := by rcases hop with rfl | rfl | rfl | rfl <;> rfl
  have e18 : (op == 18) = false := by rcases hop with rfl | rfl | rfl | rfl <;> rfl
  exact null13_all _ e16 e17 e18 _ _ _ _ u (h.nulls2 u k)
theorem rA (op : Int) (hop : op = 1 ∨ op = 2 ∨ op = 3 ∨ op = 4) (h : Cx S w d b o lc 2 f g ao ca) (er tt : Int) (p : List Nat) (hF : FaultIs (0, 0) (nodes (d + 3) [(fT (f 0).name (anyN f 2) (g 0))] [] false) er p tt) :
    Calls Tryz.prog 5 #[.int .i64 op, .slice (some ⟨b, o, none⟩) 2 lc] w (AtQ w (d + 3) (ansR (alkB d (g 0) (g 1) && (((decide (3 ≤ (g 0).kind) && decide ((g 0).kind ≤ 10))) || (g 0).kind == 11)) er (fT (f 0).name (anyN f 2) (g 0)))) := by
  have hN : argR op = 2 := by rcases hop with rfl | rfl | rfl | rfl <;> rfl
  refine ref5_pre S d b o lc 2 op f g ao ca (d + 3) _ w h.hS h.hb hN (by decide) (by decide) h.hlc h.hF h.hV (fun i hi => (h.may hi).2) (fun x0 y gp cp xs w' two a ha h5 h1 h2 => ?_)
  refine swA op hop S w w' d x0 y gp cp f g xs _ two ha _ h5 (fun ok hok w'' bo cb a ha hTl => ?_)
  have e : ok = _ := hok.trans (leaf_and (d := d) (h.hG 0 (by decide)).1 (h.hG 1 (by decide)).1 (h2 (by decide)) (fun e => by simp at e; omega))
  subst e
  exact tail_any _ hTl h.hS hF ha
theorem bA (op : Int) (hop : op = 1 ∨ op = 2 ∨ op = 3 ∨ op = 4) (h : Cx S w d b o lc 2 f g ao ca) : ∃ (D : Nat) (r : Int × FT), (∀ W, Gr w W → Calls Tryz.prog 4 #[.int .i64 op, .slice (some ⟨b, o, none⟩) 2 lc] W (AtQ W D r)) ∧ (∀ W, Gr w W → Calls Tryz.prog 5 #[.int .i64 op, .slice (some ⟨b, o, none⟩) 2 lc] W (AtQ W D r)) := by
  obtain ⟨er, p, tt, hF⟩ := fault_is (0, 0) (nodes (d + 3) [(fT (f 0).name (anyN f 2) (g 0))] [] false)
  exact ⟨d + 3, _, fun W k => pA op hop (h.gr k) er tt p hF, fun W k => rA op hop (h.gr k) er tt p hF⟩
end Go.Proofs.YtknnoiomdngmfaaGreatDoor.Kit
