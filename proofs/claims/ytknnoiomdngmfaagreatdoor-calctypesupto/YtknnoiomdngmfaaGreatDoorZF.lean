import Derived.Test.YtknnoiomdngmfaaGreatDoorLQ
import Derived.Test.YtknnoiomdngmfaaGreatDoorWH
import Derived.Test.YtknnoiomdngmfaaGreatDoorZA
import Derived.Test.YtknnoiomdngmfaaGreatDoorWFx
import Derived.Test.YtknnoiomdngmfaaGreatDoorZC
set_option maxRecDepth 100000
set_option maxHeartbeats 4000000
namespace Go.Proofs.YtknnoiomdngmfaaGreatDoor.Kit
open Go.RowKit Go.Shelf Go.Deep
set_option linter.unusedVariables false
set_option linter.unusedSimpArgs false
attribute [local go_sem] run_store_func
theorem swIf_t (S : Nat → Prop) (W w : World) (d x0 y gp cp : Nat) (f g : Nat → FT) (xs : List Value) (lv : Value) (two : Bool) {a : Act} (ha : IsA 18 lv (.slice (some ⟨gp, 0, none⟩) 3 cp) x0 y (anyN f 3) (allN f 3) two (g 0).kind a) (QQ : Ending → World → Prop) (h : Ref5 S W d 3 x0 y gp cp f g xs w) (r : Bool) (hA : ∀ bo1 cb1 bo2 cb2, TyI S W d (g 1) bo1 cb1 → TyI S W d (g 2) bo2 cb2 → Ans 19 #[.agg #[.int .i64 (g 1).kind, .int .i64 (g 1).width, .int .i64 (g 1).id, .int .i64 (g 1).index, .slice bo1 (g 1).kids.length cb1], .agg #[.int .i64 (g 2).kind, .int .i64 (g 2).width, .int .i64 (g 2).id, .int .i64 (g 2).index, .slice bo2 (g 2).kids.length cb2]] r W)
    (hk : ((g 0).kind == 2) = true) (hT : ∀ (ok : Bool), ok = (r) → ∀ (w' : World) (ao : Option Addr) (ca : Nat) (a : Act), IsT x0 y ok a → Tl5 S W d x0 y (f 0).name ((f 1).nul || (f 2).nul) (g 1) ao ca w' → tail5.wp Tryz.prog (bodyPost Tryz.prog Tryz.f5 QQ) a w') :
    rest5.wp Tryz.prog (bodyPost Tryz.prog Tryz.f5 QQ) a w := by
  cases ha
  have hrow := h.row
  obtain ⟨_, bo2, cb2, ⟨_, bo1, cb1, ⟨_, bo0, cb0, e0, ty0, rfl⟩, ty1, rfl⟩, ty2, rfl⟩ := hrow
  have e0' : _ = [] := e0
  subst e0'
  have hoc := own_cells h.own
  have hcpI : (3 : Int) ≤ (cp : Int) := by have := hoc.2.2; omega
  have ho := h.out
  obtain ⟨q0, q1, q2, q3, q4, q5, q6⟩ := cell7p ho
  obtain ⟨f0, f1, f2, f3, f4, f5, f6⟩ := frz7 ho
  have p1 : w.cell? ⟨gp, 1, none⟩ = some (.bool (f 0).nul) := hoc.1 1 _ rfl
  have p2 : w.cell? ⟨gp, 2, none⟩ = some (.int .i64 (g 0).kind) := hoc.1 2 _ rfl
  have p3 : w.cell? ⟨gp, 3, none⟩ = some (.int .i64 (g 0).width) := hoc.1 3 _ rfl
  have p4 : w.cell? ⟨gp, 4, none⟩ = some (.int .i64 (g 0).id) := hoc.1 4 _ rfl
  have p5 : w.cell? ⟨gp, 5, none⟩ = some (.int .i64 (g 0).index) := hoc.1 5 _ rfl
  have p6 : w.cell? ⟨gp, 6, none⟩ = some (.slice bo0 (g 0).kids.length cb0) := hoc.1 6 _ rfl
  have p8 : w.cell? ⟨gp, 8, none⟩ = some (.bool (f 1).nul) := hoc.1 8 _ rfl
  have p9 : w.cell? ⟨gp, 9, none⟩ = some (.int .i64 (g 1).kind) := hoc.1 9 _ rfl
  have p10 : w.cell? ⟨gp, 10, none⟩ = some (.int .i64 (g 1).width) := hoc.1 10 _ rfl
  have p11 : w.cell? ⟨gp, 11, none⟩ = some (.int .i64 (g 1).id) := hoc.1 11 _ rfl
  have p12 : w.cell? ⟨gp, 12, none⟩ = some (.int .i64 (g 1).index) := hoc.1 12 _ rfl
  have p13 : w.cell? ⟨gp, 13, none⟩ = some (.slice bo1 (g 1).kids.length cb1) := hoc.1 13 _ rfl
  have p15 : w.cell? ⟨gp, 15, none⟩ = some (.bool (f 2).nul) := hoc.1 15 _ rfl
  have p16 : w.cell? ⟨gp, 16, none⟩ = some (.int .i64 (g 2).kind) := hoc.1 16 _ rfl
  have p17 : w.cell? ⟨gp, 17, none⟩ = some (.int .i64 (g 2).width) := hoc.1 17 _ rfl
  have p18 : w.cell? ⟨gp, 18, none⟩ = some (.int .i64 (g 2).id) := hoc.1 18 _ rfl
  have p19 : w.cell? ⟨gp, 19, none⟩ = some (.int .i64 (g 2).index) := hoc.1 19 _ rfl
  have p20 : w.cell? ⟨gp, 20, none⟩ = some (.slice bo2 (g 2).kids.length cb2) := hoc.1 20 _ rfl
  have HS : Hid (∀ u, Gr w u → u.cell? ⟨gp, 9, none⟩ = some (.int .i64 (g 1).kind) ∧ u.cell? ⟨gp, 10, none⟩ = some (.int .i64 (g 1).width) ∧ u.cell? ⟨gp, 11, none⟩ = some (.int .i64 (g 1).id) ∧ u.cell? ⟨gp, 12, none⟩ = some (.int .i64 (g 1).index) ∧ u.cell? ⟨gp, 13, none⟩ = some (.slice bo1 (g 1).kids.length cb1) ∧ u.cell? ⟨gp, 16, none⟩ = some (.int .i64 (g 2).kind) ∧ u.cell? ⟨gp, 17, none⟩ = some (.int .i64 (g 2).width) ∧ u.cell? ⟨gp, 18, none⟩ = some (.int .i64 (g 2).id) ∧ u.cell? ⟨gp, 19, none⟩ = some (.int .i64 (g 2).index) ∧ u.cell? ⟨gp, 20, none⟩ = some (.slice bo2 (g 2).kids.length cb2)) := fun u g => ⟨g.cell' p9 id, g.cell' p10 id, g.cell' p11 id, g.cell' p12 id, g.cell' p13 id, g.cell' p16 id, g.cell' p17 id, g.cell' p18 id, g.cell' p19 id, g.cell' p20 id⟩
  have HA : Hid (∀ u, Gr w u → Calls Tryz.prog 19 #[.agg #[.int .i64 (g 1).kind, .int .i64 (g 1).width, .int .i64 (g 1).id, .int .i64 (g 1).index, .slice bo1 (g 1).kids.length cb1], .agg #[.int .i64 (g 2).kind, .int .i64 (g 2).width, .int .i64 (g 2).id, .int .i64 (g 2).index, .slice bo2 (g 2).kids.length cb2]] u fun e w' => e = .returned (.bool r) ∧ Gr u w') := fun u gu => hA bo1 cb1 bo2 cb2 ty1 ty2 u (h.gr.tr gu)
  have HH := hidM h
  have HTY0 := hidM ty0
  have HTY1 := hidM ty1
  have HTY2 := hidM ty2
  have HN : Hid (∀ u, Gr w u → u.cell? ⟨gp, 1, none⟩ = some (.bool (f 0).nul) ∧ u.cell? ⟨gp, 8, none⟩ = some (.bool (f 1).nul) ∧ u.cell? ⟨gp, 15, none⟩ = some (.bool (f 2).nul)) := fun u g => ⟨g.cell' p1 id, g.cell' p8 id, g.cell' p15 id⟩
  have HO : Hid (∀ u, Gr w u → u.heap[y]? = some (.cells #[.string (f 0).name, .bool (anyN f 3), .int .i64 2, .int .i64 0, .int .i64 0, .int .i64 0, .slice none 0 0] 26)) := fun u g => (g.block _ (lt_of_heap ho) id).trans ho
  have HT := hidM hT
  clear h ho hoc hT hA ty0 ty1 ty2 p1 p2 p3 p4 p5 p6 p8 p9 p10 p11 p12 p13 p15 p16 p17 p18 p19 p20 q0 q1 q2 q3 q4 q5 q6 f0 f1 f2 f3 f4 f5 f6
  all_goals
    (simp only [rest5, sq2, Tryz.f5, Option.getD, act5]
     refine cut1 (fun C hC => ?_)
     have HC : Hid (C = tail5) := hC.trans (by kernel_rfl)
     clear hC
     go_wp2_with fail
     refine wp_region_held_drew (S := fun w' => w'.cell? ⟨gp, 9, none⟩ = some (.int .i64 (g 1).kind) ∧ w'.cell? ⟨gp, 10, none⟩ = some (.int .i64 (g 1).width) ∧ w'.cell? ⟨gp, 11, none⟩ = some (.int .i64 (g 1).id) ∧ w'.cell? ⟨gp, 12, none⟩ = some (.int .i64 (g 1).index) ∧ w'.cell? ⟨gp, 13, none⟩ = some (.slice bo1 (g 1).kids.length cb1) ∧ w'.cell? ⟨gp, 16, none⟩ = some (.int .i64 (g 2).kind) ∧ w'.cell? ⟨gp, 17, none⟩ = some (.int .i64 (g 2).width) ∧ w'.cell? ⟨gp, 18, none⟩ = some (.int .i64 (g 2).id) ∧ w'.cell? ⟨gp, 19, none⟩ = some (.int .i64 (g 2).index) ∧ w'.cell? ⟨gp, 20, none⟩ = some (.slice bo2 (g 2).kids.length cb2)) (by kernel_rfl) (HS.out w.drew gr_drew) (fun hHeld => ?_)
     refine tk 0 ?_
     refine tk 1 ?_
     refine tk 2 ?_
     refine tk 3 ?_
     refine tk 4 ?_
     refine tk 5 ?_
     refine tk 6 ?_
     refine tk 7 ?_
     refine tk 8 ?_
     refine tk 9 ?_
     refine tk 10 ?_
     refine rd1 11 fun Kc hK => ?_
     go_simp
     go_at_call 19
     refine Calls.mono (HA.out _ gr_drew) ?_
     rintro e' w1 ⟨rfl, g1⟩; have HG1 := hidM (Keeps.trans (gr_drew (w := w)) g1 (fun _ _ h => h)); clear g1
     go_wp2_with fail
     refine hK.out _ _ (HS.out _ HG1.out) (fun hHeld => ?_)
     clear hK Kc
     try simp only [Act.put, lA, lB, lC]
     refine tk 12 ?_
     refine tk 13 ?_
     refine wpAnyH_done (by kernel_rfl) ?_ _
     obtain ⟨s0, s1, s2, s3, s4, -⟩ := HS.out w1 HG1.out
     have HOO := hidM (HO.out w1 HG1.out)
     obtain ⟨q0, q1, q2, q3, q4, q5, q6⟩ := cell7p HOO.out
     obtain ⟨f0, f1, f2, f3, f4, f5, f6⟩ := frz7 HOO.out
     obtain ⟨V, hV⟩ := ex (stA w1 y [(2, .int .i64 (g 1).kind), (3, .int .i64 (g 1).width), (4, .int .i64 (g 1).id), (5, .int .i64 (g 1).index), (6, .slice bo1 (g 1).kids.length cb1)])
     have ks : Keeps w1 V (fun z => z = y) := by rw [← hV]; exact stA_kp _ _ _
     have hfin : V.heap[y]? = some (.cells #[.string (f 0).name, .bool (anyN f 3), .int .i64 (g 1).kind, .int .i64 (g 1).width, .int .i64 (g 1).id, .int .i64 (g 1).index, .slice bo1 (g 1).kids.length cb1] 26) := by
       have h2 := stA_blk y 26 [(2, .int .i64 (g 1).kind), (3, .int .i64 (g 1).width), (4, .int .i64 (g 1).id), (5, .int .i64 (g 1).index), (6, .slice bo1 (g 1).kids.length cb1)] w1 _ HOO.out
       rw [hV] at h2
       simpa [stC] using h2
     obtain ⟨-, n1, n2⟩ := HN.out w1 HG1.out
     have v8 := ks.cell' n1 (fun e => by have e' : gp = y := e; have := HH.out.py; omega)
     have v15 := ks.cell' n2 (fun e => by have e' : gp = y := e; have := HH.out.py; omega)
     have w1f := frz hfin 1
     obtain ⟨r0, r1, r2, r3, r4, r5, r6⟩ := cell7p hfin
     obtain ⟨X, hX⟩ := ex (stA V y [(1, .bool ((f 1).nul || (f 2).nul))])
     have ks2 : Keeps V X (fun z => z = y) := by rw [← hX]; exact stA_kp _ _ _
     have hfin2 : X.heap[y]? = some (.cells #[.string (f 0).name, .bool ((f 1).nul || (f 2).nul), .int .i64 (g 1).kind, .int .i64 (g 1).width, .int .i64 (g 1).id, .int .i64 (g 1).index, .slice bo1 (g 1).kids.length cb1] 26) := by
       have h2 := stA_blk y 26 [(1, .bool ((f 1).nul || (f 2).nul))] V _ hfin
       rw [hX] at h2
       simpa [stC] using h2
     have HE := hidM (HH.out.tl HG1.out (ks.tr ks2) hfin2 HTY1.out)
     clear ks hfin ks2 hfin2 n1 n2
     simp only [stA] at hV hX
     generalize (f 1).nul = m1 at *
     generalize (f 2).nul = m2 at *
     cases m1
     (simp only [Bool.false_or] at hX; go_wp2_with fail; rw [HC.out]; (try rw [hX]); exact HT.out _ rfl _ _ _ _ IsT.mk HE.out)
     (simp only [Bool.true_or] at hX; go_wp2_with fail; rw [HC.out]; (try rw [hX]); exact HT.out _ rfl _ _ _ _ IsT.mk HE.out))
theorem swIf_f (S : Nat → Prop) (W w : World) (d x0 y gp cp : Nat) (f g : Nat → FT) (xs : List Value) (lv : Value) (two : Bool) {a : Act} (ha : IsA 18 lv (.slice (some ⟨gp, 0, none⟩) 3 cp) x0 y (anyN f 3) (allN f 3) two (g 0).kind a) (QQ : Ending → World → Prop) (h : Ref5 S W d 3 x0 y gp cp f g xs w) (r : Bool) (hA : ∀ bo1 cb1 bo2 cb2, TyI S W d (g 1) bo1 cb1 → TyI S W d (g 2) bo2 cb2 → Ans 19 #[.agg #[.int .i64 (g 1).kind, .int .i64 (g 1).width, .int .i64 (g 1).id, .int .i64 (g 1).index, .slice bo1 (g 1).kids.length cb1], .agg #[.int .i64 (g 2).kind, .int .i64 (g 2).width, .int .i64 (g 2).id, .int .i64 (g 2).index, .slice bo2 (g 2).kids.length cb2]] r W)
    (hk : ((g 0).kind == 2) = false) (hT : ∀ (ok : Bool), ok = (false) → ∀ (w' : World) (ao : Option Addr) (ca : Nat) (a : Act), IsT x0 y ok a → Tl5 S W d x0 y (f 0).name ((f 1).nul || (f 2).nul) (g 1) ao ca w' → tail5.wp Tryz.prog (bodyPost Tryz.prog Tryz.f5 QQ) a w') :
    rest5.wp Tryz.prog (bodyPost Tryz.prog Tryz.f5 QQ) a w := by
  cases ha
  have hrow := h.row
  obtain ⟨_, bo2, cb2, ⟨_, bo1, cb1, ⟨_, bo0, cb0, e0, ty0, rfl⟩, ty1, rfl⟩, ty2, rfl⟩ := hrow
  have e0' : _ = [] := e0
  subst e0'
  have hoc := own_cells h.own
  have hcpI : (3 : Int) ≤ (cp : Int) := by have := hoc.2.2; omega
  have ho := h.out
  obtain ⟨q0, q1, q2, q3, q4, q5, q6⟩ := cell7p ho
  obtain ⟨f0, f1, f2, f3, f4, f5, f6⟩ := frz7 ho
  have p1 : w.cell? ⟨gp, 1, none⟩ = some (.bool (f 0).nul) := hoc.1 1 _ rfl
  have p2 : w.cell? ⟨gp, 2, none⟩ = some (.int .i64 (g 0).kind) := hoc.1 2 _ rfl
  have p3 : w.cell? ⟨gp, 3, none⟩ = some (.int .i64 (g 0).width) := hoc.1 3 _ rfl
  have p4 : w.cell? ⟨gp, 4, none⟩ = some (.int .i64 (g 0).id) := hoc.1 4 _ rfl
  have p5 : w.cell? ⟨gp, 5, none⟩ = some (.int .i64 (g 0).index) := hoc.1 5 _ rfl
  have p6 : w.cell? ⟨gp, 6, none⟩ = some (.slice bo0 (g 0).kids.length cb0) := hoc.1 6 _ rfl
  have p8 : w.cell? ⟨gp, 8, none⟩ = some (.bool (f 1).nul) := hoc.1 8 _ rfl
  have p9 : w.cell? ⟨gp, 9, none⟩ = some (.int .i64 (g 1).kind) := hoc.1 9 _ rfl
  have p10 : w.cell? ⟨gp, 10, none⟩ = some (.int .i64 (g 1).width) := hoc.1 10 _ rfl
  have p11 : w.cell? ⟨gp, 11, none⟩ = some (.int .i64 (g 1).id) := hoc.1 11 _ rfl
  have p12 : w.cell? ⟨gp, 12, none⟩ = some (.int .i64 (g 1).index) := hoc.1 12 _ rfl
  have p13 : w.cell? ⟨gp, 13, none⟩ = some (.slice bo1 (g 1).kids.length cb1) := hoc.1 13 _ rfl
  have p15 : w.cell? ⟨gp, 15, none⟩ = some (.bool (f 2).nul) := hoc.1 15 _ rfl
  have p16 : w.cell? ⟨gp, 16, none⟩ = some (.int .i64 (g 2).kind) := hoc.1 16 _ rfl
  have p17 : w.cell? ⟨gp, 17, none⟩ = some (.int .i64 (g 2).width) := hoc.1 17 _ rfl
  have p18 : w.cell? ⟨gp, 18, none⟩ = some (.int .i64 (g 2).id) := hoc.1 18 _ rfl
  have p19 : w.cell? ⟨gp, 19, none⟩ = some (.int .i64 (g 2).index) := hoc.1 19 _ rfl
  have p20 : w.cell? ⟨gp, 20, none⟩ = some (.slice bo2 (g 2).kids.length cb2) := hoc.1 20 _ rfl
  have HS : Hid (∀ u, Gr w u → u.cell? ⟨gp, 9, none⟩ = some (.int .i64 (g 1).kind) ∧ u.cell? ⟨gp, 10, none⟩ = some (.int .i64 (g 1).width) ∧ u.cell? ⟨gp, 11, none⟩ = some (.int .i64 (g 1).id) ∧ u.cell? ⟨gp, 12, none⟩ = some (.int .i64 (g 1).index) ∧ u.cell? ⟨gp, 13, none⟩ = some (.slice bo1 (g 1).kids.length cb1) ∧ u.cell? ⟨gp, 16, none⟩ = some (.int .i64 (g 2).kind) ∧ u.cell? ⟨gp, 17, none⟩ = some (.int .i64 (g 2).width) ∧ u.cell? ⟨gp, 18, none⟩ = some (.int .i64 (g 2).id) ∧ u.cell? ⟨gp, 19, none⟩ = some (.int .i64 (g 2).index) ∧ u.cell? ⟨gp, 20, none⟩ = some (.slice bo2 (g 2).kids.length cb2)) := fun u g => ⟨g.cell' p9 id, g.cell' p10 id, g.cell' p11 id, g.cell' p12 id, g.cell' p13 id, g.cell' p16 id, g.cell' p17 id, g.cell' p18 id, g.cell' p19 id, g.cell' p20 id⟩
  have HA : Hid (∀ u, Gr w u → Calls Tryz.prog 19 #[.agg #[.int .i64 (g 1).kind, .int .i64 (g 1).width, .int .i64 (g 1).id, .int .i64 (g 1).index, .slice bo1 (g 1).kids.length cb1], .agg #[.int .i64 (g 2).kind, .int .i64 (g 2).width, .int .i64 (g 2).id, .int .i64 (g 2).index, .slice bo2 (g 2).kids.length cb2]] u fun e w' => e = .returned (.bool r) ∧ Gr u w') := fun u gu => hA bo1 cb1 bo2 cb2 ty1 ty2 u (h.gr.tr gu)
  have HH := hidM h
  have HTY0 := hidM ty0
  have HTY1 := hidM ty1
  have HTY2 := hidM ty2
  have HN : Hid (∀ u, Gr w u → u.cell? ⟨gp, 1, none⟩ = some (.bool (f 0).nul) ∧ u.cell? ⟨gp, 8, none⟩ = some (.bool (f 1).nul) ∧ u.cell? ⟨gp, 15, none⟩ = some (.bool (f 2).nul)) := fun u g => ⟨g.cell' p1 id, g.cell' p8 id, g.cell' p15 id⟩
  have HO : Hid (∀ u, Gr w u → u.heap[y]? = some (.cells #[.string (f 0).name, .bool (anyN f 3), .int .i64 2, .int .i64 0, .int .i64 0, .int .i64 0, .slice none 0 0] 26)) := fun u g => (g.block _ (lt_of_heap ho) id).trans ho
  have HT := hidM hT
  clear h ho hoc hT hA ty0 ty1 ty2 p1 p2 p3 p4 p5 p6 p8 p9 p10 p11 p12 p13 p15 p16 p17 p18 p19 p20 q0 q1 q2 q3 q4 q5 q6 f0 f1 f2 f3 f4 f5 f6
  have HG1 := hidM (gr_drew (w := w))
  all_goals
    (simp only [rest5, sq2, Tryz.f5, Option.getD, act5]
     refine cut1 (fun C hC => ?_)
     have HC : Hid (C = tail5) := hC.trans (by kernel_rfl)
     clear hC
     go_wp2_with fail
     refine wp_region_held_drew (S := fun w' => w'.cell? ⟨gp, 9, none⟩ = some (.int .i64 (g 1).kind) ∧ w'.cell? ⟨gp, 10, none⟩ = some (.int .i64 (g 1).width) ∧ w'.cell? ⟨gp, 11, none⟩ = some (.int .i64 (g 1).id) ∧ w'.cell? ⟨gp, 12, none⟩ = some (.int .i64 (g 1).index) ∧ w'.cell? ⟨gp, 13, none⟩ = some (.slice bo1 (g 1).kids.length cb1) ∧ w'.cell? ⟨gp, 16, none⟩ = some (.int .i64 (g 2).kind) ∧ w'.cell? ⟨gp, 17, none⟩ = some (.int .i64 (g 2).width) ∧ w'.cell? ⟨gp, 18, none⟩ = some (.int .i64 (g 2).id) ∧ w'.cell? ⟨gp, 19, none⟩ = some (.int .i64 (g 2).index) ∧ w'.cell? ⟨gp, 20, none⟩ = some (.slice bo2 (g 2).kids.length cb2)) (by kernel_rfl) (HS.out w.drew gr_drew) (fun hHeld => ?_)
     refine tk 0 ?_
     refine tk 1 ?_
     refine tk 2 ?_
     refine sk 3 ?_
     refine sk 4 ?_
     refine sk 5 ?_
     refine sk 6 ?_
     refine sk 7 ?_
     refine sk 8 ?_
     refine sk 9 ?_
     refine sk 10 ?_
     refine sk 11 ?_
     refine tk 12 ?_
     refine tk 13 ?_
     refine wpAnyH_done (by kernel_rfl) ?_ _
     generalize w.drew = w1 at *
     obtain ⟨s0, s1, s2, s3, s4, -⟩ := HS.out w1 HG1.out
     have HOO := hidM (HO.out w1 HG1.out)
     obtain ⟨q0, q1, q2, q3, q4, q5, q6⟩ := cell7p HOO.out
     obtain ⟨f0, f1, f2, f3, f4, f5, f6⟩ := frz7 HOO.out
     obtain ⟨V, hV⟩ := ex (stA w1 y [(2, .int .i64 (g 1).kind), (3, .int .i64 (g 1).width), (4, .int .i64 (g 1).id), (5, .int .i64 (g 1).index), (6, .slice bo1 (g 1).kids.length cb1)])
     have ks : Keeps w1 V (fun z => z = y) := by rw [← hV]; exact stA_kp _ _ _
     have hfin : V.heap[y]? = some (.cells #[.string (f 0).name, .bool (anyN f 3), .int .i64 (g 1).kind, .int .i64 (g 1).width, .int .i64 (g 1).id, .int .i64 (g 1).index, .slice bo1 (g 1).kids.length cb1] 26) := by
       have h2 := stA_blk y 26 [(2, .int .i64 (g 1).kind), (3, .int .i64 (g 1).width), (4, .int .i64 (g 1).id), (5, .int .i64 (g 1).index), (6, .slice bo1 (g 1).kids.length cb1)] w1 _ HOO.out
       rw [hV] at h2
       simpa [stC] using h2
     obtain ⟨-, n1, n2⟩ := HN.out w1 HG1.out
     have v8 := ks.cell' n1 (fun e => by have e' : gp = y := e; have := HH.out.py; omega)
     have v15 := ks.cell' n2 (fun e => by have e' : gp = y := e; have := HH.out.py; omega)
     have w1f := frz hfin 1
     obtain ⟨r0, r1, r2, r3, r4, r5, r6⟩ := cell7p hfin
     obtain ⟨X, hX⟩ := ex (stA V y [(1, .bool ((f 1).nul || (f 2).nul))])
     have ks2 : Keeps V X (fun z => z = y) := by rw [← hX]; exact stA_kp _ _ _
     have hfin2 : X.heap[y]? = some (.cells #[.string (f 0).name, .bool ((f 1).nul || (f 2).nul), .int .i64 (g 1).kind, .int .i64 (g 1).width, .int .i64 (g 1).id, .int .i64 (g 1).index, .slice bo1 (g 1).kids.length cb1] 26) := by
       have h2 := stA_blk y 26 [(1, .bool ((f 1).nul || (f 2).nul))] V _ hfin
       rw [hX] at h2
       simpa [stC] using h2
     have HE := hidM (HH.out.tl HG1.out (ks.tr ks2) hfin2 HTY1.out)
     clear ks hfin ks2 hfin2 n1 n2
     simp only [stA] at hV hX
     generalize (f 1).nul = m1 at *
     generalize (f 2).nul = m2 at *
     cases m1
     (simp only [Bool.false_or] at hX; go_wp2_with fail; rw [HC.out]; (try rw [hX]); exact HT.out _ rfl _ _ _ _ IsT.mk HE.out)
     (simp only [Bool.true_or] at hX; go_wp2_with fail; rw [HC.out]; (try rw [hX]); exact HT.out _ rfl _ _ _ _ IsT.mk HE.out))
variable {S : Nat → Prop} {w : World} {d b o lc : Nat} {f g : Nat → FT} {ao : Nat → Option Addr} {ca : Nat → Nat}
theorem pElse (h : Cx S w d b o lc 2 f g ao ca) (er tt : Int) (p : List Nat) (hF : FaultIs (0, 0) (nodes (d + 3) [(fT (f 0).name (allN f 2) (g 0))] [] false) er p tt) :
    Calls Tryz.prog 4 #[.int .i64 17, .slice (some ⟨b, o, none⟩) 2 lc] w (AtQ w (d + 3) (ansR (alkB d (g 0) (g 1)) er (fT (f 0).name (allN f 2) (g 0)))) := by
  have hc : CellsAt w b o (f 0) (ao 0) (ca 0) := by have := (h.hF 0 (by decide)).c; simpa using this
  have hN : argN 17 = 2 := by rfl
  refine prog 2 (by decide) S d b o lc 17 (f 0).name (allN f 2) (alkB d (g 0) (g 1)) (g 0) (Pl2 S w d g) w er tt p h.hT h.hS h.hd hF hN h.hlc hc.c0 h.none2 h.types2 (fun u tb k hP => ?_) (fun u k => ?_)
  · obtain ⟨bo0, cb0, bo1, cb1, a0, a1, t0, t1⟩ := hP
    refine Calls.mono (outElse (g 0) bo0 cb0 tb _ u a0 (fun u' k' => areAlike27_2 (g 0) (g 1) bo0 bo1 cb0 cb1 tb 0 _ u' (a0.gr k') (a1.gr k') ((h.alike (i := 0) (j := 1) (by decide) (by decide) t0 t1).1.gr (k.tr k')))) ?_
    rintro e w' ⟨rfl, gw⟩
    exact ⟨bo0, cb0, rfl, gw, t0⟩
  have h0 : CellsAt u b o (f 0) (ao 0) (ca 0) := by have := ((h.gr k).hF 0 (by decide)).c; simpa using this
  have h1 : CellsAt u b (o + 7) (f 1) (ao 1) (ca 1) := by have := ((h.gr k).hF 1 (by decide)).c; simpa using this
  have e : allN f 2 = ((f 0).nul && (f 1).nul) := by simp [allN]
  rw [e]
  exact null13_17 b o lc (f 0) (f 1) (ao 0) (ao 1) (ca 0) (ca 1) u h.hlc h0 h1
theorem rElse (h : Cx S w d b o lc 2 f g ao ca) (er tt : Int) (p : List Nat) (hF : FaultIs (0, 0) (nodes (d + 3) [(fT (f 0).name (allN f 2) (g 0))] [] false) er p tt) :
    Calls Tryz.prog 5 #[.int .i64 17, .slice (some ⟨b, o, none⟩) 2 lc] w (AtQ w (d + 3) (ansR (alkB d (g 0) (g 1)) er (fT (f 0).name (allN f 2) (g 0)))) := by
  have hN : argR 17 = 2 := by rfl
  refine ref5_pre S d b o lc 2 17 f g ao ca (d + 3) _ w h.hS h.hb hN (by decide) (by decide) h.hlc h.hF h.hV (fun i hi => (h.may hi).2) (fun x0 y gp cp xs w' two a ha h5 h1 h2 => ?_)
  refine swElse S w w' d x0 y gp cp f g xs _ two ha _ h5 _ (fun bo0 cb0 bo1 cb1 t0 t1 => (h.alike (i := 0) (j := 1) (by decide) (by decide) t0 t1).2) (fun ok hok w'' bo cb a ha hTl => ?_)
  have e : ok = _ := hok.trans (rfl)
  subst e
  exact tail_any _ hTl h.hS hF ha
theorem bElse (h : Cx S w d b o lc 2 f g ao ca) : ∃ (D : Nat) (r : Int × FT), (∀ W, Gr w W → Calls Tryz.prog 4 #[.int .i64 17, .slice (some ⟨b, o, none⟩) 2 lc] W (AtQ W D r)) ∧ (∀ W, Gr w W → Calls Tryz.prog 5 #[.int .i64 17, .slice (some ⟨b, o, none⟩) 2 lc] W (AtQ W D r)) := by
  obtain ⟨er, p, tt, hF⟩ := fault_is (0, 0) (nodes (d + 3) [(fT (f 0).name (allN f 2) (g 0))] [] false)
  exact ⟨d + 3, _, fun W k => pElse (h.gr k) er tt p hF, fun W k => rElse (h.gr k) er tt p hF⟩
theorem outIf (k0 : Int) (a : FT) (ao : Option Addr) (ca tb : Nat) (r : Bool) (W : World) (hk0 : W.cell? ⟨tb, 0, none⟩ = some (.int .i64 k0)) (ht : TyAt W tb 5 a ao ca) (hC : ∀ u, Gr W u → Calls Tryz.prog 27 #[.slice (some ⟨tb, 5, none⟩) 2 2] u fun e w' => e = .returned (.bool r) ∧ Gr u w') :
    Calls Tryz.prog 11 #[.int .i64 18, .slice (some ⟨tb, 0, none⟩) 3 3] W fun e w' => e = .returned (.tuple #[.agg #[.int .i64 a.kind, .int .i64 a.width, .int .i64 a.id, .int .i64 a.index, .slice ao a.kids.length ca], .bool (k0 == 2 && r)]) ∧ Gr W w' := by
  cases hk : (k0 == 2)
  · exact outIf_f a ao ca tb W k0 hk0 ht hk
  exact outIf_t a ao ca tb r W k0 hk0 ht hk hC
theorem pIf (h : Cx S w d b o lc 3 f g ao ca) (er tt : Int) (p : List Nat) (hF : FaultIs (0, 0) (nodes (d + 3) [(fT (f 0).name ((f 1).nul || (f 2).nul) (g 1))] [] false) er p tt) :
    Calls Tryz.prog 4 #[.int .i64 18, .slice (some ⟨b, o, none⟩) 3 lc] w (AtQ w (d + 3) (ansR ((g 0).kind == 2 && alkB d (g 1) (g 2)) er (fT (f 0).name ((f 1).nul || (f 2).nul) (g 1)))) := by
  have hc : CellsAt w b o (f 0) (ao 0) (ca 0) := by have := (h.hF 0 (by decide)).c; simpa using this
  have hN : argN 18 = 3 := by rfl
  refine prog 3 (by decide) S d b o lc 18 (f 0).name (((f 1).nul || (f 2).nul)) ((g 0).kind == 2 && alkB d (g 1) (g 2)) (g 1) (Pl3 S w d g) w er tt p h.hT h.hS h.hd hF hN h.hlc hc.c0 h.none3 h.types3 (fun u tb k hP => ?_) (fun u k => ?_)
  · obtain ⟨bo0, cb0, bo1, cb1, bo2, cb2, a0, a1, a2, t0, t1, t2⟩ := hP
    refine Calls.mono (outIf (g 0).kind (g 1) bo1 cb1 tb _ u a0.1 a1 (fun u' k' => areAlike27_2 (g 1) (g 2) bo1 bo2 cb1 cb2 tb 5 _ u' (a1.gr k') (a2.gr k') ((h.alike (i := 1) (j := 2) (by decide) (by decide) t1 t2).1.gr (k.tr k')))) ?_
    rintro e w' ⟨rfl, gw⟩
    exact ⟨bo1, cb1, rfl, gw, t1⟩
  have hu := h.gr k
  have l1 : FlI S u d b (o + 7) (f 1) (ao 1) (ca 1) := by have := hu.hF 1 (by decide); simpa using this
  have l2 : FlI S u d b (o + 7 + 7) (f 2) (ao 2) (ca 2) := by have := hu.hF 2 (by decide); simpa using this
  have hl := h.hlc
  exact null13_18 b o lc _ u h.hlc (has9_31_2 S d b (o + 7) (lc - 1) (f 1) (f 2) (ao 1) (ao 2) (ca 1) (ca 2) (f 1).nul (f 2).nul u hu.hS hu.hb (by omega) l1 (fun u _ => null31 (f 1) (ao 1) (ca 1) u) l2 (fun u _ => null31 (f 2) (ao 2) (ca 2) u))
theorem rIf (h : Cx S w d b o lc 3 f g ao ca) (er tt : Int) (p : List Nat) (hF : FaultIs (0, 0) (nodes (d + 3) [(fT (f 0).name ((f 1).nul || (f 2).nul) (g 1))] [] false) er p tt) :
    Calls Tryz.prog 5 #[.int .i64 18, .slice (some ⟨b, o, none⟩) 3 lc] w (AtQ w (d + 3) (ansR ((g 0).kind == 2 && alkB d (g 1) (g 2)) er (fT (f 0).name ((f 1).nul || (f 2).nul) (g 1)))) := by
  have hN : argR 18 = 3 := by rfl
  refine ref5_pre S d b o lc 3 18 f g ao ca (d + 3) _ w h.hS h.hb hN (by decide) (by decide) h.hlc h.hF h.hV (fun i hi => (h.may hi).2) (fun x0 y gp cp xs w' two a ha h5 h1 h2 => ?_)
  cases hk : ((g 0).kind == 2)
  · refine swIf_f S w w' d x0 y gp cp f g xs _ two ha _ h5 (alkB d (g 1) (g 2)) (fun bo1 cb1 bo2 cb2 t1 t2 => (h.alike (i := 1) (j := 2) (by decide) (by decide) t1 t2).2) hk (fun ok hok w'' bo cb a ha hTl => ?_)
    subst hok
    exact tail_any _ hTl h.hS hF ha
  refine swIf_t S w w' d x0 y gp cp f g xs _ two ha _ h5 (alkB d (g 1) (g 2)) (fun bo1 cb1 bo2 cb2 t1 t2 => (h.alike (i := 1) (j := 2) (by decide) (by decide) t1 t2).2) hk (fun ok hok w'' bo cb a ha hTl => ?_)
  subst hok
  exact tail_any _ hTl h.hS hF ha
theorem bIf (h : Cx S w d b o lc 3 f g ao ca) : ∃ (D : Nat) (r : Int × FT), (∀ W, Gr w W → Calls Tryz.prog 4 #[.int .i64 18, .slice (some ⟨b, o, none⟩) 3 lc] W (AtQ W D r)) ∧ (∀ W, Gr w W → Calls Tryz.prog 5 #[.int .i64 18, .slice (some ⟨b, o, none⟩) 3 lc] W (AtQ W D r)) := by
  obtain ⟨er, p, tt, hF⟩ := fault_is (0, 0) (nodes (d + 3) [(fT (f 0).name ((f 1).nul || (f 2).nul) (g 1))] [] false)
  exact ⟨d + 3, _, fun W k => pIf (h.gr k) er tt p hF, fun W k => rIf (h.gr k) er tt p hF⟩
theorem argRN (op : Int) : argR op = if argN op = 0 then -1 else argN op := by
  unfold argR argN
  by_cases h1 : op = 6 ∨ op = 15 ∨ op = 16 ∨ op = 20
  · simp [h1]
  by_cases h2 : op = 18
  · simp [h2]
  by_cases h3 : 1 ≤ op ∧ op ≤ 22
  · simp [h1, h2, h3]
  simp [h1, h2, h3]
theorem arg_cases (op : Int) : argN op = 0 ∨ (argN op = 1 ∧ (op = 6 ∨ op = 15 ∨ op = 16 ∨ op = 20)) ∨ (argN op = 3 ∧ op = 18) ∨ (argN op = 2 ∧ (op = 5 ∨ op = 17 ∨ op = 19 ∨ (op = 1 ∨ op = 2 ∨ op = 3 ∨ op = 4) ∨ (op = 7 ∨ op = 8 ∨ op = 9 ∨ op = 10 ∨ op = 11 ∨ op = 12) ∨ (op = 13 ∨ op = 14) ∨ (op = 21 ∨ op = 22))) := by
  unfold argN
  by_cases h1 : op = 6 ∨ op = 15 ∨ op = 16 ∨ op = 20
  · right; left; exact ⟨by simp [h1], h1⟩
  by_cases h2 : op = 18
  · right; right; left; exact ⟨by simp [h2], h2⟩
  by_cases h3 : 1 ≤ op ∧ op ≤ 22
  · right; right; right
    exact ⟨by simp [h1, h2, h3], by omega⟩
  left; simp [h1, h2, h3]
theorem least {p : Nat → Prop} : ∀ (n : Nat), (∃ i, i < n ∧ p i) → ∃ m, m < n ∧ p m ∧ ∀ i, i < m → ¬ p i
  | 0, h => by obtain ⟨i, hi, _⟩ := h; omega
  | n + 1, h => by
    by_cases h2 : ∃ i, i < n ∧ p i
    · obtain ⟨m, hm, hp, hl⟩ := least n h2
      exact ⟨m, by omega, hp, hl⟩
    obtain ⟨i, hi, hp⟩ := h
    have e : i = n := Classical.byContradiction fun hne => h2 ⟨i, by omega, hp⟩
    subst e
    exact ⟨i, hi, hp, fun j hj hq => h2 ⟨j, hj, hq⟩⟩
structure Ax (S : Nat → Prop) (w : World) (d b o lc n : Nat) (f : Nat → FT) (ao : Nat → Option Addr) (ca : Nat → Nat) (er : Nat → Int) : Prop where
  hT : Tab w
  hS : ∀ b, S b → b < w.heap.size
  hb : b < w.heap.size
  hd : d + 3 ≤ big
  hlc : n ≤ lc
  hF : ∀ i, i < n → FlI S w d b (o + i * 7) (f i) (ao i) (ca i)
  hE : ∀ i, ∃ p tt, FaultIs (0, 0) (nodes (d + 1) [f i] [] false) (er i) p tt
theorem Ax.gr {S : Nat → Prop} {w W : World} {d b o lc n : Nat} {f : Nat → FT} {ao : Nat → Option Addr} {ca : Nat → Nat} {er : Nat → Int} (h : Ax S w d b o lc n f ao ca er) (k : Gr w W) : Ax S W d b o lc n f ao ca er :=
  ⟨h.hT.gr k, fun b hb => Nat.lt_of_lt_of_le (h.hS b hb) k.size, Nat.lt_of_lt_of_le h.hb k.size, h.hd, h.hlc, fun i hi => (h.hF i hi).gr k h.hb h.hS, h.hE⟩
theorem Ax.ten {S : Nat → Prop} {w : World} {d b o lc n : Nat} {f : Nat → FT} {ao : Nat → Option Addr} {ca : Nat → Nat} {er : Nat → Int} (h : Ax S w d b o lc n f ao ca er) {i : Nat} (hi : i < n) :
    (∀ u, Gr w u → Calls Tryz.prog 10 #[.agg #[.string (f i).name, .bool (f i).nul, .int .i64 (f i).kind, .int .i64 (f i).width, .int .i64 (f i).id, .int .i64 (f i).index, .slice (ao i) (f i).kids.length (ca i)]] u fun e w' => e = .returned (.bool (!(er i == 0))) ∧ Gr u w') ∧ Ans 16 #[.agg #[.string (f i).name, .bool (f i).nul, .int .i64 (f i).kind, .int .i64 (f i).width, .int .i64 (f i).id, .int .i64 (f i).index, .slice (ao i) (f i).kids.length (ca i)]] (er i == 0) w := by
  obtain ⟨p, tt, hz⟩ := h.hE i
  have hd := h.hd
  exact ⟨mayNot10 S d (f i) (ao i) (ca i) (er i) tt p w h.hT (h.hF i hi).row (h.hF i hi).le (by omega) h.hS hz, mayBeR_gen ⟨(h.hF i hi).row, (h.hF i hi).le⟩ h.hS hz⟩
theorem Ax.right {S : Nat → Prop} {w : World} {d b o lc n : Nat} {f : Nat → FT} {ao : Nat → Option Addr} {ca : Nat → Nat} {er : Nat → Int} (h : Ax S w d b o lc n f ao ca er) {i : Nat} (hi : i < n) (he : er i = 0) : AllR (nodes (d + 1) [f i] [] false) ∧ ∃ g, PlV d (f i) g ∧ tableB g = true ∧ g.kind ≠ 19 ∧ g.kind ≠ 20 := by
  obtain ⟨p, tt, hz⟩ := h.hE i
  rw [he] at hz
  have hA := hz.zero.2
  exact ⟨hA, plv_ex d (f i) [] false (h.hF i hi).row.deep hA.okN⟩
theorem Ax.bad1 {S : Nat → Prop} {w : World} {d b o lc : Nat} {f : Nat → FT} {ao : Nat → Option Addr} {ca : Nat → Nat} {er : Nat → Int} (h : Ax S w d b o lc 1 f ao ca er) (op : Int) (hN : argN op = 1) (hb : ∃ i, i < 1 ∧ er i ≠ 0) : Calls Tryz.prog 4 #[.int .i64 op, .slice (some ⟨b, o, none⟩) 1 lc] w (AtQ w 0 (5, zFT)) := by
  refine type4_bad 1 (by decide) b o lc 0 op w hN h.hlc (fun u k => ?_)
  have hu := h.gr k
  have l0 : FlI S u d b o (f 0) (ao 0) (ca 0) := by have := hu.hF 0 (by decide); simpa using this
  have h9 := has9_10_1 S d b o lc (f 0) (ao 0) (ca 0) (!(er 0 == 0)) u hu.hS hu.hb hu.hlc l0 (hu.ten (i := 0) (by decide)).1
  have e : ((!(er 0 == 0))) = true := by
    obtain ⟨i, hi, he⟩ := hb
    have hc : i = 0 := by omega
    rcases hc with rfl <;> simp [he]
  rw [e] at h9
  exact h9
theorem Ax.bad2 {S : Nat → Prop} {w : World} {d b o lc : Nat} {f : Nat → FT} {ao : Nat → Option Addr} {ca : Nat → Nat} {er : Nat → Int} (h : Ax S w d b o lc 2 f ao ca er) (op : Int) (hN : argN op = 2) (hb : ∃ i, i < 2 ∧ er i ≠ 0) : Calls Tryz.prog 4 #[.int .i64 op, .slice (some ⟨b, o, none⟩) 2 lc] w (AtQ w 0 (5, zFT)) := by
  refine type4_bad 2 (by decide) b o lc 0 op w hN h.hlc (fun u k => ?_)
  have hu := h.gr k
  have l0 : FlI S u d b o (f 0) (ao 0) (ca 0) := by have := hu.hF 0 (by decide); simpa using this
  have l1 : FlI S u d b (o + 7) (f 1) (ao 1) (ca 1) := by have := hu.hF 1 (by decide); simpa using this
  have h9 := has9_10_2 S d b o lc (f 0) (f 1) (ao 0) (ao 1) (ca 0) (ca 1) (!(er 0 == 0)) (!(er 1 == 0)) u hu.hS hu.hb hu.hlc l0 (hu.ten (i := 0) (by decide)).1 l1 (hu.ten (i := 1) (by decide)).1
  have e : ((!(er 0 == 0)) || (!(er 1 == 0))) = true := by
    obtain ⟨i, hi, he⟩ := hb
    have hc : i = 0 ∨ i = 1 := by omega
    rcases hc with rfl | rfl <;> simp [he]
  rw [e] at h9
  exact h9
theorem Ax.bad3 {S : Nat → Prop} {w : World} {d b o lc : Nat} {f : Nat → FT} {ao : Nat → Option Addr} {ca : Nat → Nat} {er : Nat → Int} (h : Ax S w d b o lc 3 f ao ca er) (op : Int) (hN : argN op = 3) (hb : ∃ i, i < 3 ∧ er i ≠ 0) : Calls Tryz.prog 4 #[.int .i64 op, .slice (some ⟨b, o, none⟩) 3 lc] w (AtQ w 0 (5, zFT)) := by
  refine type4_bad 3 (by decide) b o lc 0 op w hN h.hlc (fun u k => ?_)
  have hu := h.gr k
  have l0 : FlI S u d b o (f 0) (ao 0) (ca 0) := by have := hu.hF 0 (by decide); simpa using this
  have l1 : FlI S u d b (o + 7) (f 1) (ao 1) (ca 1) := by have := hu.hF 1 (by decide); simpa using this
  have l2 : FlI S u d b (o + 14) (f 2) (ao 2) (ca 2) := by have := hu.hF 2 (by decide); simpa using this
  have h9 := has9_10_3 S d b o lc (f 0) (f 1) (f 2) (ao 0) (ao 1) (ao 2) (ca 0) (ca 1) (ca 2) (!(er 0 == 0)) (!(er 1 == 0)) (!(er 2 == 0)) u hu.hS hu.hb hu.hlc l0 (hu.ten (i := 0) (by decide)).1 l1 (hu.ten (i := 1) (by decide)).1 l2 (hu.ten (i := 2) (by decide)).1
  have e : ((!(er 0 == 0)) || (!(er 1 == 0)) || (!(er 2 == 0))) = true := by
    obtain ⟨i, hi, he⟩ := hb
    have hc : i = 0 ∨ i = 1 ∨ i = 2 := by omega
    rcases hc with rfl | rfl | rfl <;> simp [he]
  rw [e] at h9
  exact h9
theorem both_types (S : Nat → Prop) (w : World) (d lc : Nat) (op : Int) (fs : List FT) (lo : Option Addr) (hT : Tab w) (hr : RowAt S w (d + 1) lo fs) (hlc : fs.length ≤ lc) (hd : d + 3 ≤ big) (hS : ∀ b, S b → b < w.heap.size) :
    ∃ (D : Nat) (r : Int × FT), (∀ W, Gr w W → Calls Tryz.prog 4 #[.int .i64 op, .slice lo fs.length lc] W (AtQ W D r)) ∧ (∀ W, Gr w W → Calls Tryz.prog 5 #[.int .i64 op, .slice lo fs.length lc] W (AtQ W D r)) := by
  by_cases h0 : argN op = 0 ∨ argN op ≠ fs.length
  · refine ⟨0, (1, zFT), fun W k => type4_arg lo fs.length lc 0 op W h0, fun W k => ref5_arg lo fs.length lc 0 op W ?_⟩
    rw [argRN]
    split <;> omega
  have hn0 : argN op ≠ 0 := fun e => h0 (.inl e)
  have hn : argN op = fs.length := Classical.byContradiction fun e => h0 (.inr e)
  have hR : argR op = fs.length := by rw [argRN, if_neg hn0]; exact hn
  have hne : fs ≠ [] := fun e => by rw [e] at hn; exact hn0 hn
  obtain ⟨b, o, rfl, hSb, hi⟩ := hr.2 hne
  obtain ⟨n, hnn⟩ := ex (fs.length)
  have hpt : ∀ i : Nat, ∃ q : Option Addr × Nat, i < n → FlI S w d b (o + i * 7) ((fs[i]?).getD zFT) q.1 q.2 := fun i => by
    by_cases h : i < fs.length
    · obtain ⟨ao, ca, h1, h2, h3⟩ := hi i h
      refine ⟨(ao, ca), fun _ => ?_⟩
      have e : (fs[i]?).getD zFT = fs[i] := by simp [h]
      rw [e]
      exact ⟨h1, h2, h3⟩
    exact ⟨(none, 0), fun h' => absurd (hnn ▸ h') h⟩
  obtain ⟨q, hq⟩ := Classical.axiomOfChoice hpt
  have hpe : ∀ i : Nat, ∃ er : Int, ∃ p tt, FaultIs (0, 0) (nodes (d + 1) [(fs[i]?).getD zFT] [] false) er p tt := fun i => fault_is _ _
  obtain ⟨er, hE⟩ := Classical.axiomOfChoice hpe
  rw [hnn] at hn hR hlc ⊢
  have hA : Ax S w d b o lc n (fun i => (fs[i]?).getD zFT) (fun i => (q i).1) (fun i => (q i).2) er := ⟨hT, hS, hS b hSb, hd, hlc, fun i h => hq i h, hE⟩
  clear hr hi hpt hq hpe hE hT hnn hne hSb hd hlc hS
  obtain ⟨f, hf⟩ : ∃ f : Nat → FT, (fun i => (fs[i]?).getD zFT) = f := ⟨_, rfl⟩
  obtain ⟨ao, hao⟩ : ∃ f : Nat → Option Addr, (fun i => (q i).1) = f := ⟨_, rfl⟩
  obtain ⟨ca, hca⟩ : ∃ f : Nat → Nat, (fun i => (q i).2) = f := ⟨_, rfl⟩
  rw [hf, hao, hca] at hA
  clear hf hao hca
  have h123 : n = 1 ∨ n = 2 ∨ n = 3 := by
    rcases arg_cases op with h | ⟨h, -⟩ | ⟨h, -⟩ | ⟨h, -⟩ <;> omega
  have hpg : ∀ i : Nat, ∃ g : FT, i < n → er i = 0 → PlV d (f i) g ∧ tableB g = true ∧ g.kind ≠ 19 ∧ g.kind ≠ 20 := fun i => by
    by_cases h : i < n ∧ er i = 0
    · obtain ⟨g, hg⟩ := (hA.right h.1 h.2).2
      exact ⟨g, fun _ _ => hg⟩
    exact ⟨zFT, fun h1 h2 => absurd ⟨h1, h2⟩ h⟩
  obtain ⟨g, hg⟩ := Classical.axiomOfChoice hpg
  by_cases hbad : ∃ i, i < n ∧ er i ≠ 0
  · refine ⟨0, (5, zFT), fun W k => ?_, fun W k => ?_⟩
    · have hAW := hA.gr k
      rcases h123 with rfl | rfl | rfl
      · exact hAW.bad1 op hn hbad
      · exact hAW.bad2 op hn hbad
      exact hAW.bad3 op hn hbad
    have hAW := hA.gr k
    obtain ⟨m, hm, hem, hl⟩ := least n hbad
    have hz : ∀ i, i < m → er i = 0 := fun i h => Classical.byContradiction fun e => hl i h e
    refine ref5_bad S d b o lc n m op f g ao ca 0 W hAW.hS hAW.hb hR (by omega) hm hAW.hlc hAW.hF (fun i h => (hg i (by omega) (hz i h)).1) (fun i h => ?_) ?_
    · have := (hAW.ten (i := i) (by omega)).2
      rwa [hz i h] at this
    have := (hAW.ten hm).2
    rwa [beqZ hem] at this
  have hz : ∀ i, i < n → er i = 0 := fun i h => Classical.byContradiction fun e => hbad ⟨i, h, e⟩
  have hC : Cx S w d b o lc n f g ao ca := ⟨hA.hT, hA.hS, hA.hb, hA.hd, hA.hlc, hA.hF, fun i h => (hA.right h (hz i h)).1, fun i h => (hg i h (hz i h)).1, fun i h => (hg i h (hz i h)).2⟩
  rcases arg_cases op with h | ⟨h, hc⟩ | ⟨h, hc⟩ | ⟨h, hc⟩
  · exact absurd h hn0
  · obtain rfl : n = 1 := by omega
    rcases hc with rfl | rfl | rfl | rfl
    · exact bNeg hC
    · exact bN hC
    · exact bNull hC
    exact bLen hC
  · obtain rfl : n = 3 := by omega
    subst hc
    exact bIf hC
  obtain rfl : n = 2 := by omega
  rcases hc with rfl | rfl | rfl | hc | hc | hc | hc
  · exact bR hC
  · exact bElse hC
  · exact bG hC
  · exact bA op hc hC
  · exact bE op hc hC
  · exact bB op hc hC
  exact bH op hc hC
end Go.Proofs.YtknnoiomdngmfaaGreatDoor.Kit
