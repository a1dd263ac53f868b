import Derived.Test.YtknnoiomdngmfaaGreatDoorWH
import Derived.Test.YtknnoiomdngmfaaGreatDoorZA
import Derived.Test.YtknnoiomdngmfaaGreatDoorLQ
set_option maxRecDepth 100000
set_option maxHeartbeats 4000000
namespace Go.Proofs.YtknnoiomdngmfaaGreatDoor.Kit
open Go.RowKit Go.Shelf Go.Deep
set_option linter.unusedVariables false
set_option linter.unusedSimpArgs false
attribute [local go_sem] run_store_func
theorem swR (S : Nat → Prop) (W w : World) (d x0 y gp cp : Nat) (f g : Nat → FT) (xs : List Value) (lv : Value) (two : Bool) {a : Act} (ha : IsA 5 lv (.slice (some ⟨gp, 0, none⟩) 2 cp) x0 y (anyN f 2) (allN f 2) two (g 0).kind a) (QQ : Ending → World → Prop) (h : Ref5 S W d 2 x0 y gp cp f g xs w)
    (hT : ∀ (ok : Bool), ok = (two && (decide (3 ≤ (g 0).kind) && decide ((g 0).kind ≤ 10))) → ∀ (w' : World) (ao : Option Addr) (ca : Nat) (a : Act), IsT x0 y ok a → Tl5 S W d x0 y (f 0).name (anyN f 2) (g 0) ao ca w' → tail5.wp Tryz.prog (bodyPost Tryz.prog Tryz.f5 QQ) a w') :
    rest5.wp Tryz.prog (bodyPost Tryz.prog Tryz.f5 QQ) a w := by
  cases ha
  have hrow := h.row
  obtain ⟨_, bo1, cb1, ⟨_, bo0, cb0, e0, ty0, rfl⟩, ty1, rfl⟩ := hrow
  have e0' : _ = [] := e0
  subst e0'
  have hoc := own_cells h.own
  have hcpI : (2 : Int) ≤ (cp : Int) := by have := hoc.2.2; omega
  have ho := h.out
  obtain ⟨q0, q1, q2, q3, q4, q5, q6⟩ := cell7p ho
  obtain ⟨f0, f1, f2, f3, f4, f5, f6⟩ := frz7 ho
  have p1 : w.cell? ⟨gp, 1, none⟩ = some (.bool (f 0).nul) := hoc.1 1 _ rfl
  have p2 : w.cell? ⟨gp, 2, none⟩ = some (.int .i64 (g 0).kind) := hoc.1 2 _ rfl
  have p3 : w.cell? ⟨gp, 3, none⟩ = some (.int .i64 (g 0).width) := hoc.1 3 _ rfl
  have p4 : w.cell? ⟨gp, 4, none⟩ = some (.int .i64 (g 0).id) := hoc.1 4 _ rfl
  have p5 : w.cell? ⟨gp, 5, none⟩ = some (.int .i64 (g 0).index) := hoc.1 5 _ rfl
  have p6 : w.cell? ⟨gp, 6, none⟩ = some (.slice bo0 (g 0).kids.length cb0) := hoc.1 6 _ rfl
  have p8 : w.cell? ⟨gp, 8, none⟩ = some (.bool (f 1).nul) := hoc.1 8 _ rfl
  have p9 : w.cell? ⟨gp, 9, none⟩ = some (.int .i64 (g 1).kind) := hoc.1 9 _ rfl
  have p10 : w.cell? ⟨gp, 10, none⟩ = some (.int .i64 (g 1).width) := hoc.1 10 _ rfl
  have p11 : w.cell? ⟨gp, 11, none⟩ = some (.int .i64 (g 1).id) := hoc.1 11 _ rfl
  have p12 : w.cell? ⟨gp, 12, none⟩ = some (.int .i64 (g 1).index) := hoc.1 12 _ rfl
  have p13 : w.cell? ⟨gp, 13, none⟩ = some (.slice bo1 (g 1).kids.length cb1) := hoc.1 13 _ rfl
  obtain ⟨V, hV⟩ := ex (stA w y [(2, .int .i64 (g 0).kind), (3, .int .i64 (g 0).width), (4, .int .i64 (g 0).id), (5, .int .i64 (g 0).index), (6, .slice bo0 (g 0).kids.length cb0)])
  have ks : Keeps w V (fun z => z = y) := by rw [← hV]; exact stA_kp _ _ _
  have hfin : V.heap[y]? = some (.cells #[.string (f 0).name, .bool (anyN f 2), .int .i64 (g 0).kind, .int .i64 (g 0).width, .int .i64 (g 0).id, .int .i64 (g 0).index, .slice bo0 (g 0).kids.length cb0] 26) := by
    have h2 := stA_blk y 26 [(2, .int .i64 (g 0).kind), (3, .int .i64 (g 0).width), (4, .int .i64 (g 0).id), (5, .int .i64 (g 0).index), (6, .slice bo0 (g 0).kids.length cb0)] w _ ho
    rw [hV] at h2
    simpa [stC, boolT, int64T, FT.kind, FT.width, FT.id, FT.index, FT.kids] using h2
  have HE := hidM (h.tl (Keeps.refl _ _) ks hfin ty0)
  clear ks hfin
  simp only [stA] at hV
  obtain ⟨v, hv⟩ := ex ((decide (3 ≤ (g 0).kind) && decide ((g 0).kind ≤ 10)))
  rw [hv] at hT
  have HV : Hid (∀ u, Calls Tryz.prog 18 #[.int .i64 (g 0).kind] u fun e w' => e = .returned (.bool v) ∧ u = w') := fun u => by have h := wholeR18 (g 0).kind u; rwa [hv] at h
  clear hv
  have HT := hidM hT
  clear h ho hoc hT ty0 ty1
  all_goals cases two
  all_goals cases v
  all_goals
    (simp only [rest5, sq2, Tryz.f5, Option.getD, act5]
     refine cut1 (fun C hC => ?_)
     have HC : Hid (C = tail5) := hC.trans (by kernel_rfl)
     clear hC
     go_wp2_with (go_at_call 18; refine (HV.out _).mono ?_; rintro e w1 ⟨rfl, hw⟩; subst hw)
     all_goals (rw [HC.out]; refine HT.out _ ?_ _ _ _ _ IsT.mk HE.out; first | rfl))
theorem swNeg (S : Nat → Prop) (W w : World) (d x0 y gp cp : Nat) (f g : Nat → FT) (xs : List Value) (lv : Value) (two : Bool) {a : Act} (ha : IsA 6 lv (.slice (some ⟨gp, 0, none⟩) 1 cp) x0 y (anyN f 1) (allN f 1) two (g 0).kind a) (QQ : Ending → World → Prop) (h : Ref5 S W d 1 x0 y gp cp f g xs w)
    (hT : ∀ (ok : Bool), ok = ((decide (3 ≤ (g 0).kind) && decide ((g 0).kind ≤ 6)) || (g 0).kind == 11) → ∀ (w' : World) (ao : Option Addr) (ca : Nat) (a : Act), IsT x0 y ok a → Tl5 S W d x0 y (f 0).name (anyN f 1) (g 0) ao ca w' → tail5.wp Tryz.prog (bodyPost Tryz.prog Tryz.f5 QQ) a w') :
    rest5.wp Tryz.prog (bodyPost Tryz.prog Tryz.f5 QQ) a w := by
  cases ha
  have hrow := h.row
  obtain ⟨_, bo0, cb0, e0, ty0, rfl⟩ := hrow
  have e0' : _ = [] := e0
  subst e0'
  have hoc := own_cells h.own
  have hcpI : (1 : Int) ≤ (cp : Int) := by have := hoc.2.2; omega
  have ho := h.out
  obtain ⟨q0, q1, q2, q3, q4, q5, q6⟩ := cell7p ho
  obtain ⟨f0, f1, f2, f3, f4, f5, f6⟩ := frz7 ho
  have p1 : w.cell? ⟨gp, 1, none⟩ = some (.bool (f 0).nul) := hoc.1 1 _ rfl
  have p2 : w.cell? ⟨gp, 2, none⟩ = some (.int .i64 (g 0).kind) := hoc.1 2 _ rfl
  have p3 : w.cell? ⟨gp, 3, none⟩ = some (.int .i64 (g 0).width) := hoc.1 3 _ rfl
  have p4 : w.cell? ⟨gp, 4, none⟩ = some (.int .i64 (g 0).id) := hoc.1 4 _ rfl
  have p5 : w.cell? ⟨gp, 5, none⟩ = some (.int .i64 (g 0).index) := hoc.1 5 _ rfl
  have p6 : w.cell? ⟨gp, 6, none⟩ = some (.slice bo0 (g 0).kids.length cb0) := hoc.1 6 _ rfl
  obtain ⟨V, hV⟩ := ex (stA w y [(2, .int .i64 (g 0).kind), (3, .int .i64 (g 0).width), (4, .int .i64 (g 0).id), (5, .int .i64 (g 0).index), (6, .slice bo0 (g 0).kids.length cb0)])
  have ks : Keeps w V (fun z => z = y) := by rw [← hV]; exact stA_kp _ _ _
  have hfin : V.heap[y]? = some (.cells #[.string (f 0).name, .bool (anyN f 1), .int .i64 (g 0).kind, .int .i64 (g 0).width, .int .i64 (g 0).id, .int .i64 (g 0).index, .slice bo0 (g 0).kids.length cb0] 26) := by
    have h2 := stA_blk y 26 [(2, .int .i64 (g 0).kind), (3, .int .i64 (g 0).width), (4, .int .i64 (g 0).id), (5, .int .i64 (g 0).index), (6, .slice bo0 (g 0).kids.length cb0)] w _ ho
    rw [hV] at h2
    simpa [stC, boolT, int64T, FT.kind, FT.width, FT.id, FT.index, FT.kids] using h2
  have HE := hidM (h.tl (Keeps.refl _ _) ks hfin ty0)
  clear ks hfin
  simp only [stA] at hV
  have HT := hidM hT
  clear h ho hoc hT ty0
  all_goals
    (simp only [rest5, sq2, Tryz.f5, Option.getD, act5]
     refine cut1 (fun C hC => ?_)
     have HC : Hid (C = tail5) := hC.trans (by kernel_rfl)
     clear hC
     go_wp2_with fail
     all_goals (rw [HC.out]; refine HT.out _ ?_ _ _ _ _ IsT.mk HE.out; clear HT HE HC hV p1 p2 p3 p4 p5 p6 q0 q1 q2 q3 q4 q5 q6 f0 f1 f2 f3 f4 f5 f6 hcpI; first | rfl | (simp_all; done) | (simp_all; omega)))
variable {S : Nat → Prop} {w : World} {d b o lc : Nat} {f g : Nat → FT} {ao : Nat → Option Addr} {ca : Nat → Nat}
theorem pR (h : Cx S w d b o lc 2 f g ao ca) (er tt : Int) (p : List Nat) (hF : FaultIs (0, 0) (nodes (d + 3) [(fT (f 0).name (anyN f 2) (g 0))] [] false) er p tt) :
    Calls Tryz.prog 4 #[.int .i64 5, .slice (some ⟨b, o, none⟩) 2 lc] w (AtQ w (d + 3) (ansR (alkB d (g 0) (g 1) && ((decide (3 ≤ (g 0).kind) && decide ((g 0).kind ≤ 10)))) er (fT (f 0).name (anyN f 2) (g 0)))) := by
  have hc : CellsAt w b o (f 0) (ao 0) (ca 0) := by have := (h.hF 0 (by decide)).c; simpa using this
  have hN : argN 5 = 2 := by rfl
  refine prog 2 (by decide) S d b o lc 5 (f 0).name (anyN f 2) (alkB d (g 0) (g 1) && ((decide (3 ≤ (g 0).kind) && decide ((g 0).kind ≤ 10)))) (g 0) (Pl2 S w d g) w er tt p h.hT h.hS h.hd hF hN h.hlc hc.c0 h.none2 h.types2 (fun u tb k hP => ?_) (fun u k => ?_)
  · obtain ⟨bo0, cb0, bo1, cb1, a0, a1, t0, t1⟩ := hP
    refine Calls.mono (outR (g 0) bo0 cb0 tb _ u a0 (fun u' k' => areAlike27_2 (g 0) (g 1) bo0 bo1 cb0 cb1 tb 0 _ u' (a0.gr k') (a1.gr k') ((h.alike (i := 0) (j := 1) (by decide) (by decide) t0 t1).1.gr (k.tr k')))) ?_
    rintro e w' ⟨rfl, gw⟩
    exact ⟨bo0, cb0, rfl, gw, t0⟩
  exact null13_all _ (by decide) (by decide) (by decide) _ _ _ _ u (h.nulls2 u k)
theorem rR (h : Cx S w d b o lc 2 f g ao ca) (er tt : Int) (p : List Nat) (hF : FaultIs (0, 0) (nodes (d + 3) [(fT (f 0).name (anyN f 2) (g 0))] [] false) er p tt) :
    Calls Tryz.prog 5 #[.int .i64 5, .slice (some ⟨b, o, none⟩) 2 lc] w (AtQ w (d + 3) (ansR (alkB d (g 0) (g 1) && ((decide (3 ≤ (g 0).kind) && decide ((g 0).kind ≤ 10)))) er (fT (f 0).name (anyN f 2) (g 0)))) := by
  have hN : argR 5 = 2 := by rfl
  refine ref5_pre S d b o lc 2 5 f g ao ca (d + 3) _ w h.hS h.hb hN (by decide) (by decide) h.hlc h.hF h.hV (fun i hi => (h.may hi).2) (fun x0 y gp cp xs w' two a ha h5 h1 h2 => ?_)
  refine swR S w w' d x0 y gp cp f g xs _ two ha _ h5 (fun ok hok w'' bo cb a ha hTl => ?_)
  have e : ok = _ := hok.trans (leaf_and (d := d) (h.hG 0 (by decide)).1 (h.hG 1 (by decide)).1 (h2 (by decide)) (fun e => by simp at e; omega))
  subst e
  exact tail_any _ hTl h.hS hF ha
theorem bR (h : Cx S w d b o lc 2 f g ao ca) : ∃ (D : Nat) (r : Int × FT), (∀ W, Gr w W → Calls Tryz.prog 4 #[.int .i64 5, .slice (some ⟨b, o, none⟩) 2 lc] W (AtQ W D r)) ∧ (∀ W, Gr w W → Calls Tryz.prog 5 #[.int .i64 5, .slice (some ⟨b, o, none⟩) 2 lc] W (AtQ W D r)) := by
  obtain ⟨er, p, tt, hF⟩ := fault_is (0, 0) (nodes (d + 3) [(fT (f 0).name (anyN f 2) (g 0))] [] false)
  exact ⟨d + 3, _, fun W k => pR (h.gr k) er tt p hF, fun W k => rR (h.gr k) er tt p hF⟩
theorem pNeg (h : Cx S w d b o lc 1 f g ao ca) (er tt : Int) (p : List Nat) (hF : FaultIs (0, 0) (nodes (d + 3) [(fT (f 0).name (anyN f 1) (g 0))] [] false) er p tt) :
    Calls Tryz.prog 4 #[.int .i64 6, .slice (some ⟨b, o, none⟩) 1 lc] w (AtQ w (d + 3) (ansR ((decide (3 ≤ (g 0).kind) && decide ((g 0).kind ≤ 6)) || (g 0).kind == 11) er (fT (f 0).name (anyN f 1) (g 0)))) := by
  have hc : CellsAt w b o (f 0) (ao 0) (ca 0) := by have := (h.hF 0 (by decide)).c; simpa using this
  have hN : argN 6 = 1 := by rfl
  refine prog 1 (by decide) S d b o lc 6 (f 0).name (anyN f 1) ((decide (3 ≤ (g 0).kind) && decide ((g 0).kind ≤ 6)) || (g 0).kind == 11) (g 0) (Pl1 S w d g) w er tt p h.hT h.hS h.hd hF hN h.hlc hc.c0 h.none1 h.types1 (fun u tb k hP => ?_) (fun u k => ?_)
  · obtain ⟨bo0, cb0, a0, t0⟩ := hP
    refine Calls.mono (outNeg (g 0) bo0 cb0 tb u a0) ?_
    rintro e w' ⟨rfl, gw⟩
    exact ⟨bo0, cb0, rfl, gw, t0⟩
  exact null13_all _ (by decide) (by decide) (by decide) _ _ _ _ u (h.nulls1 u k)
theorem rNeg (h : Cx S w d b o lc 1 f g ao ca) (er tt : Int) (p : List Nat) (hF : FaultIs (0, 0) (nodes (d + 3) [(fT (f 0).name (anyN f 1) (g 0))] [] false) er p tt) :
    Calls Tryz.prog 5 #[.int .i64 6, .slice (some ⟨b, o, none⟩) 1 lc] w (AtQ w (d + 3) (ansR ((decide (3 ≤ (g 0).kind) && decide ((g 0).kind ≤ 6)) || (g 0).kind == 11) er (fT (f 0).name (anyN f 1) (g 0)))) := by
  have hN : argR 6 = 1 := by rfl
  refine ref5_pre S d b o lc 1 6 f g ao ca (d + 3) _ w h.hS h.hb hN (by decide) (by decide) h.hlc h.hF h.hV (fun i hi => (h.may hi).2) (fun x0 y gp cp xs w' two a ha h5 h1 h2 => ?_)
  refine swNeg S w w' d x0 y gp cp f g xs _ two ha _ h5 (fun ok hok w'' bo cb a ha hTl => ?_)
  have e : ok = _ := hok.trans (rfl)
  subst e
  exact tail_any _ hTl h.hS hF ha
theorem bNeg (h : Cx S w d b o lc 1 f g ao ca) : ∃ (D : Nat) (r : Int × FT), (∀ W, Gr w W → Calls Tryz.prog 4 #[.int .i64 6, .slice (some ⟨b, o, none⟩) 1 lc] W (AtQ W D r)) ∧ (∀ W, Gr w W → Calls Tryz.prog 5 #[.int .i64 6, .slice (some ⟨b, o, none⟩) 1 lc] W (AtQ W D r)) := by
  obtain ⟨er, p, tt, hF⟩ := fault_is (0, 0) (nodes (d + 3) [(fT (f 0).name (anyN f 1) (g 0))] [] false)
  exact ⟨d + 3, _, fun W k => pNeg (h.gr k) er tt p hF, fun W k => rNeg (h.gr k) er tt p hF⟩
theorem swE (op : Int) (hop : op = 7 ∨ op = 8 ∨ op = 9 ∨ op = 10 ∨ op = 11 ∨ op = 12) (S : Nat → Prop) (W w : World) (d x0 y gp cp : Nat) (f g : Nat → FT) (xs : List Value) (lv : Value) (two : Bool) {a : Act} (ha : IsA op lv (.slice (some ⟨gp, 0, none⟩) 2 cp) x0 y (anyN f 2) (allN f 2) two (g 0).kind a) (QQ : Ending → World → Prop) (h : Ref5 S W d 2 x0 y gp cp f g xs w) (r : Bool) (hA : ∀ bo0 cb0 bo1 cb1, TyI S W d (g 0) bo0 cb0 → TyI S W d (g 1) bo1 cb1 → Ans 19 #[.agg #[.int .i64 (g 0).kind, .int .i64 (g 0).width, .int .i64 (g 0).id, .int .i64 (g 0).index, .slice bo0 (g 0).kids.length cb0], .agg #[.int .i64 (g 1).kind, .int .i64 (g 1).width, .int .i64 (g 1).id, .int .i64 (g 1).index, .slice bo1 (g 1).kids.length cb1]] r W)
    (hT : ∀ (ok : Bool), ok = (r) → ∀ (w' : World) (ao : Option Addr) (ca : Nat) (a : Act), IsT x0 y ok a → Tl5 S W d x0 y (f 0).name (anyN f 2) boolT ao ca w' → tail5.wp Tryz.prog (bodyPost Tryz.prog Tryz.f5 QQ) a w') :
    rest5.wp Tryz.prog (bodyPost Tryz.prog Tryz.f5 QQ) a w := by
  cases ha
  have hrow := h.row
  obtain ⟨_, bo1, cb1, ⟨_, bo0, cb0, e0, ty0, rfl⟩, ty1, rfl⟩ := hrow
  have e0' : _ = [] := e0
  subst e0'
  have hoc := own_cells h.own
  have hcpI : (2 : Int) ≤ (cp : Int) := by have := hoc.2.2; omega
  have ho := h.out
  obtain ⟨q0, q1, q2, q3, q4, q5, q6⟩ := cell7p ho
  obtain ⟨f0, f1, f2, f3, f4, f5, f6⟩ := frz7 ho
  have p1 : w.cell? ⟨gp, 1, none⟩ = some (.bool (f 0).nul) := hoc.1 1 _ rfl
  have p2 : w.cell? ⟨gp, 2, none⟩ = some (.int .i64 (g 0).kind) := hoc.1 2 _ rfl
  have p3 : w.cell? ⟨gp, 3, none⟩ = some (.int .i64 (g 0).width) := hoc.1 3 _ rfl
  have p4 : w.cell? ⟨gp, 4, none⟩ = some (.int .i64 (g 0).id) := hoc.1 4 _ rfl
  have p5 : w.cell? ⟨gp, 5, none⟩ = some (.int .i64 (g 0).index) := hoc.1 5 _ rfl
  have p6 : w.cell? ⟨gp, 6, none⟩ = some (.slice bo0 (g 0).kids.length cb0) := hoc.1 6 _ rfl
  have p8 : w.cell? ⟨gp, 8, none⟩ = some (.bool (f 1).nul) := hoc.1 8 _ rfl
  have p9 : w.cell? ⟨gp, 9, none⟩ = some (.int .i64 (g 1).kind) := hoc.1 9 _ rfl
  have p10 : w.cell? ⟨gp, 10, none⟩ = some (.int .i64 (g 1).width) := hoc.1 10 _ rfl
  have p11 : w.cell? ⟨gp, 11, none⟩ = some (.int .i64 (g 1).id) := hoc.1 11 _ rfl
  have p12 : w.cell? ⟨gp, 12, none⟩ = some (.int .i64 (g 1).index) := hoc.1 12 _ rfl
  have p13 : w.cell? ⟨gp, 13, none⟩ = some (.slice bo1 (g 1).kids.length cb1) := hoc.1 13 _ rfl
  have HS : Hid (∀ u, Gr w u → u.cell? ⟨gp, 2, none⟩ = some (.int .i64 (g 0).kind) ∧ u.cell? ⟨gp, 3, none⟩ = some (.int .i64 (g 0).width) ∧ u.cell? ⟨gp, 4, none⟩ = some (.int .i64 (g 0).id) ∧ u.cell? ⟨gp, 5, none⟩ = some (.int .i64 (g 0).index) ∧ u.cell? ⟨gp, 6, none⟩ = some (.slice bo0 (g 0).kids.length cb0) ∧ u.cell? ⟨gp, 9, none⟩ = some (.int .i64 (g 1).kind) ∧ u.cell? ⟨gp, 10, none⟩ = some (.int .i64 (g 1).width) ∧ u.cell? ⟨gp, 11, none⟩ = some (.int .i64 (g 1).id) ∧ u.cell? ⟨gp, 12, none⟩ = some (.int .i64 (g 1).index) ∧ u.cell? ⟨gp, 13, none⟩ = some (.slice bo1 (g 1).kids.length cb1)) := fun u g => ⟨g.cell' p2 id, g.cell' p3 id, g.cell' p4 id, g.cell' p5 id, g.cell' p6 id, g.cell' p9 id, g.cell' p10 id, g.cell' p11 id, g.cell' p12 id, g.cell' p13 id⟩
  have HA : Hid (∀ u, Gr w u → Calls Tryz.prog 19 #[.agg #[.int .i64 (g 0).kind, .int .i64 (g 0).width, .int .i64 (g 0).id, .int .i64 (g 0).index, .slice bo0 (g 0).kids.length cb0], .agg #[.int .i64 (g 1).kind, .int .i64 (g 1).width, .int .i64 (g 1).id, .int .i64 (g 1).index, .slice bo1 (g 1).kids.length cb1]] u fun e w' => e = .returned (.bool r) ∧ Gr u w') := fun u gu => hA bo0 cb0 bo1 cb1 ty0 ty1 u (h.gr.tr gu)
  have HH := hidM h
  have HTY0 := hidM ty0
  have HTY1 := hidM ty1
  have HN : Hid (∀ u, Gr w u → u.cell? ⟨gp, 1, none⟩ = some (.bool (f 0).nul) ∧ u.cell? ⟨gp, 8, none⟩ = some (.bool (f 1).nul)) := fun u g => ⟨g.cell' p1 id, g.cell' p8 id⟩
  have HO : Hid (∀ u, Gr w u → u.heap[y]? = some (.cells #[.string (f 0).name, .bool (anyN f 2), .int .i64 2, .int .i64 0, .int .i64 0, .int .i64 0, .slice none 0 0] 26)) := fun u g => (g.block _ (lt_of_heap ho) id).trans ho
  have HT := hidM hT
  clear h ho hoc hT hA ty0 ty1 p1 p2 p3 p4 p5 p6 p8 p9 p10 p11 p12 p13 q0 q1 q2 q3 q4 q5 q6 f0 f1 f2 f3 f4 f5 f6
  rcases hop with rfl | rfl | rfl | rfl | rfl | rfl
  all_goals
    (simp only [rest5, sq2, Tryz.f5, Option.getD, act5]
     refine cut1 (fun C hC => ?_)
     have HC : Hid (C = tail5) := hC.trans (by kernel_rfl)
     clear hC
     go_wp2_with fail
     refine wp_region_held_drew (S := fun w' => w'.cell? ⟨gp, 2, none⟩ = some (.int .i64 (g 0).kind) ∧ w'.cell? ⟨gp, 3, none⟩ = some (.int .i64 (g 0).width) ∧ w'.cell? ⟨gp, 4, none⟩ = some (.int .i64 (g 0).id) ∧ w'.cell? ⟨gp, 5, none⟩ = some (.int .i64 (g 0).index) ∧ w'.cell? ⟨gp, 6, none⟩ = some (.slice bo0 (g 0).kids.length cb0) ∧ w'.cell? ⟨gp, 9, none⟩ = some (.int .i64 (g 1).kind) ∧ w'.cell? ⟨gp, 10, none⟩ = some (.int .i64 (g 1).width) ∧ w'.cell? ⟨gp, 11, none⟩ = some (.int .i64 (g 1).id) ∧ w'.cell? ⟨gp, 12, none⟩ = some (.int .i64 (g 1).index) ∧ w'.cell? ⟨gp, 13, none⟩ = some (.slice bo1 (g 1).kids.length cb1)) (by kernel_rfl) (HS.out w.drew gr_drew) (fun hHeld => ?_)
     refine tk 0 ?_
     refine tk 1 ?_
     refine tk 2 ?_
     refine tk 3 ?_
     refine tk 4 ?_
     refine tk 5 ?_
     refine tk 6 ?_
     refine tk 7 ?_
     refine rd1 8 fun Kc hK => ?_
     go_simp
     go_at_call 19
     refine Calls.mono (HA.out _ gr_drew) ?_
     rintro e' w1 ⟨rfl, g1⟩; have HG1 := hidM (Keeps.trans (gr_drew (w := w)) g1 (fun _ _ h => h)); clear g1
     go_wp2_with fail
     refine hK.out _ _ (HS.out _ HG1.out) (fun hHeld => ?_)
     clear hK Kc
     try simp only [Act.put, lA, lB, lC]
     refine tk 9 ?_
     refine wpAnyH_done (by kernel_rfl) ?_ _
     go_wp2_with fail
     rw [HC.out]
     exact HT.out r rfl _ none 0 _ IsT.mk (HH.out.tl (t := boolT) HG1.out (Keeps.refl _ _) (HO.out _ HG1.out) (ty_bool _ rfl)))
theorem swB (op : Int) (hop : op = 13 ∨ op = 14) (S : Nat → Prop) (W w : World) (d x0 y gp cp : Nat) (f g : Nat → FT) (xs : List Value) (lv : Value) (two : Bool) {a : Act} (ha : IsA op lv (.slice (some ⟨gp, 0, none⟩) 2 cp) x0 y (anyN f 2) (allN f 2) two (g 0).kind a) (QQ : Ending → World → Prop) (h : Ref5 S W d 2 x0 y gp cp f g xs w)
    (hT : ∀ (ok : Bool), ok = (two && (g 0).kind == 2) → ∀ (w' : World) (ao : Option Addr) (ca : Nat) (a : Act), IsT x0 y ok a → Tl5 S W d x0 y (f 0).name (anyN f 2) boolT ao ca w' → tail5.wp Tryz.prog (bodyPost Tryz.prog Tryz.f5 QQ) a w') :
    rest5.wp Tryz.prog (bodyPost Tryz.prog Tryz.f5 QQ) a w := by
  cases ha
  have hrow := h.row
  obtain ⟨_, bo1, cb1, ⟨_, bo0, cb0, e0, ty0, rfl⟩, ty1, rfl⟩ := hrow
  have e0' : _ = [] := e0
  subst e0'
  have hoc := own_cells h.own
  have hcpI : (2 : Int) ≤ (cp : Int) := by have := hoc.2.2; omega
  have ho := h.out
  obtain ⟨q0, q1, q2, q3, q4, q5, q6⟩ := cell7p ho
  obtain ⟨f0, f1, f2, f3, f4, f5, f6⟩ := frz7 ho
  have p1 : w.cell? ⟨gp, 1, none⟩ = some (.bool (f 0).nul) := hoc.1 1 _ rfl
  have p2 : w.cell? ⟨gp, 2, none⟩ = some (.int .i64 (g 0).kind) := hoc.1 2 _ rfl
  have p3 : w.cell? ⟨gp, 3, none⟩ = some (.int .i64 (g 0).width) := hoc.1 3 _ rfl
  have p4 : w.cell? ⟨gp, 4, none⟩ = some (.int .i64 (g 0).id) := hoc.1 4 _ rfl
  have p5 : w.cell? ⟨gp, 5, none⟩ = some (.int .i64 (g 0).index) := hoc.1 5 _ rfl
  have p6 : w.cell? ⟨gp, 6, none⟩ = some (.slice bo0 (g 0).kids.length cb0) := hoc.1 6 _ rfl
  have p8 : w.cell? ⟨gp, 8, none⟩ = some (.bool (f 1).nul) := hoc.1 8 _ rfl
  have p9 : w.cell? ⟨gp, 9, none⟩ = some (.int .i64 (g 1).kind) := hoc.1 9 _ rfl
  have p10 : w.cell? ⟨gp, 10, none⟩ = some (.int .i64 (g 1).width) := hoc.1 10 _ rfl
  have p11 : w.cell? ⟨gp, 11, none⟩ = some (.int .i64 (g 1).id) := hoc.1 11 _ rfl
  have p12 : w.cell? ⟨gp, 12, none⟩ = some (.int .i64 (g 1).index) := hoc.1 12 _ rfl
  have p13 : w.cell? ⟨gp, 13, none⟩ = some (.slice bo1 (g 1).kids.length cb1) := hoc.1 13 _ rfl
  have HE := hidM (h.tl (t := boolT) (ao := none) (ca := 0) (Keeps.refl _ _) (Keeps.refl _ _) ho (ty_bool _ rfl))
  have HT := hidM hT
  clear h ho hoc hT ty0 ty1
  rcases hop with rfl | rfl
  all_goals cases two
  all_goals
    (simp only [rest5, sq2, Tryz.f5, Option.getD, act5]
     refine cut1 (fun C hC => ?_)
     have HC : Hid (C = tail5) := hC.trans (by kernel_rfl)
     clear hC
     go_wp2_with fail
     all_goals (rw [HC.out]; refine HT.out _ ?_ _ _ _ _ IsT.mk HE.out; first | rfl))
theorem swN (S : Nat → Prop) (W w : World) (d x0 y gp cp : Nat) (f g : Nat → FT) (xs : List Value) (lv : Value) (two : Bool) {a : Act} (ha : IsA 15 lv (.slice (some ⟨gp, 0, none⟩) 1 cp) x0 y (anyN f 1) (allN f 1) two (g 0).kind a) (QQ : Ending → World → Prop) (h : Ref5 S W d 1 x0 y gp cp f g xs w)
    (hT : ∀ (ok : Bool), ok = ((g 0).kind == 2) → ∀ (w' : World) (ao : Option Addr) (ca : Nat) (a : Act), IsT x0 y ok a → Tl5 S W d x0 y (f 0).name (anyN f 1) boolT ao ca w' → tail5.wp Tryz.prog (bodyPost Tryz.prog Tryz.f5 QQ) a w') :
    rest5.wp Tryz.prog (bodyPost Tryz.prog Tryz.f5 QQ) a w := by
  cases ha
  have hrow := h.row
  obtain ⟨_, bo0, cb0, e0, ty0, rfl⟩ := hrow
  have e0' : _ = [] := e0
  subst e0'
  have hoc := own_cells h.own
  have hcpI : (1 : Int) ≤ (cp : Int) := by have := hoc.2.2; omega
  have ho := h.out
  obtain ⟨q0, q1, q2, q3, q4, q5, q6⟩ := cell7p ho
  obtain ⟨f0, f1, f2, f3, f4, f5, f6⟩ := frz7 ho
  have p1 : w.cell? ⟨gp, 1, none⟩ = some (.bool (f 0).nul) := hoc.1 1 _ rfl
  have p2 : w.cell? ⟨gp, 2, none⟩ = some (.int .i64 (g 0).kind) := hoc.1 2 _ rfl
  have p3 : w.cell? ⟨gp, 3, none⟩ = some (.int .i64 (g 0).width) := hoc.1 3 _ rfl
  have p4 : w.cell? ⟨gp, 4, none⟩ = some (.int .i64 (g 0).id) := hoc.1 4 _ rfl
  have p5 : w.cell? ⟨gp, 5, none⟩ = some (.int .i64 (g 0).index) := hoc.1 5 _ rfl
  have p6 : w.cell? ⟨gp, 6, none⟩ = some (.slice bo0 (g 0).kids.length cb0) := hoc.1 6 _ rfl
  have HE := hidM (h.tl (t := boolT) (ao := none) (ca := 0) (Keeps.refl _ _) (Keeps.refl _ _) ho (ty_bool _ rfl))
  have HT := hidM hT
  clear h ho hoc hT ty0
  all_goals
    (simp only [rest5, sq2, Tryz.f5, Option.getD, act5]
     refine cut1 (fun C hC => ?_)
     have HC : Hid (C = tail5) := hC.trans (by kernel_rfl)
     clear hC
     go_wp2_with fail
     all_goals (rw [HC.out]; refine HT.out _ ?_ _ _ _ _ IsT.mk HE.out; first | rfl))
theorem swNull (S : Nat → Prop) (W w : World) (d x0 y gp cp : Nat) (f g : Nat → FT) (xs : List Value) (lv : Value) (two : Bool) {a : Act} (ha : IsA 16 lv (.slice (some ⟨gp, 0, none⟩) 1 cp) x0 y (anyN f 1) (allN f 1) two (g 0).kind a) (QQ : Ending → World → Prop) (h : Ref5 S W d 1 x0 y gp cp f g xs w)
    (hT : ∀ (ok : Bool), ok = (true) → ∀ (w' : World) (ao : Option Addr) (ca : Nat) (a : Act), IsT x0 y ok a → Tl5 S W d x0 y (f 0).name false boolT ao ca w' → tail5.wp Tryz.prog (bodyPost Tryz.prog Tryz.f5 QQ) a w') :
    rest5.wp Tryz.prog (bodyPost Tryz.prog Tryz.f5 QQ) a w := by
  cases ha
  have hrow := h.row
  obtain ⟨_, bo0, cb0, e0, ty0, rfl⟩ := hrow
  have e0' : _ = [] := e0
  subst e0'
  have hoc := own_cells h.own
  have hcpI : (1 : Int) ≤ (cp : Int) := by have := hoc.2.2; omega
  have ho := h.out
  obtain ⟨q0, q1, q2, q3, q4, q5, q6⟩ := cell7p ho
  obtain ⟨f0, f1, f2, f3, f4, f5, f6⟩ := frz7 ho
  have p1 : w.cell? ⟨gp, 1, none⟩ = some (.bool (f 0).nul) := hoc.1 1 _ rfl
  have p2 : w.cell? ⟨gp, 2, none⟩ = some (.int .i64 (g 0).kind) := hoc.1 2 _ rfl
  have p3 : w.cell? ⟨gp, 3, none⟩ = some (.int .i64 (g 0).width) := hoc.1 3 _ rfl
  have p4 : w.cell? ⟨gp, 4, none⟩ = some (.int .i64 (g 0).id) := hoc.1 4 _ rfl
  have p5 : w.cell? ⟨gp, 5, none⟩ = some (.int .i64 (g 0).index) := hoc.1 5 _ rfl
  have p6 : w.cell? ⟨gp, 6, none⟩ = some (.slice bo0 (g 0).kids.length cb0) := hoc.1 6 _ rfl
  obtain ⟨V, hV⟩ := ex (stA w y [(1, .bool false)])
  have ks : Keeps w V (fun z => z = y) := by rw [← hV]; exact stA_kp _ _ _
  have hfin : V.heap[y]? = some (.cells #[.string (f 0).name, .bool false, .int .i64 boolT.kind, .int .i64 boolT.width, .int .i64 boolT.id, .int .i64 boolT.index, .slice none boolT.kids.length 0] 26) := by
    have h2 := stA_blk y 26 [(1, .bool false)] w _ ho
    rw [hV] at h2
    simpa [stC, boolT, int64T, FT.kind, FT.width, FT.id, FT.index, FT.kids] using h2
  have HE := hidM (h.tl (Keeps.refl _ _) ks hfin (ty_bool _ rfl))
  clear ks hfin
  simp only [stA] at hV
  have HT := hidM hT
  clear h ho hoc hT ty0
  all_goals
    (simp only [rest5, sq2, Tryz.f5, Option.getD, act5]
     refine cut1 (fun C hC => ?_)
     have HC : Hid (C = tail5) := hC.trans (by kernel_rfl)
     clear hC
     go_wp2_with fail
     all_goals (rw [HC.out]; refine HT.out _ ?_ _ _ _ _ IsT.mk HE.out; first | rfl))
variable {S : Nat → Prop} {w : World} {d b o lc : Nat} {f g : Nat → FT} {ao : Nat → Option Addr} {ca : Nat → Nat}
theorem pE (op : Int) (hop : op = 7 ∨ op = 8 ∨ op = 9 ∨ op = 10 ∨ op = 11 ∨ op = 12) (h : Cx S w d b o lc 2 f g ao ca) (er tt : Int) (p : List Nat) (hF : FaultIs (0, 0) (nodes (d + 3) [(fT (f 0).name (anyN f 2) boolT)] [] false) er p tt) :
    Calls Tryz.prog 4 #[.int .i64 op, .slice (some ⟨b, o, none⟩) 2 lc] w (AtQ w (d + 3) (ansR (alkB d (g 0) (g 1)) er (fT (f 0).name (anyN f 2) boolT))) := by
  have hc : CellsAt w b o (f 0) (ao 0) (ca 0) := by have := (h.hF 0 (by decide)).c; simpa using this
  have hN : argN op = 2 := by rcases hop with rfl | rfl | rfl | rfl | rfl | rfl <;> rfl
  refine prog 2 (by decide) S d b o lc op (f 0).name (anyN f 2) (alkB d (g 0) (g 1)) boolT (Pl2 S w d g) w er tt p h.hT h.hS h.hd hF hN h.hlc hc.c0 h.none2 h.types2 (fun u tb k hP => ?_) (fun u k => ?_)
  · obtain ⟨bo0, cb0, bo1, cb1, a0, a1, t0, t1⟩ := hP
    refine Calls.mono (outE op hop (g 0) bo0 cb0 tb _ u a0 (fun u' k' => areAlike27_2 (g 0) (g 1) bo0 bo1 cb0 cb1 tb 0 _ u' (a0.gr k') (a1.gr k') ((h.alike (i := 0) (j := 1) (by decide) (by decide) t0 t1).1.gr (k.tr k')))) ?_
    rintro e w' ⟨rfl, gw⟩
    exact ⟨none, 0, rfl, gw, ty_bool _ rfl⟩
  have e16 : (op == 16) = false := by rcases hop with rfl | rfl | rfl | rfl | rfl | rfl <;> rfl
  have e17 : (op == 17) = false := by rcases hop with rfl | rfl | rfl | rfl | rfl | rfl <;> rfl
  have e18 : (op == 18) = false := by rcases hop with rfl | rfl | rfl | rfl | rfl | rfl <;> rfl
  exact null13_all _ e16 e17 e18 _ _ _ _ u (h.nulls2 u k)
theorem rE (op : Int) (hop : op = 7 ∨ op = 8 ∨ op = 9 ∨ op = 10 ∨ op = 11 ∨ op = 12) (h : Cx S w d b o lc 2 f g ao ca) (er tt : Int) (p : List Nat) (hF : FaultIs (0, 0) (nodes (d + 3) [(fT (f 0).name (anyN f 2) boolT)] [] false) er p tt) :
    Calls Tryz.prog 5 #[.int .i64 op, .slice (some ⟨b, o, none⟩) 2 lc] w (AtQ w (d + 3) (ansR (alkB d (g 0) (g 1)) er (fT (f 0).name (anyN f 2) boolT))) := by
  have hN : argR op = 2 := by rcases hop with rfl | rfl | rfl | rfl | rfl | rfl <;> rfl
  refine ref5_pre S d b o lc 2 op f g ao ca (d + 3) _ w h.hS h.hb hN (by decide) (by decide) h.hlc h.hF h.hV (fun i hi => (h.may hi).2) (fun x0 y gp cp xs w' two a ha h5 h1 h2 => ?_)
  refine swE op hop S w w' d x0 y gp cp f g xs _ two ha _ h5 _ (fun bo0 cb0 bo1 cb1 t0 t1 => (h.alike (i := 0) (j := 1) (by decide) (by decide) t0 t1).2) (fun ok hok w'' bo cb a ha hTl => ?_)
  have e : ok = _ := hok.trans (rfl)
  subst e
  exact tail_any _ hTl h.hS hF ha
theorem bE (op : Int) (hop : op = 7 ∨ op = 8 ∨ op = 9 ∨ op = 10 ∨ op = 11 ∨ op = 12) (h : Cx S w d b o lc 2 f g ao ca) : ∃ (D : Nat) (r : Int × FT), (∀ W, Gr w W → Calls Tryz.prog 4 #[.int .i64 op, .slice (some ⟨b, o, none⟩) 2 lc] W (AtQ W D r)) ∧ (∀ W, Gr w W → Calls Tryz.prog 5 #[.int .i64 op, .slice (some ⟨b, o, none⟩) 2 lc] W (AtQ W D r)) := by
  obtain ⟨er, p, tt, hF⟩ := fault_is (0, 0) (nodes (d + 3) [(fT (f 0).name (anyN f 2) boolT)] [] false)
  exact ⟨d + 3, _, fun W k => pE op hop (h.gr k) er tt p hF, fun W k => rE op hop (h.gr k) er tt p hF⟩
theorem pB (op : Int) (hop : op = 13 ∨ op = 14) (h : Cx S w d b o lc 2 f g ao ca) (er tt : Int) (p : List Nat) (hF : FaultIs (0, 0) (nodes (d + 3) [(fT (f 0).name (anyN f 2) boolT)] [] false) er p tt) :
    Calls Tryz.prog 4 #[.int .i64 op, .slice (some ⟨b, o, none⟩) 2 lc] w (AtQ w (d + 3) (ansR (alkB d (g 0) (g 1) && ((g 0).kind == 2)) er (fT (f 0).name (anyN f 2) boolT))) := by
  have hc : CellsAt w b o (f 0) (ao 0) (ca 0) := by have := (h.hF 0 (by decide)).c; simpa using this
  have hN : argN op = 2 := by rcases hop with rfl | rfl <;> rfl
  refine prog 2 (by decide) S d b o lc op (f 0).name (anyN f 2) (alkB d (g 0) (g 1) && ((g 0).kind == 2)) boolT (Pl2 S w d g) w er tt p h.hT h.hS h.hd hF hN h.hlc hc.c0 h.none2 h.types2 (fun u tb k hP => ?_) (fun u k => ?_)
  · obtain ⟨bo0, cb0, bo1, cb1, a0, a1, t0, t1⟩ := hP
    refine Calls.mono (outB op hop (g 0) bo0 cb0 tb _ u a0 (fun u' k' => areAlike27_2 (g 0) (g 1) bo0 bo1 cb0 cb1 tb 0 _ u' (a0.gr k') (a1.gr k') ((h.alike (i := 0) (j := 1) (by decide) (by decide) t0 t1).1.gr (k.tr k')))) ?_
    rintro e w' ⟨rfl, gw⟩
    exact ⟨none, 0, rfl, gw, ty_bool _ rfl⟩
  have e16 : (op == 16) = false := by rcases hop with rfl | rfl <;> rfl
  have e17 : (op == 17) = false := by rcases hop with rfl | rfl <;> rfl
  have e18 : (op == 18) = false := by rcases hop with rfl | rfl <;> rfl
  exact null13_all _ e16 e17 e18 _ _ _ _ u (h.nulls2 u k)
theorem rB (op : Int) (hop : op = 13 ∨ op = 14) (h : Cx S w d b o lc 2 f g ao ca) (er tt : Int) (p : List Nat) (hF : FaultIs (0, 0) (nodes (d + 3) [(fT (f 0).name (anyN f 2) boolT)] [] false) er p tt) :
    Calls Tryz.prog 5 #[.int .i64 op, .slice (some ⟨b, o, none⟩) 2 lc] w (AtQ w (d + 3) (ansR (alkB d (g 0) (g 1) && ((g 0).kind == 2)) er (fT (f 0).name (anyN f 2) boolT))) := by
  have hN : argR op = 2 := by rcases hop with rfl | rfl <;> rfl
  refine ref5_pre S d b o lc 2 op f g ao ca (d + 3) _ w h.hS h.hb hN (by decide) (by decide) h.hlc h.hF h.hV (fun i hi => (h.may hi).2) (fun x0 y gp cp xs w' two a ha h5 h1 h2 => ?_)
  refine swB op hop S w w' d x0 y gp cp f g xs _ two ha _ h5 (fun ok hok w'' bo cb a ha hTl => ?_)
  have e : ok = _ := hok.trans (leaf_and (d := d) (h.hG 0 (by decide)).1 (h.hG 1 (by decide)).1 (h2 (by decide)) (fun e => by simp at e; omega))
  subst e
  exact tail_any _ hTl h.hS hF ha
theorem bB (op : Int) (hop : op = 13 ∨ op = 14) (h : Cx S w d b o lc 2 f g ao ca) : ∃ (D : Nat) (r : Int × FT), (∀ W, Gr w W → Calls Tryz.prog 4 #[.int .i64 op, .slice (some ⟨b, o, none⟩) 2 lc] W (AtQ W D r)) ∧ (∀ W, Gr w W → Calls Tryz.prog 5 #[.int .i64 op, .slice (some ⟨b, o, none⟩) 2 lc] W (AtQ W D r)) := by
  obtain ⟨er, p, tt, hF⟩ := fault_is (0, 0) (nodes (d + 3) [(fT (f 0).name (anyN f 2) boolT)] [] false)
  exact ⟨d + 3, _, fun W k => pB op hop (h.gr k) er tt p hF, fun W k => rB op hop (h.gr k) er tt p hF⟩
theorem pN (h : Cx S w d b o lc 1 f g ao ca) (er tt : Int) (p : List Nat) (hF : FaultIs (0, 0) (nodes (d + 3) [(fT (f 0).name (anyN f 1) boolT)] [] false) er p tt) :
    Calls Tryz.prog 4 #[.int .i64 15, .slice (some ⟨b, o, none⟩) 1 lc] w (AtQ w (d + 3) (ansR ((g 0).kind == 2) er (fT (f 0).name (anyN f 1) boolT))) := by
  have hc : CellsAt w b o (f 0) (ao 0) (ca 0) := by have := (h.hF 0 (by decide)).c; simpa using this
  have hN : argN 15 = 1 := by rfl
  refine prog 1 (by decide) S d b o lc 15 (f 0).name (anyN f 1) ((g 0).kind == 2) boolT (Pl1 S w d g) w er tt p h.hT h.hS h.hd hF hN h.hlc hc.c0 h.none1 h.types1 (fun u tb k hP => ?_) (fun u k => ?_)
  · obtain ⟨bo0, cb0, a0, t0⟩ := hP
    refine Calls.mono (outN (g 0) bo0 cb0 tb u a0 (fun u' k' => areAlike27_1 tb 0 u')) ?_
    rintro e w' ⟨rfl, gw⟩
    exact ⟨none, 0, rfl, gw, ty_bool _ rfl⟩
  exact null13_all _ (by decide) (by decide) (by decide) _ _ _ _ u (h.nulls1 u k)
theorem rN (h : Cx S w d b o lc 1 f g ao ca) (er tt : Int) (p : List Nat) (hF : FaultIs (0, 0) (nodes (d + 3) [(fT (f 0).name (anyN f 1) boolT)] [] false) er p tt) :
    Calls Tryz.prog 5 #[.int .i64 15, .slice (some ⟨b, o, none⟩) 1 lc] w (AtQ w (d + 3) (ansR ((g 0).kind == 2) er (fT (f 0).name (anyN f 1) boolT))) := by
  have hN : argR 15 = 1 := by rfl
  refine ref5_pre S d b o lc 1 15 f g ao ca (d + 3) _ w h.hS h.hb hN (by decide) (by decide) h.hlc h.hF h.hV (fun i hi => (h.may hi).2) (fun x0 y gp cp xs w' two a ha h5 h1 h2 => ?_)
  refine swN S w w' d x0 y gp cp f g xs _ two ha _ h5 (fun ok hok w'' bo cb a ha hTl => ?_)
  have e : ok = _ := hok.trans (rfl)
  subst e
  exact tail_any _ hTl h.hS hF ha
theorem bN (h : Cx S w d b o lc 1 f g ao ca) : ∃ (D : Nat) (r : Int × FT), (∀ W, Gr w W → Calls Tryz.prog 4 #[.int .i64 15, .slice (some ⟨b, o, none⟩) 1 lc] W (AtQ W D r)) ∧ (∀ W, Gr w W → Calls Tryz.prog 5 #[.int .i64 15, .slice (some ⟨b, o, none⟩) 1 lc] W (AtQ W D r)) := by
  obtain ⟨er, p, tt, hF⟩ := fault_is (0, 0) (nodes (d + 3) [(fT (f 0).name (anyN f 1) boolT)] [] false)
  exact ⟨d + 3, _, fun W k => pN (h.gr k) er tt p hF, fun W k => rN (h.gr k) er tt p hF⟩
theorem pNull (h : Cx S w d b o lc 1 f g ao ca) (er tt : Int) (p : List Nat) (hF : FaultIs (0, 0) (nodes (d + 3) [(fT (f 0).name false boolT)] [] false) er p tt) :
    Calls Tryz.prog 4 #[.int .i64 16, .slice (some ⟨b, o, none⟩) 1 lc] w (AtQ w (d + 3) (ansR (true) er (fT (f 0).name false boolT))) := by
  have hc : CellsAt w b o (f 0) (ao 0) (ca 0) := by have := (h.hF 0 (by decide)).c; simpa using this
  have hN : argN 16 = 1 := by rfl
  refine prog 1 (by decide) S d b o lc 16 (f 0).name (false) (true) boolT (Pl1 S w d g) w er tt p h.hT h.hS h.hd hF hN h.hlc hc.c0 h.none1 h.types1 (fun u tb k hP => ?_) (fun u k => ?_)
  · obtain ⟨bo0, cb0, a0, t0⟩ := hP
    refine Calls.mono (outNull (g 0) bo0 cb0 tb u a0) ?_
    rintro e w' ⟨rfl, gw⟩
    exact ⟨none, 0, rfl, gw, ty_bool _ rfl⟩
  exact null13_16 _ _ _ u
theorem rNull (h : Cx S w d b o lc 1 f g ao ca) (er tt : Int) (p : List Nat) (hF : FaultIs (0, 0) (nodes (d + 3) [(fT (f 0).name false boolT)] [] false) er p tt) :
    Calls Tryz.prog 5 #[.int .i64 16, .slice (some ⟨b, o, none⟩) 1 lc] w (AtQ w (d + 3) (ansR (true) er (fT (f 0).name false boolT))) := by
  have hN : argR 16 = 1 := by rfl
  refine ref5_pre S d b o lc 1 16 f g ao ca (d + 3) _ w h.hS h.hb hN (by decide) (by decide) h.hlc h.hF h.hV (fun i hi => (h.may hi).2) (fun x0 y gp cp xs w' two a ha h5 h1 h2 => ?_)
  refine swNull S w w' d x0 y gp cp f g xs _ two ha _ h5 (fun ok hok w'' bo cb a ha hTl => ?_)
  have e : ok = _ := hok.trans (rfl)
  subst e
  exact tail_any _ hTl h.hS hF ha
theorem bNull (h : Cx S w d b o lc 1 f g ao ca) : ∃ (D : Nat) (r : Int × FT), (∀ W, Gr w W → Calls Tryz.prog 4 #[.int .i64 16, .slice (some ⟨b, o, none⟩) 1 lc] W (AtQ W D r)) ∧ (∀ W, Gr w W → Calls Tryz.prog 5 #[.int .i64 16, .slice (some ⟨b, o, none⟩) 1 lc] W (AtQ W D r)) := by
  obtain ⟨er, p, tt, hF⟩ := fault_is (0, 0) (nodes (d + 3) [(fT (f 0).name false boolT)] [] false)
  exact ⟨d + 3, _, fun W k => pNull (h.gr k) er tt p hF, fun W k => rNull (h.gr k) er tt p hF⟩
end Go.Proofs.YtknnoiomdngmfaaGreatDoor.Kit
