import Derived.Test.YtcfdkadhclickaaDoorXP
import Derived.Deep.RegionHeld3
namespace Go.Proofs.YtcfdkadhclickaaDoor.Kit
open Go.RowKit Go.Shelf Go.Deep
set_option linter.unusedVariables false
attribute [local go_sem] run_store_func

set_option maxRecDepth 100000 in
set_option maxHeartbeats 2000000 in
theorem doc19 (f0 : ByteArray) (f1 : Bool) (f3 f4 f5 : Int) (n ca kb ko : Nat) (k0 : ByteArray) (k1 : Bool) (k2 k3 k4 k5 : Int) (kp : Option Addr) (kn kc : Nat) (v1 : Int) (v2 : ByteArray) (vo : Option Addr) (m vc : Nat) (w : World) (x : Bool) (hn : 0 < n) (g0 : w.cell? ⟨kb, ko, none⟩ = some (.string k0)) (g1 : w.cell? ⟨kb, ko + 1, none⟩ = some (.bool k1)) (g2 : w.cell? ⟨kb, ko + 2, none⟩ = some (.int .i64 k2)) (g3 : w.cell? ⟨kb, ko + 3, none⟩ = some (.int .i64 k3)) (g4 : w.cell? ⟨kb, ko + 4, none⟩ = some (.int .i64 k4)) (g5 : w.cell? ⟨kb, ko + 5, none⟩ = some (.int .i64 k5)) (g6 : w.cell? ⟨kb, ko + 6, none⟩ = some (.slice kp kn kc)) (hF : Ans 49 #[.agg #[.string k0, .bool k1, .int .i64 k2, .int .i64 k3, .int .i64 k4, .int .i64 k5, .slice kp kn kc], .agg #[.bool false, .int .i64 v1, .string v2, .slice vo m vc]] x w) :
    Ans 49 #[.agg #[.string f0, .bool f1, .int .i64 19, .int .i64 f3, .int .i64 f4, .int .i64 f5, .slice (some ⟨kb, ko, none⟩) n ca], .agg #[.bool false, .int .i64 v1, .string v2, .slice vo m vc]] x w := by
  intro W g
  have HK : Hid (∀ W', Calls Tryd.prog 73 #[.int .i64 19] W' fun e w' => e = .returned (.bool false) ∧ W' = w') := fun W' => number73 19 (by decide) W'
  obtain ⟨V, hV⟩ : ∃ V, ((W.alloc (.cells #[.string f0, .bool f1, .int .i64 19, .int .i64 f3, .int .i64 f4, .int .i64 f5, .slice (some ⟨kb, ko, none⟩) n ca] 26)).alloc (.cells #[.bool false, .int .i64 v1, .string v2, .slice vo m vc] 29)).alloc (.cells #[.int .i64 19, .int .i64 f3, .int .i64 f4, .int .i64 f5, .slice (some ⟨kb, ko, none⟩) n ca] 24) = V := ⟨_, rfl⟩
  have hA := alloc3 W (.cells #[.string f0, .bool f1, .int .i64 19, .int .i64 f3, .int .i64 f4, .int .i64 f5, .slice (some ⟨kb, ko, none⟩) n ca] 26) (.cells #[.bool false, .int .i64 v1, .string v2, .slice vo m vc] 29) (.cells #[.int .i64 19, .int .i64 f3, .int .i64 f4, .int .i64 f5, .slice (some ⟨kb, ko, none⟩) n ca] 24)
  have b4 : B4 V (W.heap.size + 1) false v1 v2 vo m vc := by rw [← hV]; exact hA.2.1
  have b5 : B5 V (W.heap.size + 1 + 1) 19 f3 f4 f5 (some ⟨kb, ko, none⟩) n ca := by rw [← hV]; exact hA.2.2.1
  have gr : Gr W V := by rw [← hV]; exact ((gr_alloc W _).alloc _).alloc _
  obtain ⟨p0, p1, p2, p3⟩ := B4.cells b4
  obtain ⟨q0, q1, q2, q3, q4⟩ := B5.cells b5
  have gg : Gr w V := g.trans gr (fun _ _ h => h)
  have hn' : (0 : Int) < (n : Int) := by omega
  have HF := hidM hF
  have HG := hidM gr
  have HGd : Hid (Gr w V.drew) := gg.drew
  have HC : Hid (V.drew.cell? ⟨W.heap.size + 1 + 1, 4, none⟩ = some (.slice (some ⟨kb, ko, none⟩) n ca) ∧ V.drew.cell? ⟨W.heap.size + 1, 0, none⟩ = some (.bool false) ∧ V.drew.cell? ⟨W.heap.size + 1, 1, none⟩ = some (.int .i64 v1) ∧ V.drew.cell? ⟨W.heap.size + 1, 2, none⟩ = some (.string v2) ∧ V.drew.cell? ⟨W.heap.size + 1, 3, none⟩ = some (.slice vo m vc) ∧ V.drew.cell? ⟨kb, ko, none⟩ = some (.string k0) ∧ V.drew.cell? ⟨kb, ko + 1, none⟩ = some (.bool k1) ∧ V.drew.cell? ⟨kb, ko + 2, none⟩ = some (.int .i64 k2) ∧ V.drew.cell? ⟨kb, ko + 3, none⟩ = some (.int .i64 k3) ∧ V.drew.cell? ⟨kb, ko + 4, none⟩ = some (.int .i64 k4) ∧ V.drew.cell? ⟨kb, ko + 5, none⟩ = some (.int .i64 k5) ∧ V.drew.cell? ⟨kb, ko + 6, none⟩ = some (.slice kp kn kc)) := ⟨q4, p0, p1, p2, p3, gr_c gg g0, gr_c gg g1, gr_c gg g2, gr_c gg g3, gr_c gg g4, gr_c gg g5, gr_c gg g6⟩
  clear b4 b5 gr g hF gg hA
  go_enter Tryd.func49, Tryd.ntmps49
  go_wp2_with (go_at_call 73; refine (HK.out _).mono ?_; rintro e w' ⟨rfl, rfl⟩)
  clear hV p0 p1 p2 p3 q0 q1 q2 q3 q4
  go_region_held3 (fun w' => w'.cell? ⟨W.heap.size + 1 + 1, 4, none⟩ = some (.slice (some ⟨kb, ko, none⟩) n ca) ∧ w'.cell? ⟨W.heap.size + 1, 0, none⟩ = some (.bool false) ∧ w'.cell? ⟨W.heap.size + 1, 1, none⟩ = some (.int .i64 v1) ∧ w'.cell? ⟨W.heap.size + 1, 2, none⟩ = some (.string v2) ∧ w'.cell? ⟨W.heap.size + 1, 3, none⟩ = some (.slice vo m vc) ∧ w'.cell? ⟨kb, ko, none⟩ = some (.string k0) ∧ w'.cell? ⟨kb, ko + 1, none⟩ = some (.bool k1) ∧ w'.cell? ⟨kb, ko + 2, none⟩ = some (.int .i64 k2) ∧ w'.cell? ⟨kb, ko + 3, none⟩ = some (.int .i64 k3) ∧ w'.cell? ⟨kb, ko + 4, none⟩ = some (.int .i64 k4) ∧ w'.cell? ⟨kb, ko + 5, none⟩ = some (.int .i64 k5) ∧ w'.cell? ⟨kb, ko + 6, none⟩ = some (.slice kp kn kc)) (first | with_reducible exact HC.out | with_reducible exact ⟨gr_c HE.out (HC.out.1), gr_c HE.out (HC.out.2.1), gr_c HE.out (HC.out.2.2.1), gr_c HE.out (HC.out.2.2.2.1), gr_c HE.out (HC.out.2.2.2.2.1), gr_c HE.out (HC.out.2.2.2.2.2.1), gr_c HE.out (HC.out.2.2.2.2.2.2.1), gr_c HE.out (HC.out.2.2.2.2.2.2.2.1), gr_c HE.out (HC.out.2.2.2.2.2.2.2.2.1), gr_c HE.out (HC.out.2.2.2.2.2.2.2.2.2.1), gr_c HE.out (HC.out.2.2.2.2.2.2.2.2.2.2.1), gr_c HE.out (HC.out.2.2.2.2.2.2.2.2.2.2.2)⟩) ((go_at_call 49; refine Calls.mono (HF.out _ HGd.out) ?_; rintro e w2 ⟨rfl, hg2⟩; have HE := hidM hg2; clear hg2))
  all_goals
    go_wp2_with fail
    go_ret
    exact ⟨rfl, HG.out.drew.trans HE.out (fun _ _ h => h)⟩
set_option maxRecDepth 100000 in
set_option maxHeartbeats 2000000 in
theorem doc20 (f0 : ByteArray) (f1 : Bool) (f3 f4 f5 : Int) (n ca kb ko : Nat) (k0 : ByteArray) (k1 : Bool) (k2 k3 k4 k5 : Int) (kp : Option Addr) (kn kc : Nat) (v1 : Int) (v2 : ByteArray) (vo : Option Addr) (m vc : Nat) (w : World) (x : Bool) (hn : 0 < n) (g0 : w.cell? ⟨kb, ko, none⟩ = some (.string k0)) (g1 : w.cell? ⟨kb, ko + 1, none⟩ = some (.bool k1)) (g2 : w.cell? ⟨kb, ko + 2, none⟩ = some (.int .i64 k2)) (g3 : w.cell? ⟨kb, ko + 3, none⟩ = some (.int .i64 k3)) (g4 : w.cell? ⟨kb, ko + 4, none⟩ = some (.int .i64 k4)) (g5 : w.cell? ⟨kb, ko + 5, none⟩ = some (.int .i64 k5)) (g6 : w.cell? ⟨kb, ko + 6, none⟩ = some (.slice kp kn kc)) (hF : Ans 49 #[.agg #[.string k0, .bool k1, .int .i64 k2, .int .i64 k3, .int .i64 k4, .int .i64 k5, .slice kp kn kc], .agg #[.bool false, .int .i64 v1, .string v2, .slice vo m vc]] x w) :
    Ans 49 #[.agg #[.string f0, .bool f1, .int .i64 20, .int .i64 f3, .int .i64 f4, .int .i64 f5, .slice (some ⟨kb, ko, none⟩) n ca], .agg #[.bool false, .int .i64 v1, .string v2, .slice vo m vc]] x w := by
  intro W g
  have HK : Hid (∀ W', Calls Tryd.prog 73 #[.int .i64 20] W' fun e w' => e = .returned (.bool false) ∧ W' = w') := fun W' => number73 20 (by decide) W'
  obtain ⟨V, hV⟩ : ∃ V, ((W.alloc (.cells #[.string f0, .bool f1, .int .i64 20, .int .i64 f3, .int .i64 f4, .int .i64 f5, .slice (some ⟨kb, ko, none⟩) n ca] 26)).alloc (.cells #[.bool false, .int .i64 v1, .string v2, .slice vo m vc] 29)).alloc (.cells #[.int .i64 20, .int .i64 f3, .int .i64 f4, .int .i64 f5, .slice (some ⟨kb, ko, none⟩) n ca] 24) = V := ⟨_, rfl⟩
  have hA := alloc3 W (.cells #[.string f0, .bool f1, .int .i64 20, .int .i64 f3, .int .i64 f4, .int .i64 f5, .slice (some ⟨kb, ko, none⟩) n ca] 26) (.cells #[.bool false, .int .i64 v1, .string v2, .slice vo m vc] 29) (.cells #[.int .i64 20, .int .i64 f3, .int .i64 f4, .int .i64 f5, .slice (some ⟨kb, ko, none⟩) n ca] 24)
  have b4 : B4 V (W.heap.size + 1) false v1 v2 vo m vc := by rw [← hV]; exact hA.2.1
  have b5 : B5 V (W.heap.size + 1 + 1) 20 f3 f4 f5 (some ⟨kb, ko, none⟩) n ca := by rw [← hV]; exact hA.2.2.1
  have gr : Gr W V := by rw [← hV]; exact ((gr_alloc W _).alloc _).alloc _
  obtain ⟨p0, p1, p2, p3⟩ := B4.cells b4
  obtain ⟨q0, q1, q2, q3, q4⟩ := B5.cells b5
  have gg : Gr w V := g.trans gr (fun _ _ h => h)
  have hn' : (0 : Int) < (n : Int) := by omega
  have HF := hidM hF
  have HG := hidM gr
  have HGd : Hid (Gr w V.drew) := gg.drew
  have HC : Hid (V.drew.cell? ⟨W.heap.size + 1 + 1, 4, none⟩ = some (.slice (some ⟨kb, ko, none⟩) n ca) ∧ V.drew.cell? ⟨W.heap.size + 1, 0, none⟩ = some (.bool false) ∧ V.drew.cell? ⟨W.heap.size + 1, 1, none⟩ = some (.int .i64 v1) ∧ V.drew.cell? ⟨W.heap.size + 1, 2, none⟩ = some (.string v2) ∧ V.drew.cell? ⟨W.heap.size + 1, 3, none⟩ = some (.slice vo m vc) ∧ V.drew.cell? ⟨kb, ko, none⟩ = some (.string k0) ∧ V.drew.cell? ⟨kb, ko + 1, none⟩ = some (.bool k1) ∧ V.drew.cell? ⟨kb, ko + 2, none⟩ = some (.int .i64 k2) ∧ V.drew.cell? ⟨kb, ko + 3, none⟩ = some (.int .i64 k3) ∧ V.drew.cell? ⟨kb, ko + 4, none⟩ = some (.int .i64 k4) ∧ V.drew.cell? ⟨kb, ko + 5, none⟩ = some (.int .i64 k5) ∧ V.drew.cell? ⟨kb, ko + 6, none⟩ = some (.slice kp kn kc)) := ⟨q4, p0, p1, p2, p3, gr_c gg g0, gr_c gg g1, gr_c gg g2, gr_c gg g3, gr_c gg g4, gr_c gg g5, gr_c gg g6⟩
  clear b4 b5 gr g hF gg hA
  go_enter Tryd.func49, Tryd.ntmps49
  go_wp2_with (go_at_call 73; refine (HK.out _).mono ?_; rintro e w' ⟨rfl, rfl⟩)
  clear hV p0 p1 p2 p3 q0 q1 q2 q3 q4
  go_region_held3 (fun w' => w'.cell? ⟨W.heap.size + 1 + 1, 4, none⟩ = some (.slice (some ⟨kb, ko, none⟩) n ca) ∧ w'.cell? ⟨W.heap.size + 1, 0, none⟩ = some (.bool false) ∧ w'.cell? ⟨W.heap.size + 1, 1, none⟩ = some (.int .i64 v1) ∧ w'.cell? ⟨W.heap.size + 1, 2, none⟩ = some (.string v2) ∧ w'.cell? ⟨W.heap.size + 1, 3, none⟩ = some (.slice vo m vc) ∧ w'.cell? ⟨kb, ko, none⟩ = some (.string k0) ∧ w'.cell? ⟨kb, ko + 1, none⟩ = some (.bool k1) ∧ w'.cell? ⟨kb, ko + 2, none⟩ = some (.int .i64 k2) ∧ w'.cell? ⟨kb, ko + 3, none⟩ = some (.int .i64 k3) ∧ w'.cell? ⟨kb, ko + 4, none⟩ = some (.int .i64 k4) ∧ w'.cell? ⟨kb, ko + 5, none⟩ = some (.int .i64 k5) ∧ w'.cell? ⟨kb, ko + 6, none⟩ = some (.slice kp kn kc)) (first | with_reducible exact HC.out | with_reducible exact ⟨gr_c HE.out (HC.out.1), gr_c HE.out (HC.out.2.1), gr_c HE.out (HC.out.2.2.1), gr_c HE.out (HC.out.2.2.2.1), gr_c HE.out (HC.out.2.2.2.2.1), gr_c HE.out (HC.out.2.2.2.2.2.1), gr_c HE.out (HC.out.2.2.2.2.2.2.1), gr_c HE.out (HC.out.2.2.2.2.2.2.2.1), gr_c HE.out (HC.out.2.2.2.2.2.2.2.2.1), gr_c HE.out (HC.out.2.2.2.2.2.2.2.2.2.1), gr_c HE.out (HC.out.2.2.2.2.2.2.2.2.2.2.1), gr_c HE.out (HC.out.2.2.2.2.2.2.2.2.2.2.2)⟩) ((go_at_call 49; refine Calls.mono (HF.out _ HGd.out) ?_; rintro e w2 ⟨rfl, hg2⟩; have HE := hidM hg2; clear hg2))
  all_goals
    go_wp2_with fail
    go_ret
    exact ⟨rfl, HG.out.drew.trans HE.out (fun _ _ h => h)⟩
end Go.Proofs.YtcfdkadhclickaaDoor.Kit
