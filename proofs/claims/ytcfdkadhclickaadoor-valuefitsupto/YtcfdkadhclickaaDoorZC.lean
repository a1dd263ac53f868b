import Derived.Test.YtcfdkadhclickaaDoorZA
import Derived.Test.YtcfdkadhclickaaDoorWE
import Derived.Deep.RegionHeld3
namespace Go.Proofs.YtcfdkadhclickaaDoor.Kit
open Go.RowKit Go.Shelf Go.Deep
set_option linter.unusedVariables false
attribute [local go_sem] run_store_func

/-! ### zeroWeight 35 and the document's 33 -/
theorem alloc2 (W : World) (a b : Obj) : ((W.alloc a).alloc b).heap[W.heap.size]? = some a ∧ ((W.alloc a).alloc b).heap[W.heap.size + 1]? = some b ∧ Gr W ((W.alloc a).alloc b) := by
  have s : (W.alloc a).heap.size = W.heap.size + 1 := by simp
  refine ⟨(Below.heap_alloc (W.alloc a) b _ (by omega)).trans (heap_alloc_new W a), ?_, ((Keeps.refl W _).alloc a).alloc b⟩
  have := heap_alloc_new (W.alloc a) b
  rw [s] at this
  exact this
set_option maxRecDepth 100000 in
set_option maxHeartbeats 2000000 in
theorem zw_nul (f2 : Int) (f0 : ByteArray) (f3 f4 f5 : Int) (ao : Option Addr) (n ca : Nat) (w : World) :
    IAns 35 #[.agg #[.string f0, .bool true, .int .i64 f2, .int .i64 f3, .int .i64 f4, .int .i64 f5, .slice ao n ca]] (16) w := by
  intro W g
  obtain ⟨U, hU⟩ : ∃ U, ((W.alloc (.cells #[.string f0, .bool true, .int .i64 f2, .int .i64 f3, .int .i64 f4, .int .i64 f5, .slice ao n ca] 26)).alloc (.cells #[.int .i64 f2, .int .i64 f3, .int .i64 f4, .int .i64 f5, .slice ao n ca] 24)).drew = U := ⟨_, rfl⟩
  have hA := alloc2 W (.cells #[.string f0, .bool true, .int .i64 f2, .int .i64 f3, .int .i64 f4, .int .i64 f5, .slice ao n ca] 26) (.cells #[.int .i64 f2, .int .i64 f3, .int .i64 f4, .int .i64 f5, .slice ao n ca] 24)
  have b7 : B7 U W.heap.size f0 true f2 f3 f4 f5 ao n ca := by rw [← hU]; exact hA.1
  have b5 : B5 U (W.heap.size + 1) f2 f3 f4 f5 ao n ca := by rw [← hU]; exact hA.2.1
  have gU : Gr W U := by rw [← hU]; exact hA.2.2.drew
  have gg : Gr w U := g.trans gU (fun _ _ h => h)
  obtain ⟨p0, p1, p2, p3, p4, p5, p6⟩ := b7.cells
  obtain ⟨q0, q1, q2, q3, q4⟩ := b5.cells
  have HB5 := hidM b5
  have HG := hidM gU
  have HGg := hidM gg
  have HU := hidM hU
  clear hA b7 b5 gU gg g hU 
  go_enter Tryd.func35, Tryd.ntmps35
  go_wp2
  go_region
  rw [HU.out]
  go_wp2
  all_goals go_ret
  all_goals first | exact ⟨by first | rfl | (simp only [capM]; rw [if_pos (by omega)]; rfl), HG.out⟩ | (exfalso; omega)
set_option maxRecDepth 100000 in
set_option maxHeartbeats 2000000 in
theorem zw14 (f0 : ByteArray) (f3 f4 f5 : Int) (ao : Option Addr) (n ca : Nat) (w : World) (h0 : 1 ≤ f3) (h1 : f3 ≤ 4096) :
    IAns 35 #[.agg #[.string f0, .bool false, .int .i64 14, .int .i64 f3, .int .i64 f4, .int .i64 f5, .slice ao n ca]] (capM (16 + f3)) w := by
  intro W g
  obtain ⟨U, hU⟩ : ∃ U, ((W.alloc (.cells #[.string f0, .bool false, .int .i64 14, .int .i64 f3, .int .i64 f4, .int .i64 f5, .slice ao n ca] 26)).alloc (.cells #[.int .i64 14, .int .i64 f3, .int .i64 f4, .int .i64 f5, .slice ao n ca] 24)).drew = U := ⟨_, rfl⟩
  have hA := alloc2 W (.cells #[.string f0, .bool false, .int .i64 14, .int .i64 f3, .int .i64 f4, .int .i64 f5, .slice ao n ca] 26) (.cells #[.int .i64 14, .int .i64 f3, .int .i64 f4, .int .i64 f5, .slice ao n ca] 24)
  have b7 : B7 U W.heap.size f0 false 14 f3 f4 f5 ao n ca := by rw [← hU]; exact hA.1
  have b5 : B5 U (W.heap.size + 1) 14 f3 f4 f5 ao n ca := by rw [← hU]; exact hA.2.1
  have gU : Gr W U := by rw [← hU]; exact hA.2.2.drew
  have gg : Gr w U := g.trans gU (fun _ _ h => h)
  obtain ⟨p0, p1, p2, p3, p4, p5, p6⟩ := b7.cells
  obtain ⟨q0, q1, q2, q3, q4⟩ := b5.cells
  have hw : wrap64 (16 + f3) = 16 + f3 := by unfold wrap64; omega
  have hle : 16 + f3 ≤ 4194304 := by omega
  have HB5 := hidM b5
  have HG := hidM gU
  have HGg := hidM gg
  have HU := hidM hU
  clear hA b7 b5 gU gg g hU 
  go_enter Tryd.func35, Tryd.ntmps35
  go_wp2
  go_region
  rw [HU.out]
  go_wp2
  all_goals go_ret
  all_goals first | exact ⟨by first | rfl | (simp only [capM]; rw [if_pos (by omega)]; rfl), HG.out⟩ | (exfalso; omega)
set_option maxRecDepth 100000 in
set_option maxHeartbeats 2000000 in
theorem zw_else (f2 : Int) (f0 : ByteArray) (f3 f4 f5 : Int) (ao : Option Addr) (n ca : Nat) (w : World) (hk : f2 ≠ 14 ∧ f2 ≠ 16 ∧ f2 ≠ 17 ∧ f2 ≠ 18 ∧ f2 ≠ 19 ∧ f2 ≠ 20) :
    IAns 35 #[.agg #[.string f0, .bool false, .int .i64 f2, .int .i64 f3, .int .i64 f4, .int .i64 f5, .slice ao n ca]] (16) w := by
  intro W g
  obtain ⟨U, hU⟩ : ∃ U, ((W.alloc (.cells #[.string f0, .bool false, .int .i64 f2, .int .i64 f3, .int .i64 f4, .int .i64 f5, .slice ao n ca] 26)).alloc (.cells #[.int .i64 f2, .int .i64 f3, .int .i64 f4, .int .i64 f5, .slice ao n ca] 24)).drew = U := ⟨_, rfl⟩
  have hA := alloc2 W (.cells #[.string f0, .bool false, .int .i64 f2, .int .i64 f3, .int .i64 f4, .int .i64 f5, .slice ao n ca] 26) (.cells #[.int .i64 f2, .int .i64 f3, .int .i64 f4, .int .i64 f5, .slice ao n ca] 24)
  have b7 : B7 U W.heap.size f0 false f2 f3 f4 f5 ao n ca := by rw [← hU]; exact hA.1
  have b5 : B5 U (W.heap.size + 1) f2 f3 f4 f5 ao n ca := by rw [← hU]; exact hA.2.1
  have gU : Gr W U := by rw [← hU]; exact hA.2.2.drew
  have gg : Gr w U := g.trans gU (fun _ _ h => h)
  obtain ⟨p0, p1, p2, p3, p4, p5, p6⟩ := b7.cells
  obtain ⟨q0, q1, q2, q3, q4⟩ := b5.cells
  have e14 : (f2 == 14) = false := by simp; omega
  have e16 : (f2 == 16) = false := by simp; omega
  have e17 : (f2 == 17) = false := by simp; omega
  have e18 : (f2 == 18) = false := by simp; omega
  have e19 : (f2 == 19) = false := by simp; omega
  have e20 : (f2 == 20) = false := by simp; omega
  have HB5 := hidM b5
  have HG := hidM gU
  have HGg := hidM gg
  have HU := hidM hU
  clear hA b7 b5 gU gg g hU hk
  go_enter Tryd.func35, Tryd.ntmps35
  go_wp2
  go_region
  rw [HU.out]
  go_wp2
  all_goals go_ret
  all_goals first | exact ⟨by first | rfl | (simp only [capM]; rw [if_pos (by omega)]; rfl), HG.out⟩ | (exfalso; omega)
set_option maxRecDepth 100000 in
set_option maxHeartbeats 2000000 in
theorem zw18 (f0 : ByteArray) (f3 f4 f5 : Int) (n ca : Nat) (w : World) (kb ko : Nat) (k0 : ByteArray) (k1 : Bool) (k2 k3 k4 k5 : Int) (kp : Option Addr) (kn kc : Nat) (z : Int) (hz : 16 ≤ z ∧ z ≤ 4194305) (hn : 0 < n) (g0 : w.cell? ⟨kb, ko, none⟩ = some (.string k0)) (g1 : w.cell? ⟨kb, ko + 1, none⟩ = some (.bool k1)) (g2 : w.cell? ⟨kb, ko + 2, none⟩ = some (.int .i64 k2)) (g3 : w.cell? ⟨kb, ko + 3, none⟩ = some (.int .i64 k3)) (g4 : w.cell? ⟨kb, ko + 4, none⟩ = some (.int .i64 k4)) (g5 : w.cell? ⟨kb, ko + 5, none⟩ = some (.int .i64 k5)) (g6 : w.cell? ⟨kb, ko + 6, none⟩ = some (.slice kp kn kc)) (hF : IAns 35 #[.agg #[.string k0, .bool k1, .int .i64 k2, .int .i64 k3, .int .i64 k4, .int .i64 k5, .slice kp kn kc]] z w) :
    IAns 35 #[.agg #[.string f0, .bool false, .int .i64 18, .int .i64 f3, .int .i64 f4, .int .i64 f5, .slice (some ⟨kb, ko, none⟩) n ca]] (capM (16 + z)) w := by
  have hw : wrap64 (16 + z) = 16 + z := by unfold wrap64; omega
  have HF := hidM hF
  have HZ := hidM hz
  intro W g
  obtain ⟨U, hU⟩ : ∃ U, ((W.alloc (.cells #[.string f0, .bool false, .int .i64 18, .int .i64 f3, .int .i64 f4, .int .i64 f5, .slice (some ⟨kb, ko, none⟩) n ca] 26)).alloc (.cells #[.int .i64 18, .int .i64 f3, .int .i64 f4, .int .i64 f5, .slice (some ⟨kb, ko, none⟩) n ca] 24)).drew = U := ⟨_, rfl⟩
  have hA := alloc2 W (.cells #[.string f0, .bool false, .int .i64 18, .int .i64 f3, .int .i64 f4, .int .i64 f5, .slice (some ⟨kb, ko, none⟩) n ca] 26) (.cells #[.int .i64 18, .int .i64 f3, .int .i64 f4, .int .i64 f5, .slice (some ⟨kb, ko, none⟩) n ca] 24)
  have b7 : B7 U W.heap.size f0 false 18 f3 f4 f5 (some ⟨kb, ko, none⟩) n ca := by rw [← hU]; exact hA.1
  have b5 : B5 U (W.heap.size + 1) 18 f3 f4 f5 (some ⟨kb, ko, none⟩) n ca := by rw [← hU]; exact hA.2.1
  have gU : Gr W U := by rw [← hU]; exact hA.2.2.drew
  have gg : Gr w U := g.trans gU (fun _ _ h => h)
  obtain ⟨p0, p1, p2, p3, p4, p5, p6⟩ := b7.cells
  obtain ⟨q0, q1, q2, q3, q4⟩ := b5.cells
  have g0 := gr_c gg g0
  have g1 := gr_c gg g1
  have g2 := gr_c gg g2
  have g3 := gr_c gg g3
  have g4 := gr_c gg g4
  have g5 := gr_c gg g5
  have g6 := gr_c gg g6
  have hn' : (0 : Int) < (n : Int) := by omega
  have HB5 := hidM b5
  have HG := hidM gU
  have HGg := hidM gg
  have HU := hidM hU
  clear hA b7 b5 gU gg g hU hF hz
  go_enter Tryd.func35, Tryd.ntmps35
  go_wp2
  go_region
  rw [HU.out]
  go_wp2_with (go_at_call 35; refine Hid.out ?_)
  unfold Hid
  refine Calls.mono (HF.out _ HGg.out) ?_
  rintro e w2 ⟨rfl, hg2⟩
  have HE := hidM (HG.out.trans hg2 (fun _ _ h => h))
  clear hg2
  by_cases hc : 16 + z ≤ 4194304
  · go_wp2_with fail
    all_goals go_ret
    all_goals first | exact ⟨by simp only [capM]; rw [if_pos (by omega)]; rfl, HE.out⟩ | exact ⟨by simp only [capM]; rw [if_pos (by omega)]; exact congrArg (fun x => Ending.returned (.int .i64 x)) hw, HE.out⟩ | (exfalso; omega)
  · have hz2 := HZ.out
    go_wp2_with fail
    all_goals go_ret
    all_goals first | exact ⟨by simp only [capM]; rw [if_neg (by omega)]; rfl, HE.out⟩ | exact ⟨by simp only [capM]; rw [if_neg (by omega), show 16 + z = 4194305 by omega]; rfl, HE.out⟩ | (exfalso; omega)
set_option maxRecDepth 100000 in
set_option maxHeartbeats 2000000 in
theorem zw19 (f0 : ByteArray) (f3 f4 f5 : Int) (n ca : Nat) (w : World) (kb ko : Nat) (k0 : ByteArray) (k1 : Bool) (k2 k3 k4 k5 : Int) (kp : Option Addr) (kn kc : Nat) (z : Int) (hz : 16 ≤ z ∧ z ≤ 4194305) (hn : 0 < n) (g0 : w.cell? ⟨kb, ko, none⟩ = some (.string k0)) (g1 : w.cell? ⟨kb, ko + 1, none⟩ = some (.bool k1)) (g2 : w.cell? ⟨kb, ko + 2, none⟩ = some (.int .i64 k2)) (g3 : w.cell? ⟨kb, ko + 3, none⟩ = some (.int .i64 k3)) (g4 : w.cell? ⟨kb, ko + 4, none⟩ = some (.int .i64 k4)) (g5 : w.cell? ⟨kb, ko + 5, none⟩ = some (.int .i64 k5)) (g6 : w.cell? ⟨kb, ko + 6, none⟩ = some (.slice kp kn kc)) (hF : IAns 35 #[.agg #[.string k0, .bool k1, .int .i64 k2, .int .i64 k3, .int .i64 k4, .int .i64 k5, .slice kp kn kc]] z w) :
    IAns 35 #[.agg #[.string f0, .bool false, .int .i64 19, .int .i64 f3, .int .i64 f4, .int .i64 f5, .slice (some ⟨kb, ko, none⟩) n ca]] (capM z) w := by
  have HF := hidM hF
  have HZ := hidM hz
  intro W g
  obtain ⟨U, hU⟩ : ∃ U, ((W.alloc (.cells #[.string f0, .bool false, .int .i64 19, .int .i64 f3, .int .i64 f4, .int .i64 f5, .slice (some ⟨kb, ko, none⟩) n ca] 26)).alloc (.cells #[.int .i64 19, .int .i64 f3, .int .i64 f4, .int .i64 f5, .slice (some ⟨kb, ko, none⟩) n ca] 24)).drew = U := ⟨_, rfl⟩
  have hA := alloc2 W (.cells #[.string f0, .bool false, .int .i64 19, .int .i64 f3, .int .i64 f4, .int .i64 f5, .slice (some ⟨kb, ko, none⟩) n ca] 26) (.cells #[.int .i64 19, .int .i64 f3, .int .i64 f4, .int .i64 f5, .slice (some ⟨kb, ko, none⟩) n ca] 24)
  have b7 : B7 U W.heap.size f0 false 19 f3 f4 f5 (some ⟨kb, ko, none⟩) n ca := by rw [← hU]; exact hA.1
  have b5 : B5 U (W.heap.size + 1) 19 f3 f4 f5 (some ⟨kb, ko, none⟩) n ca := by rw [← hU]; exact hA.2.1
  have gU : Gr W U := by rw [← hU]; exact hA.2.2.drew
  have gg : Gr w U := g.trans gU (fun _ _ h => h)
  obtain ⟨p0, p1, p2, p3, p4, p5, p6⟩ := b7.cells
  obtain ⟨q0, q1, q2, q3, q4⟩ := b5.cells
  have g0 := gr_c gg g0
  have g1 := gr_c gg g1
  have g2 := gr_c gg g2
  have g3 := gr_c gg g3
  have g4 := gr_c gg g4
  have g5 := gr_c gg g5
  have g6 := gr_c gg g6
  have hn' : (0 : Int) < (n : Int) := by omega
  have HB5 := hidM b5
  have HG := hidM gU
  have HGg := hidM gg
  have HU := hidM hU
  clear hA b7 b5 gU gg g hU hF hz
  go_enter Tryd.func35, Tryd.ntmps35
  go_wp2
  go_region
  rw [HU.out]
  go_wp2_with (go_at_call 35; refine Hid.out ?_)
  unfold Hid
  refine Calls.mono (HF.out _ HGg.out) ?_
  rintro e w2 ⟨rfl, hg2⟩
  have HE := hidM (HG.out.trans hg2 (fun _ _ h => h))
  clear hg2
  by_cases hc : z ≤ 4194304
  · go_wp2_with fail
    all_goals go_ret
    all_goals first | exact ⟨by simp only [capM]; rw [if_pos (by omega)]; rfl, HE.out⟩ | exact ⟨by simp only [capM]; rw [if_pos (by omega)]; exact congrArg (fun x => Ending.returned (.int .i64 x)) hw, HE.out⟩ | (exfalso; omega)
  · have hz2 := HZ.out
    go_wp2_with fail
    all_goals go_ret
    all_goals first | exact ⟨by simp only [capM]; rw [if_neg (by omega)]; rfl, HE.out⟩ | exact ⟨by simp only [capM]; rw [if_neg (by omega), show z = 4194305 by omega]; rfl, HE.out⟩ | (exfalso; omega)
set_option maxRecDepth 100000 in
set_option maxHeartbeats 2000000 in
theorem zw20 (f0 : ByteArray) (f3 f4 f5 : Int) (n ca : Nat) (w : World) (kb ko : Nat) (k0 : ByteArray) (k1 : Bool) (k2 k3 k4 k5 : Int) (kp : Option Addr) (kn kc : Nat) (z : Int) (hz : 16 ≤ z ∧ z ≤ 4194305) (hn : 0 < n) (g0 : w.cell? ⟨kb, ko, none⟩ = some (.string k0)) (g1 : w.cell? ⟨kb, ko + 1, none⟩ = some (.bool k1)) (g2 : w.cell? ⟨kb, ko + 2, none⟩ = some (.int .i64 k2)) (g3 : w.cell? ⟨kb, ko + 3, none⟩ = some (.int .i64 k3)) (g4 : w.cell? ⟨kb, ko + 4, none⟩ = some (.int .i64 k4)) (g5 : w.cell? ⟨kb, ko + 5, none⟩ = some (.int .i64 k5)) (g6 : w.cell? ⟨kb, ko + 6, none⟩ = some (.slice kp kn kc)) (hF : IAns 35 #[.agg #[.string k0, .bool k1, .int .i64 k2, .int .i64 k3, .int .i64 k4, .int .i64 k5, .slice kp kn kc]] z w) :
    IAns 35 #[.agg #[.string f0, .bool false, .int .i64 20, .int .i64 f3, .int .i64 f4, .int .i64 f5, .slice (some ⟨kb, ko, none⟩) n ca]] (capM z) w := by
  have HF := hidM hF
  have HZ := hidM hz
  intro W g
  obtain ⟨U, hU⟩ : ∃ U, ((W.alloc (.cells #[.string f0, .bool false, .int .i64 20, .int .i64 f3, .int .i64 f4, .int .i64 f5, .slice (some ⟨kb, ko, none⟩) n ca] 26)).alloc (.cells #[.int .i64 20, .int .i64 f3, .int .i64 f4, .int .i64 f5, .slice (some ⟨kb, ko, none⟩) n ca] 24)).drew = U := ⟨_, rfl⟩
  have hA := alloc2 W (.cells #[.string f0, .bool false, .int .i64 20, .int .i64 f3, .int .i64 f4, .int .i64 f5, .slice (some ⟨kb, ko, none⟩) n ca] 26) (.cells #[.int .i64 20, .int .i64 f3, .int .i64 f4, .int .i64 f5, .slice (some ⟨kb, ko, none⟩) n ca] 24)
  have b7 : B7 U W.heap.size f0 false 20 f3 f4 f5 (some ⟨kb, ko, none⟩) n ca := by rw [← hU]; exact hA.1
  have b5 : B5 U (W.heap.size + 1) 20 f3 f4 f5 (some ⟨kb, ko, none⟩) n ca := by rw [← hU]; exact hA.2.1
  have gU : Gr W U := by rw [← hU]; exact hA.2.2.drew
  have gg : Gr w U := g.trans gU (fun _ _ h => h)
  obtain ⟨p0, p1, p2, p3, p4, p5, p6⟩ := b7.cells
  obtain ⟨q0, q1, q2, q3, q4⟩ := b5.cells
  have g0 := gr_c gg g0
  have g1 := gr_c gg g1
  have g2 := gr_c gg g2
  have g3 := gr_c gg g3
  have g4 := gr_c gg g4
  have g5 := gr_c gg g5
  have g6 := gr_c gg g6
  have hn' : (0 : Int) < (n : Int) := by omega
  have HB5 := hidM b5
  have HG := hidM gU
  have HGg := hidM gg
  have HU := hidM hU
  clear hA b7 b5 gU gg g hU hF hz
  go_enter Tryd.func35, Tryd.ntmps35
  go_wp2
  go_region
  rw [HU.out]
  go_wp2_with (go_at_call 35; refine Hid.out ?_)
  unfold Hid
  refine Calls.mono (HF.out _ HGg.out) ?_
  rintro e w2 ⟨rfl, hg2⟩
  have HE := hidM (HG.out.trans hg2 (fun _ _ h => h))
  clear hg2
  by_cases hc : z ≤ 4194304
  · go_wp2_with fail
    all_goals go_ret
    all_goals first | exact ⟨by simp only [capM]; rw [if_pos (by omega)]; rfl, HE.out⟩ | exact ⟨by simp only [capM]; rw [if_pos (by omega)]; exact congrArg (fun x => Ending.returned (.int .i64 x)) hw, HE.out⟩ | (exfalso; omega)
  · have hz2 := HZ.out
    go_wp2_with fail
    all_goals go_ret
    all_goals first | exact ⟨by simp only [capM]; rw [if_neg (by omega)]; rfl, HE.out⟩ | exact ⟨by simp only [capM]; rw [if_neg (by omega), show z = 4194305 by omega]; rfl, HE.out⟩ | (exfalso; omega)
set_option maxRecDepth 100000 in
set_option maxHeartbeats 2000000 in
theorem zw16 (f0 : ByteArray) (f3 f4 f5 : Int) (n ca : Nat) (w : World) (kb ko : Nat) (k0 : ByteArray) (k1 : Bool) (k2 k3 k4 k5 : Int) (kp : Option Addr) (kn kc : Nat) (z : Int) (hz : 16 ≤ z ∧ z ≤ 4194305) (hw3 : 1 ≤ f3 ∧ f3 ≤ 4096) (hn : 0 < n) (g0 : w.cell? ⟨kb, ko, none⟩ = some (.string k0)) (g1 : w.cell? ⟨kb, ko + 1, none⟩ = some (.bool k1)) (g2 : w.cell? ⟨kb, ko + 2, none⟩ = some (.int .i64 k2)) (g3 : w.cell? ⟨kb, ko + 3, none⟩ = some (.int .i64 k3)) (g4 : w.cell? ⟨kb, ko + 4, none⟩ = some (.int .i64 k4)) (g5 : w.cell? ⟨kb, ko + 5, none⟩ = some (.int .i64 k5)) (g6 : w.cell? ⟨kb, ko + 6, none⟩ = some (.slice kp kn kc)) (hF : IAns 35 #[.agg #[.string k0, .bool k1, .int .i64 k2, .int .i64 k3, .int .i64 k4, .int .i64 k5, .slice kp kn kc]] z w) :
    IAns 35 #[.agg #[.string f0, .bool false, .int .i64 16, .int .i64 f3, .int .i64 f4, .int .i64 f5, .slice (some ⟨kb, ko, none⟩) n ca]] (capM (16 + f3 * z)) w := by
  obtain ⟨y, hy⟩ : ∃ y, y = f3 * z := ⟨_, rfl⟩
  have hy0 : 0 ≤ y ∧ y ≤ 17179873280 := by
    rw [hy]
    refine ⟨Int.mul_nonneg (by omega) (by omega), ?_⟩
    have h1 := Int.mul_le_mul_of_nonneg_right hw3.2 (show 0 ≤ z by omega)
    omega
  have hwm : wrap64 (f3 * z) = y := by rw [← hy]; unfold wrap64; omega
  have hwa : wrap64 (16 + y) = 16 + y := by unfold wrap64; omega
  have hwm' : IntKind.i64.wrap (f3 * z) = y := by rw [← hy]; simp [IntKind.wrap, IntKind.bits, IntKind.signed]; omega
  have hwa' : IntKind.i64.wrap (16 + y) = 16 + y := by simp [IntKind.wrap, IntKind.bits, IntKind.signed]; omega
  rw [← hy]
  have HF := hidM hF
  clear hy
  intro W g
  obtain ⟨U, hU⟩ : ∃ U, ((W.alloc (.cells #[.string f0, .bool false, .int .i64 16, .int .i64 f3, .int .i64 f4, .int .i64 f5, .slice (some ⟨kb, ko, none⟩) n ca] 26)).alloc (.cells #[.int .i64 16, .int .i64 f3, .int .i64 f4, .int .i64 f5, .slice (some ⟨kb, ko, none⟩) n ca] 24)).drew = U := ⟨_, rfl⟩
  have hA := alloc2 W (.cells #[.string f0, .bool false, .int .i64 16, .int .i64 f3, .int .i64 f4, .int .i64 f5, .slice (some ⟨kb, ko, none⟩) n ca] 26) (.cells #[.int .i64 16, .int .i64 f3, .int .i64 f4, .int .i64 f5, .slice (some ⟨kb, ko, none⟩) n ca] 24)
  have b7 : B7 U W.heap.size f0 false 16 f3 f4 f5 (some ⟨kb, ko, none⟩) n ca := by rw [← hU]; exact hA.1
  have b5 : B5 U (W.heap.size + 1) 16 f3 f4 f5 (some ⟨kb, ko, none⟩) n ca := by rw [← hU]; exact hA.2.1
  have gU : Gr W U := by rw [← hU]; exact hA.2.2.drew
  have gg : Gr w U := g.trans gU (fun _ _ h => h)
  obtain ⟨p0, p1, p2, p3, p4, p5, p6⟩ := b7.cells
  obtain ⟨q0, q1, q2, q3, q4⟩ := b5.cells
  have g0 := gr_c gg g0
  have g1 := gr_c gg g1
  have g2 := gr_c gg g2
  have g3 := gr_c gg g3
  have g4 := gr_c gg g4
  have g5 := gr_c gg g5
  have g6 := gr_c gg g6
  have hn' : (0 : Int) < (n : Int) := by omega
  have HC : Hid (U.drew.cell? ⟨W.heap.size + 1, 1, none⟩ = some (.int .i64 f3) ∧ U.drew.cell? ⟨W.heap.size + 1, 4, none⟩ = some (.slice (some ⟨kb, ko, none⟩) n ca) ∧ U.drew.cell? ⟨kb, ko, none⟩ = some (.string k0) ∧ U.drew.cell? ⟨kb, ko + 1, none⟩ = some (.bool k1) ∧ U.drew.cell? ⟨kb, ko + 2, none⟩ = some (.int .i64 k2) ∧ U.drew.cell? ⟨kb, ko + 3, none⟩ = some (.int .i64 k3) ∧ U.drew.cell? ⟨kb, ko + 4, none⟩ = some (.int .i64 k4) ∧ U.drew.cell? ⟨kb, ko + 5, none⟩ = some (.int .i64 k5) ∧ U.drew.cell? ⟨kb, ko + 6, none⟩ = some (.slice kp kn kc)) := ⟨q1, q4, g0, g1, g2, g3, g4, g5, g6⟩
  have HGd : Hid (Gr w U.drew) := gg.drew
  have HB5 := hidM b5
  have HG := hidM gU
  have HGg := hidM gg
  have HU := hidM hU
  clear hA b7 b5 gU gg g hU hF hz hw3
  go_enter Tryd.func35, Tryd.ntmps35
  go_wp2
  go_region
  rw [HU.out]
  go_wp2
  clear p0 p1 p2 p3 p4 p5 p6 q0 q1 q2 q3 q4 g0 g1 g2 g3 g4 g5 g6
  have hy1 := hy0.1
  have hy2 := hy0.2
  clear hy0
  by_cases hc : 16 + y ≤ 4194304
  · go_region_held3 (fun w' => w'.cell? ⟨W.heap.size + 1, 1, none⟩ = some (.int .i64 f3) ∧ w'.cell? ⟨W.heap.size + 1, 4, none⟩ = some (.slice (some ⟨kb, ko, none⟩) n ca) ∧ w'.cell? ⟨kb, ko, none⟩ = some (.string k0) ∧ w'.cell? ⟨kb, ko + 1, none⟩ = some (.bool k1) ∧ w'.cell? ⟨kb, ko + 2, none⟩ = some (.int .i64 k2) ∧ w'.cell? ⟨kb, ko + 3, none⟩ = some (.int .i64 k3) ∧ w'.cell? ⟨kb, ko + 4, none⟩ = some (.int .i64 k4) ∧ w'.cell? ⟨kb, ko + 5, none⟩ = some (.int .i64 k5) ∧ w'.cell? ⟨kb, ko + 6, none⟩ = some (.slice kp kn kc)) (first | with_reducible exact HC.out | with_reducible exact ⟨gr_c HE.out (HC.out.1), gr_c HE.out (HC.out.2.1), gr_c HE.out (HC.out.2.2.1), gr_c HE.out (HC.out.2.2.2.1), gr_c HE.out (HC.out.2.2.2.2.1), gr_c HE.out (HC.out.2.2.2.2.2.1), gr_c HE.out (HC.out.2.2.2.2.2.2.1), gr_c HE.out (HC.out.2.2.2.2.2.2.2.1), gr_c HE.out (HC.out.2.2.2.2.2.2.2.2)⟩) ((go_at_call 35; refine Calls.mono (HF.out _ HGd.out) ?_; rintro e w2 ⟨rfl, hg2⟩; have HE := hidM hg2; clear hg2))
    all_goals
      go_wp2_with fail
      all_goals go_ret
      all_goals first | exact ⟨by simp only [capM]; rw [if_pos (by omega)]; rfl, HG.out.drew.trans HE.out (fun _ _ h => h)⟩ | exact ⟨by simp only [capM]; rw [if_pos (by omega)]; exact congrArg (fun x => Ending.returned (.int .i64 x)) hwa, HG.out.drew.trans HE.out (fun _ _ h => h)⟩ | (exfalso; omega)
  · go_region_held3 (fun w' => w'.cell? ⟨W.heap.size + 1, 1, none⟩ = some (.int .i64 f3) ∧ w'.cell? ⟨W.heap.size + 1, 4, none⟩ = some (.slice (some ⟨kb, ko, none⟩) n ca) ∧ w'.cell? ⟨kb, ko, none⟩ = some (.string k0) ∧ w'.cell? ⟨kb, ko + 1, none⟩ = some (.bool k1) ∧ w'.cell? ⟨kb, ko + 2, none⟩ = some (.int .i64 k2) ∧ w'.cell? ⟨kb, ko + 3, none⟩ = some (.int .i64 k3) ∧ w'.cell? ⟨kb, ko + 4, none⟩ = some (.int .i64 k4) ∧ w'.cell? ⟨kb, ko + 5, none⟩ = some (.int .i64 k5) ∧ w'.cell? ⟨kb, ko + 6, none⟩ = some (.slice kp kn kc)) (first | with_reducible exact HC.out | with_reducible exact ⟨gr_c HE.out (HC.out.1), gr_c HE.out (HC.out.2.1), gr_c HE.out (HC.out.2.2.1), gr_c HE.out (HC.out.2.2.2.1), gr_c HE.out (HC.out.2.2.2.2.1), gr_c HE.out (HC.out.2.2.2.2.2.1), gr_c HE.out (HC.out.2.2.2.2.2.2.1), gr_c HE.out (HC.out.2.2.2.2.2.2.2.1), gr_c HE.out (HC.out.2.2.2.2.2.2.2.2)⟩) ((go_at_call 35; refine Calls.mono (HF.out _ HGd.out) ?_; rintro e w2 ⟨rfl, hg2⟩; have HE := hidM hg2; clear hg2))
    all_goals
      go_wp2_with fail
      all_goals go_ret
      all_goals first | exact ⟨by simp only [capM]; rw [if_neg (by omega)]; rfl, HG.out.drew.trans HE.out (fun _ _ h => h)⟩ | exact ⟨by simp only [capM]; rw [if_neg (by omega), show 16 + y = 4194305 by omega]; rfl, HG.out.drew.trans HE.out (fun _ _ h => h)⟩ | (exfalso; omega)
set_option maxRecDepth 100000 in
set_option maxHeartbeats 2000000 in
theorem dw_nul (f2 : Int) (f0 : ByteArray) (f3 f4 f5 : Int) (ao : Option Addr) (n ca : Nat) (w : World) (h20 : (f2 == 20) = false) :
    IAns 33 #[.agg #[.string f0, .bool true, .int .i64 f2, .int .i64 f3, .int .i64 f4, .int .i64 f5, .slice ao n ca], .int .i64 4194304] (16) w := by
  intro W g
  obtain ⟨U, hU⟩ : ∃ U, ((W.alloc (.cells #[.string f0, .bool true, .int .i64 f2, .int .i64 f3, .int .i64 f4, .int .i64 f5, .slice ao n ca] 26)).alloc (.cells #[.int .i64 f2, .int .i64 f3, .int .i64 f4, .int .i64 f5, .slice ao n ca] 24)) = U := ⟨_, rfl⟩
  have hA := alloc2 W (.cells #[.string f0, .bool true, .int .i64 f2, .int .i64 f3, .int .i64 f4, .int .i64 f5, .slice ao n ca] 26) (.cells #[.int .i64 f2, .int .i64 f3, .int .i64 f4, .int .i64 f5, .slice ao n ca] 24)
  have b7 : B7 U W.heap.size f0 true f2 f3 f4 f5 ao n ca := by rw [← hU]; exact hA.1
  have b5 : B5 U (W.heap.size + 1) f2 f3 f4 f5 ao n ca := by rw [← hU]; exact hA.2.1
  have gU : Gr W U := by rw [← hU]; exact hA.2.2
  have gg : Gr w U := g.trans gU (fun _ _ h => h)
  obtain ⟨p0, p1, p2, p3, p4, p5, p6⟩ := b7.cells
  obtain ⟨q0, q1, q2, q3, q4⟩ := b5.cells
  have HB5 := hidM b5
  have HG := hidM gU
  have HGg := hidM gg
  have HU := hidM hU
  clear hA b7 b5 gU gg g hU 
  go_enter Tryd.func33, Tryd.ntmps33
  have hU := HU.out
  go_wp2
  all_goals go_ret
  all_goals first | exact ⟨by first | rfl | (simp only [capM]; rw [if_pos (by omega)]; rfl), HG.out⟩ | (exfalso; omega)
set_option maxRecDepth 100000 in
set_option maxHeartbeats 2000000 in
theorem dw14 (f0 : ByteArray) (f3 f4 f5 : Int) (ao : Option Addr) (n ca : Nat) (w : World) (h0 : 1 ≤ f3) (h1 : f3 ≤ 4096) :
    IAns 33 #[.agg #[.string f0, .bool false, .int .i64 14, .int .i64 f3, .int .i64 f4, .int .i64 f5, .slice ao n ca], .int .i64 4194304] (capM (16 + f3)) w := by
  intro W g
  obtain ⟨U, hU⟩ : ∃ U, ((W.alloc (.cells #[.string f0, .bool false, .int .i64 14, .int .i64 f3, .int .i64 f4, .int .i64 f5, .slice ao n ca] 26)).alloc (.cells #[.int .i64 14, .int .i64 f3, .int .i64 f4, .int .i64 f5, .slice ao n ca] 24)) = U := ⟨_, rfl⟩
  have hA := alloc2 W (.cells #[.string f0, .bool false, .int .i64 14, .int .i64 f3, .int .i64 f4, .int .i64 f5, .slice ao n ca] 26) (.cells #[.int .i64 14, .int .i64 f3, .int .i64 f4, .int .i64 f5, .slice ao n ca] 24)
  have b7 : B7 U W.heap.size f0 false 14 f3 f4 f5 ao n ca := by rw [← hU]; exact hA.1
  have b5 : B5 U (W.heap.size + 1) 14 f3 f4 f5 ao n ca := by rw [← hU]; exact hA.2.1
  have gU : Gr W U := by rw [← hU]; exact hA.2.2
  have gg : Gr w U := g.trans gU (fun _ _ h => h)
  obtain ⟨p0, p1, p2, p3, p4, p5, p6⟩ := b7.cells
  obtain ⟨q0, q1, q2, q3, q4⟩ := b5.cells
  have hw : wrap64 (16 + f3) = 16 + f3 := by unfold wrap64; omega
  have hle : 16 + f3 ≤ 4194304 := by omega
  have HB5 := hidM b5
  have HG := hidM gU
  have HGg := hidM gg
  have HU := hidM hU
  clear hA b7 b5 gU gg g hU 
  go_enter Tryd.func33, Tryd.ntmps33
  have hU := HU.out
  go_wp2
  all_goals go_ret
  all_goals first | exact ⟨by first | rfl | (simp only [capM]; rw [if_pos (by omega)]; rfl), HG.out⟩ | (exfalso; omega)
set_option maxRecDepth 100000 in
set_option maxHeartbeats 2000000 in
theorem dw_else (f2 : Int) (f0 : ByteArray) (f3 f4 f5 : Int) (ao : Option Addr) (n ca : Nat) (w : World) (hk : f2 ≠ 14 ∧ f2 ≠ 16 ∧ f2 ≠ 17 ∧ f2 ≠ 18 ∧ f2 ≠ 19 ∧ f2 ≠ 20) :
    IAns 33 #[.agg #[.string f0, .bool false, .int .i64 f2, .int .i64 f3, .int .i64 f4, .int .i64 f5, .slice ao n ca], .int .i64 4194304] (16) w := by
  intro W g
  obtain ⟨U, hU⟩ : ∃ U, ((W.alloc (.cells #[.string f0, .bool false, .int .i64 f2, .int .i64 f3, .int .i64 f4, .int .i64 f5, .slice ao n ca] 26)).alloc (.cells #[.int .i64 f2, .int .i64 f3, .int .i64 f4, .int .i64 f5, .slice ao n ca] 24)) = U := ⟨_, rfl⟩
  have hA := alloc2 W (.cells #[.string f0, .bool false, .int .i64 f2, .int .i64 f3, .int .i64 f4, .int .i64 f5, .slice ao n ca] 26) (.cells #[.int .i64 f2, .int .i64 f3, .int .i64 f4, .int .i64 f5, .slice ao n ca] 24)
  have b7 : B7 U W.heap.size f0 false f2 f3 f4 f5 ao n ca := by rw [← hU]; exact hA.1
  have b5 : B5 U (W.heap.size + 1) f2 f3 f4 f5 ao n ca := by rw [← hU]; exact hA.2.1
  have gU : Gr W U := by rw [← hU]; exact hA.2.2
  have gg : Gr w U := g.trans gU (fun _ _ h => h)
  obtain ⟨p0, p1, p2, p3, p4, p5, p6⟩ := b7.cells
  obtain ⟨q0, q1, q2, q3, q4⟩ := b5.cells
  have e14 : (f2 == 14) = false := by simp; omega
  have e16 : (f2 == 16) = false := by simp; omega
  have e17 : (f2 == 17) = false := by simp; omega
  have e18 : (f2 == 18) = false := by simp; omega
  have e19 : (f2 == 19) = false := by simp; omega
  have e20 : (f2 == 20) = false := by simp; omega
  have HB5 := hidM b5
  have HG := hidM gU
  have HGg := hidM gg
  have HU := hidM hU
  clear hA b7 b5 gU gg g hU hk
  go_enter Tryd.func33, Tryd.ntmps33
  have hU := HU.out
  go_wp2
  all_goals go_ret
  all_goals first | exact ⟨by first | rfl | (simp only [capM]; rw [if_pos (by omega)]; rfl), HG.out⟩ | (exfalso; omega)
set_option maxRecDepth 100000 in
set_option maxHeartbeats 2000000 in
theorem dw18 (f0 : ByteArray) (f3 f4 f5 : Int) (n ca : Nat) (w : World) (kb ko : Nat) (k0 : ByteArray) (k1 : Bool) (k2 k3 k4 k5 : Int) (kp : Option Addr) (kn kc : Nat) (z : Int) (hz : 16 ≤ z ∧ z ≤ 4194305) (hn : 0 < n) (g0 : w.cell? ⟨kb, ko, none⟩ = some (.string k0)) (g1 : w.cell? ⟨kb, ko + 1, none⟩ = some (.bool k1)) (g2 : w.cell? ⟨kb, ko + 2, none⟩ = some (.int .i64 k2)) (g3 : w.cell? ⟨kb, ko + 3, none⟩ = some (.int .i64 k3)) (g4 : w.cell? ⟨kb, ko + 4, none⟩ = some (.int .i64 k4)) (g5 : w.cell? ⟨kb, ko + 5, none⟩ = some (.int .i64 k5)) (g6 : w.cell? ⟨kb, ko + 6, none⟩ = some (.slice kp kn kc)) (hF : IAns 33 #[.agg #[.string k0, .bool k1, .int .i64 k2, .int .i64 k3, .int .i64 k4, .int .i64 k5, .slice kp kn kc], .int .i64 4194304] z w) :
    IAns 33 #[.agg #[.string f0, .bool false, .int .i64 18, .int .i64 f3, .int .i64 f4, .int .i64 f5, .slice (some ⟨kb, ko, none⟩) n ca], .int .i64 4194304] (capM (16 + z)) w := by
  have hw : wrap64 (16 + z) = 16 + z := by unfold wrap64; omega
  have HF := hidM hF
  have HZ := hidM hz
  intro W g
  obtain ⟨U, hU⟩ : ∃ U, ((W.alloc (.cells #[.string f0, .bool false, .int .i64 18, .int .i64 f3, .int .i64 f4, .int .i64 f5, .slice (some ⟨kb, ko, none⟩) n ca] 26)).alloc (.cells #[.int .i64 18, .int .i64 f3, .int .i64 f4, .int .i64 f5, .slice (some ⟨kb, ko, none⟩) n ca] 24)) = U := ⟨_, rfl⟩
  have hA := alloc2 W (.cells #[.string f0, .bool false, .int .i64 18, .int .i64 f3, .int .i64 f4, .int .i64 f5, .slice (some ⟨kb, ko, none⟩) n ca] 26) (.cells #[.int .i64 18, .int .i64 f3, .int .i64 f4, .int .i64 f5, .slice (some ⟨kb, ko, none⟩) n ca] 24)
  have b7 : B7 U W.heap.size f0 false 18 f3 f4 f5 (some ⟨kb, ko, none⟩) n ca := by rw [← hU]; exact hA.1
  have b5 : B5 U (W.heap.size + 1) 18 f3 f4 f5 (some ⟨kb, ko, none⟩) n ca := by rw [← hU]; exact hA.2.1
  have gU : Gr W U := by rw [← hU]; exact hA.2.2
  have gg : Gr w U := g.trans gU (fun _ _ h => h)
  obtain ⟨p0, p1, p2, p3, p4, p5, p6⟩ := b7.cells
  obtain ⟨q0, q1, q2, q3, q4⟩ := b5.cells
  have g0 := gr_c gg g0
  have g1 := gr_c gg g1
  have g2 := gr_c gg g2
  have g3 := gr_c gg g3
  have g4 := gr_c gg g4
  have g5 := gr_c gg g5
  have g6 := gr_c gg g6
  have hn' : (0 : Int) < (n : Int) := by omega
  have HB5 := hidM b5
  have HG := hidM gU
  have HGg := hidM gg
  have HU := hidM hU
  clear hA b7 b5 gU gg g hU hF hz
  go_enter Tryd.func33, Tryd.ntmps33
  have hU := HU.out
  go_wp2_with (go_at_call 33; refine Hid.out ?_)
  unfold Hid
  refine Calls.mono (HF.out _ HGg.out) ?_
  rintro e w2 ⟨rfl, hg2⟩
  have HE := hidM (HG.out.trans hg2 (fun _ _ h => h))
  clear hg2
  by_cases hc : 16 + z ≤ 4194304
  · go_wp2_with fail
    all_goals go_ret
    all_goals first | exact ⟨by simp only [capM]; rw [if_pos (by omega)]; rfl, HE.out⟩ | exact ⟨by simp only [capM]; rw [if_pos (by omega)]; exact congrArg (fun x => Ending.returned (.int .i64 x)) hw, HE.out⟩ | (exfalso; omega)
  · have hz2 := HZ.out
    go_wp2_with fail
    all_goals go_ret
    all_goals first | exact ⟨by simp only [capM]; rw [if_neg (by omega)]; rfl, HE.out⟩ | exact ⟨by simp only [capM]; rw [if_neg (by omega), show 16 + z = 4194305 by omega]; rfl, HE.out⟩ | (exfalso; omega)
set_option maxRecDepth 100000 in
set_option maxHeartbeats 2000000 in
theorem dw19 (f0 : ByteArray) (f3 f4 f5 : Int) (n ca : Nat) (w : World) (kb ko : Nat) (k0 : ByteArray) (k1 : Bool) (k2 k3 k4 k5 : Int) (kp : Option Addr) (kn kc : Nat) (z : Int) (hz : 16 ≤ z ∧ z ≤ 4194305) (hn : 0 < n) (g0 : w.cell? ⟨kb, ko, none⟩ = some (.string k0)) (g1 : w.cell? ⟨kb, ko + 1, none⟩ = some (.bool k1)) (g2 : w.cell? ⟨kb, ko + 2, none⟩ = some (.int .i64 k2)) (g3 : w.cell? ⟨kb, ko + 3, none⟩ = some (.int .i64 k3)) (g4 : w.cell? ⟨kb, ko + 4, none⟩ = some (.int .i64 k4)) (g5 : w.cell? ⟨kb, ko + 5, none⟩ = some (.int .i64 k5)) (g6 : w.cell? ⟨kb, ko + 6, none⟩ = some (.slice kp kn kc)) (hF : IAns 33 #[.agg #[.string k0, .bool k1, .int .i64 k2, .int .i64 k3, .int .i64 k4, .int .i64 k5, .slice kp kn kc], .int .i64 4194304] z w) :
    IAns 33 #[.agg #[.string f0, .bool false, .int .i64 19, .int .i64 f3, .int .i64 f4, .int .i64 f5, .slice (some ⟨kb, ko, none⟩) n ca], .int .i64 4194304] (capM z) w := by
  have HF := hidM hF
  have HZ := hidM hz
  intro W g
  obtain ⟨U, hU⟩ : ∃ U, ((W.alloc (.cells #[.string f0, .bool false, .int .i64 19, .int .i64 f3, .int .i64 f4, .int .i64 f5, .slice (some ⟨kb, ko, none⟩) n ca] 26)).alloc (.cells #[.int .i64 19, .int .i64 f3, .int .i64 f4, .int .i64 f5, .slice (some ⟨kb, ko, none⟩) n ca] 24)) = U := ⟨_, rfl⟩
  have hA := alloc2 W (.cells #[.string f0, .bool false, .int .i64 19, .int .i64 f3, .int .i64 f4, .int .i64 f5, .slice (some ⟨kb, ko, none⟩) n ca] 26) (.cells #[.int .i64 19, .int .i64 f3, .int .i64 f4, .int .i64 f5, .slice (some ⟨kb, ko, none⟩) n ca] 24)
  have b7 : B7 U W.heap.size f0 false 19 f3 f4 f5 (some ⟨kb, ko, none⟩) n ca := by rw [← hU]; exact hA.1
  have b5 : B5 U (W.heap.size + 1) 19 f3 f4 f5 (some ⟨kb, ko, none⟩) n ca := by rw [← hU]; exact hA.2.1
  have gU : Gr W U := by rw [← hU]; exact hA.2.2
  have gg : Gr w U := g.trans gU (fun _ _ h => h)
  obtain ⟨p0, p1, p2, p3, p4, p5, p6⟩ := b7.cells
  obtain ⟨q0, q1, q2, q3, q4⟩ := b5.cells
  have g0 := gr_c gg g0
  have g1 := gr_c gg g1
  have g2 := gr_c gg g2
  have g3 := gr_c gg g3
  have g4 := gr_c gg g4
  have g5 := gr_c gg g5
  have g6 := gr_c gg g6
  have hn' : (0 : Int) < (n : Int) := by omega
  have HB5 := hidM b5
  have HG := hidM gU
  have HGg := hidM gg
  have HU := hidM hU
  clear hA b7 b5 gU gg g hU hF hz
  go_enter Tryd.func33, Tryd.ntmps33
  have hU := HU.out
  go_wp2_with (go_at_call 33; refine Hid.out ?_)
  unfold Hid
  refine Calls.mono (HF.out _ HGg.out) ?_
  rintro e w2 ⟨rfl, hg2⟩
  have HE := hidM (HG.out.trans hg2 (fun _ _ h => h))
  clear hg2
  by_cases hc : z ≤ 4194304
  · go_wp2_with fail
    all_goals go_ret
    all_goals first | exact ⟨by simp only [capM]; rw [if_pos (by omega)]; rfl, HE.out⟩ | exact ⟨by simp only [capM]; rw [if_pos (by omega)]; exact congrArg (fun x => Ending.returned (.int .i64 x)) hw, HE.out⟩ | (exfalso; omega)
  · have hz2 := HZ.out
    go_wp2_with fail
    all_goals go_ret
    all_goals first | exact ⟨by simp only [capM]; rw [if_neg (by omega)]; rfl, HE.out⟩ | exact ⟨by simp only [capM]; rw [if_neg (by omega), show z = 4194305 by omega]; rfl, HE.out⟩ | (exfalso; omega)
set_option maxRecDepth 100000 in
set_option maxHeartbeats 2000000 in
theorem dw20 (f1 : Bool) (f0 : ByteArray) (f3 f4 f5 : Int) (n ca : Nat) (w : World) (kb ko : Nat) (k0 : ByteArray) (k1 : Bool) (k2 k3 k4 k5 : Int) (kp : Option Addr) (kn kc : Nat) (z : Int) (hz : 16 ≤ z ∧ z ≤ 4194305) (hn : 0 < n) (g0 : w.cell? ⟨kb, ko, none⟩ = some (.string k0)) (g1 : w.cell? ⟨kb, ko + 1, none⟩ = some (.bool k1)) (g2 : w.cell? ⟨kb, ko + 2, none⟩ = some (.int .i64 k2)) (g3 : w.cell? ⟨kb, ko + 3, none⟩ = some (.int .i64 k3)) (g4 : w.cell? ⟨kb, ko + 4, none⟩ = some (.int .i64 k4)) (g5 : w.cell? ⟨kb, ko + 5, none⟩ = some (.int .i64 k5)) (g6 : w.cell? ⟨kb, ko + 6, none⟩ = some (.slice kp kn kc)) (hF : IAns 33 #[.agg #[.string k0, .bool k1, .int .i64 k2, .int .i64 k3, .int .i64 k4, .int .i64 k5, .slice kp kn kc], .int .i64 4194304] z w) :
    IAns 33 #[.agg #[.string f0, .bool f1, .int .i64 20, .int .i64 f3, .int .i64 f4, .int .i64 f5, .slice (some ⟨kb, ko, none⟩) n ca], .int .i64 4194304] (capM z) w := by
  have HF := hidM hF
  have HZ := hidM hz
  intro W g
  obtain ⟨U, hU⟩ : ∃ U, ((W.alloc (.cells #[.string f0, .bool f1, .int .i64 20, .int .i64 f3, .int .i64 f4, .int .i64 f5, .slice (some ⟨kb, ko, none⟩) n ca] 26)).alloc (.cells #[.int .i64 20, .int .i64 f3, .int .i64 f4, .int .i64 f5, .slice (some ⟨kb, ko, none⟩) n ca] 24)) = U := ⟨_, rfl⟩
  have hA := alloc2 W (.cells #[.string f0, .bool f1, .int .i64 20, .int .i64 f3, .int .i64 f4, .int .i64 f5, .slice (some ⟨kb, ko, none⟩) n ca] 26) (.cells #[.int .i64 20, .int .i64 f3, .int .i64 f4, .int .i64 f5, .slice (some ⟨kb, ko, none⟩) n ca] 24)
  have b7 : B7 U W.heap.size f0 f1 20 f3 f4 f5 (some ⟨kb, ko, none⟩) n ca := by rw [← hU]; exact hA.1
  have b5 : B5 U (W.heap.size + 1) 20 f3 f4 f5 (some ⟨kb, ko, none⟩) n ca := by rw [← hU]; exact hA.2.1
  have gU : Gr W U := by rw [← hU]; exact hA.2.2
  have gg : Gr w U := g.trans gU (fun _ _ h => h)
  obtain ⟨p0, p1, p2, p3, p4, p5, p6⟩ := b7.cells
  obtain ⟨q0, q1, q2, q3, q4⟩ := b5.cells
  have g0 := gr_c gg g0
  have g1 := gr_c gg g1
  have g2 := gr_c gg g2
  have g3 := gr_c gg g3
  have g4 := gr_c gg g4
  have g5 := gr_c gg g5
  have g6 := gr_c gg g6
  have hn' : (0 : Int) < (n : Int) := by omega
  have HB5 := hidM b5
  have HG := hidM gU
  have HGg := hidM gg
  have HU := hidM hU
  clear hA b7 b5 gU gg g hU hF hz
  go_enter Tryd.func33, Tryd.ntmps33
  cases f1
  all_goals
    have hU := HU.out
    go_wp2_with (go_at_call 33; refine Hid.out ?_)
    unfold Hid
    refine Calls.mono (HF.out _ HGg.out) ?_
    rintro e w2 ⟨rfl, hg2⟩
    have HE := hidM (HG.out.trans hg2 (fun _ _ h => h))
    clear hg2
    by_cases hc : z ≤ 4194304
    · go_wp2_with fail
      all_goals go_ret
      all_goals first | exact ⟨by simp only [capM]; rw [if_pos (by omega)]; rfl, HE.out⟩ | exact ⟨by simp only [capM]; rw [if_pos (by omega)]; exact congrArg (fun x => Ending.returned (.int .i64 x)) hw, HE.out⟩ | (exfalso; omega)
    · have hz2 := HZ.out
      go_wp2_with fail
      all_goals go_ret
      all_goals first | exact ⟨by simp only [capM]; rw [if_neg (by omega)]; rfl, HE.out⟩ | exact ⟨by simp only [capM]; rw [if_neg (by omega), show z = 4194305 by omega]; rfl, HE.out⟩ | (exfalso; omega)
set_option maxRecDepth 100000 in
set_option maxHeartbeats 2000000 in
theorem dw16 (f0 : ByteArray) (f3 f4 f5 : Int) (n ca : Nat) (w : World) (kb ko : Nat) (k0 : ByteArray) (k1 : Bool) (k2 k3 k4 k5 : Int) (kp : Option Addr) (kn kc : Nat) (z : Int) (hz : 16 ≤ z ∧ z ≤ 4194305) (hw3 : 1 ≤ f3 ∧ f3 ≤ 4096) (hn : 0 < n) (g0 : w.cell? ⟨kb, ko, none⟩ = some (.string k0)) (g1 : w.cell? ⟨kb, ko + 1, none⟩ = some (.bool k1)) (g2 : w.cell? ⟨kb, ko + 2, none⟩ = some (.int .i64 k2)) (g3 : w.cell? ⟨kb, ko + 3, none⟩ = some (.int .i64 k3)) (g4 : w.cell? ⟨kb, ko + 4, none⟩ = some (.int .i64 k4)) (g5 : w.cell? ⟨kb, ko + 5, none⟩ = some (.int .i64 k5)) (g6 : w.cell? ⟨kb, ko + 6, none⟩ = some (.slice kp kn kc)) (hF : IAns 33 #[.agg #[.string k0, .bool k1, .int .i64 k2, .int .i64 k3, .int .i64 k4, .int .i64 k5, .slice kp kn kc], .int .i64 4194304] z w) :
    IAns 33 #[.agg #[.string f0, .bool false, .int .i64 16, .int .i64 f3, .int .i64 f4, .int .i64 f5, .slice (some ⟨kb, ko, none⟩) n ca], .int .i64 4194304] (capM (16 + f3 * z)) w := by
  obtain ⟨y, hy⟩ : ∃ y, y = f3 * z := ⟨_, rfl⟩
  have hy0 : 0 ≤ y ∧ y ≤ 17179873280 := by
    rw [hy]
    refine ⟨Int.mul_nonneg (by omega) (by omega), ?_⟩
    have h1 := Int.mul_le_mul_of_nonneg_right hw3.2 (show 0 ≤ z by omega)
    omega
  have hwm : wrap64 (f3 * z) = y := by rw [← hy]; unfold wrap64; omega
  have hwa : wrap64 (16 + y) = 16 + y := by unfold wrap64; omega
  have hwm' : IntKind.i64.wrap (f3 * z) = y := by rw [← hy]; simp [IntKind.wrap, IntKind.bits, IntKind.signed]; omega
  have hwa' : IntKind.i64.wrap (16 + y) = 16 + y := by simp [IntKind.wrap, IntKind.bits, IntKind.signed]; omega
  rw [← hy]
  have HF := hidM hF
  clear hy
  intro W g
  obtain ⟨U, hU⟩ : ∃ U, ((W.alloc (.cells #[.string f0, .bool false, .int .i64 16, .int .i64 f3, .int .i64 f4, .int .i64 f5, .slice (some ⟨kb, ko, none⟩) n ca] 26)).alloc (.cells #[.int .i64 16, .int .i64 f3, .int .i64 f4, .int .i64 f5, .slice (some ⟨kb, ko, none⟩) n ca] 24)) = U := ⟨_, rfl⟩
  have hA := alloc2 W (.cells #[.string f0, .bool false, .int .i64 16, .int .i64 f3, .int .i64 f4, .int .i64 f5, .slice (some ⟨kb, ko, none⟩) n ca] 26) (.cells #[.int .i64 16, .int .i64 f3, .int .i64 f4, .int .i64 f5, .slice (some ⟨kb, ko, none⟩) n ca] 24)
  have b7 : B7 U W.heap.size f0 false 16 f3 f4 f5 (some ⟨kb, ko, none⟩) n ca := by rw [← hU]; exact hA.1
  have b5 : B5 U (W.heap.size + 1) 16 f3 f4 f5 (some ⟨kb, ko, none⟩) n ca := by rw [← hU]; exact hA.2.1
  have gU : Gr W U := by rw [← hU]; exact hA.2.2
  have gg : Gr w U := g.trans gU (fun _ _ h => h)
  obtain ⟨p0, p1, p2, p3, p4, p5, p6⟩ := b7.cells
  obtain ⟨q0, q1, q2, q3, q4⟩ := b5.cells
  have g0 := gr_c gg g0
  have g1 := gr_c gg g1
  have g2 := gr_c gg g2
  have g3 := gr_c gg g3
  have g4 := gr_c gg g4
  have g5 := gr_c gg g5
  have g6 := gr_c gg g6
  have hn' : (0 : Int) < (n : Int) := by omega
  have HC : Hid (U.drew.cell? ⟨W.heap.size + 1, 1, none⟩ = some (.int .i64 f3) ∧ U.drew.cell? ⟨W.heap.size + 1, 4, none⟩ = some (.slice (some ⟨kb, ko, none⟩) n ca) ∧ U.drew.cell? ⟨kb, ko, none⟩ = some (.string k0) ∧ U.drew.cell? ⟨kb, ko + 1, none⟩ = some (.bool k1) ∧ U.drew.cell? ⟨kb, ko + 2, none⟩ = some (.int .i64 k2) ∧ U.drew.cell? ⟨kb, ko + 3, none⟩ = some (.int .i64 k3) ∧ U.drew.cell? ⟨kb, ko + 4, none⟩ = some (.int .i64 k4) ∧ U.drew.cell? ⟨kb, ko + 5, none⟩ = some (.int .i64 k5) ∧ U.drew.cell? ⟨kb, ko + 6, none⟩ = some (.slice kp kn kc)) := ⟨q1, q4, g0, g1, g2, g3, g4, g5, g6⟩
  have HGd : Hid (Gr w U.drew) := gg.drew
  have HB5 := hidM b5
  have HG := hidM gU
  have HGg := hidM gg
  have HU := hidM hU
  clear hA b7 b5 gU gg g hU hF hz hw3
  go_enter Tryd.func33, Tryd.ntmps33
  have hU := HU.out
  go_wp2
  clear p0 p1 p2 p3 p4 p5 p6 q0 q1 q2 q3 q4 g0 g1 g2 g3 g4 g5 g6
  have hy1 := hy0.1
  have hy2 := hy0.2
  clear hy0
  by_cases hc : 16 + y ≤ 4194304
  · go_region_held3 (fun w' => w'.cell? ⟨W.heap.size + 1, 1, none⟩ = some (.int .i64 f3) ∧ w'.cell? ⟨W.heap.size + 1, 4, none⟩ = some (.slice (some ⟨kb, ko, none⟩) n ca) ∧ w'.cell? ⟨kb, ko, none⟩ = some (.string k0) ∧ w'.cell? ⟨kb, ko + 1, none⟩ = some (.bool k1) ∧ w'.cell? ⟨kb, ko + 2, none⟩ = some (.int .i64 k2) ∧ w'.cell? ⟨kb, ko + 3, none⟩ = some (.int .i64 k3) ∧ w'.cell? ⟨kb, ko + 4, none⟩ = some (.int .i64 k4) ∧ w'.cell? ⟨kb, ko + 5, none⟩ = some (.int .i64 k5) ∧ w'.cell? ⟨kb, ko + 6, none⟩ = some (.slice kp kn kc)) (first | with_reducible exact HC.out | with_reducible exact ⟨gr_c HE.out (HC.out.1), gr_c HE.out (HC.out.2.1), gr_c HE.out (HC.out.2.2.1), gr_c HE.out (HC.out.2.2.2.1), gr_c HE.out (HC.out.2.2.2.2.1), gr_c HE.out (HC.out.2.2.2.2.2.1), gr_c HE.out (HC.out.2.2.2.2.2.2.1), gr_c HE.out (HC.out.2.2.2.2.2.2.2.1), gr_c HE.out (HC.out.2.2.2.2.2.2.2.2)⟩) ((go_at_call 33; refine Calls.mono (HF.out _ HGd.out) ?_; rintro e w2 ⟨rfl, hg2⟩; have HE := hidM hg2; clear hg2))
    all_goals
      go_wp2_with fail
      all_goals go_ret
      all_goals first | exact ⟨by simp only [capM]; rw [if_pos (by omega)]; rfl, HG.out.drew.trans HE.out (fun _ _ h => h)⟩ | exact ⟨by simp only [capM]; rw [if_pos (by omega)]; exact congrArg (fun x => Ending.returned (.int .i64 x)) hwa, HG.out.drew.trans HE.out (fun _ _ h => h)⟩ | (exfalso; omega)
  · go_region_held3 (fun w' => w'.cell? ⟨W.heap.size + 1, 1, none⟩ = some (.int .i64 f3) ∧ w'.cell? ⟨W.heap.size + 1, 4, none⟩ = some (.slice (some ⟨kb, ko, none⟩) n ca) ∧ w'.cell? ⟨kb, ko, none⟩ = some (.string k0) ∧ w'.cell? ⟨kb, ko + 1, none⟩ = some (.bool k1) ∧ w'.cell? ⟨kb, ko + 2, none⟩ = some (.int .i64 k2) ∧ w'.cell? ⟨kb, ko + 3, none⟩ = some (.int .i64 k3) ∧ w'.cell? ⟨kb, ko + 4, none⟩ = some (.int .i64 k4) ∧ w'.cell? ⟨kb, ko + 5, none⟩ = some (.int .i64 k5) ∧ w'.cell? ⟨kb, ko + 6, none⟩ = some (.slice kp kn kc)) (first | with_reducible exact HC.out | with_reducible exact ⟨gr_c HE.out (HC.out.1), gr_c HE.out (HC.out.2.1), gr_c HE.out (HC.out.2.2.1), gr_c HE.out (HC.out.2.2.2.1), gr_c HE.out (HC.out.2.2.2.2.1), gr_c HE.out (HC.out.2.2.2.2.2.1), gr_c HE.out (HC.out.2.2.2.2.2.2.1), gr_c HE.out (HC.out.2.2.2.2.2.2.2.1), gr_c HE.out (HC.out.2.2.2.2.2.2.2.2)⟩) ((go_at_call 33; refine Calls.mono (HF.out _ HGd.out) ?_; rintro e w2 ⟨rfl, hg2⟩; have HE := hidM hg2; clear hg2))
    all_goals
      go_wp2_with fail
      all_goals go_ret
      all_goals first | exact ⟨by simp only [capM]; rw [if_neg (by omega)]; rfl, HG.out.drew.trans HE.out (fun _ _ h => h)⟩ | exact ⟨by simp only [capM]; rw [if_neg (by omega), show 16 + y = 4194305 by omega]; rfl, HG.out.drew.trans HE.out (fun _ _ h => h)⟩ | (exfalso; omega)
end Go.Proofs.YtcfdkadhclickaaDoor.Kit
namespace Go.Proofs.YtcfdkadhclickaaDoor.Kit
open Go.RowKit Go.Shelf Go.Deep
set_option linter.unusedVariables false
attribute [local go_sem] run_store_func

/-! ### zeroWeight of a struct, then of all fields -/
theorem sum_takeF {l : List FT} {k : Nat} (h : k < l.length) (g : FT → Int) : ((l.take (k + 1)).map g).sum = ((l.take k).map g).sum + g l[k] := by
  rw [List.take_succ_eq_append_getElem h, List.map_append, List.sum_append]
  simp only [List.map_cons, List.map_nil, List.sum_cons, List.sum_nil]
  omega
theorem sum_bound {g : FT → Int} : ∀ {l : List FT}, (∀ x ∈ l, 16 ≤ g x ∧ g x ≤ 4194305) → 0 ≤ (l.map g).sum ∧ (l.map g).sum ≤ l.length * 4194305
  | [], _ => by simp
  | x :: l, h => by
    have h1 := h x (by simp)
    have h2 := sum_bound (l := l) fun y hy => h y (by simp [hy])
    simp only [List.map_cons, List.sum_cons, List.length_cons]
    omega
set_option maxRecDepth 100000 in
set_option maxHeartbeats 2000000 in
theorem zw17 (S : Nat → Prop) (D : Nat) (w : World) (hS : ∀ b, S b → b < w.heap.size) (f0 : ByteArray) (f3 f4 f5 : Int) (fo : Option Addr) (fc : Nat) (fs : List FT) (zz : FT → Int) (hf : RowAt S w (D + 1) fo fs) (hz : ∀ k ∈ fs, 16 ≤ zz k ∧ zz k ≤ 4194305)
    (h35 : ∀ (k : Nat) (hk : k < fs.length) (go : Option Addr) (gc : Nat), fs[k].kids.length ≤ gc → RowAt S w D go fs[k].kids → IAns 35 #[.agg #[.string fs[k].name, .bool fs[k].nul, .int .i64 fs[k].kind, .int .i64 fs[k].width, .int .i64 fs[k].id, .int .i64 fs[k].index, .slice go fs[k].kids.length gc]] (zz fs[k]) w) :
    IAns 35 #[.agg #[.string f0, .bool false, .int .i64 17, .int .i64 f3, .int .i64 f4, .int .i64 f5, .slice fo fs.length fc]] (capM (16 + (fs.map zz).sum)) w := by
  intro W g0
  have hlf : fs.length ≤ 1000000000000 := hf.len
  have hsb := sum_bound hz
  obtain ⟨R, hR⟩ : ∃ R, R = 16 + (fs.map zz).sum := ⟨_, rfl⟩
  rw [← hR]
  have HR := hidM (And.intro hR (And.intro hsb hz))
  have HF := hidM hf
  have HS := hidM hS
  have H35 := hidM h35
  have HG0 := hidM g0
  obtain ⟨L, hL⟩ : ∃ L, L = fs.length := ⟨_, rfl⟩
  rw [← hL] at hlf ⊢
  have HL := hidM hL
  obtain ⟨U, hU⟩ : ∃ U, ((W.alloc (.cells #[.string f0, .bool false, .int .i64 17, .int .i64 f3, .int .i64 f4, .int .i64 f5, .slice fo L fc] 26)).alloc (.cells #[.int .i64 17, .int .i64 f3, .int .i64 f4, .int .i64 f5, .slice fo L fc] 24)).drew = U := ⟨_, rfl⟩
  have hA := alloc2 W (.cells #[.string f0, .bool false, .int .i64 17, .int .i64 f3, .int .i64 f4, .int .i64 f5, .slice fo L fc] 26) (.cells #[.int .i64 17, .int .i64 f3, .int .i64 f4, .int .i64 f5, .slice fo L fc] 24)
  have b7 : B7 U W.heap.size f0 false 17 f3 f4 f5 fo L fc := by rw [← hU]; exact hA.1
  have b5 : B5 U (W.heap.size + 1) 17 f3 f4 f5 fo L fc := by rw [← hU]; exact hA.2.1
  have gU : Gr W U := by rw [← hU]; exact hA.2.2.drew
  obtain ⟨p0, p1, p2, p3, p4, p5, p6⟩ := b7.cells
  obtain ⟨q0, q1, q2, q3, q4⟩ := b5.cells
  have HB5 := hidM b5
  have HG := hidM gU
  have HU := hidM hU
  clear hA b7 b5 gU g0 hU hf hS h35 hL hR hsb hz
  go_enter Tryd.func35, Tryd.ntmps35
  go_wp2
  go_region
  rw [HU.out]
  go_wp2
  clear p0 p1 p2 p3 p4 p5 p6 q0 q1 q2 q3 q4
  obtain ⟨X, hX⟩ : ∃ X, X = W.heap.size := ⟨_, rfl⟩
  rw [← hX] at HB5 ⊢
  clear hX
  go_loopw [3, 37] (fun a p wr => ∃ k : Nat, k ≤ L ∧ p = .int .i64 (k : Int) ∧ ∃ s, a = .int .i64 s ∧ Hid (Gr U wr ∧ s = 16 + ((fs.take k).map zz).sum)) (fun _ p _ => L - (intOf p).toNat)
  case atStart => exact ⟨0, by omega, rfl, _, rfl, Keeps.refl _ _, by simp⟩
  case round =>
    obtain ⟨k, hk, rfl, s, rfl, HK⟩ := hrel
    obtain ⟨q0, q1, q2, q3, q4⟩ := B5.cells ((HK.out.1.block _ (lt_of_heap HB5.out) id).trans HB5.out)
    by_cases hlt : k < L
    · have hkf : k < fs.length := by have := HL.out; omega
      obtain ⟨fb, fp, rfl, hfb, hfs⟩ := HF.out.2 (fun e => by subst e; simp at hkf)
      obtain ⟨go, gc, hg, hgle, hgrow⟩ := hfs k hkf
      have hcall := H35.out k hkf go gc hgle hgrow
      have hb := HR.out.2.2 fs[k] (List.getElem_mem hkf)
      have hsb := sum_bound (l := fs.take k) fun x hx => HR.out.2.2 x (List.mem_of_mem_take hx)
      have hst := sum_takeF hkf zz
      obtain ⟨g, hge⟩ : ∃ g, g = fs[k]'hkf := ⟨_, rfl⟩
      rw [← hge] at hcall hg hb hst
      have gw : Gr w wr := HG0.out.trans (HG.out.trans HK.out.1 (fun _ _ h => h)) (fun _ _ h => h)
      have hgw := hg.kept (gw.block fb (HS.out fb hfb) id)
      obtain ⟨c0, c1, c2, c3, c4, c5, c6⟩ := hgw
      obtain ⟨V, hV⟩ : ∃ V, wr.alloc (.cells #[.string g.name, .bool g.nul, .int .i64 g.kind, .int .i64 g.width, .int .i64 g.id, .int .i64 g.index, .slice go g.kids.length gc] 26) = V := ⟨_, rfl⟩
      have gv : Gr wr V := by rw [← hV]; exact gr_alloc wr _
      have b7 : B7 V wr.heap.size g.name g.nul g.kind g.width g.id g.index go g.kids.length gc := by unfold B7; rw [← hV]; exact heap_alloc_new wr _
      obtain ⟨e0, e1, e2, e3, e4, e5, e6⟩ := b7.cells
      obtain ⟨z, hz⟩ : ∃ z, z = zz g := ⟨_, rfl⟩
      rw [← hz] at hcall hb hst
      have hs := HK.out.2
      have hln : (fs.take k).length ≤ 1000000000000 := by rw [List.length_take]; have := HL.out; omega
      have hsum : s + z ≤ 4194305000000000000 + 4194321 ∧ 16 ≤ s := by omega
      have hw : wrap64 (s + z) = s + z := by unfold wrap64; omega
      have HN : Hid (s + z = 16 + ((fs.take (k + 1)).map zz).sum) := by show s + z = _; omega
      have H2 := hidM hcall
      have HGv := hidM (HK.out.1.trans gv (fun _ _ h => h))
      have HGw : Hid (Gr w V) := gw.trans gv (fun _ _ h => h)
      have hltI : (k : Int) < (L : Int) := by omega
      clear hfs hg hgle hgrow hcall hge gw gv HK hz hb hsb hst hs hln hsum
      go_wp2_with (go_at_call 35; refine Hid.out ?_)
      unfold Hid
      refine Calls.mono (H2.out _ HGw.out) ?_
      rintro e w2 ⟨rfl, hg2⟩
      have HE := hidM (HGv.out.trans hg2 (fun _ _ h => h))
      clear hg2 c0 c1 c2 c3 c4 c5 c6 q0 q1 q2 q3 q4 e0 e1 e2 e3 e4 e5 e6 b7 hV
      go_wp2_with fail
      go_roundw
      case rel => exact ⟨k + 1, by omega, by simp, _, rfl, HE.out, by first | exact HN.out | (rw [hw]; exact HN.out)⟩
      case measure => simp [intOf]; omega
    · have hkL : k = L := by omega
      have HX : Hid (s = R) := by
        have h := HK.out.2
        have hl := HL.out
        show s = R
        rw [h, HR.out.1, List.take_of_length_le (by omega)]
      have hb : s ≤ 4194305000000000000 + 16 ∧ 16 ≤ s := by
        have h1 := HX.out
        have h2 := HR.out.2.1
        have h3 := HR.out.1
        have h4 := HL.out
        omega
      have HG1 := hidM (HG.out.trans HK.out.1 (fun _ _ h => h))
      clear HK
      subst hkL
      by_cases hc : s ≤ 4194304
      · go_wp2_with fail
        all_goals go_ret
        all_goals first | exact ⟨by rw [← HX.out]; simp only [capM]; rw [if_pos (by omega)]; rfl, HG1.out⟩ | (exfalso; omega)
      · go_wp2_with fail
        all_goals go_ret
        all_goals first | exact ⟨by rw [← HX.out]; simp only [capM]; rw [if_neg (by omega)]; rfl, HG1.out⟩ | exact ⟨by rw [← HX.out]; simp only [capM]; rw [if_neg (by omega), show s = 4194305 by omega]; rfl, HG1.out⟩ | (exfalso; omega)
set_option maxRecDepth 100000 in
set_option maxHeartbeats 2000000 in
theorem dw17 (S : Nat → Prop) (D : Nat) (w : World) (hS : ∀ b, S b → b < w.heap.size) (f0 : ByteArray) (f3 f4 f5 : Int) (fo : Option Addr) (fc : Nat) (fs : List FT) (zz : FT → Int) (hf : RowAt S w (D + 1) fo fs) (hz : ∀ k ∈ fs, 16 ≤ zz k ∧ zz k ≤ 4194305)
    (h35 : ∀ (k : Nat) (hk : k < fs.length) (go : Option Addr) (gc : Nat), fs[k].kids.length ≤ gc → RowAt S w D go fs[k].kids → IAns 33 #[.agg #[.string fs[k].name, .bool fs[k].nul, .int .i64 fs[k].kind, .int .i64 fs[k].width, .int .i64 fs[k].id, .int .i64 fs[k].index, .slice go fs[k].kids.length gc], .int .i64 4194304] (zz fs[k]) w) :
    IAns 33 #[.agg #[.string f0, .bool false, .int .i64 17, .int .i64 f3, .int .i64 f4, .int .i64 f5, .slice fo fs.length fc], .int .i64 4194304] (capM (16 + (fs.map zz).sum)) w := by
  intro W g0
  have hlf : fs.length ≤ 1000000000000 := hf.len
  have hsb := sum_bound hz
  obtain ⟨R, hR⟩ : ∃ R, R = 16 + (fs.map zz).sum := ⟨_, rfl⟩
  rw [← hR]
  have HR := hidM (And.intro hR (And.intro hsb hz))
  have HF := hidM hf
  have HS := hidM hS
  have H35 := hidM h35
  have HG0 := hidM g0
  obtain ⟨L, hL⟩ : ∃ L, L = fs.length := ⟨_, rfl⟩
  rw [← hL] at hlf ⊢
  have HL := hidM hL
  obtain ⟨U, hU⟩ : ∃ U, ((W.alloc (.cells #[.string f0, .bool false, .int .i64 17, .int .i64 f3, .int .i64 f4, .int .i64 f5, .slice fo L fc] 26)).alloc (.cells #[.int .i64 17, .int .i64 f3, .int .i64 f4, .int .i64 f5, .slice fo L fc] 24)) = U := ⟨_, rfl⟩
  have hA := alloc2 W (.cells #[.string f0, .bool false, .int .i64 17, .int .i64 f3, .int .i64 f4, .int .i64 f5, .slice fo L fc] 26) (.cells #[.int .i64 17, .int .i64 f3, .int .i64 f4, .int .i64 f5, .slice fo L fc] 24)
  have b7 : B7 U W.heap.size f0 false 17 f3 f4 f5 fo L fc := by rw [← hU]; exact hA.1
  have b5 : B5 U (W.heap.size + 1) 17 f3 f4 f5 fo L fc := by rw [← hU]; exact hA.2.1
  have gU : Gr W U := by rw [← hU]; exact hA.2.2
  obtain ⟨p0, p1, p2, p3, p4, p5, p6⟩ := b7.cells
  obtain ⟨q0, q1, q2, q3, q4⟩ := b5.cells
  have HB5 := hidM b5
  have HG := hidM gU
  have HU := hidM hU
  clear hA b7 b5 gU g0 hU hf hS h35 hL hR hsb hz
  go_enter Tryd.func33, Tryd.ntmps33
  have hU := HU.out
  go_wp2
  clear p0 p1 p2 p3 p4 p5 p6 q0 q1 q2 q3 q4
  obtain ⟨X, hX⟩ : ∃ X, X = W.heap.size := ⟨_, rfl⟩
  rw [← hX] at HB5 ⊢
  clear hX
  go_loopw [6, 7] (fun a p wr => ∃ k : Nat, k ≤ L ∧ p = .int .i64 (k : Int) ∧ ∃ s, a = .int .i64 s ∧ Hid (Gr U wr ∧ s = 16 + ((fs.take k).map zz).sum)) (fun _ p _ => L - (intOf p).toNat)
  case atStart => exact ⟨0, by omega, rfl, _, rfl, Keeps.refl _ _, by simp⟩
  case round =>
    obtain ⟨k, hk, rfl, s, rfl, HK⟩ := hrel
    obtain ⟨q0, q1, q2, q3, q4⟩ := B5.cells ((HK.out.1.block _ (lt_of_heap HB5.out) id).trans HB5.out)
    by_cases hlt : k < L
    · have hkf : k < fs.length := by have := HL.out; omega
      obtain ⟨fb, fp, rfl, hfb, hfs⟩ := HF.out.2 (fun e => by subst e; simp at hkf)
      obtain ⟨go, gc, hg, hgle, hgrow⟩ := hfs k hkf
      have hcall := H35.out k hkf go gc hgle hgrow
      have hb := HR.out.2.2 fs[k] (List.getElem_mem hkf)
      have hsb := sum_bound (l := fs.take k) fun x hx => HR.out.2.2 x (List.mem_of_mem_take hx)
      have hst := sum_takeF hkf zz
      obtain ⟨g, hge⟩ : ∃ g, g = fs[k]'hkf := ⟨_, rfl⟩
      rw [← hge] at hcall hg hb hst
      have gw : Gr w wr := HG0.out.trans (HG.out.trans HK.out.1 (fun _ _ h => h)) (fun _ _ h => h)
      have hgw := hg.kept (gw.block fb (HS.out fb hfb) id)
      obtain ⟨c0, c1, c2, c3, c4, c5, c6⟩ := hgw
      obtain ⟨V, hV⟩ : ∃ V, wr = V := ⟨_, rfl⟩
      have gv : Gr wr V := by rw [← hV]; exact Keeps.refl _ _
      obtain ⟨z, hz⟩ : ∃ z, z = zz g := ⟨_, rfl⟩
      rw [← hz] at hcall hb hst
      have hs := HK.out.2
      have hln : (fs.take k).length ≤ 1000000000000 := by rw [List.length_take]; have := HL.out; omega
      have hsum : s + z ≤ 4194305000000000000 + 4194321 ∧ 16 ≤ s := by omega
      have hw : wrap64 (s + z) = s + z := by unfold wrap64; omega
      have HN : Hid (s + z = 16 + ((fs.take (k + 1)).map zz).sum) := by show s + z = _; omega
      have H2 := hidM hcall
      have HGv := hidM (HK.out.1.trans gv (fun _ _ h => h))
      have HGw : Hid (Gr w V) := gw.trans gv (fun _ _ h => h)
      have hltI : (k : Int) < (L : Int) := by omega
      clear hfs hg hgle hgrow hcall hge gw gv HK hz hb hsb hst hs hln hsum
      subst hV
      go_wp2_with (go_at_call 33; refine Hid.out ?_)
      unfold Hid
      refine Calls.mono (H2.out _ HGw.out) ?_
      rintro e w2 ⟨rfl, hg2⟩
      have HE := hidM (HGv.out.trans hg2 (fun _ _ h => h))
      clear hg2 c0 c1 c2 c3 c4 c5 c6 q0 q1 q2 q3 q4 
      go_wp2_with fail
      go_roundw
      case rel => exact ⟨k + 1, by omega, by simp, _, rfl, HE.out, by first | exact HN.out | (rw [hw]; exact HN.out)⟩
      case measure => simp [intOf]; omega
    · have hkL : k = L := by omega
      have HX : Hid (s = R) := by
        have h := HK.out.2
        have hl := HL.out
        show s = R
        rw [h, HR.out.1, List.take_of_length_le (by omega)]
      have hb : s ≤ 4194305000000000000 + 16 ∧ 16 ≤ s := by
        have h1 := HX.out
        have h2 := HR.out.2.1
        have h3 := HR.out.1
        have h4 := HL.out
        omega
      have HG1 := hidM (HG.out.trans HK.out.1 (fun _ _ h => h))
      clear HK
      subst hkL
      by_cases hc : s ≤ 4194304
      · go_wp2_with fail
        all_goals go_ret
        all_goals first | exact ⟨by rw [← HX.out]; simp only [capM]; rw [if_pos (by omega)]; rfl, HG1.out⟩ | (exfalso; omega)
      · go_wp2_with fail
        all_goals go_ret
        all_goals first | exact ⟨by rw [← HX.out]; simp only [capM]; rw [if_neg (by omega)]; rfl, HG1.out⟩ | exact ⟨by rw [← HX.out]; simp only [capM]; rw [if_neg (by omega), show s = 4194305 by omega]; rfl, HG1.out⟩ | (exfalso; omega)
theorem zw_step (S : Nat → Prop) (D : Nat) (w : World) (hS : ∀ b, S b → b < w.heap.size) (f : FT) (ao : Option Addr) (ca : Nat) (zz : FT → Int) (hf : RowAt S w (D + 1) ao f.kids) (hT : tableB f = true) (hN : nullB f = true) (hz : ∀ k ∈ f.kids, 16 ≤ zz k ∧ zz k ≤ 4194305)
    (hkid : ∀ (g : FT) (go : Option Addr) (gc : Nat), g ∈ f.kids → g.kids.length ≤ gc → RowAt S w D go g.kids → IAns 35 #[.agg #[.string g.name, .bool g.nul, .int .i64 g.kind, .int .i64 g.width, .int .i64 g.id, .int .i64 g.index, .slice go g.kids.length gc]] (zz g) w) :
    IAns 35 #[.agg #[.string f.name, .bool f.nul, .int .i64 f.kind, .int .i64 f.width, .int .i64 f.id, .int .i64 f.index, .slice ao f.kids.length ca]] (zWB zz f) w := by
  have kid : f.kids ≠ [] → ∃ kb ko, ao = some ⟨kb, ko, none⟩ ∧ ∃ go gc, CellsAt w kb ko f.kids.head! go gc ∧ f.kids.head!.kids.length ≤ gc ∧ RowAt S w D go f.kids.head!.kids := by
    intro hne
    obtain ⟨h0, he⟩ := head_get hne
    obtain ⟨kb, ko, rfl, hb, hi⟩ := hf.2 hne
    obtain ⟨go, gc, hc, hle, hrow⟩ := hi 0 h0
    rw [he h0] at hc hle hrow
    simp only [Nat.zero_mul, Nat.add_zero] at hc
    exact ⟨kb, ko, rfl, go, gc, hc, hle, hrow⟩
  unfold zWB
  by_cases h1 : f.nul = true
  · rw [if_pos h1, h1]
    exact zw_nul _ _ _ _ _ _ _ _ w
  rw [if_neg h1]
  have h1' : f.nul = false := by simpa using h1
  rw [h1']
  by_cases h2 : f.kind = 14
  · rw [if_pos h2, h2]
    have := width14 hT h2
    exact zw14 _ _ _ _ _ _ _ w this.1 this.2
  rw [if_neg h2]
  by_cases h3 : f.kind = 16
  · rw [if_pos h3, h3]
    have hne := kid_ne hT (.inl h3)
    obtain ⟨kb, ko, rfl, go, gc, hc, hle, hrow⟩ := kid hne
    exact zw16 _ _ _ _ _ _ w _ _ _ _ _ _ _ _ _ _ _ _ (hz _ (head_mem hne)) (width16 hT h3) (head_get hne).1 hc.c0 hc.c1 hc.c2 hc.c3 hc.c4 hc.c5 hc.c6 (hkid _ _ _ (head_mem hne) hle hrow)
  rw [if_neg h3]
  by_cases h4 : f.kind = 17
  · rw [if_pos h4, h4]
    exact zw17 S D w hS _ _ _ _ ao ca f.kids zz hf hz (fun k hk go gc hle hrow => hkid _ _ _ (List.getElem_mem hk) hle hrow)
  rw [if_neg h4]
  by_cases h5 : f.kind = 18
  · rw [if_pos h5, h5]
    have hne := kid_ne hT (.inr (.inl h5))
    obtain ⟨kb, ko, rfl, go, gc, hc, hle, hrow⟩ := kid hne
    exact zw18 _ _ _ _ _ _ w _ _ _ _ _ _ _ _ _ _ _ _ (hz _ (head_mem hne)) (head_get hne).1 hc.c0 hc.c1 hc.c2 hc.c3 hc.c4 hc.c5 hc.c6 (hkid _ _ _ (head_mem hne) hle hrow)
  rw [if_neg h5]
  by_cases h6 : f.kind = 19 ∨ f.kind = 20
  · rw [if_pos h6]
    have hne := kid_ne hT (.inr (.inr h6))
    obtain ⟨kb, ko, rfl, go, gc, hc, hle, hrow⟩ := kid hne
    rcases h6 with k | k
    · rw [k]
      exact zw19 _ _ _ _ _ _ w _ _ _ _ _ _ _ _ _ _ _ _ (hz _ (head_mem hne)) (head_get hne).1 hc.c0 hc.c1 hc.c2 hc.c3 hc.c4 hc.c5 hc.c6 (hkid _ _ _ (head_mem hne) hle hrow)
    · rw [k]
      exact zw20 _ _ _ _ _ _ w _ _ _ _ _ _ _ _ _ _ _ _ (hz _ (head_mem hne)) (head_get hne).1 hc.c0 hc.c1 hc.c2 hc.c3 hc.c4 hc.c5 hc.c6 (hkid _ _ _ (head_mem hne) hle hrow)
  rw [if_neg h6]
  exact zw_else _ _ _ _ _ _ _ _ w (by omega)
/-- all depths -/
theorem zw_any (S : Nat → Prop) (w : World) (hS : ∀ b, S b → b < w.heap.size) : ∀ (D : Nat) (f : FT) (ao : Option Addr) (ca : Nat), RowAt S w D ao f.kids → okF (D + 1) f → okN (D + 1) f → IAns 35 #[.agg #[.string f.name, .bool f.nul, .int .i64 f.kind, .int .i64 f.width, .int .i64 f.id, .int .i64 f.index, .slice ao f.kids.length ca]] (zW (D + 1) f) w
  | 0, f, ao, ca, hf, ho, hn => by
    have hk : f.kids = [] := hf
    exact zw_step S 0 w hS f ao ca (zW 0) (hf.more (by omega)) ho.1 hn.1 (fun k hk' => by rw [hk] at hk'; cases hk') (fun g go gc hg => by rw [hk] at hg; cases hg)
  | D + 1, f, ao, ca, hf, ho, hn =>
    zw_step S D w hS f ao ca (zW (D + 1)) hf ho.1 hn.1 (fun k hk => zW_pos _ k (ho.2 k hk)) (fun g go gc hg hle hrow => zw_any S w hS D g go gc hrow (ho.2 g hg) (hn.2 g hg))
theorem dw_step (S : Nat → Prop) (D : Nat) (w : World) (hS : ∀ b, S b → b < w.heap.size) (f : FT) (ao : Option Addr) (ca : Nat) (zz : FT → Int) (hf : RowAt S w (D + 1) ao f.kids) (hT : tableB f = true) (hN : nullB f = true) (hz : ∀ k ∈ f.kids, 16 ≤ zz k ∧ zz k ≤ 4194305) (hzn : ∀ k ∈ f.kids, k.nul = true → zz k = 16)
    (hkid : ∀ (g : FT) (go : Option Addr) (gc : Nat), g ∈ f.kids → g.kids.length ≤ gc → RowAt S w D go g.kids → IAns 33 #[.agg #[.string g.name, .bool g.nul, .int .i64 g.kind, .int .i64 g.width, .int .i64 g.id, .int .i64 g.index, .slice go g.kids.length gc], .int .i64 4194304] (zz g) w) :
    IAns 33 #[.agg #[.string f.name, .bool f.nul, .int .i64 f.kind, .int .i64 f.width, .int .i64 f.id, .int .i64 f.index, .slice ao f.kids.length ca], .int .i64 4194304] (zWB zz f) w := by
  have kid : f.kids ≠ [] → ∃ kb ko, ao = some ⟨kb, ko, none⟩ ∧ ∃ go gc, CellsAt w kb ko f.kids.head! go gc ∧ f.kids.head!.kids.length ≤ gc ∧ RowAt S w D go f.kids.head!.kids := by
    intro hne
    obtain ⟨h0, he⟩ := head_get hne
    obtain ⟨kb, ko, rfl, hb, hi⟩ := hf.2 hne
    obtain ⟨go, gc, hc, hle, hrow⟩ := hi 0 h0
    rw [he h0] at hc hle hrow
    simp only [Nat.zero_mul, Nat.add_zero] at hc
    exact ⟨kb, ko, rfl, go, gc, hc, hle, hrow⟩
  unfold zWB
  by_cases h1 : f.nul = true
  · rw [if_pos h1]
    by_cases h20 : f.kind = 20
    · have hne := kid_ne hT (.inr (.inr (.inr h20)))
      obtain ⟨kb, ko, rfl, go, gc, hc, hle, hrow⟩ := kid hne
      have hkn : f.kids.head!.nul = true := by
        have := hN
        unfold nullB at this
        rw [if_neg (by omega), if_neg (by omega), if_pos h20] at this
        have e : (f.kids[0]?.map FT.nul).getD false = f.kids.head!.nul := kid0_head hne
        rw [e, h1] at this
        cases hh : f.kids.head!.nul with
        | true => rfl
        | false => rw [hh] at this; cases this
      have hz16 := hzn _ (head_mem hne) hkn
      have hF := hkid _ _ _ (head_mem hne) hle hrow
      rw [hz16] at hF
      rw [h20]
      have := dw20 f.nul f.name f.width f.id f.index f.kids.length ca w kb ko _ _ _ _ _ _ _ _ _ 16 (by decide) (head_get hne).1 hc.c0 hc.c1 hc.c2 hc.c3 hc.c4 hc.c5 hc.c6 hF
      rwa [show capM 16 = 16 from rfl] at this
    · rw [h1]
      exact dw_nul _ _ _ _ _ _ _ _ w (by simp [h20])
  rw [if_neg h1]
  have h1' : f.nul = false := by simpa using h1
  rw [h1']
  by_cases h2 : f.kind = 14
  · rw [if_pos h2, h2]
    have := width14 hT h2
    exact dw14 _ _ _ _ _ _ _ w this.1 this.2
  rw [if_neg h2]
  by_cases h3 : f.kind = 16
  · rw [if_pos h3, h3]
    have hne := kid_ne hT (.inl h3)
    obtain ⟨kb, ko, rfl, go, gc, hc, hle, hrow⟩ := kid hne
    exact dw16 _ _ _ _ _ _ w _ _ _ _ _ _ _ _ _ _ _ _ (hz _ (head_mem hne)) (width16 hT h3) (head_get hne).1 hc.c0 hc.c1 hc.c2 hc.c3 hc.c4 hc.c5 hc.c6 (hkid _ _ _ (head_mem hne) hle hrow)
  rw [if_neg h3]
  by_cases h4 : f.kind = 17
  · rw [if_pos h4, h4]
    exact dw17 S D w hS _ _ _ _ ao ca f.kids zz hf hz (fun k hk go gc hle hrow => hkid _ _ _ (List.getElem_mem hk) hle hrow)
  rw [if_neg h4]
  by_cases h5 : f.kind = 18
  · rw [if_pos h5, h5]
    have hne := kid_ne hT (.inr (.inl h5))
    obtain ⟨kb, ko, rfl, go, gc, hc, hle, hrow⟩ := kid hne
    exact dw18 _ _ _ _ _ _ w _ _ _ _ _ _ _ _ _ _ _ _ (hz _ (head_mem hne)) (head_get hne).1 hc.c0 hc.c1 hc.c2 hc.c3 hc.c4 hc.c5 hc.c6 (hkid _ _ _ (head_mem hne) hle hrow)
  rw [if_neg h5]
  by_cases h6 : f.kind = 19 ∨ f.kind = 20
  · rw [if_pos h6]
    have hne := kid_ne hT (.inr (.inr h6))
    obtain ⟨kb, ko, rfl, go, gc, hc, hle, hrow⟩ := kid hne
    rcases h6 with k | k
    · rw [k]
      exact dw19 _ _ _ _ _ _ w _ _ _ _ _ _ _ _ _ _ _ _ (hz _ (head_mem hne)) (head_get hne).1 hc.c0 hc.c1 hc.c2 hc.c3 hc.c4 hc.c5 hc.c6 (hkid _ _ _ (head_mem hne) hle hrow)
    · rw [k]
      exact dw20 _ _ _ _ _ _ _ w _ _ _ _ _ _ _ _ _ _ _ _ (hz _ (head_mem hne)) (head_get hne).1 hc.c0 hc.c1 hc.c2 hc.c3 hc.c4 hc.c5 hc.c6 (hkid _ _ _ (head_mem hne) hle hrow)
  rw [if_neg h6]
  exact dw_else _ _ _ _ _ _ _ _ w (by omega)
/-- all depths -/
theorem dw_any (S : Nat → Prop) (w : World) (hS : ∀ b, S b → b < w.heap.size) : ∀ (D : Nat) (f : FT) (ao : Option Addr) (ca : Nat), RowAt S w D ao f.kids → okF (D + 1) f → okN (D + 1) f → IAns 33 #[.agg #[.string f.name, .bool f.nul, .int .i64 f.kind, .int .i64 f.width, .int .i64 f.id, .int .i64 f.index, .slice ao f.kids.length ca], .int .i64 4194304] (zW (D + 1) f) w
  | 0, f, ao, ca, hf, ho, hn => by
    have hk : f.kids = [] := hf
    exact dw_step S 0 w hS f ao ca (zW 0) (hf.more (by omega)) ho.1 hn.1 (fun k hk' => by rw [hk] at hk'; cases hk') (fun k hk' => by rw [hk] at hk'; cases hk') (fun g go gc hg => by rw [hk] at hg; cases hg)
  | D + 1, f, ao, ca, hf, ho, hn =>
    dw_step S D w hS f ao ca (zW (D + 1)) hf ho.1 hn.1 (fun k hk => zW_pos _ k (ho.2 k hk)) (fun k hk h => by rw [zW, zWB, if_pos h]) (fun g go gc hg hle hrow => dw_any S w hS D g go gc hrow (ho.2 g hg) (hn.2 g hg))
end Go.Proofs.YtcfdkadhclickaaDoor.Kit
