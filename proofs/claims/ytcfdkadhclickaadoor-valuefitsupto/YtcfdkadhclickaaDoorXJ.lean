import Derived.Test.YtcfdkadhclickaaDoorXZ
import Derived.Test.YtcfdkadhclickaaDoorWA
import Derived.Test.YtcfdkadhclickaaDoorWE
namespace Go.Proofs.YtcfdkadhclickaaDoor.Kit
open Go.RowKit Go.Shelf Go.Deep
set_option linter.unusedVariables false
attribute [local go_sem] run_store_func

/-! ### the document's FitsRight 27 -/
set_option maxRecDepth 100000 in
set_option maxHeartbeats 2000000 in
theorem fits27_walk (f0 : ByteArray) (f1 : Bool) (f2 f3 f4 f5 : Int) (ao : Option Addr) (n ca : Nat) (v0 : Bool) (v1 : Int) (v2 : ByteArray) (vo : Option Addr) (m vc : Nat) (w : World) (z : Int) (r : Bool)
    (h28 : IAns 28 #[.agg #[.bool v0, .int .i64 v1, .string v2, .slice vo m vc], .int .i64 4194304] z w)
    (h49 : Ans 49 #[.agg #[.string f0, .bool f1, .int .i64 f2, .int .i64 f3, .int .i64 f4, .int .i64 f5, .slice ao n ca], .agg #[.bool v0, .int .i64 v1, .string v2, .slice vo m vc]] r w) :
    Ans 27 #[.agg #[.string f0, .bool f1, .int .i64 f2, .int .i64 f3, .int .i64 f4, .int .i64 f5, .slice ao n ca], .agg #[.bool v0, .int .i64 v1, .string v2, .slice vo m vc]] (decide (z ≤ 4194304) && r) w := by
  intro W g
  obtain ⟨X, hX⟩ : ∃ X, X = (decide (z ≤ 4194304) && r) := ⟨_, rfl⟩
  rw [← hX]
  have HXX := hidM hX
  clear hX
  have HG := hidM g
  have H28 := hidM h28
  have H49 := hidM h49
  obtain ⟨V, hV⟩ : ∃ V, (W.alloc (.cells #[.string f0, .bool f1, .int .i64 f2, .int .i64 f3, .int .i64 f4, .int .i64 f5, .slice ao n ca] 26)).alloc (.cells #[.bool v0, .int .i64 v1, .string v2, .slice vo m vc] 29) = V := ⟨_, rfl⟩
  have gv : Gr W V := by rw [← hV]; exact ((Keeps.refl W _).alloc _).alloc _
  have hb7 : B7 V W.heap.size f0 f1 f2 f3 f4 f5 ao n ca := by
    unfold B7
    rw [← hV]
    exact (Below.heap_alloc (W.alloc _) _ W.heap.size (by simp)).trans (heap_alloc_new W _)
  have hb4 : B4 V (W.heap.size + 1) v0 v1 v2 vo m vc := by
    unfold B4
    rw [← hV]
    have e := heap_alloc_new (W.alloc (.cells #[.string f0, .bool f1, .int .i64 f2, .int .i64 f3, .int .i64 f4, .int .i64 f5, .slice ao n ca] 26)) (.cells #[.bool v0, .int .i64 v1, .string v2, .slice vo m vc] 29)
    rw [show (W.alloc (.cells #[.string f0, .bool f1, .int .i64 f2, .int .i64 f3, .int .i64 f4, .int .i64 f5, .slice ao n ca] 26)).heap.size = W.heap.size + 1 by simp] at e
    exact e
  have H7 := hidM hb7
  have H4 := hidM hb4
  have HV := hidM hV
  have HGv := hidM gv
  clear h28 h49 g hV gv hb7 hb4
  go_enter Tryd.func27, Tryd.ntmps27
  go_wp2_with (go_at_call 28; refine Hid.out ?_)
  unfold Hid
  rw [HV.out]
  refine Calls.mono (H28.out _ (HG.out.trans HGv.out (fun _ _ h => h))) ?_
  rintro e V1 ⟨rfl, hg1⟩
  obtain ⟨p0, p1, p2, p3, p4, p5, p6⟩ := B7.cells ((hg1.block _ (lt_of_heap H7.out) id).trans H7.out)
  obtain ⟨q0, q1, q2, q3⟩ := B4.cells ((hg1.block _ (lt_of_heap H4.out) id).trans H4.out)
  have HG1 := hidM (HGv.out.trans hg1 (fun _ _ h => h))
  clear hg1
  by_cases c : z ≤ 4194304
  · have HX : Hid (X = r) := by show X = r; rw [HXX.out]; simp [c]
    go_wp2_with (go_at_call 49; refine Hid.out ?_)
    unfold Hid
    refine Calls.mono (H49.out _ (HG.out.trans HG1.out (fun _ _ h => h))) ?_
    rintro e V2 ⟨rfl, hg2⟩
    have HG2 := hidM (HG1.out.trans hg2 (fun _ _ h => h))
    clear hg2 p0 p1 p2 p3 p4 p5 p6 q0 q1 q2 q3
    go_wp2_with fail
    go_ret
    exact ⟨by rw [HX.out]; rfl, HG2.out⟩
  · have HX : Hid (X = false) := by show X = false; rw [HXX.out]; simp [c]
    go_wp2_with fail
    go_ret
    exact ⟨by rw [HX.out]; rfl, HG1.out⟩
/-- of a field that may be: the program's fits -/
theorem fits27_any {S : Nat → Prop} {D d : Nat} {w : World} (hS : ∀ b, S b → b < w.heap.size) {f : FT} {ao : Option Addr} {ca : Nat} (hf : RowAt S w D ao f.kids) (ho : okF (D + 1) f) (hn : okN (D + 1) f) {v : VT} {vo : Option Addr} {vc : Nat} (hok : VOk v) (hv : VRow S w d vo v.list) :
    Ans 27 #[.agg #[.string f.name, .bool f.nul, .int .i64 f.kind, .int .i64 f.width, .int .i64 f.id, .int .i64 f.index, .slice ao f.kids.length ca], .agg #[.bool v.nul, .int .i64 v.num, .string v.text, .slice vo v.list.length vc]] (weigh (fitsT (D + 1) f) v 4194304).isSome w := by
  have h := fits27_walk _ _ _ _ _ _ _ _ _ _ _ _ _ _ _ w _ _ (weight_any S w hS d v vo vc 4194304 (by decide) (by decide) hok hv) (doc49_any S d w hS D f ao ca hf ho hn v vo vc hok hv)
  rw [weigh_doc hv.deep (by decide)]
  rw [show decide (capW 4194304 (wS d v) ≤ 4194304) = decide (wS d v ≤ 4194304) by unfold capW; split <;> simp_all] at h
  exact h
end Go.Proofs.YtcfdkadhclickaaDoor.Kit
namespace Go.Proofs.YtcfdkadhclickaaDoor.Kit
open Go.RowKit Go.Shelf Go.Deep
set_option linter.unusedVariables false
attribute [local go_sem] run_store_func

/-! ### the document's Right 26, Fits 7 -/
set_option maxRecDepth 100000 in
set_option maxHeartbeats 1000000 in
theorem right26 {f0 : ByteArray} {f1 : Bool} {f2 f3 f4 f5 : Int} {ao : Option Addr} {n ca : Nat} {w : World} {er : Int} {p : List Nat} {tt : Int} (h : Tells w 48 (.agg #[.string f0, .bool f1, .int .i64 f2, .int .i64 f3, .int .i64 f4, .int .i64 f5, .slice ao n ca]) er p tt) :
    Ans 26 #[.agg #[.string f0, .bool f1, .int .i64 f2, .int .i64 f3, .int .i64 f4, .int .i64 f5, .slice ao n ca]] (er == 0) w := by
  intro W g
  have gA := gr_alloc W (.cells #[.string f0, .bool f1, .int .i64 f2, .int .i64 f3, .int .i64 f4, .int .i64 f5, .slice ao n ca] 26)
  have HC := hidM (h _ (g.trans gA (fun _ _ h => h)))
  have HG := hidM gA
  obtain ⟨q, hq⟩ : ∃ q, q = (er == 0) := ⟨_, rfl⟩
  rw [← hq]
  have hq' := hq.symm
  clear h gA g hq
  go_enter Tryd.func26, Tryd.ntmps26
  go_wp2_with (go_at_call 48; refine Hid.out ?_)
  unfold Hid
  refine Calls.mono HC.out ?_
  rintro e w' ⟨vo, vc, rfl, hg, -⟩
  have HG2 := hidM (HG.out.trans hg (fun _ _ h => h))
  clear hg
  go_wp2_with fail
  go_ret
  exact ⟨rfl, HG2.out.alloc _⟩
set_option maxRecDepth 100000 in
set_option maxHeartbeats 2000000 in
theorem fits7_walk (f0 : ByteArray) (f1 : Bool) (f2 f3 f4 f5 : Int) (ao : Option Addr) (n ca : Nat) (v0 : Bool) (v1 : Int) (v2 : ByteArray) (vo : Option Addr) (m vc : Nat) (w : World) (mb fb : Bool)
    (h26 : ∀ W, Gr w W → Calls Tryd.prog 26 #[.agg #[.string f0, .bool f1, .int .i64 f2, .int .i64 f3, .int .i64 f4, .int .i64 f5, .slice ao n ca]] W fun e w' => e = .returned (.bool mb) ∧ Gr W w')
    (h27 : mb = true → ∀ W, Gr w W → Calls Tryd.prog 27 #[.agg #[.string f0, .bool f1, .int .i64 f2, .int .i64 f3, .int .i64 f4, .int .i64 f5, .slice ao n ca], .agg #[.bool v0, .int .i64 v1, .string v2, .slice vo m vc]] W fun e w' => e = .returned (.bool fb) ∧ Gr W w') :
    ∀ W, Gr w W → Calls Tryd.prog 7 #[.agg #[.string f0, .bool f1, .int .i64 f2, .int .i64 f3, .int .i64 f4, .int .i64 f5, .slice ao n ca], .agg #[.bool v0, .int .i64 v1, .string v2, .slice vo m vc]] W fun e w' => e = .returned (.int .i64 (fitE mb fb)) ∧ Gr W w' := by
  intro W g
  have HG := hidM g
  have H26 := hidM h26
  have H27 := hidM h27
  obtain ⟨R, hR⟩ : ∃ R, R = fitE mb fb := ⟨_, rfl⟩
  rw [← hR]
  have HR := hidM hR
  obtain ⟨V, hV⟩ : ∃ V, (W.alloc (.cells #[.string f0, .bool f1, .int .i64 f2, .int .i64 f3, .int .i64 f4, .int .i64 f5, .slice ao n ca] 26)).alloc (.cells #[.bool v0, .int .i64 v1, .string v2, .slice vo m vc] 29) = V := ⟨_, rfl⟩
  have gv : Gr W V := by rw [← hV]; exact ((Keeps.refl W _).alloc _).alloc _
  have hA := alloc3 W (.cells #[.string f0, .bool f1, .int .i64 f2, .int .i64 f3, .int .i64 f4, .int .i64 f5, .slice ao n ca] 26) (.cells #[.bool v0, .int .i64 v1, .string v2, .slice vo m vc] 29) (.cells #[] 29)
  have hb7 : B7 V W.heap.size f0 f1 f2 f3 f4 f5 ao n ca := by
    unfold B7
    rw [← hV]
    exact (Below.heap_alloc (W.alloc _) _ W.heap.size (by simp)).trans (heap_alloc_new W _)
  have hb4 : B4 V (W.heap.size + 1) v0 v1 v2 vo m vc := by
    unfold B4
    rw [← hV]
    have e := heap_alloc_new (W.alloc (.cells #[.string f0, .bool f1, .int .i64 f2, .int .i64 f3, .int .i64 f4, .int .i64 f5, .slice ao n ca] 26)) (.cells #[.bool v0, .int .i64 v1, .string v2, .slice vo m vc] 29)
    rw [show (W.alloc (.cells #[.string f0, .bool f1, .int .i64 f2, .int .i64 f3, .int .i64 f4, .int .i64 f5, .slice ao n ca] 26)).heap.size = W.heap.size + 1 by simp] at e
    exact e
  have H7 := hidM hb7
  have H4 := hidM hb4
  have HV := hidM hV
  have HGv := hidM gv
  clear h26 h27 g hR hV gv hA hb7 hb4
  go_enter Tryd.func7, Tryd.ntmps7
  go_wp2_with (go_at_call 26; refine Hid.out ?_)
  unfold Hid
  rw [HV.out]
  refine Calls.mono (H26.out _ (HG.out.trans HGv.out (fun _ _ h => h))) ?_
  rintro e V1 ⟨rfl, hg1⟩
  obtain ⟨p0, p1, p2, p3, p4, p5, p6⟩ := B7.cells ((hg1.block _ (lt_of_heap H7.out) id).trans H7.out)
  obtain ⟨q0, q1, q2, q3⟩ := B4.cells ((hg1.block _ (lt_of_heap H4.out) id).trans H4.out)
  have HG1 := hidM (HGv.out.trans hg1 (fun _ _ h => h))
  clear hg1
  cases mb with
  | false =>
    have HX : Hid (R = 5) := HR.out
    go_wp2_with fail
    go_ret
    exact ⟨by rw [HX.out]; rfl, HG1.out⟩
  | true =>
    go_wp2_with (go_at_call 27; refine Hid.out ?_)
    unfold Hid
    refine Calls.mono (H27.out (by trivial) _ (HG.out.trans HG1.out (fun _ _ h => h))) ?_
    rintro e V2 ⟨rfl, hg2⟩
    have HG2 := hidM (HG1.out.trans hg2 (fun _ _ h => h))
    clear hg2 p0 p1 p2 p3 p4 p5 p6 q0 q1 q2 q3
    cases fb with
    | false =>
      have HX : Hid (R = 7) := HR.out
      go_wp2_with fail
      go_ret
      exact ⟨by rw [HX.out]; rfl, HG2.out⟩
    | true =>
      have HX : Hid (R = 0) := HR.out
      go_wp2_with fail
      go_ret
      exact ⟨by rw [HX.out]; rfl, HG2.out⟩
end Go.Proofs.YtcfdkadhclickaaDoor.Kit
