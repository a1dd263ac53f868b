import Derived.Test.YtcfdkadhclickaaDoorVN
import Derived.Test.YtcfdkadhclickaaDoorVC
import Derived.Test.YtcfdkadhclickaaDoorVE
import Derived.Test.YtcfdkadhclickaaDoorWF
namespace Go.Proofs.YtcfdkadhclickaaDoor.Kit
open Go.RowKit Go.Shelf Go.Deep
set_option linter.unusedVariables false
attribute [local go_sem] run_store_func

/-! ### fits 25, Fits 6 -/
theorem gr_past {W V w' : World} {sb : Nat} (g : Gr W V) (k : Keeps V w' (fun k => k = sb)) (h : W.heap.size ≤ sb) : Gr W w' := g.trans k (fun j hj e => by omega)
set_option maxRecDepth 100000 in
set_option maxHeartbeats 2000000 in
theorem fits25_walk (f0 : ByteArray) (f1 : Bool) (f2 f3 f4 f5 : Int) (ao : Option Addr) (n ca : Nat) (v0 : Bool) (v1 : Int) (v2 : ByteArray) (vo : Option Addr) (m vc : Nat) (w : World) (r : Int → Option Int)
    (hF : ∀ (V : World) (sb : Nat), Gr w V → w.heap.size ≤ sb → sb < V.heap.size → FitC V sb 47 (.agg #[.string f0, .bool f1, .int .i64 f2, .int .i64 f3, .int .i64 f4, .int .i64 f5, .slice ao n ca]) (.agg #[.bool v0, .int .i64 v1, .string v2, .slice vo m vc]) r) :
    ∀ W, Gr w W → Calls Tryd.prog 25 #[.agg #[.string f0, .bool f1, .int .i64 f2, .int .i64 f3, .int .i64 f4, .int .i64 f5, .slice ao n ca], .agg #[.bool v0, .int .i64 v1, .string v2, .slice vo m vc]] W fun e w' => e = .returned (.bool (r 4194304).isSome) ∧ Gr W w' := by
  intro W g
  obtain ⟨V, hV⟩ : ∃ V, ((W.alloc (.cells #[.string f0, .bool f1, .int .i64 f2, .int .i64 f3, .int .i64 f4, .int .i64 f5, .slice ao n ca] 26)).alloc (.cells #[.bool v0, .int .i64 v1, .string v2, .slice vo m vc] 29)).alloc (.cells #[.int .i64 4194304] 75) = V := ⟨_, rfl⟩
  have gv : Gr W V := by rw [← hV]; exact (((Keeps.refl W _).alloc _).alloc _).alloc _
  have hbx : V.heap[W.heap.size + 1 + 1]? = some (.cells #[.int .i64 4194304] 75) := by
    have h := (alloc3 W (.cells #[.string f0, .bool f1, .int .i64 f2, .int .i64 f3, .int .i64 f4, .int .i64 f5, .slice ao n ca] 26) (.cells #[.bool v0, .int .i64 v1, .string v2, .slice vo m vc] 29) (.cells #[.int .i64 4194304] 75)).2.2.1
    rw [← hV]; exact h
  have HC := hidM (hF V (W.heap.size + 1 + 1) (g.trans gv (fun _ _ h => h)) (by have := g.size; omega) (lt_of_heap hbx) V 4194304 ⟨Keeps.refl _ _, hbx⟩ (by decide) (by decide))
  have HG := hidM gv
  obtain ⟨q, hq⟩ : ∃ q, q = r 4194304 := ⟨_, rfl⟩
  rw [← hq] at HC ⊢
  have HV := hidM hV
  clear hF g gv hbx hq hV
  go_enter Tryd.func25, Tryd.ntmps25
  go_wp2_with (go_at_call 47; refine Hid.out ?_)
  unfold Hid
  rw [HV.out]
  refine Calls.mono HC.out ?_
  rintro e w' ⟨l', rfl, hs, -⟩
  have HE := hidM (gr_past HG.out hs.kp (by omega))
  clear hs
  go_wp2_with fail
  go_ret
  exact ⟨rfl, HE.out⟩
def fitE (mb fb : Bool) : Int := if mb = false then 5 else if fb = false then 7 else 0
set_option maxRecDepth 100000 in
set_option maxHeartbeats 2000000 in
theorem fits6_walk (f0 : ByteArray) (f1 : Bool) (f2 f3 f4 f5 : Int) (ao : Option Addr) (n ca : Nat) (v0 : Bool) (v1 : Int) (v2 : ByteArray) (vo : Option Addr) (m vc : Nat) (w : World) (mb fb : Bool)
    (h24 : ∀ W, Gr w W → Calls Tryd.prog 24 #[.agg #[.string f0, .bool f1, .int .i64 f2, .int .i64 f3, .int .i64 f4, .int .i64 f5, .slice ao n ca]] W fun e w' => e = .returned (.bool mb) ∧ Gr W w')
    (h25 : mb = true → ∀ W, Gr w W → Calls Tryd.prog 25 #[.agg #[.string f0, .bool f1, .int .i64 f2, .int .i64 f3, .int .i64 f4, .int .i64 f5, .slice ao n ca], .agg #[.bool v0, .int .i64 v1, .string v2, .slice vo m vc]] W fun e w' => e = .returned (.bool fb) ∧ Gr W w') :
    ∀ W, Gr w W → Calls Tryd.prog 6 #[.agg #[.string f0, .bool f1, .int .i64 f2, .int .i64 f3, .int .i64 f4, .int .i64 f5, .slice ao n ca], .agg #[.bool v0, .int .i64 v1, .string v2, .slice vo m vc]] W fun e w' => e = .returned (.int .i64 (fitE mb fb)) ∧ Gr W w' := by
  intro W g
  have HG := hidM g
  have H24 := hidM h24
  have H25 := hidM h25
  obtain ⟨R, hR⟩ : ∃ R, R = fitE mb fb := ⟨_, rfl⟩
  rw [← hR]
  have HR := hidM hR
  obtain ⟨V, hV⟩ : ∃ V, (W.alloc (.cells #[.string f0, .bool f1, .int .i64 f2, .int .i64 f3, .int .i64 f4, .int .i64 f5, .slice ao n ca] 26)).alloc (.cells #[.bool v0, .int .i64 v1, .string v2, .slice vo m vc] 29) = V := ⟨_, rfl⟩
  have gv : Gr W V := by rw [← hV]; exact ((Keeps.refl W _).alloc _).alloc _
  have hA := alloc3 W (.cells #[.string f0, .bool f1, .int .i64 f2, .int .i64 f3, .int .i64 f4, .int .i64 f5, .slice ao n ca] 26) (.cells #[.bool v0, .int .i64 v1, .string v2, .slice vo m vc] 29) (.cells #[] 29)
  have hb7 : B7 V W.heap.size f0 f1 f2 f3 f4 f5 ao n ca := by
    unfold B7
    rw [← hV]
    exact (Below.heap_alloc (W.alloc _) _ W.heap.size (by simp)).trans (heap_alloc_new W _)
  have hb4 : B4 V (W.heap.size + 1) v0 v1 v2 vo m vc := by
    unfold B4
    rw [← hV]
    have e := heap_alloc_new (W.alloc (.cells #[.string f0, .bool f1, .int .i64 f2, .int .i64 f3, .int .i64 f4, .int .i64 f5, .slice ao n ca] 26)) (.cells #[.bool v0, .int .i64 v1, .string v2, .slice vo m vc] 29)
    rw [show (W.alloc (.cells #[.string f0, .bool f1, .int .i64 f2, .int .i64 f3, .int .i64 f4, .int .i64 f5, .slice ao n ca] 26)).heap.size = W.heap.size + 1 by simp] at e
    exact e
  have H7 := hidM hb7
  have H4 := hidM hb4
  have HV := hidM hV
  have HGv := hidM gv
  clear h24 h25 g hR hV gv hA hb7 hb4
  go_enter Tryd.func6, Tryd.ntmps6
  go_wp2_with (go_at_call 24; refine Hid.out ?_)
  unfold Hid
  rw [HV.out]
  refine Calls.mono (H24.out _ (HG.out.trans HGv.out (fun _ _ h => h))) ?_
  rintro e V1 ⟨rfl, hg1⟩
  obtain ⟨p0, p1, p2, p3, p4, p5, p6⟩ := B7.cells ((hg1.block _ (lt_of_heap H7.out) id).trans H7.out)
  obtain ⟨q0, q1, q2, q3⟩ := B4.cells ((hg1.block _ (lt_of_heap H4.out) id).trans H4.out)
  have HG1 := hidM (HGv.out.trans hg1 (fun _ _ h => h))
  clear hg1
  cases mb with
  | false =>
    have HX : Hid (R = 5) := HR.out
    go_wp2_with fail
    go_ret
    exact ⟨by rw [HX.out]; rfl, HG1.out⟩
  | true =>
    go_wp2_with (go_at_call 25; refine Hid.out ?_)
    unfold Hid
    refine Calls.mono (H25.out (by trivial) _ (HG.out.trans HG1.out (fun _ _ h => h))) ?_
    rintro e V2 ⟨rfl, hg2⟩
    have HG2 := hidM (HG1.out.trans hg2 (fun _ _ h => h))
    clear hg2 p0 p1 p2 p3 p4 p5 p6 q0 q1 q2 q3
    cases fb with
    | false =>
      have HX : Hid (R = 7) := HR.out
      go_wp2_with fail
      go_ret
      exact ⟨by rw [HX.out]; rfl, HG2.out⟩
    | true =>
      have HX : Hid (R = 0) := HR.out
      go_wp2_with fail
      go_ret
      exact ⟨by rw [HX.out]; rfl, HG2.out⟩
end Go.Proofs.YtcfdkadhclickaaDoor.Kit
namespace Go.Proofs.YtcfdkadhclickaaDoor.Kit
open Go.RowKit Go.Shelf Go.Deep
set_option linter.unusedVariables false
attribute [local go_sem] run_store_func

/-! ### Compare 18 -/
/-- what Compare answers: the order, the error -/
def cmpR (mb fa fb : Bool) (z : Int) : Int × Int := if mb = false then (0, 5) else if (fa && fb) = true then (z, 0) else (0, 7)
def CmpC (w : World) (a b c : Value) (r : Int × Int) : Prop := ∀ W, Gr w W → Calls Tryd.prog 18 #[a, b, c] W fun e w' => e = .returned (.tuple #[.int .i64 r.1, .int .i64 r.2]) ∧ Gr W w'
set_option maxRecDepth 100000 in
set_option maxHeartbeats 2000000 in
theorem compare18_walk (f0 : ByteArray) (f1 : Bool) (f2 f3 f4 f5 : Int) (ao : Option Addr) (n ca : Nat) (a0 b0 : Bool) (a1 b1 : Int) (a2 b2 : ByteArray) (uo vo : Option Addr) (un uc vn vc : Nat) (w : World) (mb fa fb : Bool) (z : Int)
    (h24 : ∀ W, Gr w W → Calls Tryd.prog 24 #[.agg #[.string f0, .bool f1, .int .i64 f2, .int .i64 f3, .int .i64 f4, .int .i64 f5, .slice ao n ca]] W fun e w' => e = .returned (.bool mb) ∧ Gr W w')
    (h25a : mb = true → ∀ W, Gr w W → Calls Tryd.prog 25 #[.agg #[.string f0, .bool f1, .int .i64 f2, .int .i64 f3, .int .i64 f4, .int .i64 f5, .slice ao n ca], .agg #[.bool a0, .int .i64 a1, .string a2, .slice uo un uc]] W fun e w' => e = .returned (.bool fa) ∧ Gr W w')
    (h25b : mb = true → ∀ W, Gr w W → Calls Tryd.prog 25 #[.agg #[.string f0, .bool f1, .int .i64 f2, .int .i64 f3, .int .i64 f4, .int .i64 f5, .slice ao n ca], .agg #[.bool b0, .int .i64 b1, .string b2, .slice vo vn vc]] W fun e w' => e = .returned (.bool fb) ∧ Gr W w')
    (h41 : mb = true → fa = true → fb = true → IAns 41 #[.agg #[.string f0, .bool f1, .int .i64 f2, .int .i64 f3, .int .i64 f4, .int .i64 f5, .slice ao n ca], .agg #[.bool a0, .int .i64 a1, .string a2, .slice uo un uc], .agg #[.bool b0, .int .i64 b1, .string b2, .slice vo vn vc]] z w) :
    CmpC w (.agg #[.string f0, .bool f1, .int .i64 f2, .int .i64 f3, .int .i64 f4, .int .i64 f5, .slice ao n ca]) (.agg #[.bool a0, .int .i64 a1, .string a2, .slice uo un uc]) (.agg #[.bool b0, .int .i64 b1, .string b2, .slice vo vn vc]) (cmpR mb fa fb z) := by
  intro W g
  obtain ⟨r1, hr1⟩ : ∃ r1, r1 = (cmpR mb fa fb z).1 := ⟨_, rfl⟩
  obtain ⟨r2, hr2⟩ : ∃ r2, r2 = (cmpR mb fa fb z).2 := ⟨_, rfl⟩
  rw [← hr1, ← hr2]
  have HR := hidM (And.intro hr1 hr2)
  have HG := hidM g
  have H24 := hidM h24
  have HA := hidM h25a
  have HB := hidM h25b
  have H41 := hidM h41
  obtain ⟨V, hV⟩ : ∃ V, ((W.alloc (.cells #[.string f0, .bool f1, .int .i64 f2, .int .i64 f3, .int .i64 f4, .int .i64 f5, .slice ao n ca] 26)).alloc (.cells #[.bool a0, .int .i64 a1, .string a2, .slice uo un uc] 29)).alloc (.cells #[.bool b0, .int .i64 b1, .string b2, .slice vo vn vc] 29) = V := ⟨_, rfl⟩
  have hA := alloc3 W (.cells #[.string f0, .bool f1, .int .i64 f2, .int .i64 f3, .int .i64 f4, .int .i64 f5, .slice ao n ca] 26) (.cells #[.bool a0, .int .i64 a1, .string a2, .slice uo un uc] 29) (.cells #[.bool b0, .int .i64 b1, .string b2, .slice vo vn vc] 29)
  have H7 : Hid (B7 V W.heap.size f0 f1 f2 f3 f4 f5 ao n ca) := by rw [← hV]; exact hA.1
  have Ha : Hid (B4 V (W.heap.size + 1) a0 a1 a2 uo un uc) := by rw [← hV]; exact hA.2.1
  have Hb : Hid (B4 V (W.heap.size + 1 + 1) b0 b1 b2 vo vn vc) := by rw [← hV]; exact hA.2.2.1
  have HGv : Hid (Gr W V) := by rw [← hV]; exact (((Keeps.refl W _).alloc _).alloc _).alloc _
  have HV := hidM hV
  clear hr1 hr2 g h24 h25a h25b h41 hV hA
  go_enter Tryd.func18, Tryd.ntmps18
  go_wp2_with (go_at_call 24; refine Hid.out ?_)
  unfold Hid
  rw [HV.out]
  refine Calls.mono (H24.out _ (HG.out.trans HGv.out (fun _ _ h => h))) ?_
  rintro e V1 ⟨rfl, hg1⟩
  have H71 : Hid (B7 V1 W.heap.size f0 f1 f2 f3 f4 f5 ao n ca) := (hg1.block _ (lt_of_heap H7.out) id).trans H7.out
  have Ha1 : Hid (B4 V1 (W.heap.size + 1) a0 a1 a2 uo un uc) := (hg1.block _ (lt_of_heap Ha.out) id).trans Ha.out
  have Hb1 : Hid (B4 V1 (W.heap.size + 1 + 1) b0 b1 b2 vo vn vc) := (hg1.block _ (lt_of_heap Hb.out) id).trans Hb.out
  have HG1 := hidM (HGv.out.trans hg1 (fun _ _ h => h))
  clear hg1 H7 Ha Hb HGv HV
  cases mb with
  | false =>
    have HX : Hid (r1 = 0 ∧ r2 = 5) := HR.out
    go_wp2_with fail
    go_ret2
    exact ⟨by rw [HX.out.1, HX.out.2]; rfl, HG1.out⟩
  | true =>
    obtain ⟨p0, p1, p2, p3, p4, p5, p6⟩ := B7.cells H71.out
    obtain ⟨q0, q1, q2, q3⟩ := B4.cells Ha1.out
    go_wp2_with (go_at_call 25; refine Hid.out ?_)
    unfold Hid
    refine Calls.mono (HA.out (by trivial) _ (HG.out.trans HG1.out (fun _ _ h => h))) ?_
    rintro e V2 ⟨rfl, hg2⟩
    have H72 : Hid (B7 V2 W.heap.size f0 f1 f2 f3 f4 f5 ao n ca) := (hg2.block _ (lt_of_heap H71.out) id).trans H71.out
    have Ha2 : Hid (B4 V2 (W.heap.size + 1) a0 a1 a2 uo un uc) := (hg2.block _ (lt_of_heap Ha1.out) id).trans Ha1.out
    have Hb2 : Hid (B4 V2 (W.heap.size + 1 + 1) b0 b1 b2 vo vn vc) := (hg2.block _ (lt_of_heap Hb1.out) id).trans Hb1.out
    have HG2 := hidM (HG1.out.trans hg2 (fun _ _ h => h))
    clear hg2 H71 Ha1 Hb1 HG1 p0 p1 p2 p3 p4 p5 p6 q0 q1 q2 q3
    cases fa with
    | false =>
      have HX : Hid (r1 = 0 ∧ r2 = 7) := HR.out
      go_wp2_with fail
      go_ret2
      exact ⟨by rw [HX.out.1, HX.out.2]; rfl, HG2.out⟩
    | true =>
      obtain ⟨p0, p1, p2, p3, p4, p5, p6⟩ := B7.cells H72.out
      obtain ⟨q0, q1, q2, q3⟩ := B4.cells Hb2.out
      go_wp2_with (go_at_call 25; refine Hid.out ?_)
      unfold Hid
      refine Calls.mono (HB.out (by trivial) _ (HG.out.trans HG2.out (fun _ _ h => h))) ?_
      rintro e V3 ⟨rfl, hg3⟩
      have H73 : Hid (B7 V3 W.heap.size f0 f1 f2 f3 f4 f5 ao n ca) := (hg3.block _ (lt_of_heap H72.out) id).trans H72.out
      have Ha3 : Hid (B4 V3 (W.heap.size + 1) a0 a1 a2 uo un uc) := (hg3.block _ (lt_of_heap Ha2.out) id).trans Ha2.out
      have Hb3 : Hid (B4 V3 (W.heap.size + 1 + 1) b0 b1 b2 vo vn vc) := (hg3.block _ (lt_of_heap Hb2.out) id).trans Hb2.out
      have HG3 := hidM (HG2.out.trans hg3 (fun _ _ h => h))
      clear hg3 H72 Ha2 Hb2 HG2 p0 p1 p2 p3 p4 p5 p6 q0 q1 q2 q3
      cases fb with
      | false =>
        have HX : Hid (r1 = 0 ∧ r2 = 7) := HR.out
        go_wp2_with fail
        go_ret2
        exact ⟨by rw [HX.out.1, HX.out.2]; rfl, HG3.out⟩
      | true =>
        have HX : Hid (r1 = z ∧ r2 = 0) := HR.out
        obtain ⟨p0, p1, p2, p3, p4, p5, p6⟩ := B7.cells H73.out
        obtain ⟨q0, q1, q2, q3⟩ := B4.cells Ha3.out
        obtain ⟨s0, s1, s2, s3⟩ := B4.cells Hb3.out
        go_wp2_with (go_at_call 41; refine Hid.out ?_)
        unfold Hid
        refine Calls.mono (H41.out (by trivial) (by trivial) (by trivial) _ (HG.out.trans HG3.out (fun _ _ h => h))) ?_
        rintro e V4 ⟨rfl, hg4⟩
        have HG4 := hidM (HG3.out.trans hg4 (fun _ _ h => h))
        clear hg4 p0 p1 p2 p3 p4 p5 p6 q0 q1 q2 q3 s0 s1 s2 s3
        go_wp2_with fail
        go_ret2
        exact ⟨by rw [HX.out.1, HX.out.2]; rfl, HG4.out⟩
end Go.Proofs.YtcfdkadhclickaaDoor.Kit
