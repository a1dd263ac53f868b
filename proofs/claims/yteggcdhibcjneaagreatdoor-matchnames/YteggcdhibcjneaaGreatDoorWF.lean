import Derived.Test.YteggcdhibcjneaaGreatDoorLE
import Derived.Test.YteggcdhibcjneaaGreatDoorVC
set_option maxRecDepth 100000
set_option maxHeartbeats 4000000
namespace Go.Proofs.YteggcdhibcjneaaGreatDoor.Kit
open Go.RowKit Go.Shelf Go.Deep
set_option linter.unusedVariables false
attribute [local go_sem] run_store_func
/-! ### fits 25, Fits 6 -/
theorem gr_past {W V w' : World} {sb : Nat} (g : Gr W V) (k : Keeps V w' (fun k => k = sb)) (h : W.heap.size ≤ sb) : Gr W w' := g.trans k (fun j hj e => by omega)
theorem fits25_walk (f0 : ByteArray) (f1 : Bool) (f2 f3 f4 f5 : Int) (ao : Option Addr) (n ca : Nat) (v0 : Bool) (v1 : Int) (v2 : ByteArray) (vo : Option Addr) (m vc : Nat) (w : World) (r : Int → Option Int)
    (hF : ∀ (V : World) (sb : Nat), Gr w V → w.heap.size ≤ sb → sb < V.heap.size → FitC V sb 162 (.agg #[.string f0, .bool f1, .int .i64 f2, .int .i64 f3, .int .i64 f4, .int .i64 f5, .slice ao n ca]) (.agg #[.bool v0, .int .i64 v1, .string v2, .slice vo m vc]) r) :
    ∀ W, Gr w W → Calls Tryz.prog 146 #[.agg #[.string f0, .bool f1, .int .i64 f2, .int .i64 f3, .int .i64 f4, .int .i64 f5, .slice ao n ca], .agg #[.bool v0, .int .i64 v1, .string v2, .slice vo m vc]] W fun e w' => e = .returned (.bool (r 4194304).isSome) ∧ Gr W w' := by
  intro W g
  obtain ⟨V, hV⟩ : ∃ V, ((W.alloc (.cells #[.string f0, .bool f1, .int .i64 f2, .int .i64 f3, .int .i64 f4, .int .i64 f5, .slice ao n ca] 47)).alloc (.cells #[.bool v0, .int .i64 v1, .string v2, .slice vo m vc] 86)).alloc (.cells #[.int .i64 4194304] 311) = V := ⟨_, rfl⟩
  have gv : Gr W V := by rw [← hV]; exact (((Keeps.refl W _).alloc _).alloc _).alloc _
  have hbx : V.heap[W.heap.size + 1 + 1]? = some (.cells #[.int .i64 4194304] 311) := by
    have h := (alloc3 W (.cells #[.string f0, .bool f1, .int .i64 f2, .int .i64 f3, .int .i64 f4, .int .i64 f5, .slice ao n ca] 47) (.cells #[.bool v0, .int .i64 v1, .string v2, .slice vo m vc] 86) (.cells #[.int .i64 4194304] 311)).2.2.1
    rw [← hV]; exact h
  have HC := hidM (hF V (W.heap.size + 1 + 1) (g.trans gv (fun _ _ h => h)) (by have := g.size; omega) (lt_of_heap hbx) V 4194304 ⟨Keeps.refl _ _, hbx⟩ (by decide) (by decide))
  have HG := hidM gv
  obtain ⟨q, hq⟩ : ∃ q, q = r 4194304 := ⟨_, rfl⟩
  rw [← hq] at HC ⊢
  have HV := hidM hV
  clear hF g gv hbx hq hV
  go_enter Tryz.func146, Tryz.ntmps146
  go_wp2_with (go_at_call 162; refine Hid.out ?_)
  unfold Hid
  rw [HV.out]
  refine Calls.mono HC.out ?_
  rintro e w' ⟨l', rfl, hs, -⟩
  have HE := hidM (gr_past HG.out hs.kp (by omega))
  clear hs
  go_wp2_with fail
  go_ret
  exact ⟨rfl, HE.out⟩
def fitE (mb fb : Bool) : Int := if mb = false then 5 else if fb = false then 7 else 0
theorem fits6_walk (f0 : ByteArray) (f1 : Bool) (f2 f3 f4 f5 : Int) (ao : Option Addr) (n ca : Nat) (v0 : Bool) (v1 : Int) (v2 : ByteArray) (vo : Option Addr) (m vc : Nat) (w : World) (mb fb : Bool)
    (h24 : ∀ W, Gr w W → Calls Tryz.prog 145 #[.agg #[.string f0, .bool f1, .int .i64 f2, .int .i64 f3, .int .i64 f4, .int .i64 f5, .slice ao n ca]] W fun e w' => e = .returned (.bool mb) ∧ Gr W w')
    (h25 : mb = true → ∀ W, Gr w W → Calls Tryz.prog 146 #[.agg #[.string f0, .bool f1, .int .i64 f2, .int .i64 f3, .int .i64 f4, .int .i64 f5, .slice ao n ca], .agg #[.bool v0, .int .i64 v1, .string v2, .slice vo m vc]] W fun e w' => e = .returned (.bool fb) ∧ Gr W w') :
    ∀ W, Gr w W → Calls Tryz.prog 124 #[.agg #[.string f0, .bool f1, .int .i64 f2, .int .i64 f3, .int .i64 f4, .int .i64 f5, .slice ao n ca], .agg #[.bool v0, .int .i64 v1, .string v2, .slice vo m vc]] W fun e w' => e = .returned (.int .i64 (fitE mb fb)) ∧ Gr W w' := by
  intro W g
  have HG := hidM g
  have H24 := hidM h24
  have H25 := hidM h25
  obtain ⟨R, hR⟩ : ∃ R, R = fitE mb fb := ⟨_, rfl⟩
  rw [← hR]
  have HR := hidM hR
  obtain ⟨V, hV⟩ : ∃ V, (W.alloc (.cells #[.string f0, .bool f1, .int .i64 f2, .int .i64 f3, .int .i64 f4, .int .i64 f5, .slice ao n ca] 47)).alloc (.cells #[.bool v0, .int .i64 v1, .string v2, .slice vo m vc] 86) = V := ⟨_, rfl⟩
  have gv : Gr W V := by rw [← hV]; exact ((Keeps.refl W _).alloc _).alloc _
  have hA := alloc3 W (.cells #[.string f0, .bool f1, .int .i64 f2, .int .i64 f3, .int .i64 f4, .int .i64 f5, .slice ao n ca] 47) (.cells #[.bool v0, .int .i64 v1, .string v2, .slice vo m vc] 86) (.cells #[] 86)
  have hb7 : B7 V W.heap.size f0 f1 f2 f3 f4 f5 ao n ca := by
    unfold B7
    rw [← hV]
    exact (Below.heap_alloc (W.alloc _) _ W.heap.size (by simp)).trans (heap_alloc_new W _)
  have hb4 : B4 V (W.heap.size + 1) v0 v1 v2 vo m vc := by
    unfold B4
    rw [← hV]
    have e := heap_alloc_new (W.alloc (.cells #[.string f0, .bool f1, .int .i64 f2, .int .i64 f3, .int .i64 f4, .int .i64 f5, .slice ao n ca] 47)) (.cells #[.bool v0, .int .i64 v1, .string v2, .slice vo m vc] 86)
    rw [show (W.alloc (.cells #[.string f0, .bool f1, .int .i64 f2, .int .i64 f3, .int .i64 f4, .int .i64 f5, .slice ao n ca] 47)).heap.size = W.heap.size + 1 by simp] at e
    exact e
  have H7 := hidM hb7
  have H4 := hidM hb4
  have HV := hidM hV
  have HGv := hidM gv
  clear h24 h25 g hR hV gv hA hb7 hb4
  go_enter Tryz.func124, Tryz.ntmps124
  go_wp2_with (go_at_call 145; refine Hid.out ?_)
  unfold Hid
  rw [HV.out]
  refine Calls.mono (H24.out _ (HG.out.trans HGv.out (fun _ _ h => h))) ?_
  rintro e V1 ⟨rfl, hg1⟩
  obtain ⟨p0, p1, p2, p3, p4, p5, p6⟩ := B7.cells ((hg1.block _ (lt_of_heap H7.out) id).trans H7.out)
  obtain ⟨q0, q1, q2, q3⟩ := B4.cells ((hg1.block _ (lt_of_heap H4.out) id).trans H4.out)
  have HG1 := hidM (HGv.out.trans hg1 (fun _ _ h => h))
  clear hg1
  cases mb with
  | false =>
    have HX : Hid (R = 5) := HR.out
    go_wp2_with fail
    go_ret
    exact ⟨by rw [HX.out]; rfl, HG1.out⟩
  | true =>
    go_wp2_with (go_at_call 146; refine Hid.out ?_)
    unfold Hid
    refine Calls.mono (H25.out (by trivial) _ (HG.out.trans HG1.out (fun _ _ h => h))) ?_
    rintro e V2 ⟨rfl, hg2⟩
    have HG2 := hidM (HG1.out.trans hg2 (fun _ _ h => h))
    clear hg2 p0 p1 p2 p3 p4 p5 p6 q0 q1 q2 q3
    cases fb with
    | false =>
      have HX : Hid (R = 7) := HR.out
      go_wp2_with fail
      go_ret
      exact ⟨by rw [HX.out]; rfl, HG2.out⟩
    | true =>
      have HX : Hid (R = 0) := HR.out
      go_wp2_with fail
      go_ret
      exact ⟨by rw [HX.out]; rfl, HG2.out⟩
end Go.Proofs.YteggcdhibcjneaaGreatDoor.Kit
namespace Go.Proofs.YteggcdhibcjneaaGreatDoor.Kit
open Go.RowKit Go.Shelf Go.Deep
set_option linter.unusedVariables false
set_option linter.unusedSimpArgs false
/-! ### a field of numbers, and its values -/
/-- a field without children -/
def leafF (nm : ByteArray) (nu : Bool) (k : Int) : FT := .mk nm nu k 0 0 0 []
def fitN (nu : Bool) (k : Int) (vn : Bool) (x : Int) : Bool := if vn = true then nu && (x == 0) else numB k x
section
variable {w : World} {nm : ByteArray} {nu : Bool} {k : Int} {ao : Option Addr} {ca : Nat}
theorem leaf_tells (hT : Tab w) (hr : AllR (nodes (0 + 1) [leafF nm nu k] [] false)) : ∃ tt, Tells w 86 (.agg #[.string nm, .bool nu, .int .i64 k, .int .i64 0, .int .i64 0, .int .i64 0, .slice ao 0 ca]) 0 [] tt := by
  have hF : FaultIs (0, 0) (nodes (0 + 1) [leafF nm nu k] [] false) 0 [] 0 := .inr (.inl ⟨rfl, hr, rfl, rfl, rfl⟩)
  refine ⟨0, fun W g => ?_⟩
  refine Calls.mono (checkField_any (fun _ => False) 0 (leafF nm nu k) ao ca W (hT.gr g) rfl (Nat.zero_le _) (by decide) (fun b hb => hb.elim)) ?_
  rintro e w' ⟨er', p', vo, vc, tt', rfl, hg, h1, h2⟩
  obtain ⟨rfl, hp, rfl⟩ := hF.one h1
  rw [← hp] at h2 ⊢
  exact ⟨vo, vc, rfl, hg, h2⟩
theorem leaf_may (hT : Tab w) (hr : AllR (nodes (0 + 1) [leafF nm nu k] [] false)) :
    ∀ W, Gr w W → Calls Tryz.prog 145 #[.agg #[.string nm, .bool nu, .int .i64 k, .int .i64 0, .int .i64 0, .int .i64 0, .slice ao 0 ca]] W fun e w' => e = .returned (.bool true) ∧ Gr W w' := by
  obtain ⟨tt, h⟩ := leaf_tells (ao := ao) (ca := ca) hT hr
  exact mayBe_any h
theorem leaf_fits (hT : Tab w) (hr : AllR (nodes (0 + 1) [leafF nm nu k] [] false)) (hk : 1 ≤ k ∧ k ≤ 11) (vn : Bool) (x : Int) (vo : Option Addr) (vc : Nat) :
    ∀ W, Gr w W → Calls Tryz.prog 124 #[.agg #[.string nm, .bool nu, .int .i64 k, .int .i64 0, .int .i64 0, .int .i64 0, .slice ao 0 ca], .agg #[.bool vn, .int .i64 x, .string ⟨#[]⟩, .slice vo 0 vc]] W fun e w' => e = .returned (.int .i64 (fitE true (fitN nu k vn x))) ∧ Gr W w' := by
  refine fits6_walk _ _ _ _ _ _ _ _ _ _ _ _ _ _ _ w true (fitN nu k vn x) (leaf_may hT hr) (fun _ => ?_)
  have h := fits25_walk nm nu k 0 0 0 ao 0 ca vn x ⟨#[]⟩ vo 0 vc w (fun l => if (16 : Int) ≤ l then (if fitN nu k vn x = true then some (l - 16) else none) else none) (fun V sb g hsb hlt => ?_)
  · have e : ((fun l => if (16 : Int) ≤ l then (if fitN nu k vn x = true then some (l - 16) else none) else none : Int → Option Int) 4194304).isSome = fitN nu k vn x := by
      cases fitN nu k vn x <;> rfl
    intro W g
    have h' := h W g
    rw [e] at h'
    exact h'
  · have h0 : FitC V sb 174 (.agg #[.string nm, .bool nu, .int .i64 k, .int .i64 0, .int .i64 0, .int .i64 0, .slice ao 0 ca]) (.agg #[.bool vn, .int .i64 x, .string ⟨#[]⟩, .slice vo 0 vc]) (fun l => if fitN nu k vn x = true then some l else none) := by
      intro W l hs h0 h1
      cases vn with
      | true => exact type_null nm nu k 0 0 0 ao 0 ca x ⟨#[]⟩ vo 0 vc V W sb l _ (x == 0) true true rfl (by simp [ByteArray.toList_eq]) rfl hs (by simp [fitN])
      | false => exact type_num nm nu k 0 0 0 ao 0 ca x ⟨#[]⟩ vo 0 vc V W sb l _ (x == 0) true true rfl (by simp [ByteArray.toList_eq]) rfl hs hk (numB k x) rfl (by simp [fitN])
    have h2 := fits_walk nm nu k 0 0 0 ao 0 ca vn x ⟨#[]⟩ vo 0 vc V sb _ (by decide) h0
    have e : (fun l => if (16 + (⟨#[]⟩ : ByteArray).size : Int) ≤ l then (if fitN nu k vn x = true then some (l - (16 + (⟨#[]⟩ : ByteArray).size : Int)) else none) else none : Int → Option Int) = (fun l => if (16 : Int) ≤ l then (if fitN nu k vn x = true then some (l - 16) else none) else none) := rfl
    rw [← e]
    exact h2
end
end Go.Proofs.YteggcdhibcjneaaGreatDoor.Kit
