import Derived.Test.YtcfdkadhclickaaDoorXM
import Derived.Test.YtcfdkadhclickaaDoorXN
import Derived.Test.YtcfdkadhclickaaDoorXV
namespace Go.Proofs.YtcfdkadhclickaaDoor.Kit
open Go.RowKit Go.Shelf Go.Deep
set_option linter.unusedVariables false
attribute [local go_sem] run_store_func

/-! ### the document's fits 49, kind by kind -/
set_option maxRecDepth 100000 in
set_option maxHeartbeats 2000000 in
theorem doc_null (f0 : ByteArray) (f1 : Bool) (f2 : Int) (f3 f4 f5 : Int) (ao : Option Addr) (n ca : Nat) (v1 : Int) (v2 : ByteArray) (vo : Option Addr) (m vc : Nat) (w : World) (x : Bool) (b1 b2 b3 : Bool) (hb1 : (v1 == 0) = b1) (hb2 : v2.toList.isEmpty = b2) (hb3 : ((m : Int) == 0) = b3) (h72 : Ans 72 #[.agg #[.string f0, .bool f1, .int .i64 f2, .int .i64 f3, .int .i64 f4, .int .i64 f5, .slice ao n ca]] f1 w) (hx : x = (f1 && b1 && b2 && b3)) :
    Ans 49 #[.agg #[.string f0, .bool f1, .int .i64 f2, .int .i64 f3, .int .i64 f4, .int .i64 f5, .slice ao n ca], .agg #[.bool true, .int .i64 v1, .string v2, .slice vo m vc]] x w := by
  intro W g
  have HG : Hid (∀ a b c, Gr W (((W.alloc a).alloc b).alloc c)) := fun a b c => ((gr_alloc W a).alloc b).alloc c
  have HC := hidM (h72.gr g)
  clear h72 g
  cases f1 <;> cases b1 <;> cases b2 <;> cases b3 <;> simp only [Bool.and_true, Bool.and_false] at hx
  all_goals
    have HX := hidM hx
    clear hx
    go_enter Tryd.func49, Tryd.ntmps49
    go_wp2_with (go_at_call 72; refine Hid.out ?_)
    unfold Hid
    refine Calls.mono (HC.out _ (HG.out _ _ _)) ?_
    rintro e w2 ⟨rfl, hg2⟩
    have HE := hidM hg2
    obtain ⟨p0, p1, p2, p3⟩ := B4.cells ((hg2.block _ (lt_of_heap (alloc3 W _ _ _).2.1) id).trans (alloc3 W _ _ _).2.1)
    clear hg2
    go_wp2_with fail
    all_goals go_ret
    all_goals exact ⟨by rw [HX.out]; rfl, (HG.out _ _ _).trans HE.out (fun _ _ h => h)⟩
set_option maxRecDepth 100000 in
set_option maxHeartbeats 2000000 in
theorem doc_num (f0 : ByteArray) (f1 : Bool) (f2 : Int) (f3 f4 f5 : Int) (ao : Option Addr) (n ca : Nat) (v1 : Int) (v2 : ByteArray) (vo : Option Addr) (m vc : Nat) (w : World) (x : Bool) (b1 b2 b3 : Bool) (hb1 : (v1 == 0) = b1) (hb2 : v2.toList.isEmpty = b2) (hb3 : ((m : Int) == 0) = b3) (hk : 2 ≤ f2 ∧ f2 ≤ 11) (nb : Bool) (hnb : numB f2 v1 = nb) (hx : x = (nb && b2 && b3)) :
    Ans 49 #[.agg #[.string f0, .bool f1, .int .i64 f2, .int .i64 f3, .int .i64 f4, .int .i64 f5, .slice ao n ca], .agg #[.bool false, .int .i64 v1, .string v2, .slice vo m vc]] x w := by
  intro W g
  have HG : Hid (∀ a b c, Gr W (((W.alloc a).alloc b).alloc c)) := fun a b c => ((gr_alloc W a).alloc b).alloc c
  have H73 : Hid (∀ W', Calls Tryd.prog 73 #[.int .i64 f2] W' fun e w' => e = .returned (.bool true) ∧ W' = w') := fun W' => by have := number73 f2 (by omega) W'; rw [show (decide (2 ≤ f2) && decide (f2 ≤ 11)) = true by simp; omega] at this; exact this
  have H74 : Hid (∀ W', Calls Tryd.prog 74 #[.int .i64 f2, .int .i64 v1] W' fun e w' => e = .returned (.bool nb) ∧ W' = w') := fun W' => by rw [← hnb]; exact ranged74 f2 v1 hk W'
  clear hk hnb
  clear g
  cases nb <;> cases b2 <;> cases b3 <;> simp only [Bool.and_true, Bool.and_false] at hx
  all_goals
    have HX := hidM hx
    clear hx
    go_enter Tryd.func49, Tryd.ntmps49
    go_wp2_with (first | (go_at_call 73; refine (H73.out _).mono ?_; rintro e w' ⟨rfl, rfl⟩) | (go_at_call 74; refine (H74.out _).mono ?_; rintro e w' ⟨rfl, rfl⟩))
    all_goals go_ret
    all_goals exact ⟨by rw [HX.out]; rfl, HG.out _ _ _⟩
set_option maxRecDepth 100000 in
set_option maxHeartbeats 2000000 in
theorem doc12 (f0 : ByteArray) (f1 : Bool) (f3 f4 f5 : Int) (ao : Option Addr) (n ca : Nat) (v1 : Int) (v2 : ByteArray) (vo : Option Addr) (m vc : Nat) (w : World) (x : Bool) (b1 b2 b3 : Bool) (hb1 : (v1 == 0) = b1) (hb2 : v2.toList.isEmpty = b2) (hb3 : ((m : Int) == 0) = b3) (hz : v2.size ≤ 1000000000000) (vb : Bool) (hvb : Lib.validD v2.data.toList = vb) (hx : x = (vb && b1 && b3)) :
    Ans 49 #[.agg #[.string f0, .bool f1, .int .i64 12, .int .i64 f3, .int .i64 f4, .int .i64 f5, .slice ao n ca], .agg #[.bool false, .int .i64 v1, .string v2, .slice vo m vc]] x w := by
  intro W g
  have HG : Hid (∀ a b c, Gr W (((W.alloc a).alloc b).alloc c)) := fun a b c => ((gr_alloc W a).alloc b).alloc c
  have H73 : Hid (∀ W', Calls Tryd.prog 73 #[.int .i64 12] W' fun e w' => e = .returned (.bool false) ∧ W' = w') := fun W' => number73 12 (by decide) W'
  have H75 : Hid (∀ W', Calls Tryd.prog 75 #[.string v2] W' fun e w' => e = .returned (.bool vb) ∧ W' = w') := fun W' => by rw [← hvb]; exact letters75 v2 hz W'
  clear hz hvb
  clear g
  cases vb <;> cases b1 <;> cases b3 <;> simp only [Bool.and_true, Bool.and_false] at hx
  all_goals
    have HX := hidM hx
    clear hx
    go_enter Tryd.func49, Tryd.ntmps49
    go_wp2_with (first | (go_at_call 73; refine (H73.out _).mono ?_; rintro e w' ⟨rfl, rfl⟩) | (go_at_call 75; refine (H75.out _).mono ?_; rintro e w' ⟨rfl, rfl⟩))
    all_goals go_ret
    all_goals exact ⟨by rw [HX.out]; rfl, HG.out _ _ _⟩
set_option maxRecDepth 100000 in
set_option maxHeartbeats 2000000 in
theorem doc13 (f0 : ByteArray) (f1 : Bool) (f3 f4 f5 : Int) (ao : Option Addr) (n ca : Nat) (v1 : Int) (v2 : ByteArray) (vo : Option Addr) (m vc : Nat) (w : World) (x : Bool) (b1 b2 b3 : Bool) (hb1 : (v1 == 0) = b1) (hb2 : v2.toList.isEmpty = b2) (hb3 : ((m : Int) == 0) = b3) (hx : x = (b1 && b3)) :
    Ans 49 #[.agg #[.string f0, .bool f1, .int .i64 13, .int .i64 f3, .int .i64 f4, .int .i64 f5, .slice ao n ca], .agg #[.bool false, .int .i64 v1, .string v2, .slice vo m vc]] x w := by
  intro W g
  have HG : Hid (∀ a b c, Gr W (((W.alloc a).alloc b).alloc c)) := fun a b c => ((gr_alloc W a).alloc b).alloc c
  have H73 : Hid (∀ W', Calls Tryd.prog 73 #[.int .i64 13] W' fun e w' => e = .returned (.bool false) ∧ W' = w') := fun W' => number73 13 (by decide) W'
  clear g
  cases b1 <;> cases b3 <;> simp only [Bool.and_true, Bool.and_false] at hx
  all_goals
    have HX := hidM hx
    clear hx
    go_enter Tryd.func49, Tryd.ntmps49
    go_wp2_with (first | (go_at_call 73; refine (H73.out _).mono ?_; rintro e w' ⟨rfl, rfl⟩))
    all_goals go_ret
    all_goals exact ⟨by rw [HX.out]; rfl, HG.out _ _ _⟩
set_option maxRecDepth 100000 in
set_option maxHeartbeats 2000000 in
theorem doc14 (f0 : ByteArray) (f1 : Bool) (f3 f4 f5 : Int) (ao : Option Addr) (n ca : Nat) (v1 : Int) (v2 : ByteArray) (vo : Option Addr) (m vc : Nat) (w : World) (x : Bool) (b1 b2 b3 : Bool) (hb1 : (v1 == 0) = b1) (hb2 : v2.toList.isEmpty = b2) (hb3 : ((m : Int) == 0) = b3) (b4 : Bool) (hb4 : ((v2.size : Int) == f3) = b4) (hx : x = (b1 && b3 && b4)) :
    Ans 49 #[.agg #[.string f0, .bool f1, .int .i64 14, .int .i64 f3, .int .i64 f4, .int .i64 f5, .slice ao n ca], .agg #[.bool false, .int .i64 v1, .string v2, .slice vo m vc]] x w := by
  intro W g
  have HG : Hid (∀ a b c, Gr W (((W.alloc a).alloc b).alloc c)) := fun a b c => ((gr_alloc W a).alloc b).alloc c
  have H73 : Hid (∀ W', Calls Tryd.prog 73 #[.int .i64 14] W' fun e w' => e = .returned (.bool false) ∧ W' = w') := fun W' => number73 14 (by decide) W'
  clear g
  cases b1 <;> cases b3 <;> cases b4 <;> simp only [Bool.and_true, Bool.and_false] at hx
  all_goals
    have HX := hidM hx
    clear hx
    go_enter Tryd.func49, Tryd.ntmps49
    go_wp2_with (first | (go_at_call 73; refine (H73.out _).mono ?_; rintro e w' ⟨rfl, rfl⟩))
    all_goals go_ret
    all_goals exact ⟨by rw [HX.out]; rfl, HG.out _ _ _⟩
end Go.Proofs.YtcfdkadhclickaaDoor.Kit
