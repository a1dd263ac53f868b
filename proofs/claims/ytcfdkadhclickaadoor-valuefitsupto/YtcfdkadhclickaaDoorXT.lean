import Derived.Test.YtcfdkadhclickaaDoorXR
namespace Go.Proofs.YtcfdkadhclickaaDoor.Kit
open Go.RowKit Go.Shelf Go.Deep
set_option linter.unusedVariables false
attribute [local go_sem] run_store_func

set_option maxRecDepth 100000 in
set_option maxHeartbeats 2000000 in
theorem list76_no15 (f3 f4 f5 : Int) (ao : Option Addr) (n ca : Nat) (v0 : Bool) (v1 : Int) (v2 : ByteArray) (vo : Option Addr) (m vc : Nat) (w : World) (b1 : Bool) (hb1 : (v1 == 0) = b1) (c : Bool) (hc : decide ((4096 : Int) < (m : Int)) = c) (h : (c || !b1) = true) :
    Ans 76 #[.agg #[.int .i64 15, .int .i64 f3, .int .i64 f4, .int .i64 f5, .slice ao n ca], .agg #[.bool v0, .int .i64 v1, .string v2, .slice vo m vc]] false w := by
  intro W g
  have HG : Hid (∀ a b, Gr W ((W.alloc a).alloc b)) := fun a b => (gr_alloc W a).alloc b
  clear g
  cases c <;> cases b1
  case false.true => exact absurd h (by decide)
  all_goals
    clear h
    go_enter Tryd.func76, Tryd.ntmps76
    go_wp2
    all_goals go_ret
    all_goals first | exact ⟨rfl, HG.out _ _⟩ | (exfalso; simp_all; done)
set_option maxRecDepth 100000 in
set_option maxHeartbeats 2000000 in
theorem list76_no16 (f3 f4 f5 : Int) (ao : Option Addr) (n ca : Nat) (v0 : Bool) (v1 : Int) (v2 : ByteArray) (vo : Option Addr) (m vc : Nat) (w : World) (b1 : Bool) (hb1 : (v1 == 0) = b1) (c : Bool) (hc : ((m : Int) == f3) = !c) (h : (c || !b1) = true) :
    Ans 76 #[.agg #[.int .i64 16, .int .i64 f3, .int .i64 f4, .int .i64 f5, .slice ao n ca], .agg #[.bool v0, .int .i64 v1, .string v2, .slice vo m vc]] false w := by
  intro W g
  have HG : Hid (∀ a b, Gr W ((W.alloc a).alloc b)) := fun a b => (gr_alloc W a).alloc b
  clear g
  cases c <;> cases b1
  case false.true => exact absurd h (by decide)
  all_goals
    have hc' := hc
    simp only [Bool.not_true, Bool.not_false] at hc'
    clear h hc
    go_enter Tryd.func76, Tryd.ntmps76
    go_wp2
    all_goals go_ret
    all_goals first | exact ⟨rfl, HG.out _ _⟩ | (exfalso; simp_all; done)
set_option maxRecDepth 100000 in
set_option maxHeartbeats 2000000 in
theorem list76_no17 (f3 f4 f5 : Int) (ao : Option Addr) (n ca : Nat) (v0 : Bool) (v1 : Int) (v2 : ByteArray) (vo : Option Addr) (m vc : Nat) (w : World) (b1 : Bool) (hb1 : (v1 == 0) = b1) (c : Bool) (hc : ((m : Int) == (n : Int)) = !c) (h : (c || !b1) = true) :
    Ans 76 #[.agg #[.int .i64 17, .int .i64 f3, .int .i64 f4, .int .i64 f5, .slice ao n ca], .agg #[.bool v0, .int .i64 v1, .string v2, .slice vo m vc]] false w := by
  intro W g
  have HG : Hid (∀ a b, Gr W ((W.alloc a).alloc b)) := fun a b => (gr_alloc W a).alloc b
  clear g
  cases c <;> cases b1
  case false.true => exact absurd h (by decide)
  all_goals
    have hc' := hc
    simp only [Bool.not_true, Bool.not_false] at hc'
    clear h hc
    go_enter Tryd.func76, Tryd.ntmps76
    go_wp2
    all_goals go_ret
    all_goals first | exact ⟨rfl, HG.out _ _⟩ | (exfalso; simp_all; done)
set_option maxRecDepth 100000 in
set_option maxHeartbeats 2000000 in
theorem doc_list (f0 : ByteArray) (f1 : Bool) (f2 f3 f4 f5 : Int) (ao : Option Addr) (n ca : Nat) (v1 : Int) (v2 : ByteArray) (vo : Option Addr) (m vc : Nat) (w : World) (x r : Bool) (hk : f2 = 15 ∨ f2 = 16 ∨ f2 = 17 ∨ f2 = 18 ∨ f2 = 1) (b2 : Bool) (hb2 : v2.toList.isEmpty = b2)
    (hF : Ans 76 #[.agg #[.int .i64 f2, .int .i64 f3, .int .i64 f4, .int .i64 f5, .slice ao n ca], .agg #[.bool false, .int .i64 v1, .string v2, .slice vo m vc]] r w) (hx : x = (b2 && r)) :
    Ans 49 #[.agg #[.string f0, .bool f1, .int .i64 f2, .int .i64 f3, .int .i64 f4, .int .i64 f5, .slice ao n ca], .agg #[.bool false, .int .i64 v1, .string v2, .slice vo m vc]] x w := by
  intro W g
  have HG : Hid (∀ a b c, Gr W (((W.alloc a).alloc b).alloc c)) := fun a b c => ((gr_alloc W a).alloc b).alloc c
  have H73 : Hid (∀ W', Calls Tryd.prog 73 #[.int .i64 f2] W' fun e w' => e = .returned (.bool false) ∧ W' = w') := fun W' => by have := number73 f2 (by omega) W'; rw [show (decide (2 ≤ f2) && decide (f2 ≤ 11)) = false by simp; omega] at this; exact this
  have HC := hidM (hF.gr g)
  clear hF g
  rcases hk with rfl | rfl | rfl | rfl | rfl
  all_goals
    cases b2
    all_goals
      have HX := hidM hx
      go_enter Tryd.func49, Tryd.ntmps49
      go_wp2_with (first | (go_at_call 73; refine (H73.out _).mono ?_; rintro e w' ⟨rfl, rfl⟩) | (go_at_call 76; refine (HC.out _ (HG.out _ _ _)).mono ?_; rintro e w' ⟨rfl, hg⟩; replace hg := hidM hg))
      all_goals go_ret
      all_goals first | exact ⟨by rw [HX.out]; simp, (HG.out _ _ _).trans hg.out (fun _ _ h => h)⟩ | exact ⟨by rw [HX.out]; simp, HG.out _ _ _⟩
end Go.Proofs.YtcfdkadhclickaaDoor.Kit
