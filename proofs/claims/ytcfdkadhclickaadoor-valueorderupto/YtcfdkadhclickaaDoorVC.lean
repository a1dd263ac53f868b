import Derived.Test.YtcfdkadhclickaaDoorVB
import Derived.Test.YtcfdkadhclickaaDoorLP
namespace Go.Proofs.YtcfdkadhclickaaDoor.Kit
open Go.RowKit Go.Shelf Go.Deep
set_option linter.unusedVariables false
attribute [local go_sem] run_store_func

/-! ### leaves of the order -/
set_option maxRecDepth 100000 in
theorem nan64_any (x : Int) (w : World) : Calls Tryd.prog 87 #[.int .i64 x] w fun e w' => e = .returned (.bool false) ∧ w = w' := by
  go_enter Tryd.func87, Tryd.ntmps87
  go_wp2_with fail
  go_ret
  exact ⟨rfl, rfl⟩
set_option maxRecDepth 100000 in
theorem nanU_any (x : Int) (w : World) : Calls Tryd.prog 86 #[.int .u64 x] w fun e w' => e = .returned (.bool false) ∧ w = w' := by
  go_enter Tryd.func86, Tryd.ntmps86
  go_wp2_with fail
  go_ret
  exact ⟨rfl, rfl⟩
set_option maxRecDepth 100000 in
theorem cmp64_any (a b : Int) (w : World) : Calls Tryd.prog 59 #[.int .i64 a, .int .i64 b] w fun e w' => e = .returned (.int .i64 (cmpI a b)) ∧ w = w' := by
  have hn := fun x w => nan64_any x w
  by_cases c1 : a < b
  · have HE : Hid (cmpI a b = -1) := by show _ = _; unfold cmpI; rw [if_pos c1]
    go_enter Tryd.func59, Tryd.ntmps59
    go_wp2_with (go_at_call 87; refine (hn _ _).mono ?_; rintro e w' ⟨rfl, rfl⟩)
    go_ret
    exact ⟨by rw [HE.out]; rfl, rfl⟩
  by_cases c2 : b < a
  · have HE : Hid (cmpI a b = 1) := by show _ = _; unfold cmpI; rw [if_neg c1, if_pos c2]
    go_enter Tryd.func59, Tryd.ntmps59
    go_wp2_with (go_at_call 87; refine (hn _ _).mono ?_; rintro e w' ⟨rfl, rfl⟩)
    go_ret
    exact ⟨by rw [HE.out]; rfl, rfl⟩
  have HE : Hid (cmpI a b = 0) := by show _ = _; unfold cmpI; rw [if_neg c1, if_neg c2]
  go_enter Tryd.func59, Tryd.ntmps59
  go_wp2_with (go_at_call 87; refine (hn _ _).mono ?_; rintro e w' ⟨rfl, rfl⟩)
  go_ret
  exact ⟨by rw [HE.out]; rfl, rfl⟩
set_option maxRecDepth 100000 in
theorem cmpU_any (a b : Int) (w : World) : Calls Tryd.prog 58 #[.int .u64 a, .int .u64 b] w fun e w' => e = .returned (.int .i64 (cmpI a b)) ∧ w = w' := by
  have hn := fun x w => nanU_any x w
  by_cases c1 : a < b
  · have HE : Hid (cmpI a b = -1) := by show _ = _; unfold cmpI; rw [if_pos c1]
    go_enter Tryd.func58, Tryd.ntmps58
    go_wp2_with (go_at_call 86; refine (hn _ _).mono ?_; rintro e w' ⟨rfl, rfl⟩)
    go_ret
    exact ⟨by rw [HE.out]; rfl, rfl⟩
  by_cases c2 : b < a
  · have HE : Hid (cmpI a b = 1) := by show _ = _; unfold cmpI; rw [if_neg c1, if_pos c2]
    go_enter Tryd.func58, Tryd.ntmps58
    go_wp2_with (go_at_call 86; refine (hn _ _).mono ?_; rintro e w' ⟨rfl, rfl⟩)
    go_ret
    exact ⟨by rw [HE.out]; rfl, rfl⟩
  have HE : Hid (cmpI a b = 0) := by show _ = _; unfold cmpI; rw [if_neg c1, if_neg c2]
  go_enter Tryd.func58, Tryd.ntmps58
  go_wp2_with (go_at_call 86; refine (hn _ _).mono ?_; rintro e w' ⟨rfl, rfl⟩)
  go_ret
  exact ⟨by rw [HE.out]; rfl, rfl⟩
/-! ### may a field be -/
set_option maxRecDepth 100000 in
set_option maxHeartbeats 1000000 in
theorem mayBe_any {f0 : ByteArray} {f1 : Bool} {f2 f3 f4 f5 : Int} {ao : Option Addr} {n ca : Nat} {w : World} {er : Int} {p : List Nat} {tt : Int} (h : Tells w 46 (.agg #[.string f0, .bool f1, .int .i64 f2, .int .i64 f3, .int .i64 f4, .int .i64 f5, .slice ao n ca]) er p tt) :
    ∀ W, Gr w W → Calls Tryd.prog 24 #[.agg #[.string f0, .bool f1, .int .i64 f2, .int .i64 f3, .int .i64 f4, .int .i64 f5, .slice ao n ca]] W fun e w' => e = .returned (.bool (er == 0)) ∧ Gr W w' := by
  intro W g
  have hfl : ∀ vo vn vc w, (Instr.field 72 (.agg #[.int .i64 er, .slice vo vn vc, .int .i64 tt]) 0).run Tryd.prog w = .ok (.int .i64 er) w := fun vo vn vc w => by kernel_rfl
  have gA := gr_alloc W (.cells #[.string f0, .bool f1, .int .i64 f2, .int .i64 f3, .int .i64 f4, .int .i64 f5, .slice ao n ca] 26)
  have HC := hidM (h _ (g.trans gA (fun _ _ h => h)))
  have HG := hidM gA
  obtain ⟨q, hq⟩ : ∃ q, q = (er == 0) := ⟨_, rfl⟩
  rw [← hq]
  have hq' := hq.symm
  clear h gA g hq
  go_enter Tryd.func24, Tryd.ntmps24
  go_wp2_with (go_at_call 46; refine Hid.out ?_)
  unfold Hid
  refine Calls.mono HC.out ?_
  rintro e w' ⟨vo, vc, rfl, hg, -⟩
  have HG2 := hidM (HG.out.trans hg (fun _ _ h => h))
  clear hg
  go_wp2_with fail
  go_ret
  exact ⟨rfl, HG2.out⟩
end Go.Proofs.YtcfdkadhclickaaDoor.Kit
