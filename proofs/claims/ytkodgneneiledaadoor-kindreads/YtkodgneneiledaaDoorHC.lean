import Derived.Test.YtkodgneneiledaaDoorHB
namespace Go.Proofs.YtkodgneneiledaaDoor.Kit
open Go.RowKit Go.Shelf Go.Deep
set_option linter.unusedVariables false
attribute [local go_sem] run_store_func

set_option maxRecDepth 100000 in
set_option maxHeartbeats 2000000 in
theorem equalFunc_nil (ao bo : Option Addr) (ca cb : Nat) (fv : Value) (w : World) :
    Calls Tryd.prog 45 #[.slice ao 0 ca, .slice bo 0 cb, fv] w fun e w' => e = .returned (.bool true) ∧ w' = w := by
  go_enter Tryd.func45, Tryd.ntmps45
  go_wp2
  go_loopw [17] (fun i wr => i = .int .i64 0 ∧ wr = w) (fun _ _ => 0)
  case atStart => exact ⟨rfl, rfl⟩
  case round =>
    obtain ⟨rfl, rfl⟩ := hrel
    go_wp2
    go_ret
    exact ⟨rfl, rfl⟩
set_option maxRecDepth 100000 in
set_option maxHeartbeats 2000000 in
theorem sameTypes_nil (k d i x : Int) (ao bo : Option Addr) (ca cb : Nat) (w : World) :
    Calls Tryd.prog 24 #[.agg #[.int .i64 k, .int .i64 d, .int .i64 i, .int .i64 x, .slice ao 0 ca], .agg #[.int .i64 k, .int .i64 d, .int .i64 i, .int .i64 x, .slice bo 0 cb]] w fun e w' => e = .returned (.bool true) ∧ Gr w w' := by
  go_enter Tryd.func24, Tryd.ntmps24
  have hq := fun fv w => equalFunc_nil ao bo ca cb fv w
  go_wp2_with (go_at_call 45; refine (hq _ _).mono ?_; rintro e w' ⟨rfl, rfl⟩)
  go_ret
  exact ⟨rfl, (gr_alloc w _).alloc _⟩
set_option maxRecDepth 100000 in
set_option maxHeartbeats 2000000 in
theorem alikeFields_walk (f0 g0 : ByteArray) (f1 : Bool) (k d i x : Int) (ao bo : Option Addr) (ca cb : Nat) (w : World)
    (hf : ∀ W, Gr w W → Calls Tryd.prog 23 #[.agg #[.string f0, .bool f1, .int .i64 k, .int .i64 d, .int .i64 i, .int .i64 x, .slice ao 0 ca]] W fun e w' => e = .returned (.bool true) ∧ Gr W w')
    (hg : ∀ W, Gr w W → Calls Tryd.prog 23 #[.agg #[.string g0, .bool f1, .int .i64 k, .int .i64 d, .int .i64 i, .int .i64 x, .slice bo 0 cb]] W fun e w' => e = .returned (.bool true) ∧ Gr W w') :
    ∀ W, Gr w W → Calls Tryd.prog 12 #[.agg #[.string f0, .bool f1, .int .i64 k, .int .i64 d, .int .i64 i, .int .i64 x, .slice ao 0 ca], .agg #[.string g0, .bool f1, .int .i64 k, .int .i64 d, .int .i64 i, .int .i64 x, .slice bo 0 cb]] W fun e w' => e = .returned (.bool true) ∧ Gr W w' := by
  intro W g
  obtain ⟨W0, hW0⟩ : ∃ W0, (W.alloc (.cells #[.string f0, .bool f1, .int .i64 k, .int .i64 d, .int .i64 i, .int .i64 x, .slice ao 0 ca] 41)).alloc (.cells #[.string g0, .bool f1, .int .i64 k, .int .i64 d, .int .i64 i, .int .i64 x, .slice bo 0 cb] 41) = W0 := ⟨_, rfl⟩
  have hg0 : Gr W W0 := by rw [← hW0]; exact (gr_alloc W _).alloc _
  have x1 : W0.heap[W.heap.size]? = some (.cells #[.string f0, .bool f1, .int .i64 k, .int .i64 d, .int .i64 i, .int .i64 x, .slice ao 0 ca] 41) := by
    rw [← hW0]; exact (Below.heap_alloc _ _ _ (by simp)).trans (World.alloc_heap_new W _)
  have x2 : W0.heap[W.heap.size + 1]? = some (.cells #[.string g0, .bool f1, .int .i64 k, .int .i64 d, .int .i64 i, .int .i64 x, .slice bo 0 cb] 41) := by
    rw [← hW0]
    have := World.alloc_heap_new (W.alloc (.cells #[.string f0, .bool f1, .int .i64 k, .int .i64 d, .int .i64 i, .int .i64 x, .slice ao 0 ca] 41)) (.cells #[.string g0, .bool f1, .int .i64 k, .int .i64 d, .int .i64 i, .int .i64 x, .slice bo 0 cb] 41)
    rw [World.size_alloc] at this
    exact this
  have HF : Hid (∀ W', Gr W W' → Calls Tryd.prog 23 #[.agg #[.string f0, .bool f1, .int .i64 k, .int .i64 d, .int .i64 i, .int .i64 x, .slice ao 0 ca]] W' fun e w' => e = .returned (.bool true) ∧ Gr W' w') := fun W' g' => hf W' (g.trans g' (fun _ _ h => h))
  have HG : Hid (∀ W', Gr W W' → Calls Tryd.prog 23 #[.agg #[.string g0, .bool f1, .int .i64 k, .int .i64 d, .int .i64 i, .int .i64 x, .slice bo 0 cb]] W' fun e w' => e = .returned (.bool true) ∧ Gr W' w') := fun W' g' => hg W' (g.trans g' (fun _ _ h => h))
  obtain ⟨a0, a1, a2, a3, a4, a5, a6⟩ := cell7 x1
  obtain ⟨b0, b1, b2, b3, b4, b5, b6⟩ := cell7 x2
  have HX := hidM (And.intro x1 (And.intro x2 hg0))
  clear hf hg g x1 x2 hg0
  simp only [Nat.zero_add] at a1 a2 a3 a4 a5 a6 b1 b2 b3 b4 b5 b6
  go_enter Tryd.func12, Tryd.ntmps12
  go_wp2_with (go_at_call 23; refine Hid.out ?_)
  unfold Hid
  refine Calls.mono (HF.out _ HX.out.2.2) ?_
  rintro e W1 ⟨rfl, hg1⟩
  clear a0 a1 a2 a3 a4 a5 a6 b0 b1 b2 b3 b4 b5 b6 hW0
  have x1 := (hg1.block _ (lt_of_heap HX.out.1) (fun h => h)).trans HX.out.1
  have x2 := (hg1.block _ (lt_of_heap HX.out.2.1) (fun h => h)).trans HX.out.2.1
  replace HX := hidM (And.intro x1 (And.intro x2 (HX.out.2.2.trans hg1 (fun _ _ h => h))))
  obtain ⟨b0, b1, b2, b3, b4, b5, b6⟩ := cell7 x2
  simp only [Nat.zero_add] at b1 b2 b3 b4 b5 b6
  clear x1 x2 hg1
  go_wp2_with (go_at_call 23; refine Hid.out ?_)
  unfold Hid
  refine Calls.mono (HG.out _ HX.out.2.2) ?_
  rintro e W2 ⟨rfl, hg1⟩
  clear b0 b1 b2 b3 b4 b5 b6
  have x1 := (hg1.block _ (lt_of_heap HX.out.1) (fun h => h)).trans HX.out.1
  have x2 := (hg1.block _ (lt_of_heap HX.out.2.1) (fun h => h)).trans HX.out.2.1
  replace HX := hidM (And.intro x1 (And.intro x2 (HX.out.2.2.trans hg1 (fun _ _ h => h))))
  obtain ⟨a0, a1, a2, a3, a4, a5, a6⟩ := cell7 x1
  obtain ⟨b0, b1, b2, b3, b4, b5, b6⟩ := cell7 x2
  simp only [Nat.zero_add] at a1 a2 a3 a4 a5 a6 b1 b2 b3 b4 b5 b6
  clear x1 x2 hg1
  go_wp2_with (go_at_call 24; refine Hid.out ?_)
  unfold Hid
  refine Calls.mono (sameTypes_nil k d i x ao bo ca cb W2) ?_
  rintro e W3 ⟨rfl, hg3⟩
  have HE := hidM (HX.out.2.2.trans hg3 (fun _ _ h => h))
  clear hg3
  go_wp2_with fail
  go_ret
  exact ⟨rfl, HE.out⟩
end Go.Proofs.YtkodgneneiledaaDoor.Kit
