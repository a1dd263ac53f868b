import Derived.Test.YtkodgneneiledaaGreatDoorSH
namespace Go.Proofs.YtkodgneneiledaaGreatDoor.Kit
open Go.RowKit Go.Shelf Go.Deep
set_option linter.unusedVariables false
attribute [local go_sem] run_store_func

set_option maxRecDepth 100000 in
set_option maxHeartbeats 2000000 in
/-- PrintField -/
theorem printField_any {nm t : ByteArray} {nu z : Bool} {k d i x : Int} {ao : Option Addr} {na ca : Nat} {w : World}
    (hm : Ans 44 #[.agg #[.string nm, .bool nu, .int .i64 k, .int .i64 d, .int .i64 i, .int .i64 x, .slice ao na ca]] z w)
    (ht : z = true → AnsV 45 #[.agg #[.string nm, .bool nu, .int .i64 k, .int .i64 d, .int .i64 i, .int .i64 x, .slice ao na ca]] (.string t) w) :
    AnsV 15 #[.agg #[.string nm, .bool nu, .int .i64 k, .int .i64 d, .int .i64 i, .int .i64 x, .slice ao na ca]] (.tuple #[.string (if z then t else ⟨#[]⟩), .int .i64 (if z then 0 else 5)]) w := by
  intro W g
  have HM := hidM (hm.gr g)
  unfold Ans at HM
  have HT : Hid (z = true → ∀ W', Gr W W' → Calls Tryz.prog 45 #[.agg #[.string nm, .bool nu, .int .i64 k, .int .i64 d, .int .i64 i, .int .i64 x, .slice ao na ca]] W' fun e w' => e = .returned (.string t) ∧ Gr W' w') := fun h W' g' => ht h W' (g.trans g' (fun _ _ h => h))
  have hbx := World.alloc_heap_new W (.cells #[.string nm, .bool nu, .int .i64 k, .int .i64 d, .int .i64 i, .int .i64 x, .slice ao na ca] 37)
  have HX := hidM hbx
  clear hm ht g hbx
  go_enter Tryz.func15, Tryz.ntmps15
  go_wp2_with (go_at_call 44; refine Hid.out ?_)
  unfold Hid
  refine Calls.mono (HM.out _ (gr_alloc W _)) ?_
  rintro e W1 ⟨rfl, hg1⟩
  have x1 := (hg1.block _ (lt_of_heap HX.out) (fun h => h)).trans HX.out
  obtain ⟨y0, y1, y2, y3, y4, y5, y6⟩ := cell7 x1
  have HG := hidM ((gr_alloc W _).trans hg1 (fun _ _ h => h))
  clear hg1 x1 HX HM
  cases z with
  | true =>
    go_wp2_with (go_at_call 45; refine Hid.out ?_)
    unfold Hid
    refine Calls.mono (HT.out (by trivial) _ HG.out) ?_
    rintro e W2 ⟨rfl, hg2⟩
    have HG2 := hidM (HG.out.trans hg2 (fun _ _ h => h))
    clear hg2
    go_wp2_with fail
    refine bodyPost_ret (v := .tuple #[.string t, .int .i64 0]) ?_ rfl ⟨rfl, HG2.out⟩
    simp [results, Tryz.f15, go_sem]
  | false =>
    go_wp2_with fail
    refine bodyPost_ret (v := .tuple #[.string ⟨#[]⟩, .int .i64 5]) ?_ rfl ⟨rfl, HG.out⟩
    simp [results, Tryz.f15, go_sem]
end Go.Proofs.YtkodgneneiledaaGreatDoor.Kit
