import Derived.Test.YtcfdkadhclickaaDoorVG
import Derived.Deep.RegionHeld3
namespace Go.Proofs.YtcfdkadhclickaaDoor.Kit
open Go.RowKit Go.Shelf Go.Deep
set_option linter.unusedVariables false
attribute [local go_sem] run_store_func

set_option maxRecDepth 100000 in
set_option maxHeartbeats 2000000 in
theorem type15_no (f0 : ByteArray) (f1 : Bool) (f3 f4 f5 : Int) (ao : Option Addr) (n ca : Nat) (v1 : Int) (v2 : ByteArray) (vo : Option Addr) (m vc : Nat) (w W : World) (sb : Nat) (l : Int) (x : Option Int) (b1 b2 b3 : Bool) (hb1 : (v1 == 0) = b1) (hb2 : v2.toList.isEmpty = b2) (hb3 : ((m : Int) == 0) = b3) (hs : Sc w W sb l) (hc : (b1 && b2) = false) (hx : x = none) :
    Calls Tryd.prog 70 #[.pointer (some ⟨sb, 0, none⟩), .agg #[.string f0, .bool f1, .int .i64 15, .int .i64 f3, .int .i64 f4, .int .i64 f5, .slice ao n ca], .agg #[.bool false, .int .i64 v1, .string v2, .slice vo m vc]] W fun e w' => FitQ W sb x e w' := by
  have HS := hidM hs.self
  have HX := hidM hx
  clear hs hx
  cases b1 <;> cases b2 <;> simp only [Bool.and_true, Bool.and_false, Bool.true_eq_false, Bool.and_self] at hc <;> clear hc
  all_goals
    go_enter Tryd.func70, Tryd.ntmps70
    go_wp2
    go_region
    all_goals
      go_wp2
      go_region
      all_goals
        go_wp2
        go_ret
        exact .no HX.out rfl (((((HS.out.alloc _).alloc _).alloc _).drew).drew)
set_option maxRecDepth 100000 in
set_option maxHeartbeats 2000000 in
theorem type16_no (f0 : ByteArray) (f1 : Bool) (f3 f4 f5 : Int) (ao : Option Addr) (n ca : Nat) (v1 : Int) (v2 : ByteArray) (vo : Option Addr) (m vc : Nat) (w W : World) (sb : Nat) (l : Int) (x : Option Int) (b1 b2 b3 : Bool) (hb1 : (v1 == 0) = b1) (hb2 : v2.toList.isEmpty = b2) (hb3 : ((m : Int) == 0) = b3) (hs : Sc w W sb l) (b4 : Bool) (hb4 : ((m : Int) == f3) = b4) (hc : (b1 && b2 && b4) = false) (hx : x = none) :
    Calls Tryd.prog 70 #[.pointer (some ⟨sb, 0, none⟩), .agg #[.string f0, .bool f1, .int .i64 16, .int .i64 f3, .int .i64 f4, .int .i64 f5, .slice ao n ca], .agg #[.bool false, .int .i64 v1, .string v2, .slice vo m vc]] W fun e w' => FitQ W sb x e w' := by
  have HS := hidM hs.self
  have HX := hidM hx
  clear hs hx
  cases b1 <;> cases b2 <;> cases b4 <;> simp only [Bool.and_true, Bool.and_false, Bool.true_eq_false, Bool.and_self] at hc <;> clear hc
  all_goals
    go_enter Tryd.func70, Tryd.ntmps70
    go_wp2
    go_region
    all_goals
      go_wp2
      go_region
      all_goals
        go_wp2
        go_ret
        exact .no HX.out rfl (((((HS.out.alloc _).alloc _).alloc _).drew).drew)
end Go.Proofs.YtcfdkadhclickaaDoor.Kit
