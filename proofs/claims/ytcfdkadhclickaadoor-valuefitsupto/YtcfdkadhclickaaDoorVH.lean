import Derived.Test.YtcfdkadhclickaaDoorVF
import Derived.Test.YtcfdkadhclickaaDoorVG
import Derived.Deep.RegionHeld3
namespace Go.Proofs.YtcfdkadhclickaaDoor.Kit
open Go.RowKit Go.Shelf Go.Deep
set_option linter.unusedVariables false
attribute [local go_sem] run_store_func

/-! ### fitsType, kind by kind -/
set_option maxRecDepth 100000 in
set_option maxHeartbeats 2000000 in
theorem type_null (f0 : ByteArray) (f1 : Bool) (f2 : Int) (f3 f4 f5 : Int) (ao : Option Addr) (n ca : Nat) (v1 : Int) (v2 : ByteArray) (vo : Option Addr) (m vc : Nat) (w W : World) (sb : Nat) (l : Int) (x : Option Int) (b1 b2 b3 : Bool) (hb1 : (v1 == 0) = b1) (hb2 : v2.toList.isEmpty = b2) (hb3 : ((m : Int) == 0) = b3) (hs : Sc w W sb l) (hx : x = if (f1 && b1 && b2 && b3) = true then some l else none) :
    Calls Tryd.prog 70 #[.pointer (some ⟨sb, 0, none⟩), .agg #[.string f0, .bool f1, .int .i64 f2, .int .i64 f3, .int .i64 f4, .int .i64 f5, .slice ao n ca], .agg #[.bool true, .int .i64 v1, .string v2, .slice vo m vc]] W fun e w' => FitQ W sb x e w' := by
  have HS := hidM hs.self
  clear hs
  cases f1 <;> cases b1 <;> cases b2 <;> cases b3 <;> simp only [Bool.and_true, Bool.and_false, if_true, if_false, Bool.false_eq_true] at hx
  all_goals
    have HX := hidM hx
    clear hx
    go_enter Tryd.func70, Tryd.ntmps70
    go_wp2
    go_region
    all_goals
      go_wp2
      go_ret
      first | exact .no HX.out rfl ((HS.out.alloc _).alloc _).drew | exact .yes HX.out rfl ((HS.out.alloc _).alloc _).drew
set_option maxRecDepth 100000 in
set_option maxHeartbeats 2000000 in
theorem type13 (f0 : ByteArray) (f1 : Bool) (f3 f4 f5 : Int) (ao : Option Addr) (n ca : Nat) (v1 : Int) (v2 : ByteArray) (vo : Option Addr) (m vc : Nat) (w W : World) (sb : Nat) (l : Int) (x : Option Int) (b1 b2 b3 : Bool) (hb1 : (v1 == 0) = b1) (hb2 : v2.toList.isEmpty = b2) (hb3 : ((m : Int) == 0) = b3) (hs : Sc w W sb l) (hx : x = if (b1 && b3) = true then some l else none) :
    Calls Tryd.prog 70 #[.pointer (some ⟨sb, 0, none⟩), .agg #[.string f0, .bool f1, .int .i64 13, .int .i64 f3, .int .i64 f4, .int .i64 f5, .slice ao n ca], .agg #[.bool false, .int .i64 v1, .string v2, .slice vo m vc]] W fun e w' => FitQ W sb x e w' := by
  have HS := hidM hs.self
  clear hs
  cases b1 <;> cases b3 <;> simp only [Bool.and_true, Bool.and_false, if_true, if_false, Bool.false_eq_true] at hx
  all_goals
    have HX := hidM hx
    clear hx
    go_enter Tryd.func70, Tryd.ntmps70
    go_wp2
    go_region
    all_goals
      go_wp2
      go_ret
      first | exact .no HX.out rfl ((((HS.out.alloc _).alloc _).alloc _).drew) | exact .yes HX.out rfl ((((HS.out.alloc _).alloc _).alloc _).drew)
set_option maxRecDepth 100000 in
set_option maxHeartbeats 2000000 in
theorem type14 (f0 : ByteArray) (f1 : Bool) (f3 f4 f5 : Int) (ao : Option Addr) (n ca : Nat) (v1 : Int) (v2 : ByteArray) (vo : Option Addr) (m vc : Nat) (w W : World) (sb : Nat) (l : Int) (x : Option Int) (b1 b2 b3 : Bool) (hb1 : (v1 == 0) = b1) (hb2 : v2.toList.isEmpty = b2) (hb3 : ((m : Int) == 0) = b3) (hs : Sc w W sb l) (b4 : Bool) (hb4 : ((v2.size : Int) == f3) = b4) (hx : x = if (b1 && b3 && b4) = true then some l else none) :
    Calls Tryd.prog 70 #[.pointer (some ⟨sb, 0, none⟩), .agg #[.string f0, .bool f1, .int .i64 14, .int .i64 f3, .int .i64 f4, .int .i64 f5, .slice ao n ca], .agg #[.bool false, .int .i64 v1, .string v2, .slice vo m vc]] W fun e w' => FitQ W sb x e w' := by
  have HS := hidM hs.self
  clear hs
  cases b1 <;> cases b3 <;> cases b4 <;> simp only [Bool.and_true, Bool.and_false, if_true, if_false, Bool.false_eq_true] at hx
  all_goals
    have HX := hidM hx
    clear hx
    go_enter Tryd.func70, Tryd.ntmps70
    go_wp2
    go_region
    all_goals
      go_wp2
      go_ret
      first | exact .no HX.out rfl ((((HS.out.alloc _).alloc _).alloc _).drew) | exact .yes HX.out rfl ((((HS.out.alloc _).alloc _).alloc _).drew)
set_option maxRecDepth 100000 in
set_option maxHeartbeats 2000000 in
theorem type12 (f0 : ByteArray) (f1 : Bool) (f3 f4 f5 : Int) (ao : Option Addr) (n ca : Nat) (v1 : Int) (v2 : ByteArray) (vo : Option Addr) (m vc : Nat) (w W : World) (sb : Nat) (l : Int) (x : Option Int) (b1 b2 b3 : Bool) (hb1 : (v1 == 0) = b1) (hb2 : v2.toList.isEmpty = b2) (hb3 : ((m : Int) == 0) = b3) (hs : Sc w W sb l) (vb : Bool) (h89 : ∀ W', Gr W W' → Calls Tryd.prog 89 #[.string v2] W' fun e w' => e = .returned (.bool vb) ∧ Gr W' w') (hx : x = if (b1 && b3 && vb) = true then some l else none) :
    Calls Tryd.prog 70 #[.pointer (some ⟨sb, 0, none⟩), .agg #[.string f0, .bool f1, .int .i64 12, .int .i64 f3, .int .i64 f4, .int .i64 f5, .slice ao n ca], .agg #[.bool false, .int .i64 v1, .string v2, .slice vo m vc]] W fun e w' => FitQ W sb x e w' := by
  have HS := hidM hs.self
  have H89 := hidM h89
  clear hs h89
  have HG : Hid (∀ a b c, Gr W (((W.alloc a).alloc b).alloc c).drew) := fun a b c => ((((Keeps.refl W _).alloc a).alloc b).alloc c).drew
  cases b1 <;> cases b3 <;> cases vb <;> simp only [Bool.and_true, Bool.and_false, if_true, if_false, Bool.false_eq_true] at hx
  all_goals
    have HX := hidM hx
    clear hx
    go_enter Tryd.func70, Tryd.ntmps70
    go_wp2
    go_region
    all_goals
      go_wp2_with (go_at_call 89; refine (H89.out _ (HG.out _ _ _)).mono ?_; rintro e v1' ⟨rfl, hg⟩; replace hg := hidM hg)
      go_ret
      first | exact .no HX.out rfl ((((HS.out.alloc _).alloc _).alloc _).drew) | exact .yes HX.out rfl (((((HS.out.alloc _).alloc _).alloc _).drew).gr hg.out) | exact .no HX.out rfl (((((HS.out.alloc _).alloc _).alloc _).drew).gr hg.out)
set_option maxRecDepth 100000 in
set_option maxHeartbeats 2000000 in
theorem type_num (f0 : ByteArray) (f1 : Bool) (f2 : Int) (f3 f4 f5 : Int) (ao : Option Addr) (n ca : Nat) (v1 : Int) (v2 : ByteArray) (vo : Option Addr) (m vc : Nat) (w W : World) (sb : Nat) (l : Int) (x : Option Int) (b1 b2 b3 : Bool) (hb1 : (v1 == 0) = b1) (hb2 : v2.toList.isEmpty = b2) (hb3 : ((m : Int) == 0) = b3) (hs : Sc w W sb l) (hk : 1 ≤ f2 ∧ f2 ≤ 11) (nb : Bool) (hnb : numB f2 v1 = nb) (hx : x = if (b2 && b3 && nb) = true then some l else none) :
    Calls Tryd.prog 70 #[.pointer (some ⟨sb, 0, none⟩), .agg #[.string f0, .bool f1, .int .i64 f2, .int .i64 f3, .int .i64 f4, .int .i64 f5, .slice ao n ca], .agg #[.bool false, .int .i64 v1, .string v2, .slice vo m vc]] W fun e w' => FitQ W sb x e w' := by
  have HS := hidM hs.self
  clear hs
  have H93 : Hid (∀ W', Calls Tryd.prog 93 #[.int .i64 f2, .int .i64 v1] W' fun e w' => e = .returned (.bool nb) ∧ W' = w') := fun W' => by rw [← hnb]; exact fitsNumber_any f2 v1 (by omega) W'
  have e12 : (f2 == 12) = false := by simp; omega
  have e13 : (f2 == 13) = false := by simp; omega
  have e14 : (f2 == 14) = false := by simp; omega
  have e15 : (f2 == 15) = false := by simp; omega
  have e16 : (f2 == 16) = false := by simp; omega
  have e17 : (f2 == 17) = false := by simp; omega
  have e18 : (f2 == 18) = false := by simp; omega
  have e19 : (f2 == 19) = false := by simp; omega
  have e20 : (f2 == 20) = false := by simp; omega
  clear hk hnb
  cases b2 <;> cases b3 <;> cases nb <;> simp only [Bool.and_true, Bool.and_false, if_true, if_false, Bool.false_eq_true] at hx
  all_goals
    have HX := hidM hx
    clear hx
    go_enter Tryd.func70, Tryd.ntmps70
    go_wp2
    go_region
    all_goals
      go_wp2_with (go_at_call 93; refine (H93.out _).mono ?_; rintro e v1' ⟨rfl, rfl⟩)
      go_ret
      first | exact .no HX.out rfl ((((HS.out.alloc _).alloc _).alloc _).drew) | exact .yes HX.out rfl ((((HS.out.alloc _).alloc _).alloc _).drew)
end Go.Proofs.YtcfdkadhclickaaDoor.Kit
