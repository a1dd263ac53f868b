import Derived.Test.YtcfdkadhclickaaDoorYB
import Derived.Test.YtcfdkadhclickaaDoorWE
import Derived.Deep.RegionHeld3
namespace Go.Proofs.YtcfdkadhclickaaDoor.Kit
open Go.RowKit Go.Shelf Go.Deep
set_option linter.unusedVariables false
attribute [local go_sem] run_store_func binOp_gtr_str

/-! ### the document's Order 42, kind by kind -/
theorem sign_all : ∀ x y W, Calls Tryd.prog 61 #[.bool x, .bool y] W fun e w' => e = .returned (.int .i64 (sgn x y)) ∧ W = w' := fun x y W => sign61 x y W
set_option maxRecDepth 100000 in
set_option maxHeartbeats 2000000 in
theorem ord_null (f0 : ByteArray) (f1 : Bool) (f2 : Int) (f3 f4 f5 : Int) (ao : Option Addr) (n ca : Nat) (a1 b1 : Int) (a2 b2 : ByteArray) (uo vo : Option Addr) (un uc vn vc : Nat) (w : World) (z : Int) (a0 b0 : Bool) (h : (a0 || b0) = true) (hz : z = sgn (a0 && !b0) (b0 && !a0)) :
    IAns 42 #[.agg #[.string f0, .bool f1, .int .i64 f2, .int .i64 f3, .int .i64 f4, .int .i64 f5, .slice ao n ca], .agg #[.bool a0, .int .i64 a1, .string a2, .slice uo un uc], .agg #[.bool b0, .int .i64 b1, .string b2, .slice vo vn vc]] z w := by
  intro W g
  have HZ := hidM hz
  have HS := hidM sign_all
  have HG : Hid (∀ o o' o'' o''', Gr W ((((W.alloc o).alloc o').alloc o'').alloc o''')) := fun o o' o'' o''' => (((gr_alloc W o).alloc o').alloc o'').alloc o'''
  clear g hz
  cases a0 <;> cases b0
  case false.false => exact absurd h (by decide)
  all_goals
    clear h
    go_enter Tryd.func42, Tryd.ntmps42
    go_wp2_with (go_at_call 61; refine Hid.out ?_)
    unfold Hid
    refine Calls.mono (HS.out _ _ _) ?_
    rintro e w2 ⟨rfl, rfl⟩
    go_wp2_with fail
    go_ret
    exact ⟨by rw [HZ.out]; rfl, HG.out _ _ _ _⟩
set_option maxRecDepth 100000 in
set_option maxHeartbeats 2000000 in
theorem ord12 (f0 : ByteArray) (f1 : Bool) (f3 f4 f5 : Int) (ao : Option Addr) (n ca : Nat) (a1 b1 : Int) (a2 b2 : ByteArray) (uo vo : Option Addr) (un uc vn vc : Nat) (w : World) (z : Int) (hz : z = sgn (Op.bytesLess a2.toList b2.toList) (!Op.bytesLess a2.toList b2.toList && !(a2.toList == b2.toList))) :
    IAns 42 #[.agg #[.string f0, .bool f1, .int .i64 12, .int .i64 f3, .int .i64 f4, .int .i64 f5, .slice ao n ca], .agg #[.bool false, .int .i64 a1, .string a2, .slice uo un uc], .agg #[.bool false, .int .i64 b1, .string b2, .slice vo vn vc]] z w := by
  intro W g
  have HZ := hidM hz
  have HS := hidM sign_all
  have HG : Hid (∀ o o' o'' o''', Gr W ((((W.alloc o).alloc o').alloc o'').alloc o''')) := fun o o' o'' o''' => (((gr_alloc W o).alloc o').alloc o'').alloc o'''
  clear g hz
  go_enter Tryd.func42, Tryd.ntmps42
  go_wp2_with (go_at_call 61; refine Hid.out ?_)
  unfold Hid
  refine Calls.mono (HS.out _ _ _) ?_
  rintro e w2 ⟨rfl, rfl⟩
  go_wp2_with fail
  go_ret
  exact ⟨by rw [HZ.out]; rfl, HG.out _ _ _ _⟩
set_option maxRecDepth 100000 in
set_option maxHeartbeats 2000000 in
theorem ord13 (f0 : ByteArray) (f1 : Bool) (f3 f4 f5 : Int) (ao : Option Addr) (n ca : Nat) (a1 b1 : Int) (a2 b2 : ByteArray) (uo vo : Option Addr) (un uc vn vc : Nat) (w : World) (z : Int) (hz : z = sgn (Op.bytesLess a2.toList b2.toList) (!Op.bytesLess a2.toList b2.toList && !(a2.toList == b2.toList))) :
    IAns 42 #[.agg #[.string f0, .bool f1, .int .i64 13, .int .i64 f3, .int .i64 f4, .int .i64 f5, .slice ao n ca], .agg #[.bool false, .int .i64 a1, .string a2, .slice uo un uc], .agg #[.bool false, .int .i64 b1, .string b2, .slice vo vn vc]] z w := by
  intro W g
  have HZ := hidM hz
  have HS := hidM sign_all
  have HG : Hid (∀ o o' o'' o''', Gr W ((((W.alloc o).alloc o').alloc o'').alloc o''')) := fun o o' o'' o''' => (((gr_alloc W o).alloc o').alloc o'').alloc o'''
  clear g hz
  go_enter Tryd.func42, Tryd.ntmps42
  go_wp2_with (go_at_call 61; refine Hid.out ?_)
  unfold Hid
  refine Calls.mono (HS.out _ _ _) ?_
  rintro e w2 ⟨rfl, rfl⟩
  go_wp2_with fail
  go_ret
  exact ⟨by rw [HZ.out]; rfl, HG.out _ _ _ _⟩
set_option maxRecDepth 100000 in
set_option maxHeartbeats 2000000 in
theorem ord14 (f0 : ByteArray) (f1 : Bool) (f3 f4 f5 : Int) (ao : Option Addr) (n ca : Nat) (a1 b1 : Int) (a2 b2 : ByteArray) (uo vo : Option Addr) (un uc vn vc : Nat) (w : World) (z : Int) (hz : z = sgn (Op.bytesLess a2.toList b2.toList) (!Op.bytesLess a2.toList b2.toList && !(a2.toList == b2.toList))) :
    IAns 42 #[.agg #[.string f0, .bool f1, .int .i64 14, .int .i64 f3, .int .i64 f4, .int .i64 f5, .slice ao n ca], .agg #[.bool false, .int .i64 a1, .string a2, .slice uo un uc], .agg #[.bool false, .int .i64 b1, .string b2, .slice vo vn vc]] z w := by
  intro W g
  have HZ := hidM hz
  have HS := hidM sign_all
  have HG : Hid (∀ o o' o'' o''', Gr W ((((W.alloc o).alloc o').alloc o'').alloc o''')) := fun o o' o'' o''' => (((gr_alloc W o).alloc o').alloc o'').alloc o'''
  clear g hz
  go_enter Tryd.func42, Tryd.ntmps42
  go_wp2_with (go_at_call 61; refine Hid.out ?_)
  unfold Hid
  refine Calls.mono (HS.out _ _ _) ?_
  rintro e w2 ⟨rfl, rfl⟩
  go_wp2_with fail
  go_ret
  exact ⟨by rw [HZ.out]; rfl, HG.out _ _ _ _⟩
set_option maxRecDepth 100000 in
set_option maxHeartbeats 2000000 in
theorem ord10 (f0 : ByteArray) (f1 : Bool) (f3 f4 f5 : Int) (ao : Option Addr) (n ca : Nat) (a1 b1 : Int) (a2 b2 : ByteArray) (uo vo : Option Addr) (un uc vn vc : Nat) (w : World) (z : Int) (hz : z = sgn (decide (IntKind.u64.wrap a1 < IntKind.u64.wrap b1)) (decide (IntKind.u64.wrap b1 < IntKind.u64.wrap a1))) :
    IAns 42 #[.agg #[.string f0, .bool f1, .int .i64 10, .int .i64 f3, .int .i64 f4, .int .i64 f5, .slice ao n ca], .agg #[.bool false, .int .i64 a1, .string a2, .slice uo un uc], .agg #[.bool false, .int .i64 b1, .string b2, .slice vo vn vc]] z w := by
  intro W g
  have HZ := hidM hz
  have HS := hidM sign_all
  have HG : Hid (∀ o o' o'' o''', Gr W ((((W.alloc o).alloc o').alloc o'').alloc o''')) := fun o o' o'' o''' => (((gr_alloc W o).alloc o').alloc o'').alloc o'''
  clear g hz
  go_enter Tryd.func42, Tryd.ntmps42
  go_wp2_with (go_at_call 61; refine Hid.out ?_)
  unfold Hid
  refine Calls.mono (HS.out _ _ _) ?_
  rintro e w2 ⟨rfl, rfl⟩
  go_wp2_with fail
  go_ret
  exact ⟨by rw [HZ.out]; rfl, HG.out _ _ _ _⟩
set_option maxRecDepth 100000 in
set_option maxHeartbeats 2000000 in
theorem ord18_ne (f0 : ByteArray) (f1 : Bool) (f3 f4 f5 : Int) (ao : Option Addr) (n ca : Nat) (a1 b1 : Int) (a2 b2 : ByteArray) (uo vo : Option Addr) (un uc vn vc : Nat) (w : World) (z : Int) (hne : (a1 == b1) = false) (hz : z = sgn (decide (a1 < b1)) (decide (b1 < a1))) :
    IAns 42 #[.agg #[.string f0, .bool f1, .int .i64 18, .int .i64 f3, .int .i64 f4, .int .i64 f5, .slice ao n ca], .agg #[.bool false, .int .i64 a1, .string a2, .slice uo un uc], .agg #[.bool false, .int .i64 b1, .string b2, .slice vo vn vc]] z w := by
  intro W g
  have HZ := hidM hz
  have HS := hidM sign_all
  have HG : Hid (∀ o o' o'' o''', Gr W ((((W.alloc o).alloc o').alloc o'').alloc o''')) := fun o o' o'' o''' => (((gr_alloc W o).alloc o').alloc o'').alloc o'''
  clear g hz
  go_enter Tryd.func42, Tryd.ntmps42
  go_wp2_with (go_at_call 61; refine Hid.out ?_)
  unfold Hid
  refine Calls.mono (HS.out _ _ _) ?_
  rintro e w2 ⟨rfl, rfl⟩
  go_wp2_with fail
  go_ret
  exact ⟨by rw [HZ.out]; rfl, HG.out _ _ _ _⟩
set_option maxRecDepth 100000 in
set_option maxHeartbeats 2000000 in
theorem ord_num (f0 : ByteArray) (f1 : Bool) (f2 : Int) (f3 f4 f5 : Int) (ao : Option Addr) (n ca : Nat) (a1 b1 : Int) (a2 b2 : ByteArray) (uo vo : Option Addr) (un uc vn vc : Nat) (w : World) (z : Int) (hk : 1 ≤ f2 ∧ f2 ≤ 9) (hz : z = sgn (decide (a1 < b1)) (decide (b1 < a1))) :
    IAns 42 #[.agg #[.string f0, .bool f1, .int .i64 f2, .int .i64 f3, .int .i64 f4, .int .i64 f5, .slice ao n ca], .agg #[.bool false, .int .i64 a1, .string a2, .slice uo un uc], .agg #[.bool false, .int .i64 b1, .string b2, .slice vo vn vc]] z w := by
  intro W g
  have HZ := hidM hz
  have HS := hidM sign_all
  have HG : Hid (∀ o o' o'' o''', Gr W ((((W.alloc o).alloc o').alloc o'').alloc o''')) := fun o o' o'' o''' => (((gr_alloc W o).alloc o').alloc o'').alloc o'''
  have e10 : (f2 == 10) = false := by simp; omega
  have e11 : (f2 == 11) = false := by simp; omega
  have e12 : (f2 == 12) = false := by simp; omega
  have e13 : (f2 == 13) = false := by simp; omega
  have e14 : (f2 == 14) = false := by simp; omega
  have e15 : (f2 == 15) = false := by simp; omega
  have e16 : (f2 == 16) = false := by simp; omega
  have e17 : (f2 == 17) = false := by simp; omega
  have e18 : (f2 == 18) = false := by simp; omega
  have e19 : (f2 == 19) = false := by simp; omega
  have e20 : (f2 == 20) = false := by simp; omega
  clear hk
  clear g hz
  go_enter Tryd.func42, Tryd.ntmps42
  go_wp2_with (go_at_call 61; refine Hid.out ?_)
  unfold Hid
  refine Calls.mono (HS.out _ _ _) ?_
  rintro e w2 ⟨rfl, rfl⟩
  go_wp2_with fail
  go_ret
  exact ⟨by rw [HZ.out]; rfl, HG.out _ _ _ _⟩
set_option maxRecDepth 100000 in
set_option maxHeartbeats 2000000 in
theorem ord15 (f0 : ByteArray) (f1 : Bool) (f3 f4 f5 : Int) (ao : Option Addr) (n ca : Nat) (a1 b1 : Int) (a2 b2 : ByteArray) (uo vo : Option Addr) (un uc vn vc : Nat) (w : World) (z : Int) (hF : IAns 63 #[.agg #[.int .i64 15, .int .i64 f3, .int .i64 f4, .int .i64 f5, .slice ao n ca], .slice uo un uc, .slice vo vn vc] z w) :
    IAns 42 #[.agg #[.string f0, .bool f1, .int .i64 15, .int .i64 f3, .int .i64 f4, .int .i64 f5, .slice ao n ca], .agg #[.bool false, .int .i64 a1, .string a2, .slice uo un uc], .agg #[.bool false, .int .i64 b1, .string b2, .slice vo vn vc]] z w := by
  intro W g
  have HC := hidM hF
  have HGw := hidM g
  have HG : Hid (∀ o o' o'' o''', Gr W ((((W.alloc o).alloc o').alloc o'').alloc o''')) := fun o o' o'' o''' => (((gr_alloc W o).alloc o').alloc o'').alloc o'''
  clear g hF
  go_enter Tryd.func42, Tryd.ntmps42
  go_wp2_with (go_at_call 63; refine Hid.out ?_)
  unfold Hid
  refine Calls.mono (HC.out _ (HGw.out.trans (HG.out _ _ _ _) (fun _ _ h => h))) ?_
  rintro e w2 ⟨rfl, hg2⟩
  have HE := hidM ((HG.out _ _ _ _).trans hg2 (fun _ _ h => h))
  clear hg2
  go_wp2_with fail
  go_ret
  exact ⟨rfl, HE.out⟩
set_option maxRecDepth 100000 in
set_option maxHeartbeats 2000000 in
theorem ord16 (f0 : ByteArray) (f1 : Bool) (f3 f4 f5 : Int) (ao : Option Addr) (n ca : Nat) (a1 b1 : Int) (a2 b2 : ByteArray) (uo vo : Option Addr) (un uc vn vc : Nat) (w : World) (z : Int) (hF : IAns 63 #[.agg #[.int .i64 16, .int .i64 f3, .int .i64 f4, .int .i64 f5, .slice ao n ca], .slice uo un uc, .slice vo vn vc] z w) :
    IAns 42 #[.agg #[.string f0, .bool f1, .int .i64 16, .int .i64 f3, .int .i64 f4, .int .i64 f5, .slice ao n ca], .agg #[.bool false, .int .i64 a1, .string a2, .slice uo un uc], .agg #[.bool false, .int .i64 b1, .string b2, .slice vo vn vc]] z w := by
  intro W g
  have HC := hidM hF
  have HGw := hidM g
  have HG : Hid (∀ o o' o'' o''', Gr W ((((W.alloc o).alloc o').alloc o'').alloc o''')) := fun o o' o'' o''' => (((gr_alloc W o).alloc o').alloc o'').alloc o'''
  clear g hF
  go_enter Tryd.func42, Tryd.ntmps42
  go_wp2_with (go_at_call 63; refine Hid.out ?_)
  unfold Hid
  refine Calls.mono (HC.out _ (HGw.out.trans (HG.out _ _ _ _) (fun _ _ h => h))) ?_
  rintro e w2 ⟨rfl, hg2⟩
  have HE := hidM ((HG.out _ _ _ _).trans hg2 (fun _ _ h => h))
  clear hg2
  go_wp2_with fail
  go_ret
  exact ⟨rfl, HE.out⟩
set_option maxRecDepth 100000 in
set_option maxHeartbeats 2000000 in
theorem ord17 (f0 : ByteArray) (f1 : Bool) (f3 f4 f5 : Int) (ao : Option Addr) (n ca : Nat) (a1 b1 : Int) (a2 b2 : ByteArray) (uo vo : Option Addr) (un uc vn vc : Nat) (w : World) (z : Int) (hF : IAns 63 #[.agg #[.int .i64 17, .int .i64 f3, .int .i64 f4, .int .i64 f5, .slice ao n ca], .slice uo un uc, .slice vo vn vc] z w) :
    IAns 42 #[.agg #[.string f0, .bool f1, .int .i64 17, .int .i64 f3, .int .i64 f4, .int .i64 f5, .slice ao n ca], .agg #[.bool false, .int .i64 a1, .string a2, .slice uo un uc], .agg #[.bool false, .int .i64 b1, .string b2, .slice vo vn vc]] z w := by
  intro W g
  have HC := hidM hF
  have HGw := hidM g
  have HG : Hid (∀ o o' o'' o''', Gr W ((((W.alloc o).alloc o').alloc o'').alloc o''')) := fun o o' o'' o''' => (((gr_alloc W o).alloc o').alloc o'').alloc o'''
  clear g hF
  go_enter Tryd.func42, Tryd.ntmps42
  go_wp2_with (go_at_call 63; refine Hid.out ?_)
  unfold Hid
  refine Calls.mono (HC.out _ (HGw.out.trans (HG.out _ _ _ _) (fun _ _ h => h))) ?_
  rintro e w2 ⟨rfl, hg2⟩
  have HE := hidM ((HG.out _ _ _ _).trans hg2 (fun _ _ h => h))
  clear hg2
  go_wp2_with fail
  go_ret
  exact ⟨rfl, HE.out⟩
set_option maxRecDepth 100000 in
set_option maxHeartbeats 2000000 in
theorem ord19 (f0 : ByteArray) (f1 : Bool) (f3 f4 f5 : Int) (n ca : Nat) (a1 b1 : Int) (a2 b2 : ByteArray) (uo vo : Option Addr) (un uc vn vc : Nat) (w : World) (z : Int) (kb ko : Nat) (k0 : ByteArray) (k1 : Bool) (k2 k3 k4 k5 : Int) (kp : Option Addr) (kn kc : Nat) (hn : 0 < n) (g0 : w.cell? ⟨kb, ko, none⟩ = some (.string k0)) (g1 : w.cell? ⟨kb, ko + 1, none⟩ = some (.bool k1)) (g2 : w.cell? ⟨kb, ko + 2, none⟩ = some (.int .i64 k2)) (g3 : w.cell? ⟨kb, ko + 3, none⟩ = some (.int .i64 k3)) (g4 : w.cell? ⟨kb, ko + 4, none⟩ = some (.int .i64 k4)) (g5 : w.cell? ⟨kb, ko + 5, none⟩ = some (.int .i64 k5)) (g6 : w.cell? ⟨kb, ko + 6, none⟩ = some (.slice kp kn kc)) (hF : IAns 42 #[.agg #[.string k0, .bool k1, .int .i64 k2, .int .i64 k3, .int .i64 k4, .int .i64 k5, .slice kp kn kc], .agg #[.bool false, .int .i64 a1, .string a2, .slice uo un uc], .agg #[.bool false, .int .i64 b1, .string b2, .slice vo vn vc]] z w) :
    IAns 42 #[.agg #[.string f0, .bool f1, .int .i64 19, .int .i64 f3, .int .i64 f4, .int .i64 f5, .slice (some ⟨kb, ko, none⟩) n ca], .agg #[.bool false, .int .i64 a1, .string a2, .slice uo un uc], .agg #[.bool false, .int .i64 b1, .string b2, .slice vo vn vc]] z w := by
  intro W g
  obtain ⟨V, hV⟩ : ∃ V, (((W.alloc (.cells #[.string f0, .bool f1, .int .i64 19, .int .i64 f3, .int .i64 f4, .int .i64 f5, .slice (some ⟨kb, ko, none⟩) n ca] 26)).alloc (.cells #[.bool false, .int .i64 a1, .string a2, .slice uo un uc] 29)).alloc (.cells #[.bool false, .int .i64 b1, .string b2, .slice vo vn vc] 29)).alloc (.cells #[.int .i64 19, .int .i64 f3, .int .i64 f4, .int .i64 f5, .slice (some ⟨kb, ko, none⟩) n ca] 24) = V := ⟨_, rfl⟩
  have hA := alloc4 W (.cells #[.string f0, .bool f1, .int .i64 19, .int .i64 f3, .int .i64 f4, .int .i64 f5, .slice (some ⟨kb, ko, none⟩) n ca] 26) (.cells #[.bool false, .int .i64 a1, .string a2, .slice uo un uc] 29) (.cells #[.bool false, .int .i64 b1, .string b2, .slice vo vn vc] 29) (.cells #[.int .i64 19, .int .i64 f3, .int .i64 f4, .int .i64 f5, .slice (some ⟨kb, ko, none⟩) n ca] 24)
  rw [hV] at hA
  obtain ⟨_, ba, bb, bt, gr⟩ := hA
  obtain ⟨p0, p1, p2, p3⟩ := B4.cells ba
  obtain ⟨r0, r1, r2, r3⟩ := B4.cells bb
  obtain ⟨q0, q1, q2, q3, q4⟩ := B5.cells bt
  have gg : Gr w V := g.trans gr (fun _ _ h => h)
  have hn' : (0 : Int) < (n : Int) := by omega
  have HF := hidM hF
  have HG := hidM gr
  have HGd : Hid (Gr w V.drew) := gg.drew
  have HC : Hid (V.drew.cell? ⟨W.heap.size + 1 + 1 + 1, 4, none⟩ = some (.slice (some ⟨kb, ko, none⟩) n ca) ∧ V.drew.cell? ⟨W.heap.size + 1, 0, none⟩ = some (.bool false) ∧ V.drew.cell? ⟨W.heap.size + 1, 1, none⟩ = some (.int .i64 a1) ∧ V.drew.cell? ⟨W.heap.size + 1, 2, none⟩ = some (.string a2) ∧ V.drew.cell? ⟨W.heap.size + 1, 3, none⟩ = some (.slice uo un uc) ∧ V.drew.cell? ⟨W.heap.size + 1 + 1, 0, none⟩ = some (.bool false) ∧ V.drew.cell? ⟨W.heap.size + 1 + 1, 1, none⟩ = some (.int .i64 b1) ∧ V.drew.cell? ⟨W.heap.size + 1 + 1, 2, none⟩ = some (.string b2) ∧ V.drew.cell? ⟨W.heap.size + 1 + 1, 3, none⟩ = some (.slice vo vn vc) ∧ V.drew.cell? ⟨kb, ko, none⟩ = some (.string k0) ∧ V.drew.cell? ⟨kb, ko + 1, none⟩ = some (.bool k1) ∧ V.drew.cell? ⟨kb, ko + 2, none⟩ = some (.int .i64 k2) ∧ V.drew.cell? ⟨kb, ko + 3, none⟩ = some (.int .i64 k3) ∧ V.drew.cell? ⟨kb, ko + 4, none⟩ = some (.int .i64 k4) ∧ V.drew.cell? ⟨kb, ko + 5, none⟩ = some (.int .i64 k5) ∧ V.drew.cell? ⟨kb, ko + 6, none⟩ = some (.slice kp kn kc)) := ⟨q4, p0, p1, p2, p3, r0, r1, r2, r3, gr_c gg g0, gr_c gg g1, gr_c gg g2, gr_c gg g3, gr_c gg g4, gr_c gg g5, gr_c gg g6⟩
  clear ba bb bt gr g hF gg
  go_enter Tryd.func42, Tryd.ntmps42
  go_wp2
  clear hV p0 p1 p2 p3 q0 q1 q2 q3 q4 r0 r1 r2 r3
  go_region_held3 (fun w' => w'.cell? ⟨W.heap.size + 1 + 1 + 1, 4, none⟩ = some (.slice (some ⟨kb, ko, none⟩) n ca) ∧ w'.cell? ⟨W.heap.size + 1, 0, none⟩ = some (.bool false) ∧ w'.cell? ⟨W.heap.size + 1, 1, none⟩ = some (.int .i64 a1) ∧ w'.cell? ⟨W.heap.size + 1, 2, none⟩ = some (.string a2) ∧ w'.cell? ⟨W.heap.size + 1, 3, none⟩ = some (.slice uo un uc) ∧ w'.cell? ⟨W.heap.size + 1 + 1, 0, none⟩ = some (.bool false) ∧ w'.cell? ⟨W.heap.size + 1 + 1, 1, none⟩ = some (.int .i64 b1) ∧ w'.cell? ⟨W.heap.size + 1 + 1, 2, none⟩ = some (.string b2) ∧ w'.cell? ⟨W.heap.size + 1 + 1, 3, none⟩ = some (.slice vo vn vc) ∧ w'.cell? ⟨kb, ko, none⟩ = some (.string k0) ∧ w'.cell? ⟨kb, ko + 1, none⟩ = some (.bool k1) ∧ w'.cell? ⟨kb, ko + 2, none⟩ = some (.int .i64 k2) ∧ w'.cell? ⟨kb, ko + 3, none⟩ = some (.int .i64 k3) ∧ w'.cell? ⟨kb, ko + 4, none⟩ = some (.int .i64 k4) ∧ w'.cell? ⟨kb, ko + 5, none⟩ = some (.int .i64 k5) ∧ w'.cell? ⟨kb, ko + 6, none⟩ = some (.slice kp kn kc)) (first | with_reducible exact HC.out | with_reducible exact ⟨gr_c HE.out (HC.out.1), gr_c HE.out (HC.out.2.1), gr_c HE.out (HC.out.2.2.1), gr_c HE.out (HC.out.2.2.2.1), gr_c HE.out (HC.out.2.2.2.2.1), gr_c HE.out (HC.out.2.2.2.2.2.1), gr_c HE.out (HC.out.2.2.2.2.2.2.1), gr_c HE.out (HC.out.2.2.2.2.2.2.2.1), gr_c HE.out (HC.out.2.2.2.2.2.2.2.2.1), gr_c HE.out (HC.out.2.2.2.2.2.2.2.2.2.1), gr_c HE.out (HC.out.2.2.2.2.2.2.2.2.2.2.1), gr_c HE.out (HC.out.2.2.2.2.2.2.2.2.2.2.2.1), gr_c HE.out (HC.out.2.2.2.2.2.2.2.2.2.2.2.2.1), gr_c HE.out (HC.out.2.2.2.2.2.2.2.2.2.2.2.2.2.1), gr_c HE.out (HC.out.2.2.2.2.2.2.2.2.2.2.2.2.2.2.1), gr_c HE.out (HC.out.2.2.2.2.2.2.2.2.2.2.2.2.2.2.2)⟩) ((go_at_call 42; refine Calls.mono (HF.out _ HGd.out) ?_; rintro e w2 ⟨rfl, hg2⟩; have HE := hidM hg2; clear hg2))
  all_goals
    go_wp2_with fail
    go_ret
    exact ⟨rfl, HG.out.drew.trans HE.out (fun _ _ h => h)⟩
set_option maxRecDepth 100000 in
set_option maxHeartbeats 2000000 in
theorem ord20 (f0 : ByteArray) (f1 : Bool) (f3 f4 f5 : Int) (n ca : Nat) (a1 b1 : Int) (a2 b2 : ByteArray) (uo vo : Option Addr) (un uc vn vc : Nat) (w : World) (z : Int) (kb ko : Nat) (k0 : ByteArray) (k1 : Bool) (k2 k3 k4 k5 : Int) (kp : Option Addr) (kn kc : Nat) (hn : 0 < n) (g0 : w.cell? ⟨kb, ko, none⟩ = some (.string k0)) (g1 : w.cell? ⟨kb, ko + 1, none⟩ = some (.bool k1)) (g2 : w.cell? ⟨kb, ko + 2, none⟩ = some (.int .i64 k2)) (g3 : w.cell? ⟨kb, ko + 3, none⟩ = some (.int .i64 k3)) (g4 : w.cell? ⟨kb, ko + 4, none⟩ = some (.int .i64 k4)) (g5 : w.cell? ⟨kb, ko + 5, none⟩ = some (.int .i64 k5)) (g6 : w.cell? ⟨kb, ko + 6, none⟩ = some (.slice kp kn kc)) (hF : IAns 42 #[.agg #[.string k0, .bool k1, .int .i64 k2, .int .i64 k3, .int .i64 k4, .int .i64 k5, .slice kp kn kc], .agg #[.bool false, .int .i64 a1, .string a2, .slice uo un uc], .agg #[.bool false, .int .i64 b1, .string b2, .slice vo vn vc]] z w) :
    IAns 42 #[.agg #[.string f0, .bool f1, .int .i64 20, .int .i64 f3, .int .i64 f4, .int .i64 f5, .slice (some ⟨kb, ko, none⟩) n ca], .agg #[.bool false, .int .i64 a1, .string a2, .slice uo un uc], .agg #[.bool false, .int .i64 b1, .string b2, .slice vo vn vc]] z w := by
  intro W g
  obtain ⟨V, hV⟩ : ∃ V, (((W.alloc (.cells #[.string f0, .bool f1, .int .i64 20, .int .i64 f3, .int .i64 f4, .int .i64 f5, .slice (some ⟨kb, ko, none⟩) n ca] 26)).alloc (.cells #[.bool false, .int .i64 a1, .string a2, .slice uo un uc] 29)).alloc (.cells #[.bool false, .int .i64 b1, .string b2, .slice vo vn vc] 29)).alloc (.cells #[.int .i64 20, .int .i64 f3, .int .i64 f4, .int .i64 f5, .slice (some ⟨kb, ko, none⟩) n ca] 24) = V := ⟨_, rfl⟩
  have hA := alloc4 W (.cells #[.string f0, .bool f1, .int .i64 20, .int .i64 f3, .int .i64 f4, .int .i64 f5, .slice (some ⟨kb, ko, none⟩) n ca] 26) (.cells #[.bool false, .int .i64 a1, .string a2, .slice uo un uc] 29) (.cells #[.bool false, .int .i64 b1, .string b2, .slice vo vn vc] 29) (.cells #[.int .i64 20, .int .i64 f3, .int .i64 f4, .int .i64 f5, .slice (some ⟨kb, ko, none⟩) n ca] 24)
  rw [hV] at hA
  obtain ⟨_, ba, bb, bt, gr⟩ := hA
  obtain ⟨p0, p1, p2, p3⟩ := B4.cells ba
  obtain ⟨r0, r1, r2, r3⟩ := B4.cells bb
  obtain ⟨q0, q1, q2, q3, q4⟩ := B5.cells bt
  have gg : Gr w V := g.trans gr (fun _ _ h => h)
  have hn' : (0 : Int) < (n : Int) := by omega
  have HF := hidM hF
  have HG := hidM gr
  have HGd : Hid (Gr w V.drew) := gg.drew
  have HC : Hid (V.drew.cell? ⟨W.heap.size + 1 + 1 + 1, 4, none⟩ = some (.slice (some ⟨kb, ko, none⟩) n ca) ∧ V.drew.cell? ⟨W.heap.size + 1, 0, none⟩ = some (.bool false) ∧ V.drew.cell? ⟨W.heap.size + 1, 1, none⟩ = some (.int .i64 a1) ∧ V.drew.cell? ⟨W.heap.size + 1, 2, none⟩ = some (.string a2) ∧ V.drew.cell? ⟨W.heap.size + 1, 3, none⟩ = some (.slice uo un uc) ∧ V.drew.cell? ⟨W.heap.size + 1 + 1, 0, none⟩ = some (.bool false) ∧ V.drew.cell? ⟨W.heap.size + 1 + 1, 1, none⟩ = some (.int .i64 b1) ∧ V.drew.cell? ⟨W.heap.size + 1 + 1, 2, none⟩ = some (.string b2) ∧ V.drew.cell? ⟨W.heap.size + 1 + 1, 3, none⟩ = some (.slice vo vn vc) ∧ V.drew.cell? ⟨kb, ko, none⟩ = some (.string k0) ∧ V.drew.cell? ⟨kb, ko + 1, none⟩ = some (.bool k1) ∧ V.drew.cell? ⟨kb, ko + 2, none⟩ = some (.int .i64 k2) ∧ V.drew.cell? ⟨kb, ko + 3, none⟩ = some (.int .i64 k3) ∧ V.drew.cell? ⟨kb, ko + 4, none⟩ = some (.int .i64 k4) ∧ V.drew.cell? ⟨kb, ko + 5, none⟩ = some (.int .i64 k5) ∧ V.drew.cell? ⟨kb, ko + 6, none⟩ = some (.slice kp kn kc)) := ⟨q4, p0, p1, p2, p3, r0, r1, r2, r3, gr_c gg g0, gr_c gg g1, gr_c gg g2, gr_c gg g3, gr_c gg g4, gr_c gg g5, gr_c gg g6⟩
  clear ba bb bt gr g hF gg
  go_enter Tryd.func42, Tryd.ntmps42
  go_wp2
  clear hV p0 p1 p2 p3 q0 q1 q2 q3 q4 r0 r1 r2 r3
  go_region_held3 (fun w' => w'.cell? ⟨W.heap.size + 1 + 1 + 1, 4, none⟩ = some (.slice (some ⟨kb, ko, none⟩) n ca) ∧ w'.cell? ⟨W.heap.size + 1, 0, none⟩ = some (.bool false) ∧ w'.cell? ⟨W.heap.size + 1, 1, none⟩ = some (.int .i64 a1) ∧ w'.cell? ⟨W.heap.size + 1, 2, none⟩ = some (.string a2) ∧ w'.cell? ⟨W.heap.size + 1, 3, none⟩ = some (.slice uo un uc) ∧ w'.cell? ⟨W.heap.size + 1 + 1, 0, none⟩ = some (.bool false) ∧ w'.cell? ⟨W.heap.size + 1 + 1, 1, none⟩ = some (.int .i64 b1) ∧ w'.cell? ⟨W.heap.size + 1 + 1, 2, none⟩ = some (.string b2) ∧ w'.cell? ⟨W.heap.size + 1 + 1, 3, none⟩ = some (.slice vo vn vc) ∧ w'.cell? ⟨kb, ko, none⟩ = some (.string k0) ∧ w'.cell? ⟨kb, ko + 1, none⟩ = some (.bool k1) ∧ w'.cell? ⟨kb, ko + 2, none⟩ = some (.int .i64 k2) ∧ w'.cell? ⟨kb, ko + 3, none⟩ = some (.int .i64 k3) ∧ w'.cell? ⟨kb, ko + 4, none⟩ = some (.int .i64 k4) ∧ w'.cell? ⟨kb, ko + 5, none⟩ = some (.int .i64 k5) ∧ w'.cell? ⟨kb, ko + 6, none⟩ = some (.slice kp kn kc)) (first | with_reducible exact HC.out | with_reducible exact ⟨gr_c HE.out (HC.out.1), gr_c HE.out (HC.out.2.1), gr_c HE.out (HC.out.2.2.1), gr_c HE.out (HC.out.2.2.2.1), gr_c HE.out (HC.out.2.2.2.2.1), gr_c HE.out (HC.out.2.2.2.2.2.1), gr_c HE.out (HC.out.2.2.2.2.2.2.1), gr_c HE.out (HC.out.2.2.2.2.2.2.2.1), gr_c HE.out (HC.out.2.2.2.2.2.2.2.2.1), gr_c HE.out (HC.out.2.2.2.2.2.2.2.2.2.1), gr_c HE.out (HC.out.2.2.2.2.2.2.2.2.2.2.1), gr_c HE.out (HC.out.2.2.2.2.2.2.2.2.2.2.2.1), gr_c HE.out (HC.out.2.2.2.2.2.2.2.2.2.2.2.2.1), gr_c HE.out (HC.out.2.2.2.2.2.2.2.2.2.2.2.2.2.1), gr_c HE.out (HC.out.2.2.2.2.2.2.2.2.2.2.2.2.2.2.1), gr_c HE.out (HC.out.2.2.2.2.2.2.2.2.2.2.2.2.2.2.2)⟩) ((go_at_call 42; refine Calls.mono (HF.out _ HGd.out) ?_; rintro e w2 ⟨rfl, hg2⟩; have HE := hidM hg2; clear hg2))
  all_goals
    go_wp2_with fail
    go_ret
    exact ⟨rfl, HG.out.drew.trans HE.out (fun _ _ h => h)⟩
set_option maxRecDepth 100000 in
set_option maxHeartbeats 2000000 in
theorem ord18 (f0 : ByteArray) (f1 : Bool) (f3 f4 f5 : Int) (n ca : Nat) (a1 b1 : Int) (a2 b2 : ByteArray) (uo vo : Option Addr) (un uc vn vc : Nat) (w : World) (z : Int) (kb ko : Nat) (k0 : ByteArray) (k1 : Bool) (k2 k3 k4 k5 : Int) (kp : Option Addr) (kn kc : Nat) (j xb xo yb yo : Nat) (x0 y0 : Bool) (x1 y1 : Int) (x2 y2 : ByteArray) (xp yp : Option Addr) (xn xc yn yc : Nat) (hj : j < n) (hn : n ≤ 1000000000000) (g0 : w.cell? ⟨kb, ko + j * 7, none⟩ = some (.string k0)) (g1 : w.cell? ⟨kb, ko + j * 7 + 1, none⟩ = some (.bool k1)) (g2 : w.cell? ⟨kb, ko + j * 7 + 2, none⟩ = some (.int .i64 k2)) (g3 : w.cell? ⟨kb, ko + j * 7 + 3, none⟩ = some (.int .i64 k3)) (g4 : w.cell? ⟨kb, ko + j * 7 + 4, none⟩ = some (.int .i64 k4)) (g5 : w.cell? ⟨kb, ko + j * 7 + 5, none⟩ = some (.int .i64 k5)) (g6 : w.cell? ⟨kb, ko + j * 7 + 6, none⟩ = some (.slice kp kn kc)) (x0c : w.cell? ⟨xb, xo, none⟩ = some (.bool x0)) (x1c : w.cell? ⟨xb, xo + 1, none⟩ = some (.int .i64 x1)) (x2c : w.cell? ⟨xb, xo + 2, none⟩ = some (.string x2)) (x3c : w.cell? ⟨xb, xo + 3, none⟩ = some (.slice xp xn xc)) (y0c : w.cell? ⟨yb, yo, none⟩ = some (.bool y0)) (y1c : w.cell? ⟨yb, yo + 1, none⟩ = some (.int .i64 y1)) (y2c : w.cell? ⟨yb, yo + 2, none⟩ = some (.string y2)) (y3c : w.cell? ⟨yb, yo + 3, none⟩ = some (.slice yp yn yc)) (hF : IAns 42 #[.agg #[.string k0, .bool k1, .int .i64 k2, .int .i64 k3, .int .i64 k4, .int .i64 k5, .slice kp kn kc], .agg #[.bool x0, .int .i64 x1, .string x2, .slice xp xn xc], .agg #[.bool y0, .int .i64 y1, .string y2, .slice yp yn yc]] z w) :
    IAns 42 #[.agg #[.string f0, .bool f1, .int .i64 18, .int .i64 f3, .int .i64 f4, .int .i64 f5, .slice (some ⟨kb, ko, none⟩) n ca], .agg #[.bool false, .int .i64 (j : Int), .string a2, .slice (some ⟨xb, xo, none⟩) 1 uc], .agg #[.bool false, .int .i64 (j : Int), .string b2, .slice (some ⟨yb, yo, none⟩) 1 vc]] z w := by
  intro W g
  obtain ⟨V, hV⟩ : ∃ V, (((W.alloc (.cells #[.string f0, .bool f1, .int .i64 18, .int .i64 f3, .int .i64 f4, .int .i64 f5, .slice (some ⟨kb, ko, none⟩) n ca] 26)).alloc (.cells #[.bool false, .int .i64 (j : Int), .string a2, .slice (some ⟨xb, xo, none⟩) 1 uc] 29)).alloc (.cells #[.bool false, .int .i64 (j : Int), .string b2, .slice (some ⟨yb, yo, none⟩) 1 vc] 29)).alloc (.cells #[.int .i64 18, .int .i64 f3, .int .i64 f4, .int .i64 f5, .slice (some ⟨kb, ko, none⟩) n ca] 24) = V := ⟨_, rfl⟩
  have hA := alloc4 W (.cells #[.string f0, .bool f1, .int .i64 18, .int .i64 f3, .int .i64 f4, .int .i64 f5, .slice (some ⟨kb, ko, none⟩) n ca] 26) (.cells #[.bool false, .int .i64 (j : Int), .string a2, .slice (some ⟨xb, xo, none⟩) 1 uc] 29) (.cells #[.bool false, .int .i64 (j : Int), .string b2, .slice (some ⟨yb, yo, none⟩) 1 vc] 29) (.cells #[.int .i64 18, .int .i64 f3, .int .i64 f4, .int .i64 f5, .slice (some ⟨kb, ko, none⟩) n ca] 24)
  rw [hV] at hA
  obtain ⟨_, ba, bb, bt, gr⟩ := hA
  obtain ⟨p0, p1, p2, p3⟩ := B4.cells ba
  obtain ⟨r0, r1, r2, r3⟩ := B4.cells bb
  obtain ⟨q0, q1, q2, q3, q4⟩ := B5.cells bt
  have gg : Gr w V := g.trans gr (fun _ _ h => h)
  have hjI : (j : Int) < (n : Int) := by omega
  have hj0 : (0 : Int) ≤ (j : Int) := by omega
  have HF := hidM hF
  have HG := hidM gr
  have HGd : Hid (Gr w V.drew) := gg.drew
  have HC : Hid (V.drew.cell? ⟨W.heap.size + 1 + 1 + 1, 4, none⟩ = some (.slice (some ⟨kb, ko, none⟩) n ca) ∧ V.drew.cell? ⟨W.heap.size + 1, 1, none⟩ = some (.int .i64 (j : Int)) ∧ V.drew.cell? ⟨W.heap.size + 1, 3, none⟩ = some (.slice (some ⟨xb, xo, none⟩) 1 uc) ∧ V.drew.cell? ⟨W.heap.size + 1 + 1, 3, none⟩ = some (.slice (some ⟨yb, yo, none⟩) 1 vc) ∧ V.drew.cell? ⟨kb, ko + j * 7, none⟩ = some (.string k0) ∧ V.drew.cell? ⟨kb, ko + j * 7 + 1, none⟩ = some (.bool k1) ∧ V.drew.cell? ⟨kb, ko + j * 7 + 2, none⟩ = some (.int .i64 k2) ∧ V.drew.cell? ⟨kb, ko + j * 7 + 3, none⟩ = some (.int .i64 k3) ∧ V.drew.cell? ⟨kb, ko + j * 7 + 4, none⟩ = some (.int .i64 k4) ∧ V.drew.cell? ⟨kb, ko + j * 7 + 5, none⟩ = some (.int .i64 k5) ∧ V.drew.cell? ⟨kb, ko + j * 7 + 6, none⟩ = some (.slice kp kn kc) ∧ V.drew.cell? ⟨xb, xo, none⟩ = some (.bool x0) ∧ V.drew.cell? ⟨xb, xo + 1, none⟩ = some (.int .i64 x1) ∧ V.drew.cell? ⟨xb, xo + 2, none⟩ = some (.string x2) ∧ V.drew.cell? ⟨xb, xo + 3, none⟩ = some (.slice xp xn xc) ∧ V.drew.cell? ⟨yb, yo, none⟩ = some (.bool y0) ∧ V.drew.cell? ⟨yb, yo + 1, none⟩ = some (.int .i64 y1) ∧ V.drew.cell? ⟨yb, yo + 2, none⟩ = some (.string y2) ∧ V.drew.cell? ⟨yb, yo + 3, none⟩ = some (.slice yp yn yc)) := ⟨q4, p1, p3, r3, gr_c gg g0, gr_c gg g1, gr_c gg g2, gr_c gg g3, gr_c gg g4, gr_c gg g5, gr_c gg g6, gr_c gg x0c, gr_c gg x1c, gr_c gg x2c, gr_c gg x3c, gr_c gg y0c, gr_c gg y1c, gr_c gg y2c, gr_c gg y3c⟩
  clear ba bb bt gr g hF gg
  go_enter Tryd.func42, Tryd.ntmps42
  go_wp2
  clear hV p0 p1 p2 p3 q0 q1 q2 q3 q4 r0 r1 r2 r3
  go_region_held3 (fun w' => w'.cell? ⟨W.heap.size + 1 + 1 + 1, 4, none⟩ = some (.slice (some ⟨kb, ko, none⟩) n ca) ∧ w'.cell? ⟨W.heap.size + 1, 1, none⟩ = some (.int .i64 (j : Int)) ∧ w'.cell? ⟨W.heap.size + 1, 3, none⟩ = some (.slice (some ⟨xb, xo, none⟩) 1 uc) ∧ w'.cell? ⟨W.heap.size + 1 + 1, 3, none⟩ = some (.slice (some ⟨yb, yo, none⟩) 1 vc) ∧ w'.cell? ⟨kb, ko + j * 7, none⟩ = some (.string k0) ∧ w'.cell? ⟨kb, ko + j * 7 + 1, none⟩ = some (.bool k1) ∧ w'.cell? ⟨kb, ko + j * 7 + 2, none⟩ = some (.int .i64 k2) ∧ w'.cell? ⟨kb, ko + j * 7 + 3, none⟩ = some (.int .i64 k3) ∧ w'.cell? ⟨kb, ko + j * 7 + 4, none⟩ = some (.int .i64 k4) ∧ w'.cell? ⟨kb, ko + j * 7 + 5, none⟩ = some (.int .i64 k5) ∧ w'.cell? ⟨kb, ko + j * 7 + 6, none⟩ = some (.slice kp kn kc) ∧ w'.cell? ⟨xb, xo, none⟩ = some (.bool x0) ∧ w'.cell? ⟨xb, xo + 1, none⟩ = some (.int .i64 x1) ∧ w'.cell? ⟨xb, xo + 2, none⟩ = some (.string x2) ∧ w'.cell? ⟨xb, xo + 3, none⟩ = some (.slice xp xn xc) ∧ w'.cell? ⟨yb, yo, none⟩ = some (.bool y0) ∧ w'.cell? ⟨yb, yo + 1, none⟩ = some (.int .i64 y1) ∧ w'.cell? ⟨yb, yo + 2, none⟩ = some (.string y2) ∧ w'.cell? ⟨yb, yo + 3, none⟩ = some (.slice yp yn yc)) (first | with_reducible exact HC.out | with_reducible exact ⟨gr_c HE.out (HC.out.1), gr_c HE.out (HC.out.2.1), gr_c HE.out (HC.out.2.2.1), gr_c HE.out (HC.out.2.2.2.1), gr_c HE.out (HC.out.2.2.2.2.1), gr_c HE.out (HC.out.2.2.2.2.2.1), gr_c HE.out (HC.out.2.2.2.2.2.2.1), gr_c HE.out (HC.out.2.2.2.2.2.2.2.1), gr_c HE.out (HC.out.2.2.2.2.2.2.2.2.1), gr_c HE.out (HC.out.2.2.2.2.2.2.2.2.2.1), gr_c HE.out (HC.out.2.2.2.2.2.2.2.2.2.2.1), gr_c HE.out (HC.out.2.2.2.2.2.2.2.2.2.2.2.1), gr_c HE.out (HC.out.2.2.2.2.2.2.2.2.2.2.2.2.1), gr_c HE.out (HC.out.2.2.2.2.2.2.2.2.2.2.2.2.2.1), gr_c HE.out (HC.out.2.2.2.2.2.2.2.2.2.2.2.2.2.2.1), gr_c HE.out (HC.out.2.2.2.2.2.2.2.2.2.2.2.2.2.2.2.1), gr_c HE.out (HC.out.2.2.2.2.2.2.2.2.2.2.2.2.2.2.2.2.1), gr_c HE.out (HC.out.2.2.2.2.2.2.2.2.2.2.2.2.2.2.2.2.2.1), gr_c HE.out (HC.out.2.2.2.2.2.2.2.2.2.2.2.2.2.2.2.2.2.2)⟩) ((go_at_call 42; refine Calls.mono (HF.out _ HGd.out) ?_; rintro e w2 ⟨rfl, hg2⟩; have HE := hidM hg2; clear hg2))
  all_goals
    go_wp2_with fail
    go_ret
    exact ⟨rfl, HG.out.drew.trans HE.out (fun _ _ h => h)⟩
set_option maxRecDepth 100000 in
set_option maxHeartbeats 2000000 in
theorem ord11 (f0 : ByteArray) (f1 : Bool) (f3 f4 f5 : Int) (ao : Option Addr) (n ca : Nat) (a1 b1 : Int) (a2 b2 : ByteArray) (uo vo : Option Addr) (un uc vn vc : Nat) (w : World) (z : Int) (ha : is64 a1) (hb : is64 b1) (hz : z = sgn (decide (placeOf a1 < placeOf b1)) (decide (placeOf b1 < placeOf a1))) :
    IAns 42 #[.agg #[.string f0, .bool f1, .int .i64 11, .int .i64 f3, .int .i64 f4, .int .i64 f5, .slice ao n ca], .agg #[.bool false, .int .i64 a1, .string a2, .slice uo un uc], .agg #[.bool false, .int .i64 b1, .string b2, .slice vo vn vc]] z w := by
  intro W g
  obtain ⟨V, hV⟩ : ∃ V, (((W.alloc (.cells #[.string f0, .bool f1, .int .i64 11, .int .i64 f3, .int .i64 f4, .int .i64 f5, .slice ao n ca] 26)).alloc (.cells #[.bool false, .int .i64 a1, .string a2, .slice uo un uc] 29)).alloc (.cells #[.bool false, .int .i64 b1, .string b2, .slice vo vn vc] 29)).alloc (.cells #[.int .i64 11, .int .i64 f3, .int .i64 f4, .int .i64 f5, .slice ao n ca] 24) = V := ⟨_, rfl⟩
  have hA := alloc4 W (.cells #[.string f0, .bool f1, .int .i64 11, .int .i64 f3, .int .i64 f4, .int .i64 f5, .slice ao n ca] 26) (.cells #[.bool false, .int .i64 a1, .string a2, .slice uo un uc] 29) (.cells #[.bool false, .int .i64 b1, .string b2, .slice vo vn vc] 29) (.cells #[.int .i64 11, .int .i64 f3, .int .i64 f4, .int .i64 f5, .slice ao n ca] 24)
  rw [hV] at hA
  obtain ⟨_, ba, bb, bt, gr⟩ := hA
  obtain ⟨p0, p1, p2, p3⟩ := B4.cells ba
  obtain ⟨r0, r1, r2, r3⟩ := B4.cells bb
  obtain ⟨q0, q1, q2, q3, q4⟩ := B5.cells bt
  have HG := hidM gr
  have HA := hidM (fun W => place62 a1 ha W)
  have HB := hidM (fun W => place62 b1 hb W)
  obtain ⟨ra, hra⟩ : ∃ ra, ra = placeOf a1 := ⟨_, rfl⟩
  obtain ⟨rb, hrb⟩ : ∃ rb, rb = placeOf b1 := ⟨_, rfl⟩
  rw [← hra] at HA hz
  rw [← hrb] at HB hz
  have HZ := hidM hz
  have HS := hidM sign_all
  clear ba bb bt gr g hz ha hb hra hrb
  go_enter Tryd.func42, Tryd.ntmps42
  go_wp2
  clear hV p0 p2 p3 q0 q1 q2 q3 q4 r0 r2 r3
  go_region_held3 (fun w' => w'.cell? ⟨W.heap.size + 1, 1, none⟩ = some (.int .i64 a1) ∧ w'.cell? ⟨W.heap.size + 1 + 1, 1, none⟩ = some (.int .i64 b1)) (first | with_reducible exact ⟨p1, r1⟩ | go_keep) (first | ((with_reducible show Calls _ _ #[.int .i64 a1] _ _); refine Calls.mono (HA.out _) ?_; rintro e w2 ⟨rfl, rfl⟩) | ((with_reducible show Calls _ _ #[.int .i64 b1] _ _); refine Calls.mono (HB.out _) ?_; rintro e w2 ⟨rfl, rfl⟩) | (go_at_call 61; refine Calls.mono (HS.out _ _ _) ?_; rintro e w2 ⟨rfl, rfl⟩))
  all_goals
    go_wp2_with fail
    go_ret
    exact ⟨by rw [HZ.out]; rfl, HG.out.drew⟩
theorem cmpL_end {c : VT → VT → Int} {a b : List VT} {k L N : Nat} (h : (L = a.length ∧ N = b.length) ∧ k ≤ L ∧ k ≤ N) (h' : ¬ (k < L ∧ k < N)) : cmpL c (a.drop k) (b.drop k) = cmpI (L : Int) (N : Int) := by
  obtain ⟨⟨rfl, rfl⟩, h1, h2⟩ := h
  unfold cmpI
  by_cases e1 : k < a.length
  · rw [List.drop_eq_nil_of_le (show b.length ≤ k by omega), if_neg (by omega), if_pos (by omega)]
    cases e : a.drop k with
    | nil => have := congrArg List.length e; simp at this; omega
    | cons x xs => rfl
  · rw [List.drop_eq_nil_of_le (show a.length ≤ k by omega)]
    by_cases e2 : k < b.length
    · rw [if_pos (by omega)]
      cases e : b.drop k with
      | nil => have := congrArg List.length e; simp at this; omega
      | cons x xs => rfl
    · rw [List.drop_eq_nil_of_le (show b.length ≤ k by omega), if_neg (by omega), if_neg (by omega)]
      rfl
set_option maxRecDepth 100000 in
set_option maxHeartbeats 2000000 in
theorem items63 (S : Nat → Prop) (D d : Nat) (w : World) (f2 : Int) (h17 : (f2 == 17) = false) (f3 f4 f5 : Int) (fo ao bo : Option Addr) (fc ca cb : Nat) (fs : List FT) (a b : List VT) (c : FT → VT → VT → Int) (hf : RowAt S w (D + 1) fo fs) (ha : VRow S w (d + 1) ao a) (hb : VRow S w (d + 1) bo b) (hS : ∀ b, S b → b < w.heap.size) (hne : 0 < fs.length)
    (h42 : ∀ (hk : 0 < fs.length) (u v : VT), u ∈ a → v ∈ b → ∀ (go : Option Addr) (gc : Nat), fs[0].kids.length ≤ gc → RowAt S w D go fs[0].kids → ∀ (uo vo : Option Addr) (uc vc : Nat), VOk u → VOk v → VRow S w d uo u.list → VRow S w d vo v.list → IAns 42 #[.agg #[.string fs[0].name, .bool fs[0].nul, .int .i64 fs[0].kind, .int .i64 fs[0].width, .int .i64 fs[0].id, .int .i64 fs[0].index, .slice go fs[0].kids.length gc], .agg #[.bool u.nul, .int .i64 u.num, .string u.text, .slice uo u.list.length uc], .agg #[.bool v.nul, .int .i64 v.num, .string v.text, .slice vo v.list.length vc]] (c fs.head! u v) w) :
    IAns 63 #[.agg #[.int .i64 f2, .int .i64 f3, .int .i64 f4, .int .i64 f5, .slice fo fs.length fc], .slice ao a.length ca, .slice bo b.length cb] (cmpL (c fs.head!) a b) w := by
  intro W g0
  have hlf : fs.length ≤ 1000000000000 := hf.len
  have hla0 : a.length ≤ 1000000000000 := ha.len
  have hlb0 : b.length ≤ 1000000000000 := hb.len
  have HF := hidM hf
  have HA := hidM ha
  have HB := hidM hb
  have HS := hidM hS
  have H42 := hidM h42
  have HG0 := hidM g0
  have HSI := hidM sign_all
  obtain ⟨R, hR⟩ : ∃ R, R = cmpL (c fs.head!) a b := ⟨_, rfl⟩
  rw [← hR]
  have HR := hidM hR
  obtain ⟨M, hM⟩ : ∃ M, M = fs.length := ⟨_, rfl⟩
  obtain ⟨L, hL⟩ : ∃ L, L = a.length := ⟨_, rfl⟩
  obtain ⟨N, hN⟩ : ∃ N, N = b.length := ⟨_, rfl⟩
  have HL := hidM (And.intro hL (And.intro hN (And.intro hM hne)))
  rw [← hL] at hla0 ⊢
  rw [← hN] at hlb0 ⊢
  rw [← hM] at hlf ⊢
  obtain ⟨V, hV⟩ : ∃ V, W.alloc (.cells #[.int .i64 f2, .int .i64 f3, .int .i64 f4, .int .i64 f5, .slice fo M fc] 24) = V := ⟨_, rfl⟩
  have b5 : B5 V W.heap.size f2 f3 f4 f5 fo M fc := by unfold B5; rw [← hV]; exact heap_alloc_new W _
  have HB5 := hidM b5
  have HGV : Hid (Gr W V) := by rw [← hV]; exact gr_alloc W _
  clear hf ha hb hS h42 hR hL hM hN g0 b5 hne
  go_enter Tryd.func63, Tryd.ntmps63
  go_wp2
  clear hV
  obtain ⟨X, hX⟩ : ∃ X, X = W.heap.size := ⟨_, rfl⟩
  rw [← hX] at HB5 ⊢
  clear hX
  go_loopw [7] (fun p wr => ∃ k : Nat, k ≤ L ∧ k ≤ N ∧ p = .int .i64 (k : Int) ∧ Hid (Gr V wr ∧ R = cmpL (c fs.head!) (a.drop k) (b.drop k))) (fun p _ => L - (intOf p).toNat)
  case atStart => exact ⟨0, by omega, by omega, rfl, Keeps.refl _ _, HR.out⟩
  case round =>
    obtain ⟨k, hk, hkN, rfl, HK⟩ := hrel
    obtain ⟨p0, p1, p2, p3, p4⟩ := B5.cells ((HK.out.1.block _ (lt_of_heap HB5.out) id).trans HB5.out)
    by_cases hlt : k < L ∧ k < N
    · obtain ⟨hltL, hltN⟩ := hlt
      have hkf : 0 < fs.length := by have := HL.out; exact this.2.2.2
      have hka : k < a.length := by have := HL.out; omega
      have hkb : k < b.length := by have := HL.out; omega
      obtain ⟨fb, fp, rfl, hfb, hfs⟩ := HF.out.2 (fun e => by subst e; simp at hkf)
      obtain ⟨go, gc, hg, hgle, hgrow⟩ := hfs 0 hkf
      obtain ⟨ab, ap, rfl, hab, has⟩ := HA.out.2 (fun e => by subst e; simp at hka)
      obtain ⟨uo, uc, hu, hule, huok, hurow⟩ := has k hka
      obtain ⟨bb, bp, rfl, hbb, hbs⟩ := HB.out.2 (fun e => by subst e; simp at hkb)
      obtain ⟨vo, vc, hv, hvle, hvok, hvrow⟩ := hbs k hkb
      have hcall := H42.out hkf a[k] b[k] (List.getElem_mem hka) (List.getElem_mem hkb) go gc hgle hgrow uo vo uc vc huok hvok hurow hvrow
      have hx' := HK.out.2
      rw [cmpL_drop hka hkb] at hx'
      obtain ⟨g, hge⟩ : ∃ g, g = fs[0]'hkf := ⟨_, rfl⟩
      obtain ⟨u, hue⟩ : ∃ u, u = a[k]'hka := ⟨_, rfl⟩
      obtain ⟨v, hve⟩ : ∃ v, v = b[k]'hkb := ⟨_, rfl⟩
      rw [← hge, ← hue, ← hve] at hcall
      rw [← hue, ← hve] at hx'
      rw [← hge] at hg
      simp only [Nat.zero_mul, Nat.add_zero] at hg
      rw [← hue] at hu
      rw [← hve] at hv
      have gw : Gr w wr := HG0.out.trans (HGV.out.trans HK.out.1 (fun _ _ h => h)) (fun _ _ h => h)
      have hgw := hg.kept (gw.block fb (HS.out fb hfb) id)
      have huw := hu.kept (gw.block ab (HS.out ab hab) id)
      have hvw := hv.kept (gw.block bb (HS.out bb hbb) id)
      obtain ⟨c0, c1, c2, c3, c4, c5, c6⟩ := hgw
      have HC : Hid (wr.drew.cell? ⟨X, 4, none⟩ = some (.slice (some ⟨fb, fp, none⟩) M fc) ∧ wr.drew.cell? ⟨fb, fp, none⟩ = some (.string g.name) ∧ wr.drew.cell? ⟨fb, fp + 1, none⟩ = some (.bool g.nul) ∧ wr.drew.cell? ⟨fb, fp + 2, none⟩ = some (.int .i64 g.kind) ∧ wr.drew.cell? ⟨fb, fp + 3, none⟩ = some (.int .i64 g.width) ∧ wr.drew.cell? ⟨fb, fp + 4, none⟩ = some (.int .i64 g.id) ∧ wr.drew.cell? ⟨fb, fp + 5, none⟩ = some (.int .i64 g.index) ∧ wr.drew.cell? ⟨fb, fp + 6, none⟩ = some (.slice go g.kids.length gc) ∧ wr.drew.cell? ⟨ab, ap + k * 4, none⟩ = some (.bool u.nul) ∧ wr.drew.cell? ⟨ab, ap + k * 4 + 1, none⟩ = some (.int .i64 u.num) ∧ wr.drew.cell? ⟨ab, ap + k * 4 + 2, none⟩ = some (.string u.text) ∧ wr.drew.cell? ⟨ab, ap + k * 4 + 3, none⟩ = some (.slice uo u.list.length uc) ∧ wr.drew.cell? ⟨bb, bp + k * 4, none⟩ = some (.bool v.nul) ∧ wr.drew.cell? ⟨bb, bp + k * 4 + 1, none⟩ = some (.int .i64 v.num) ∧ wr.drew.cell? ⟨bb, bp + k * 4 + 2, none⟩ = some (.string v.text) ∧ wr.drew.cell? ⟨bb, bp + k * 4 + 3, none⟩ = some (.slice vo v.list.length vc)) := ⟨p4, c0, c1, c2, c3, c4, c5, c6, huw.c0, huw.c1, huw.c2, huw.c3, hvw.c0, hvw.c1, hvw.c2, hvw.c3⟩
      have H2 := hidM hcall
      have HG := hidM (HGV.out.trans HK.out.1 (fun _ _ h => h))
      have HGk := hidM HK.out.1
      have HGd : Hid (Gr w wr.drew) := (HG0.out.trans HG.out (fun _ _ h => h)).drew
      have hlLI : (k : Int) < (L : Int) := by omega
      have hlNI : (k : Int) < (N : Int) := by omega
      have hlMI : (0 : Int) < (M : Int) := by have := HL.out; omega
      have hM0 : 0 < M := by have := HL.out; omega
      obtain ⟨z, hz⟩ : ∃ z, z = c fs.head! u v := ⟨_, rfl⟩
      rw [← hz] at H2 hx'
      clear hfs hg hgle hgrow has hu hule huok hurow hbs hv hvle hvok hvrow hcall hge hue hve gw huw hvw HK hz
      go_wp2
      clear c0 c1 c2 c3 c4 c5 c6 p0 p1 p2 p3 p4
      by_cases hz0 : z = 0
      · have HX : Hid (R = cmpL (c fs.head!) (a.drop (k + 1)) (b.drop (k + 1))) := by rw [if_neg (by omega)] at hx'; exact hx'
        subst hz0
        clear hx'
        go_region_held3 (fun w' => w'.cell? ⟨X, 4, none⟩ = some (.slice (some ⟨fb, fp, none⟩) M fc) ∧ w'.cell? ⟨fb, fp, none⟩ = some (.string g.name) ∧ w'.cell? ⟨fb, fp + 1, none⟩ = some (.bool g.nul) ∧ w'.cell? ⟨fb, fp + 2, none⟩ = some (.int .i64 g.kind) ∧ w'.cell? ⟨fb, fp + 3, none⟩ = some (.int .i64 g.width) ∧ w'.cell? ⟨fb, fp + 4, none⟩ = some (.int .i64 g.id) ∧ w'.cell? ⟨fb, fp + 5, none⟩ = some (.int .i64 g.index) ∧ w'.cell? ⟨fb, fp + 6, none⟩ = some (.slice go g.kids.length gc) ∧ w'.cell? ⟨ab, ap + k * 4, none⟩ = some (.bool u.nul) ∧ w'.cell? ⟨ab, ap + k * 4 + 1, none⟩ = some (.int .i64 u.num) ∧ w'.cell? ⟨ab, ap + k * 4 + 2, none⟩ = some (.string u.text) ∧ w'.cell? ⟨ab, ap + k * 4 + 3, none⟩ = some (.slice uo u.list.length uc) ∧ w'.cell? ⟨bb, bp + k * 4, none⟩ = some (.bool v.nul) ∧ w'.cell? ⟨bb, bp + k * 4 + 1, none⟩ = some (.int .i64 v.num) ∧ w'.cell? ⟨bb, bp + k * 4 + 2, none⟩ = some (.string v.text) ∧ w'.cell? ⟨bb, bp + k * 4 + 3, none⟩ = some (.slice vo v.list.length vc)) (first | with_reducible exact HC.out | with_reducible exact ⟨gr_c HE.out (HC.out.1), gr_c HE.out (HC.out.2.1), gr_c HE.out (HC.out.2.2.1), gr_c HE.out (HC.out.2.2.2.1), gr_c HE.out (HC.out.2.2.2.2.1), gr_c HE.out (HC.out.2.2.2.2.2.1), gr_c HE.out (HC.out.2.2.2.2.2.2.1), gr_c HE.out (HC.out.2.2.2.2.2.2.2.1), gr_c HE.out (HC.out.2.2.2.2.2.2.2.2.1), gr_c HE.out (HC.out.2.2.2.2.2.2.2.2.2.1), gr_c HE.out (HC.out.2.2.2.2.2.2.2.2.2.2.1), gr_c HE.out (HC.out.2.2.2.2.2.2.2.2.2.2.2.1), gr_c HE.out (HC.out.2.2.2.2.2.2.2.2.2.2.2.2.1), gr_c HE.out (HC.out.2.2.2.2.2.2.2.2.2.2.2.2.2.1), gr_c HE.out (HC.out.2.2.2.2.2.2.2.2.2.2.2.2.2.2.1), gr_c HE.out (HC.out.2.2.2.2.2.2.2.2.2.2.2.2.2.2.2)⟩) ((go_at_call 42; refine Calls.mono (H2.out _ HGd.out) ?_; rintro e w2 ⟨rfl, hg2⟩; have HE := hidM hg2; clear hg2))
        all_goals
          go_wp2_with fail
          go_roundw
          case rel => exact ⟨k + 1, by omega, by omega, by simp, HGk.out.drew.trans HE.out (fun _ _ h => h), HX.out⟩
          case measure => simp [intOf]; omega
      · have HX : Hid (R = z) := by rw [if_pos hz0] at hx'; exact hx'
        have hzb : (z == 0) = false := by simp [hz0]
        clear hx' hz0
        go_region_held3 (fun w' => w'.cell? ⟨X, 4, none⟩ = some (.slice (some ⟨fb, fp, none⟩) M fc) ∧ w'.cell? ⟨fb, fp, none⟩ = some (.string g.name) ∧ w'.cell? ⟨fb, fp + 1, none⟩ = some (.bool g.nul) ∧ w'.cell? ⟨fb, fp + 2, none⟩ = some (.int .i64 g.kind) ∧ w'.cell? ⟨fb, fp + 3, none⟩ = some (.int .i64 g.width) ∧ w'.cell? ⟨fb, fp + 4, none⟩ = some (.int .i64 g.id) ∧ w'.cell? ⟨fb, fp + 5, none⟩ = some (.int .i64 g.index) ∧ w'.cell? ⟨fb, fp + 6, none⟩ = some (.slice go g.kids.length gc) ∧ w'.cell? ⟨ab, ap + k * 4, none⟩ = some (.bool u.nul) ∧ w'.cell? ⟨ab, ap + k * 4 + 1, none⟩ = some (.int .i64 u.num) ∧ w'.cell? ⟨ab, ap + k * 4 + 2, none⟩ = some (.string u.text) ∧ w'.cell? ⟨ab, ap + k * 4 + 3, none⟩ = some (.slice uo u.list.length uc) ∧ w'.cell? ⟨bb, bp + k * 4, none⟩ = some (.bool v.nul) ∧ w'.cell? ⟨bb, bp + k * 4 + 1, none⟩ = some (.int .i64 v.num) ∧ w'.cell? ⟨bb, bp + k * 4 + 2, none⟩ = some (.string v.text) ∧ w'.cell? ⟨bb, bp + k * 4 + 3, none⟩ = some (.slice vo v.list.length vc)) (first | with_reducible exact HC.out | with_reducible exact ⟨gr_c HE.out (HC.out.1), gr_c HE.out (HC.out.2.1), gr_c HE.out (HC.out.2.2.1), gr_c HE.out (HC.out.2.2.2.1), gr_c HE.out (HC.out.2.2.2.2.1), gr_c HE.out (HC.out.2.2.2.2.2.1), gr_c HE.out (HC.out.2.2.2.2.2.2.1), gr_c HE.out (HC.out.2.2.2.2.2.2.2.1), gr_c HE.out (HC.out.2.2.2.2.2.2.2.2.1), gr_c HE.out (HC.out.2.2.2.2.2.2.2.2.2.1), gr_c HE.out (HC.out.2.2.2.2.2.2.2.2.2.2.1), gr_c HE.out (HC.out.2.2.2.2.2.2.2.2.2.2.2.1), gr_c HE.out (HC.out.2.2.2.2.2.2.2.2.2.2.2.2.1), gr_c HE.out (HC.out.2.2.2.2.2.2.2.2.2.2.2.2.2.1), gr_c HE.out (HC.out.2.2.2.2.2.2.2.2.2.2.2.2.2.2.1), gr_c HE.out (HC.out.2.2.2.2.2.2.2.2.2.2.2.2.2.2.2)⟩) ((go_at_call 42; refine Calls.mono (H2.out _ HGd.out) ?_; rintro e w2 ⟨rfl, hg2⟩; have HE := hidM hg2; clear hg2))
        all_goals
          go_wp2_with fail
          go_ret
          exact ⟨by rw [HX.out]; rfl, HG.out.drew.trans HE.out (fun _ _ h => h)⟩
    · have HX : Hid (R = sgn (decide ((L : Int) < (N : Int))) (decide ((N : Int) < (L : Int)))) := by
        have h := HK.out.2
        have hl := HL.out
        show R = _
        rw [h, sgn_int]
        exact cmpL_end ⟨⟨hl.1, hl.2.1⟩, hk, hkN⟩ hlt
      have HG := hidM (HGV.out.trans HK.out.1 (fun _ _ h => h))
      clear HK p0 p1 p2 p3 p4
      by_cases hkL : k < L
      · have hkN' : k = N := by omega
        subst hkN'
        have hi : (k : Int) < (L : Int) := by omega
        have HY : Hid (R = sgn (decide (L < k)) true) := by
          have h := HX.out
          simp only [Int.ofNat_lt] at h
          rw [decide_eq_true hkL] at h
          exact h
        clear HX
        go_wp2_with (go_at_call 61; refine Hid.out ?_)
        unfold Hid
        refine Calls.mono (HSI.out _ _ _) ?_
        rintro e w2 ⟨rfl, rfl⟩
        go_wp2_with fail
        go_ret
        exact ⟨by rw [HY.out]; rfl, HG.out⟩
      · have hkL' : k = L := by omega
        subst hkL'
        have HY : Hid (R = sgn (decide (k < N)) (decide (N < k))) := by
          have h := HX.out
          simp only [Int.ofNat_lt] at h
          exact h
        clear HX
        go_wp2_with (go_at_call 61; refine Hid.out ?_)
        unfold Hid
        refine Calls.mono (HSI.out _ _ _) ?_
        rintro e w2 ⟨rfl, rfl⟩
        go_wp2_with fail
        go_ret
        exact ⟨by rw [HY.out]; rfl, HG.out⟩
set_option maxRecDepth 100000 in
set_option maxHeartbeats 2000000 in
theorem parts63 (S : Nat → Prop) (D d : Nat) (w : World) (f3 f4 f5 : Int) (fo ao bo : Option Addr) (fc ca cb : Nat) (fs : List FT) (a b : List VT) (c : FT → VT → VT → Int) (hf : RowAt S w (D + 1) fo fs) (ha : VRow S w (d + 1) ao a) (hb : VRow S w (d + 1) bo b) (hS : ∀ b, S b → b < w.heap.size) (hla : a.length = fs.length) (hlb : b.length = fs.length)
    (h42 : ∀ (k : Nat) (hk : k < fs.length) (ha : k < a.length) (hb : k < b.length) (go : Option Addr) (gc : Nat), fs[k].kids.length ≤ gc → RowAt S w D go fs[k].kids → ∀ (uo vo : Option Addr) (uc vc : Nat), VOk a[k] → VOk b[k] → VRow S w d uo a[k].list → VRow S w d vo b[k].list → IAns 42 #[.agg #[.string fs[k].name, .bool fs[k].nul, .int .i64 fs[k].kind, .int .i64 fs[k].width, .int .i64 fs[k].id, .int .i64 fs[k].index, .slice go fs[k].kids.length gc], .agg #[.bool a[k].nul, .int .i64 a[k].num, .string a[k].text, .slice uo a[k].list.length uc], .agg #[.bool b[k].nul, .int .i64 b[k].num, .string b[k].text, .slice vo b[k].list.length vc]] (c fs[k] a[k] b[k]) w) :
    IAns 63 #[.agg #[.int .i64 17, .int .i64 f3, .int .i64 f4, .int .i64 f5, .slice fo fs.length fc], .slice ao a.length ca, .slice bo b.length cb] (cmpP (fs.map c) a b) w := by
  intro W g0
  have hlf : fs.length ≤ 1000000000000 := hf.len
  have hla0 : a.length ≤ 1000000000000 := ha.len
  have hlb0 : b.length ≤ 1000000000000 := hb.len
  have HF := hidM hf
  have HA := hidM ha
  have HB := hidM hb
  have HS := hidM hS
  have H42 := hidM h42
  have HG0 := hidM g0
  have HSI := hidM sign_all
  obtain ⟨R, hR⟩ : ∃ R, R = cmpP (fs.map c) a b := ⟨_, rfl⟩
  rw [← hR]
  have HR := hidM hR
  obtain ⟨M, hM⟩ : ∃ M, M = fs.length := ⟨_, rfl⟩
  obtain ⟨L, hL⟩ : ∃ L, L = a.length := ⟨_, rfl⟩
  obtain ⟨N, hN⟩ : ∃ N, N = b.length := ⟨_, rfl⟩
  have HL := hidM (And.intro hL (And.intro hN (And.intro hM (And.intro hla hlb))))
  rw [← hL] at hla0 ⊢
  rw [← hN] at hlb0 ⊢
  rw [← hM] at hlf ⊢
  obtain ⟨V, hV⟩ : ∃ V, W.alloc (.cells #[.int .i64 17, .int .i64 f3, .int .i64 f4, .int .i64 f5, .slice fo M fc] 24) = V := ⟨_, rfl⟩
  have b5 : B5 V W.heap.size 17 f3 f4 f5 fo M fc := by unfold B5; rw [← hV]; exact heap_alloc_new W _
  have HB5 := hidM b5
  have HGV : Hid (Gr W V) := by rw [← hV]; exact gr_alloc W _
  clear hf ha hb hS h42 hR hL hM hN g0 b5 hla hlb
  go_enter Tryd.func63, Tryd.ntmps63
  go_wp2
  clear hV
  obtain ⟨X, hX⟩ : ∃ X, X = W.heap.size := ⟨_, rfl⟩
  rw [← hX] at HB5 ⊢
  clear hX
  go_loopw [7] (fun p wr => ∃ k : Nat, k ≤ L ∧ k ≤ N ∧ p = .int .i64 (k : Int) ∧ Hid (Gr V wr ∧ R = cmpP ((fs.drop k).map c) (a.drop k) (b.drop k))) (fun p _ => L - (intOf p).toNat)
  case atStart => exact ⟨0, by omega, by omega, rfl, Keeps.refl _ _, HR.out⟩
  case round =>
    obtain ⟨k, hk, hkN, rfl, HK⟩ := hrel
    obtain ⟨p0, p1, p2, p3, p4⟩ := B5.cells ((HK.out.1.block _ (lt_of_heap HB5.out) id).trans HB5.out)
    by_cases hlt : k < L ∧ k < N
    · obtain ⟨hltL, hltN⟩ := hlt
      have hkf : k < fs.length := by have := HL.out; omega
      have hka : k < a.length := by have := HL.out; omega
      have hkb : k < b.length := by have := HL.out; omega
      obtain ⟨fb, fp, rfl, hfb, hfs⟩ := HF.out.2 (fun e => by subst e; simp at hkf)
      obtain ⟨go, gc, hg, hgle, hgrow⟩ := hfs k hkf
      obtain ⟨ab, ap, rfl, hab, has⟩ := HA.out.2 (fun e => by subst e; simp at hka)
      obtain ⟨uo, uc, hu, hule, huok, hurow⟩ := has k hka
      obtain ⟨bb, bp, rfl, hbb, hbs⟩ := HB.out.2 (fun e => by subst e; simp at hkb)
      obtain ⟨vo, vc, hv, hvle, hvok, hvrow⟩ := hbs k hkb
      have hcall := H42.out k hkf hka hkb go gc hgle hgrow uo vo uc vc huok hvok hurow hvrow
      have hx' := HK.out.2
      rw [cmpP_drop hkf hka hkb] at hx'
      obtain ⟨g, hge⟩ : ∃ g, g = fs[k]'hkf := ⟨_, rfl⟩
      obtain ⟨u, hue⟩ : ∃ u, u = a[k]'hka := ⟨_, rfl⟩
      obtain ⟨v, hve⟩ : ∃ v, v = b[k]'hkb := ⟨_, rfl⟩
      rw [← hge, ← hue, ← hve] at hcall
      rw [← hge, ← hue, ← hve] at hx'
      rw [← hge] at hg
      rw [← hue] at hu
      rw [← hve] at hv
      have gw : Gr w wr := HG0.out.trans (HGV.out.trans HK.out.1 (fun _ _ h => h)) (fun _ _ h => h)
      have hgw := hg.kept (gw.block fb (HS.out fb hfb) id)
      have huw := hu.kept (gw.block ab (HS.out ab hab) id)
      have hvw := hv.kept (gw.block bb (HS.out bb hbb) id)
      obtain ⟨c0, c1, c2, c3, c4, c5, c6⟩ := hgw
      have HC : Hid (wr.drew.cell? ⟨X, 4, none⟩ = some (.slice (some ⟨fb, fp, none⟩) M fc) ∧ wr.drew.cell? ⟨fb, fp + k * 7, none⟩ = some (.string g.name) ∧ wr.drew.cell? ⟨fb, fp + k * 7 + 1, none⟩ = some (.bool g.nul) ∧ wr.drew.cell? ⟨fb, fp + k * 7 + 2, none⟩ = some (.int .i64 g.kind) ∧ wr.drew.cell? ⟨fb, fp + k * 7 + 3, none⟩ = some (.int .i64 g.width) ∧ wr.drew.cell? ⟨fb, fp + k * 7 + 4, none⟩ = some (.int .i64 g.id) ∧ wr.drew.cell? ⟨fb, fp + k * 7 + 5, none⟩ = some (.int .i64 g.index) ∧ wr.drew.cell? ⟨fb, fp + k * 7 + 6, none⟩ = some (.slice go g.kids.length gc) ∧ wr.drew.cell? ⟨ab, ap + k * 4, none⟩ = some (.bool u.nul) ∧ wr.drew.cell? ⟨ab, ap + k * 4 + 1, none⟩ = some (.int .i64 u.num) ∧ wr.drew.cell? ⟨ab, ap + k * 4 + 2, none⟩ = some (.string u.text) ∧ wr.drew.cell? ⟨ab, ap + k * 4 + 3, none⟩ = some (.slice uo u.list.length uc) ∧ wr.drew.cell? ⟨bb, bp + k * 4, none⟩ = some (.bool v.nul) ∧ wr.drew.cell? ⟨bb, bp + k * 4 + 1, none⟩ = some (.int .i64 v.num) ∧ wr.drew.cell? ⟨bb, bp + k * 4 + 2, none⟩ = some (.string v.text) ∧ wr.drew.cell? ⟨bb, bp + k * 4 + 3, none⟩ = some (.slice vo v.list.length vc)) := ⟨p4, c0, c1, c2, c3, c4, c5, c6, huw.c0, huw.c1, huw.c2, huw.c3, hvw.c0, hvw.c1, hvw.c2, hvw.c3⟩
      have H2 := hidM hcall
      have HG := hidM (HGV.out.trans HK.out.1 (fun _ _ h => h))
      have HGk := hidM HK.out.1
      have HGd : Hid (Gr w wr.drew) := (HG0.out.trans HG.out (fun _ _ h => h)).drew
      have hlLI : (k : Int) < (L : Int) := by omega
      have hlNI : (k : Int) < (N : Int) := by omega
      have hlMI : ((k : Int) : Int) < (M : Int) := by have := HL.out; omega
      have hM0 : 0 < M := by have := HL.out; omega
      obtain ⟨z, hz⟩ : ∃ z, z = c g u v := ⟨_, rfl⟩
      rw [← hz] at H2 hx'
      clear hfs hg hgle hgrow has hu hule huok hurow hbs hv hvle hvok hvrow hcall hge hue hve gw huw hvw HK hz
      go_wp2
      clear c0 c1 c2 c3 c4 c5 c6 p0 p1 p2 p3 p4
      by_cases hz0 : z = 0
      · have HX : Hid (R = cmpP ((fs.drop (k + 1)).map c) (a.drop (k + 1)) (b.drop (k + 1))) := by rw [if_neg (by omega)] at hx'; exact hx'
        subst hz0
        clear hx'
        go_region_held3 (fun w' => w'.cell? ⟨X, 4, none⟩ = some (.slice (some ⟨fb, fp, none⟩) M fc) ∧ w'.cell? ⟨fb, fp + k * 7, none⟩ = some (.string g.name) ∧ w'.cell? ⟨fb, fp + k * 7 + 1, none⟩ = some (.bool g.nul) ∧ w'.cell? ⟨fb, fp + k * 7 + 2, none⟩ = some (.int .i64 g.kind) ∧ w'.cell? ⟨fb, fp + k * 7 + 3, none⟩ = some (.int .i64 g.width) ∧ w'.cell? ⟨fb, fp + k * 7 + 4, none⟩ = some (.int .i64 g.id) ∧ w'.cell? ⟨fb, fp + k * 7 + 5, none⟩ = some (.int .i64 g.index) ∧ w'.cell? ⟨fb, fp + k * 7 + 6, none⟩ = some (.slice go g.kids.length gc) ∧ w'.cell? ⟨ab, ap + k * 4, none⟩ = some (.bool u.nul) ∧ w'.cell? ⟨ab, ap + k * 4 + 1, none⟩ = some (.int .i64 u.num) ∧ w'.cell? ⟨ab, ap + k * 4 + 2, none⟩ = some (.string u.text) ∧ w'.cell? ⟨ab, ap + k * 4 + 3, none⟩ = some (.slice uo u.list.length uc) ∧ w'.cell? ⟨bb, bp + k * 4, none⟩ = some (.bool v.nul) ∧ w'.cell? ⟨bb, bp + k * 4 + 1, none⟩ = some (.int .i64 v.num) ∧ w'.cell? ⟨bb, bp + k * 4 + 2, none⟩ = some (.string v.text) ∧ w'.cell? ⟨bb, bp + k * 4 + 3, none⟩ = some (.slice vo v.list.length vc)) (first | with_reducible exact HC.out | with_reducible exact ⟨gr_c HE.out (HC.out.1), gr_c HE.out (HC.out.2.1), gr_c HE.out (HC.out.2.2.1), gr_c HE.out (HC.out.2.2.2.1), gr_c HE.out (HC.out.2.2.2.2.1), gr_c HE.out (HC.out.2.2.2.2.2.1), gr_c HE.out (HC.out.2.2.2.2.2.2.1), gr_c HE.out (HC.out.2.2.2.2.2.2.2.1), gr_c HE.out (HC.out.2.2.2.2.2.2.2.2.1), gr_c HE.out (HC.out.2.2.2.2.2.2.2.2.2.1), gr_c HE.out (HC.out.2.2.2.2.2.2.2.2.2.2.1), gr_c HE.out (HC.out.2.2.2.2.2.2.2.2.2.2.2.1), gr_c HE.out (HC.out.2.2.2.2.2.2.2.2.2.2.2.2.1), gr_c HE.out (HC.out.2.2.2.2.2.2.2.2.2.2.2.2.2.1), gr_c HE.out (HC.out.2.2.2.2.2.2.2.2.2.2.2.2.2.2.1), gr_c HE.out (HC.out.2.2.2.2.2.2.2.2.2.2.2.2.2.2.2)⟩) ((go_at_call 42; refine Calls.mono (H2.out _ HGd.out) ?_; rintro e w2 ⟨rfl, hg2⟩; have HE := hidM hg2; clear hg2))
        all_goals
          go_wp2_with fail
          go_roundw
          case rel => exact ⟨k + 1, by omega, by omega, by simp, HGk.out.drew.trans HE.out (fun _ _ h => h), HX.out⟩
          case measure => simp [intOf]; omega
      · have HX : Hid (R = z) := by rw [if_pos hz0] at hx'; exact hx'
        have hzb : (z == 0) = false := by simp [hz0]
        clear hx' hz0
        go_region_held3 (fun w' => w'.cell? ⟨X, 4, none⟩ = some (.slice (some ⟨fb, fp, none⟩) M fc) ∧ w'.cell? ⟨fb, fp + k * 7, none⟩ = some (.string g.name) ∧ w'.cell? ⟨fb, fp + k * 7 + 1, none⟩ = some (.bool g.nul) ∧ w'.cell? ⟨fb, fp + k * 7 + 2, none⟩ = some (.int .i64 g.kind) ∧ w'.cell? ⟨fb, fp + k * 7 + 3, none⟩ = some (.int .i64 g.width) ∧ w'.cell? ⟨fb, fp + k * 7 + 4, none⟩ = some (.int .i64 g.id) ∧ w'.cell? ⟨fb, fp + k * 7 + 5, none⟩ = some (.int .i64 g.index) ∧ w'.cell? ⟨fb, fp + k * 7 + 6, none⟩ = some (.slice go g.kids.length gc) ∧ w'.cell? ⟨ab, ap + k * 4, none⟩ = some (.bool u.nul) ∧ w'.cell? ⟨ab, ap + k * 4 + 1, none⟩ = some (.int .i64 u.num) ∧ w'.cell? ⟨ab, ap + k * 4 + 2, none⟩ = some (.string u.text) ∧ w'.cell? ⟨ab, ap + k * 4 + 3, none⟩ = some (.slice uo u.list.length uc) ∧ w'.cell? ⟨bb, bp + k * 4, none⟩ = some (.bool v.nul) ∧ w'.cell? ⟨bb, bp + k * 4 + 1, none⟩ = some (.int .i64 v.num) ∧ w'.cell? ⟨bb, bp + k * 4 + 2, none⟩ = some (.string v.text) ∧ w'.cell? ⟨bb, bp + k * 4 + 3, none⟩ = some (.slice vo v.list.length vc)) (first | with_reducible exact HC.out | with_reducible exact ⟨gr_c HE.out (HC.out.1), gr_c HE.out (HC.out.2.1), gr_c HE.out (HC.out.2.2.1), gr_c HE.out (HC.out.2.2.2.1), gr_c HE.out (HC.out.2.2.2.2.1), gr_c HE.out (HC.out.2.2.2.2.2.1), gr_c HE.out (HC.out.2.2.2.2.2.2.1), gr_c HE.out (HC.out.2.2.2.2.2.2.2.1), gr_c HE.out (HC.out.2.2.2.2.2.2.2.2.1), gr_c HE.out (HC.out.2.2.2.2.2.2.2.2.2.1), gr_c HE.out (HC.out.2.2.2.2.2.2.2.2.2.2.1), gr_c HE.out (HC.out.2.2.2.2.2.2.2.2.2.2.2.1), gr_c HE.out (HC.out.2.2.2.2.2.2.2.2.2.2.2.2.1), gr_c HE.out (HC.out.2.2.2.2.2.2.2.2.2.2.2.2.2.1), gr_c HE.out (HC.out.2.2.2.2.2.2.2.2.2.2.2.2.2.2.1), gr_c HE.out (HC.out.2.2.2.2.2.2.2.2.2.2.2.2.2.2.2)⟩) ((go_at_call 42; refine Calls.mono (H2.out _ HGd.out) ?_; rintro e w2 ⟨rfl, hg2⟩; have HE := hidM hg2; clear hg2))
        all_goals
          go_wp2_with fail
          go_ret
          exact ⟨by rw [HX.out]; rfl, HG.out.drew.trans HE.out (fun _ _ h => h)⟩
    · have HX : Hid (R = sgn (decide ((L : Int) < (N : Int))) (decide ((N : Int) < (L : Int)))) := by
        have h := HK.out.2
        have hl := HL.out
        show R = _
        rw [h, sgn_int]
        rw [show fs.drop k = [] from List.drop_eq_nil_of_le (by omega)]
        have e : (L : Int) = (N : Int) := by omega
        unfold cmpI
        rw [if_neg (by omega), if_neg (by omega)]
        rfl
      have HG := hidM (HGV.out.trans HK.out.1 (fun _ _ h => h))
      clear HK p0 p1 p2 p3 p4
      by_cases hkL : k < L
      · have hkN' : k = N := by omega
        subst hkN'
        have hi : (k : Int) < (L : Int) := by omega
        have HY : Hid (R = sgn (decide (L < k)) true) := by
          have h := HX.out
          simp only [Int.ofNat_lt] at h
          rw [decide_eq_true hkL] at h
          exact h
        clear HX
        go_wp2_with (go_at_call 61; refine Hid.out ?_)
        unfold Hid
        refine Calls.mono (HSI.out _ _ _) ?_
        rintro e w2 ⟨rfl, rfl⟩
        go_wp2_with fail
        go_ret
        exact ⟨by rw [HY.out]; rfl, HG.out⟩
      · have hkL' : k = L := by omega
        subst hkL'
        have HY : Hid (R = sgn (decide (k < N)) (decide (N < k))) := by
          have h := HX.out
          simp only [Int.ofNat_lt] at h
          exact h
        clear HX
        go_wp2_with (go_at_call 61; refine Hid.out ?_)
        unfold Hid
        refine Calls.mono (HSI.out _ _ _) ?_
        rintro e w2 ⟨rfl, rfl⟩
        go_wp2_with fail
        go_ret
        exact ⟨by rw [HY.out]; rfl, HG.out⟩
end Go.Proofs.YtcfdkadhclickaaDoor.Kit
