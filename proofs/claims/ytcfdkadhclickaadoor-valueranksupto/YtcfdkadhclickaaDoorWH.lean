import Derived.Test.YtcfdkadhclickaaDoorWG
import Derived.Test.YtcfdkadhclickaaDoorWC
import Derived.Test.YtcfdkadhclickaaDoorWD
import Derived.Deep.RegionHeld3
namespace Go.Proofs.YtcfdkadhclickaaDoor.Kit
open Go.RowKit Go.Shelf Go.Deep
set_option linter.unusedVariables false
attribute [local go_sem] run_store_func

/-- a callee that answers that value in all later worlds -/
def VAns (F : Nat) (args : Array Value) (v : Value) (w : World) : Prop := ∀ W, Gr w W → Calls Tryd.prog F args W fun e w' => e = .returned v ∧ Gr W w'
/-- the law's four boxes -/
structure Box4 (V : World) (B : Nat) (f0 : ByteArray) (f1 : Bool) (f2 f3 f4 f5 : Int) (ao : Option Addr) (n ca : Nat) (a0 b0 c0 : Bool) (a1 b1 c1 : Int) (a2 b2 c2 : ByteArray) (uo vo xo : Option Addr) (un uc vn vc xn xc : Nat) : Prop where
  f : B7 V B f0 f1 f2 f3 f4 f5 ao n ca
  a : B4 V (B + 1) a0 a1 a2 uo un uc
  b : B4 V (B + 1 + 1) b0 b1 b2 vo vn vc
  c : B4 V (B + 1 + 1 + 1) c0 c1 c2 xo xn xc
theorem Box4.gr {V V' : World} {B : Nat} {f0 : ByteArray} {f1 : Bool} {f2 f3 f4 f5 : Int} {ao : Option Addr} {n ca : Nat} {a0 b0 c0 : Bool} {a1 b1 c1 : Int} {a2 b2 c2 : ByteArray} {uo vo xo : Option Addr} {un uc vn vc xn xc : Nat} (h : Box4 V B f0 f1 f2 f3 f4 f5 ao n ca a0 b0 c0 a1 b1 c1 a2 b2 c2 uo vo xo un uc vn vc xn xc) (g : Gr V V') : Box4 V' B f0 f1 f2 f3 f4 f5 ao n ca a0 b0 c0 a1 b1 c1 a2 b2 c2 uo vo xo un uc vn vc xn xc :=
  ⟨(g.block _ (lt_of_heap h.f) id).trans h.f, (g.block _ (lt_of_heap h.a) id).trans h.a, (g.block _ (lt_of_heap h.b) id).trans h.b, (g.block _ (lt_of_heap h.c) id).trans h.c⟩
theorem ss_kept {w W W' : World} {B : Nat} {f0 : ByteArray} {f1 : Bool} {f2 f3 f4 f5 : Int} {ao : Option Addr} {n ca : Nat} {a0 b0 c0 : Bool} {a1 b1 c1 : Int} {a2 b2 c2 : ByteArray} {uo vo xo : Option Addr} {un uc vn vc xn xc : Nat} (h : Hid (Gr w W ∧ Box4 W B f0 f1 f2 f3 f4 f5 ao n ca a0 b0 c0 a1 b1 c1 a2 b2 c2 uo vo xo un uc vn vc xn xc) ∧ W.cell? ⟨B + 1, 0, none⟩ = some (.bool a0) ∧ W.cell? ⟨B + 1, 1, none⟩ = some (.int .i64 a1) ∧ W.cell? ⟨B + 1, 2, none⟩ = some (.string a2) ∧ W.cell? ⟨B + 1, 3, none⟩ = some (.slice uo un uc) ∧ W.cell? ⟨B + 1 + 1, 0, none⟩ = some (.bool b0) ∧ W.cell? ⟨B + 1 + 1, 1, none⟩ = some (.int .i64 b1) ∧ W.cell? ⟨B + 1 + 1, 2, none⟩ = some (.string b2) ∧ W.cell? ⟨B + 1 + 1, 3, none⟩ = some (.slice vo vn vc)) (g : Hid (Gr W W')) : Hid (Gr w W' ∧ Box4 W' B f0 f1 f2 f3 f4 f5 ao n ca a0 b0 c0 a1 b1 c1 a2 b2 c2 uo vo xo un uc vn vc xn xc) ∧ W'.cell? ⟨B + 1, 0, none⟩ = some (.bool a0) ∧ W'.cell? ⟨B + 1, 1, none⟩ = some (.int .i64 a1) ∧ W'.cell? ⟨B + 1, 2, none⟩ = some (.string a2) ∧ W'.cell? ⟨B + 1, 3, none⟩ = some (.slice uo un uc) ∧ W'.cell? ⟨B + 1 + 1, 0, none⟩ = some (.bool b0) ∧ W'.cell? ⟨B + 1 + 1, 1, none⟩ = some (.int .i64 b1) ∧ W'.cell? ⟨B + 1 + 1, 2, none⟩ = some (.string b2) ∧ W'.cell? ⟨B + 1 + 1, 3, none⟩ = some (.slice vo vn vc) := by
  have hb := h.1.out.2.gr g.out
  obtain ⟨q0, q1, q2, q3⟩ := hb.a.cells
  obtain ⟨r0, r1, r2, r3⟩ := hb.b.cells
  exact ⟨⟨h.1.out.1.trans g.out (fun _ _ h => h), hb⟩, q0, q1, q2, q3, r0, r1, r2, r3⟩
theorem ss_of {w W : World} {B : Nat} {f0 : ByteArray} {f1 : Bool} {f2 f3 f4 f5 : Int} {ao : Option Addr} {n ca : Nat} {a0 b0 c0 : Bool} {a1 b1 c1 : Int} {a2 b2 c2 : ByteArray} {uo vo xo : Option Addr} {un uc vn vc xn xc : Nat} (g : Gr w W) (hb : Box4 W B f0 f1 f2 f3 f4 f5 ao n ca a0 b0 c0 a1 b1 c1 a2 b2 c2 uo vo xo un uc vn vc xn xc) : Hid (Gr w W ∧ Box4 W B f0 f1 f2 f3 f4 f5 ao n ca a0 b0 c0 a1 b1 c1 a2 b2 c2 uo vo xo un uc vn vc xn xc) ∧ W.cell? ⟨B + 1, 0, none⟩ = some (.bool a0) ∧ W.cell? ⟨B + 1, 1, none⟩ = some (.int .i64 a1) ∧ W.cell? ⟨B + 1, 2, none⟩ = some (.string a2) ∧ W.cell? ⟨B + 1, 3, none⟩ = some (.slice uo un uc) ∧ W.cell? ⟨B + 1 + 1, 0, none⟩ = some (.bool b0) ∧ W.cell? ⟨B + 1 + 1, 1, none⟩ = some (.int .i64 b1) ∧ W.cell? ⟨B + 1 + 1, 2, none⟩ = some (.string b2) ∧ W.cell? ⟨B + 1 + 1, 3, none⟩ = some (.slice vo vn vc) := by
  obtain ⟨q0, q1, q2, q3⟩ := hb.a.cells
  obtain ⟨r0, r1, r2, r3⟩ := hb.b.cells
  exact ⟨⟨g, hb⟩, q0, q1, q2, q3, r0, r1, r2, r3⟩
theorem ss_gr {w W : World} {P Q : Prop} (h : Hid (Gr w W ∧ P) ∧ Q) : Gr w W := h.1.out.1
/-! ### ValueRanks -/
set_option maxRecDepth 100000 in
set_option maxHeartbeats 4000000 in
theorem ranks_walk (f0 : ByteArray) (f1 : Bool) (f2 f3 f4 f5 : Int) (ao : Option Addr) (n ca : Nat) (a0 b0 c0 : Bool) (a1 b1 c1 : Int) (a2 b2 c2 : ByteArray) (uo vo xo : Option Addr) (un uc vn vc xn xc : Nat) (w : World)
    (ab e ba g bc h ac i ea eb ec : Int)
    (hK1 : VAns 6 #[.agg #[.string ⟨#[97]⟩, .bool false, .int .i64 3, .int .i64 0, .int .i64 0, .int .i64 0, .slice none 0 0], .agg #[.bool false, .int .i64 5, .string ⟨#[]⟩, .slice none 0 0]] (.int .i64 0) w)
    (hAB : CmpC w (.agg #[.string f0, .bool f1, .int .i64 f2, .int .i64 f3, .int .i64 f4, .int .i64 f5, .slice ao n ca]) (.agg #[.bool a0, .int .i64 a1, .string a2, .slice uo un uc]) (.agg #[.bool b0, .int .i64 b1, .string b2, .slice vo vn vc]) (ab, e))
    (hBA : CmpC w (.agg #[.string f0, .bool f1, .int .i64 f2, .int .i64 f3, .int .i64 f4, .int .i64 f5, .slice ao n ca]) (.agg #[.bool b0, .int .i64 b1, .string b2, .slice vo vn vc]) (.agg #[.bool a0, .int .i64 a1, .string a2, .slice uo un uc]) (ba, g))
    (hBC : CmpC w (.agg #[.string f0, .bool f1, .int .i64 f2, .int .i64 f3, .int .i64 f4, .int .i64 f5, .slice ao n ca]) (.agg #[.bool b0, .int .i64 b1, .string b2, .slice vo vn vc]) (.agg #[.bool c0, .int .i64 c1, .string c2, .slice xo xn xc]) (bc, h))
    (hAC : CmpC w (.agg #[.string f0, .bool f1, .int .i64 f2, .int .i64 f3, .int .i64 f4, .int .i64 f5, .slice ao n ca]) (.agg #[.bool a0, .int .i64 a1, .string a2, .slice uo un uc]) (.agg #[.bool c0, .int .i64 c1, .string c2, .slice xo xn xc]) (ac, i))
    (hEA : VAns 6 #[.agg #[.string f0, .bool f1, .int .i64 f2, .int .i64 f3, .int .i64 f4, .int .i64 f5, .slice ao n ca], .agg #[.bool a0, .int .i64 a1, .string a2, .slice uo un uc]] (.int .i64 ea) w)
    (hEB : VAns 6 #[.agg #[.string f0, .bool f1, .int .i64 f2, .int .i64 f3, .int .i64 f4, .int .i64 f5, .slice ao n ca], .agg #[.bool b0, .int .i64 b1, .string b2, .slice vo vn vc]] (.int .i64 eb) w)
    (hEC : VAns 6 #[.agg #[.string f0, .bool f1, .int .i64 f2, .int .i64 f3, .int .i64 f4, .int .i64 f5, .slice ao n ca], .agg #[.bool c0, .int .i64 c1, .string c2, .slice xo xn xc]] (.int .i64 ec) w)
    (hK2 : CmpC w (.agg #[.string ⟨#[97]⟩, .bool false, .int .i64 3, .int .i64 0, .int .i64 0, .int .i64 0, .slice none 0 0]) (.agg #[.bool false, .int .i64 5, .string ⟨#[]⟩, .slice none 0 0]) (.agg #[.bool false, .int .i64 (-5), .string ⟨#[]⟩, .slice none 0 0]) (1, 0))
    (hcase : (∃ xa xb xc : Bool, (ea == 0) = xa ∧ (eb == 0) = xb ∧ (ec == 0) = xc ∧ (xa && xb && xc) = false ∧ (e == 0) = (xa && xb) ∧ wrap64 (-ba) = ab) ∨
      (ea = 0 ∧ eb = 0 ∧ ec = 0 ∧ e = 0 ∧ g = 0 ∧ h = 0 ∧ i = 0 ∧ ba = -ab ∧ (ab = -1 ∨ ab = 0 ∨ ab = 1) ∧ (ab ≤ 0 → bc ≤ 0 → ac ≤ 0) ∧ (0 ≤ ab → 0 ≤ bc → 0 ≤ ac) ∧ VAns 20 #[.agg #[.bool a0, .int .i64 a1, .string a2, .slice uo un uc], .agg #[.bool b0, .int .i64 b1, .string b2, .slice vo vn vc]] (.bool (decide (ab = 0))) w ∧ (a0 = true → ab ≤ 0) ∧ (ab = 0 → ∃ hh, VAns 21 #[.agg #[.bool a0, .int .i64 a1, .string a2, .slice uo un uc]] (.int .u64 hh) w ∧ VAns 21 #[.agg #[.bool b0, .int .i64 b1, .string b2, .slice vo vn vc]] (.int .u64 hh) w)))
    : Calls Tryd.prog 5 #[.agg #[.string f0, .bool f1, .int .i64 f2, .int .i64 f3, .int .i64 f4, .int .i64 f5, .slice ao n ca], .agg #[.bool a0, .int .i64 a1, .string a2, .slice uo un uc], .agg #[.bool b0, .int .i64 b1, .string b2, .slice vo vn vc], .agg #[.bool c0, .int .i64 c1, .string c2, .slice xo xn xc]] w fun e w' => e = .returned (.bool true) ∧ Gr w w' := by
  have H1 := hidM hK1
  have H2 := hidM hAB
  have H3 := hidM hBA
  have H4 := hidM hBC
  have H5 := hidM hAC
  have H6 := hidM hEA
  have H7 := hidM hEB
  have H8 := hidM hEC
  have H9 := hidM hK2
  have HX := hidM hcase
  obtain ⟨V, hV⟩ : ∃ V, (((w.alloc (.cells #[.string f0, .bool f1, .int .i64 f2, .int .i64 f3, .int .i64 f4, .int .i64 f5, .slice ao n ca] 26)).alloc (.cells #[.bool a0, .int .i64 a1, .string a2, .slice uo un uc] 29)).alloc (.cells #[.bool b0, .int .i64 b1, .string b2, .slice vo vn vc] 29)).alloc (.cells #[.bool c0, .int .i64 c1, .string c2, .slice xo xn xc] 29) = V := ⟨_, rfl⟩
  have hA := alloc4 w (.cells #[.string f0, .bool f1, .int .i64 f2, .int .i64 f3, .int .i64 f4, .int .i64 f5, .slice ao n ca] 26) (.cells #[.bool a0, .int .i64 a1, .string a2, .slice uo un uc] 29) (.cells #[.bool b0, .int .i64 b1, .string b2, .slice vo vn vc] 29) (.cells #[.bool c0, .int .i64 c1, .string c2, .slice xo xn xc] 29)
  rw [hV] at hA
  have HB : Hid (Box4 V w.heap.size f0 f1 f2 f3 f4 f5 ao n ca a0 b0 c0 a1 b1 c1 a2 b2 c2 uo vo xo un uc vn vc xn xc) := ⟨hA.1, hA.2.1, hA.2.2.1, hA.2.2.2.1⟩
  have HG := hidM hA.2.2.2.2
  have HV := hidM hV
  clear hK2 hcase hK1 hAB hBA hBC hAC hEA hEB hEC hA hV
  go_enter Tryd.func5, Tryd.ntmps5
  go_wp2_with (go_at_call 6; refine Hid.out ?_)
  unfold Hid
  rw [HV.out]
  refine Calls.mono (H1.out _ HG.out) ?_
  rintro e' V1 ⟨rfl, hg⟩
  replace HB := hidM (HB.out.gr hg)
  replace HG := hidM (HG.out.trans hg (fun _ _ h => h))
  clear hg HV 
  obtain ⟨p0, p1, p2, p3, p4, p5, p6⟩ := HB.out.f.cells
  obtain ⟨q0, q1, q2, q3⟩ := HB.out.a.cells
  obtain ⟨r0, r1, r2, r3⟩ := HB.out.b.cells
  go_wp2_with (go_at_call 18; refine Hid.out ?_)
  unfold Hid
  refine Calls.mono (H2.out _ HG.out) ?_
  rintro e' V2 ⟨rfl, hg⟩
  replace HB := hidM (HB.out.gr hg)
  replace HG := hidM (HG.out.trans hg (fun _ _ h => h))
  clear hg p0 p1 p2 p3 p4 p5 p6 q0 q1 q2 q3 r0 r1 r2 r3
  obtain ⟨p0, p1, p2, p3, p4, p5, p6⟩ := HB.out.f.cells
  obtain ⟨q0, q1, q2, q3⟩ := HB.out.a.cells
  obtain ⟨r0, r1, r2, r3⟩ := HB.out.b.cells
  go_wp2_with (go_at_call 18; refine Hid.out ?_)
  unfold Hid
  refine Calls.mono (H3.out _ HG.out) ?_
  rintro e' V3 ⟨rfl, hg⟩
  replace HB := hidM (HB.out.gr hg)
  replace HG := hidM (HG.out.trans hg (fun _ _ h => h))
  clear hg p0 p1 p2 p3 p4 p5 p6 q0 q1 q2 q3 r0 r1 r2 r3
  obtain ⟨p0, p1, p2, p3, p4, p5, p6⟩ := HB.out.f.cells
  obtain ⟨r0, r1, r2, r3⟩ := HB.out.b.cells
  obtain ⟨s0, s1, s2, s3⟩ := HB.out.c.cells
  go_wp2_with (go_at_call 18; refine Hid.out ?_)
  unfold Hid
  refine Calls.mono (H4.out _ HG.out) ?_
  rintro e' V4 ⟨rfl, hg⟩
  replace HB := hidM (HB.out.gr hg)
  replace HG := hidM (HG.out.trans hg (fun _ _ h => h))
  clear hg p0 p1 p2 p3 p4 p5 p6 r0 r1 r2 r3 s0 s1 s2 s3
  obtain ⟨p0, p1, p2, p3, p4, p5, p6⟩ := HB.out.f.cells
  obtain ⟨q0, q1, q2, q3⟩ := HB.out.a.cells
  obtain ⟨s0, s1, s2, s3⟩ := HB.out.c.cells
  go_wp2_with (go_at_call 18; refine Hid.out ?_)
  unfold Hid
  refine Calls.mono (H5.out _ HG.out) ?_
  rintro e' V5 ⟨rfl, hg⟩
  replace HB := hidM (HB.out.gr hg)
  replace HG := hidM (HG.out.trans hg (fun _ _ h => h))
  clear hg p0 p1 p2 p3 p4 p5 p6 q0 q1 q2 q3 s0 s1 s2 s3
  obtain ⟨p0, p1, p2, p3, p4, p5, p6⟩ := HB.out.f.cells
  obtain ⟨q0, q1, q2, q3⟩ := HB.out.a.cells
  go_wp2_with (go_at_call 6; refine Hid.out ?_)
  unfold Hid
  refine Calls.mono (H6.out _ HG.out) ?_
  rintro e' V6 ⟨rfl, hg⟩
  replace HB := hidM (HB.out.gr hg)
  replace HG := hidM (HG.out.trans hg (fun _ _ h => h))
  clear hg p0 p1 p2 p3 p4 p5 p6 q0 q1 q2 q3
  obtain ⟨p0, p1, p2, p3, p4, p5, p6⟩ := HB.out.f.cells
  obtain ⟨r0, r1, r2, r3⟩ := HB.out.b.cells
  go_wp2_with (go_at_call 6; refine Hid.out ?_)
  unfold Hid
  refine Calls.mono (H7.out _ HG.out) ?_
  rintro e' V7 ⟨rfl, hg⟩
  replace HB := hidM (HB.out.gr hg)
  replace HG := hidM (HG.out.trans hg (fun _ _ h => h))
  clear hg p0 p1 p2 p3 p4 p5 p6 r0 r1 r2 r3
  obtain ⟨p0, p1, p2, p3, p4, p5, p6⟩ := HB.out.f.cells
  obtain ⟨s0, s1, s2, s3⟩ := HB.out.c.cells
  go_wp2_with (go_at_call 6; refine Hid.out ?_)
  unfold Hid
  refine Calls.mono (H8.out _ HG.out) ?_
  rintro e' V8 ⟨rfl, hg⟩
  replace HB := hidM (HB.out.gr hg)
  replace HG := hidM (HG.out.trans hg (fun _ _ h => h))
  clear hg p0 p1 p2 p3 p4 p5 p6 s0 s1 s2 s3
  rcases HX.out with ⟨xa, xb, xc, y1, y2, y3, y4, y5, y6⟩ | ⟨y1, y2, y3, y4, y5, y6, y7, y8, y9, t1, t2, hsm, hnl, hhs⟩
  · clear HX H1 H2 H3 H4 H5 H6 H7 H8 H9
    cases xa <;> cases xb <;> cases xc
    case true.true.true => exact absurd y4 (by decide)
    all_goals
      have y5 : (e == 0) = _ := y5
      simp only [Bool.and_true, Bool.and_false] at y5
      clear y4
      go_wp2_with fail
      all_goals go_ret
      all_goals first | exact ⟨rfl, HG.out⟩ | (exfalso; simp_all; done)
  · subst y1 y2 y3 y4 y5 y6 y7 y8
    have HT := hidM (And.intro t1 t2)
    have HSM := hidM hsm
    have HHS := hidM hhs
    have HNL := hidM hnl
    clear HX H1 H2 H3 H4 H5 H6 H7 H8 t1 t2 hsm hhs hnl
    rcases y9 with rfl | rfl | rfl
    · by_cases hb : bc ≤ 0
      · have hac := HT.out.1 (by decide) hb
        clear HT
        obtain ⟨q0, q1, q2, q3⟩ := HB.out.a.cells
        obtain ⟨r0, r1, r2, r3⟩ := HB.out.b.cells
        go_wp2_with (go_at_call 20; refine Hid.out ?_)
        unfold Hid
        refine Calls.mono (HSM.out _ HG.out) ?_
        rintro e' V9 ⟨rfl, hg⟩
        replace HB := hidM (HB.out.gr hg)
        replace HG := hidM (HG.out.trans hg (fun _ _ h => h))
        clear hg q0 q1 q2 q3 r0 r1 r2 r3
        obtain ⟨q0, q1, q2, q3⟩ := HB.out.a.cells
        obtain ⟨r0, r1, r2, r3⟩ := HB.out.b.cells
        go_wp2_with fail
        clear HNL
        cases a0
        all_goals
          go_region
          all_goals
            replace HG := hidM HG.out.drew
            go_wp2_with (go_at_call 18; refine Hid.out ?_)
            unfold Hid
            refine Calls.mono (H9.out _ HG.out) ?_
            rintro e' V10 ⟨rfl, hg⟩
            replace HG := hidM (HG.out.trans hg (fun _ _ h => h))
            clear hg
            go_wp2_with fail
            go_ret
            exact ⟨rfl, HG.out⟩
      · have hb : 0 < bc := by omega
        clear HT
        obtain ⟨q0, q1, q2, q3⟩ := HB.out.a.cells
        obtain ⟨r0, r1, r2, r3⟩ := HB.out.b.cells
        go_wp2_with (go_at_call 20; refine Hid.out ?_)
        unfold Hid
        refine Calls.mono (HSM.out _ HG.out) ?_
        rintro e' V9 ⟨rfl, hg⟩
        replace HB := hidM (HB.out.gr hg)
        replace HG := hidM (HG.out.trans hg (fun _ _ h => h))
        clear hg q0 q1 q2 q3 r0 r1 r2 r3
        obtain ⟨q0, q1, q2, q3⟩ := HB.out.a.cells
        obtain ⟨r0, r1, r2, r3⟩ := HB.out.b.cells
        go_wp2_with fail
        clear HNL
        cases a0
        all_goals
          go_region
          all_goals
            replace HG := hidM HG.out.drew
            go_wp2_with (go_at_call 18; refine Hid.out ?_)
            unfold Hid
            refine Calls.mono (H9.out _ HG.out) ?_
            rintro e' V10 ⟨rfl, hg⟩
            replace HG := hidM (HG.out.trans hg (fun _ _ h => h))
            clear hg
            go_wp2_with fail
            go_ret
            exact ⟨rfl, HG.out⟩
    · rcases (by omega : bc < 0 ∨ bc = 0 ∨ 0 < bc) with hb | rfl | hb
      · have hac := HT.out.1 (by decide) (by omega)
        clear HT
        obtain ⟨q0, q1, q2, q3⟩ := HB.out.a.cells
        obtain ⟨r0, r1, r2, r3⟩ := HB.out.b.cells
        go_wp2_with (go_at_call 20; refine Hid.out ?_)
        unfold Hid
        refine Calls.mono (HSM.out _ HG.out) ?_
        rintro e' V9 ⟨rfl, hg⟩
        replace HB := hidM (HB.out.gr hg)
        replace HG := hidM (HG.out.trans hg (fun _ _ h => h))
        clear hg q0 q1 q2 q3 r0 r1 r2 r3
        obtain ⟨q0, q1, q2, q3⟩ := HB.out.a.cells
        obtain ⟨r0, r1, r2, r3⟩ := HB.out.b.cells
        go_wp2_with fail
        clear HNL
        obtain ⟨hh, hA, hB⟩ := HHS.out (by trivial)
        have HA := hidM hA
        have HB2 := hidM hB
        clear hA hB HHS q0 q1 q2 q3 r0 r1 r2 r3
        cases a0 with
        | true =>
          have HC := hidM (ss_of HG.out.drew (HB.out.gr (Keeps.refl _ _).drew))
          clear HB HG
          go_region_held3 (fun w' => Hid (Gr w w' ∧ Box4 w' w.heap.size f0 f1 f2 f3 f4 f5 ao n ca true b0 c0 a1 b1 c1 a2 b2 c2 uo vo xo un uc vn vc xn xc) ∧ w'.cell? ⟨w.heap.size + 1, 0, none⟩ = some (.bool true) ∧ w'.cell? ⟨w.heap.size + 1, 1, none⟩ = some (.int .i64 a1) ∧ w'.cell? ⟨w.heap.size + 1, 2, none⟩ = some (.string a2) ∧ w'.cell? ⟨w.heap.size + 1, 3, none⟩ = some (.slice uo un uc) ∧ w'.cell? ⟨w.heap.size + 1 + 1, 0, none⟩ = some (.bool b0) ∧ w'.cell? ⟨w.heap.size + 1 + 1, 1, none⟩ = some (.int .i64 b1) ∧ w'.cell? ⟨w.heap.size + 1 + 1, 2, none⟩ = some (.string b2) ∧ w'.cell? ⟨w.heap.size + 1 + 1, 3, none⟩ = some (.slice vo vn vc)) (first | with_reducible exact HC.out | with_reducible exact ss_kept (by assumption) hk2 | with_reducible exact ss_kept (by assumption) hk1) (first | ((with_reducible show Calls _ _ #[.agg #[.bool true, .int .i64 a1, .string a2, .slice uo un uc]] _ _); refine Calls.mono (HA.out _ (ss_gr (by assumption))) ?_; rintro e' v1 ⟨rfl, hk1⟩; replace hk1 := hidM hk1) | ((with_reducible show Calls _ _ #[.agg #[.bool b0, .int .i64 b1, .string b2, .slice vo vn vc]] _ _); refine Calls.mono (HB2.out _ (ss_gr (by assumption))) ?_; rintro e' v2 ⟨rfl, hk2⟩; replace hk2 := hidM hk2))
          all_goals
            rename_i hHeld
            have HG := hidM hHeld.1.out.1
            clear hHeld
            go_wp2_with (go_at_call 18; refine Hid.out ?_)
            unfold Hid
            refine Calls.mono (H9.out _ HG.out) ?_
            rintro e' V10 ⟨rfl, hg⟩
            replace HG := hidM (HG.out.trans hg (fun _ _ h => h))
            clear hg
            go_wp2_with fail
            go_ret
            exact ⟨rfl, HG.out⟩
        | false =>
          have HC := hidM (ss_of HG.out.drew (HB.out.gr (Keeps.refl _ _).drew))
          clear HB HG
          refine wp_region_held_drew (S := fun w' => Hid (Gr w w' ∧ Box4 w' w.heap.size f0 f1 f2 f3 f4 f5 ao n ca false b0 c0 a1 b1 c1 a2 b2 c2 uo vo xo un uc vn vc xn xc) ∧ w'.cell? ⟨w.heap.size + 1, 0, none⟩ = some (.bool false) ∧ w'.cell? ⟨w.heap.size + 1, 1, none⟩ = some (.int .i64 a1) ∧ w'.cell? ⟨w.heap.size + 1, 2, none⟩ = some (.string a2) ∧ w'.cell? ⟨w.heap.size + 1, 3, none⟩ = some (.slice uo un uc) ∧ w'.cell? ⟨w.heap.size + 1 + 1, 0, none⟩ = some (.bool b0) ∧ w'.cell? ⟨w.heap.size + 1 + 1, 1, none⟩ = some (.int .i64 b1) ∧ w'.cell? ⟨w.heap.size + 1 + 1, 2, none⟩ = some (.string b2) ∧ w'.cell? ⟨w.heap.size + 1 + 1, 3, none⟩ = some (.slice vo vn vc)) (by kernel_rfl) (HC.out) (fun hHeld => ?_)
          refine wpAnyH_take (i := 0) (oi := { dst := some 135, op := Go.Op.move (Go.Operand.tmp 20), type := 4, pos := "law.go:162", after := #[], guard := none }) (v := ?v0h11) rfl (by kernel_rfl) (by kernel_rfl) (by kernel_rfl) (fun _ _ _ h => h) (Or.inl ⟨by rfl, ?y0h11⟩) (by assumption) ?r0h11
          case y0h11 => (intro w hSw; obtain ⟨-, s0, s1, s2, s3, s4, s5, s6, s7⟩ := hSw; go_simp; (try with_reducible rfl))
          (try simp only [Act.put]); (try simp only [List.setIfInBounds_toArray]); (try simp only [List.set_cons_succ]); (try simp only [List.set_cons_zero])
          refine wpAnyH_take (i := 1) (oi := { dst := some 136, op := Go.Op.move (Go.Operand.tmp 9), type := 3, pos := "law.go:162", after := #[], guard := none }) (v := ?v1h12) rfl (by kernel_rfl) (by kernel_rfl) (by kernel_rfl) (fun _ _ _ h => h) (Or.inl ⟨by rfl, ?y1h12⟩) (by assumption) ?r1h12
          case y1h12 => (intro w hSw; obtain ⟨-, s0, s1, s2, s3, s4, s5, s6, s7⟩ := hSw; go_simp; (try with_reducible rfl))
          (try simp only [Act.put]); (try simp only [List.setIfInBounds_toArray]); (try simp only [List.set_cons_succ]); (try simp only [List.set_cons_zero])
          refine wpAnyH_take (i := 2) (oi := { dst := some 137, op := Go.Op.binOp Go.BinOp.eql 3 (Go.Operand.tmp 136) (Go.Operand.const (Go.Value.int Go.IntKind.i64 0)) 3, type := 4, pos := "law.go:162", after := #[{ on := 1, ground := Go.Ground.data }], guard := none }) (v := ?v2h13) rfl (by kernel_rfl) (by kernel_rfl) (by kernel_rfl) (fun _ _ _ h => h) (Or.inl ⟨by rfl, ?y2h13⟩) (by assumption) ?r2h13
          case y2h13 => (intro w hSw; obtain ⟨-, s0, s1, s2, s3, s4, s5, s6, s7⟩ := hSw; go_simp; (try with_reducible rfl))
          (try simp only [Act.put]); (try simp only [List.setIfInBounds_toArray]); (try simp only [List.set_cons_succ]); (try simp only [List.set_cons_zero])
          refine wpAnyH_take (i := 3) (oi := { dst := some 138, op := Go.Op.binOp Go.BinOp.neq 4 (Go.Operand.tmp 135) (Go.Operand.tmp 137) 4, type := 4, pos := "law.go:162", after := #[{ on := 0, ground := Go.Ground.data }, { on := 2, ground := Go.Ground.data }], guard := none }) (v := ?v3h14) rfl (by kernel_rfl) (by kernel_rfl) (by kernel_rfl) (fun _ _ _ h => h) (Or.inl ⟨by rfl, ?y3h14⟩) (by assumption) ?r3h14
          case y3h14 => (intro w hSw; obtain ⟨-, s0, s1, s2, s3, s4, s5, s6, s7⟩ := hSw; go_simp; (try with_reducible rfl))
          (try simp only [Act.put]); (try simp only [List.setIfInBounds_toArray]); (try simp only [List.set_cons_succ]); (try simp only [List.set_cons_zero])
          refine wpAnyH_take (i := 4) (oi := { dst := some 139, op := Go.Op.move (Go.Operand.tmp 138), type := 4, pos := "law.go:162", after := #[{ on := 3, ground := Go.Ground.data }], guard := none }) (v := ?v4h15) rfl (by kernel_rfl) (by kernel_rfl) (by kernel_rfl) (fun _ _ _ h => h) (Or.inl ⟨by rfl, ?y4h15⟩) (by assumption) ?r4h15
          case y4h15 => (intro w hSw; obtain ⟨-, s0, s1, s2, s3, s4, s5, s6, s7⟩ := hSw; go_simp; (try with_reducible rfl))
          (try simp only [Act.put]); (try simp only [List.setIfInBounds_toArray]); (try simp only [List.set_cons_succ]); (try simp only [List.set_cons_zero])
          refine wpAnyH_take (i := 5) (oi := { dst := some 140, op := Go.Op.fieldAddr 29 (Go.Operand.tmp 5) 0, type := 0, pos := "law.go:162", after := #[{ on := 4, ground := Go.Ground.guard }], guard := some (4, false) }) (v := ?v5h16) rfl (by kernel_rfl) (by kernel_rfl) (by kernel_rfl) (fun _ _ _ h => h) (Or.inl ⟨by rfl, ?y5h16⟩) (by assumption) ?r5h16
          case y5h16 => (intro w hSw; obtain ⟨-, s0, s1, s2, s3, s4, s5, s6, s7⟩ := hSw; go_simp; (try with_reducible rfl))
          (try simp only [Act.put]); (try simp only [List.setIfInBounds_toArray]); (try simp only [List.set_cons_succ]); (try simp only [List.set_cons_zero])
          refine wpAnyH_take (i := 6) (oi := { dst := some 141, op := Go.Op.load 4 (Go.Operand.tmp 140), type := 4, pos := "law.go:162", after := #[{ on := 5, ground := Go.Ground.data }, { on := 4, ground := Go.Ground.guard }], guard := some (4, false) }) (v := ?v6h17) rfl (by kernel_rfl) (by kernel_rfl) (by kernel_rfl) (fun _ _ _ h => h) (Or.inl ⟨by rfl, ?y6h17⟩) (by assumption) ?r6h17
          case y6h17 => (intro w hSw; obtain ⟨-, s0, s1, s2, s3, s4, s5, s6, s7⟩ := hSw; go_simp; (try with_reducible rfl))
          (try simp only [Act.put]); (try simp only [List.setIfInBounds_toArray]); (try simp only [List.set_cons_succ]); (try simp only [List.set_cons_zero])
          refine wpAnyH_take (i := 7) (oi := { dst := some 142, op := Go.Op.move (Go.Operand.tmp 141), type := 4, pos := "law.go:162", after := #[{ on := 6, ground := Go.Ground.data }, { on := 4, ground := Go.Ground.chain }, { on := 4, ground := Go.Ground.guard }], guard := some (4, false) }) (v := ?v7h18) rfl (by kernel_rfl) (by kernel_rfl) (by kernel_rfl) (fun _ _ _ h => h) (Or.inl ⟨by rfl, ?y7h18⟩) (by assumption) ?r7h18
          case y7h18 => (intro w hSw; obtain ⟨-, s0, s1, s2, s3, s4, s5, s6, s7⟩ := hSw; go_simp; (try with_reducible rfl))
          (try simp only [Act.put]); (try simp only [List.setIfInBounds_toArray]); (try simp only [List.set_cons_succ]); (try simp only [List.set_cons_zero])
          refine wpAnyH_take (i := 8) (oi := { dst := some 143, op := Go.Op.move (Go.Operand.tmp 9), type := 3, pos := "law.go:162", after := #[{ on := 7, ground := Go.Ground.guard }], guard := some (7, true) }) (v := undef) rfl (by kernel_rfl) (by kernel_rfl) (by kernel_rfl) (fun _ _ _ h => h) (Or.inr ⟨by kernel_rfl, rfl⟩) (by assumption) ?r8h19
          (try simp only [Act.put]); (try simp only [List.setIfInBounds_toArray]); (try simp only [List.set_cons_succ]); (try simp only [List.set_cons_zero])
          refine wpAnyH_take (i := 9) (oi := { dst := some 144, op := Go.Op.binOp Go.BinOp.gtr 3 (Go.Operand.tmp 143) (Go.Operand.const (Go.Value.int Go.IntKind.i64 0)) 3, type := 4, pos := "law.go:162", after := #[{ on := 8, ground := Go.Ground.data }, { on := 7, ground := Go.Ground.guard }], guard := some (7, true) }) (v := undef) rfl (by kernel_rfl) (by kernel_rfl) (by kernel_rfl) (fun _ _ _ h => h) (Or.inr ⟨by kernel_rfl, rfl⟩) (by assumption) ?r9h110
          (try simp only [Act.put]); (try simp only [List.setIfInBounds_toArray]); (try simp only [List.set_cons_succ]); (try simp only [List.set_cons_zero])
          refine wpAnyH_take (i := 10) (oi := { dst := some 145, op := Go.Op.pick (Go.Operand.tmp 142) (Go.Operand.tmp 144) (Go.Operand.const (Go.Value.bool false)), type := 4, pos := "law.go:162", after := #[{ on := 7, ground := Go.Ground.data }, { on := 9, ground := Go.Ground.data }, { on := 4, ground := Go.Ground.guard }], guard := some (4, false) }) (v := ?v10h111) rfl (by kernel_rfl) (by kernel_rfl) (by kernel_rfl) (fun _ _ _ h => h) (Or.inl ⟨by rfl, ?y10h111⟩) (by assumption) ?r10h111
          case y10h111 => (intro w hSw; obtain ⟨-, s0, s1, s2, s3, s4, s5, s6, s7⟩ := hSw; go_simp; (try with_reducible rfl))
          (try simp only [Act.put]); (try simp only [List.setIfInBounds_toArray]); (try simp only [List.set_cons_succ]); (try simp only [List.set_cons_zero])
          refine wpAnyH_take (i := 11) (oi := { dst := some 146, op := Go.Op.pick (Go.Operand.tmp 139) (Go.Operand.const (Go.Value.bool true)) (Go.Operand.tmp 145), type := 4, pos := "law.go:162", after := #[{ on := 4, ground := Go.Ground.data }, { on := 10, ground := Go.Ground.data }], guard := none }) (v := ?v11h112) rfl (by kernel_rfl) (by kernel_rfl) (by kernel_rfl) (fun _ _ _ h => h) (Or.inl ⟨by rfl, ?y11h112⟩) (by assumption) ?r11h112
          case y11h112 => (intro w hSw; obtain ⟨-, s0, s1, s2, s3, s4, s5, s6, s7⟩ := hSw; go_simp; (try with_reducible rfl))
          (try simp only [Act.put]); (try simp only [List.setIfInBounds_toArray]); (try simp only [List.set_cons_succ]); (try simp only [List.set_cons_zero])
          refine wpAnyH_take (i := 12) (oi := { dst := some 147, op := Go.Op.move (Go.Operand.tmp 146), type := 4, pos := "law.go:162", after := #[{ on := 11, ground := Go.Ground.data }, { on := 7, ground := Go.Ground.chain }], guard := none }) (v := ?v12h113) rfl (by kernel_rfl) (by kernel_rfl) (by kernel_rfl) (fun _ _ _ h => h) (Or.inl ⟨by rfl, ?y12h113⟩) (by assumption) ?r12h113
          case y12h113 => (intro w hSw; obtain ⟨-, s0, s1, s2, s3, s4, s5, s6, s7⟩ := hSw; go_simp; (try with_reducible rfl))
          (try simp only [Act.put]); (try simp only [List.setIfInBounds_toArray]); (try simp only [List.set_cons_succ]); (try simp only [List.set_cons_zero])
          refine wpAnyH_take (i := 13) (oi := { dst := some 148, op := Go.Op.move (Go.Operand.tmp 20), type := 4, pos := "law.go:162", after := #[{ on := 12, ground := Go.Ground.guard }], guard := some (12, false) }) (v := ?v13h114) rfl (by kernel_rfl) (by kernel_rfl) (by kernel_rfl) (fun _ _ _ h => h) (Or.inl ⟨by rfl, ?y13h114⟩) (by assumption) ?r13h114
          case y13h114 => (intro w hSw; obtain ⟨-, s0, s1, s2, s3, s4, s5, s6, s7⟩ := hSw; go_simp; (try with_reducible rfl))
          (try simp only [Act.put]); (try simp only [List.setIfInBounds_toArray]); (try simp only [List.set_cons_succ]); (try simp only [List.set_cons_zero])
          refine wpAnyH_take (i := 14) (oi := { dst := some 149, op := Go.Op.move (Go.Operand.tmp 148), type := 4, pos := "law.go:162", after := #[{ on := 13, ground := Go.Ground.data }, { on := 12, ground := Go.Ground.chain }, { on := 12, ground := Go.Ground.guard }], guard := some (12, false) }) (v := ?v14h115) rfl (by kernel_rfl) (by kernel_rfl) (by kernel_rfl) (fun _ _ _ h => h) (Or.inl ⟨by rfl, ?y14h115⟩) (by assumption) ?r14h115
          case y14h115 => (intro w hSw; obtain ⟨-, s0, s1, s2, s3, s4, s5, s6, s7⟩ := hSw; go_simp; (try with_reducible rfl))
          (try simp only [Act.put]); (try simp only [List.setIfInBounds_toArray]); (try simp only [List.set_cons_succ]); (try simp only [List.set_cons_zero])
          refine wpAnyH_take (i := 15) (oi := { dst := some 150, op := Go.Op.load 29 (Go.Operand.tmp 5), type := 29, pos := "law.go:162", after := #[{ on := 14, ground := Go.Ground.guard }], guard := some (14, true) }) (v := ?v15h116) rfl (by kernel_rfl) (by kernel_rfl) (by kernel_rfl) (fun _ _ _ h => h) (Or.inl ⟨by rfl, ?y15h116⟩) (by assumption) ?r15h116
          case y15h116 => (intro w hSw; obtain ⟨-, s0, s1, s2, s3, s4, s5, s6, s7⟩ := hSw; go_simp; (try with_reducible rfl))
          (try simp only [Act.put]); (try simp only [List.setIfInBounds_toArray]); (try simp only [List.set_cons_succ]); (try simp only [List.set_cons_zero])
          refine wpAnyH_take (i := 17) (oi := { dst := some 152, op := Go.Op.load 29 (Go.Operand.tmp 6), type := 29, pos := "law.go:162", after := #[{ on := 14, ground := Go.Ground.guard }], guard := some (14, true) }) (v := ?v17h117) rfl (by kernel_rfl) (by kernel_rfl) (by kernel_rfl) (fun _ _ _ h => h) (Or.inl ⟨by rfl, ?y17h117⟩) (by assumption) ?r17h117
          case y17h117 => (intro w hSw; obtain ⟨-, s0, s1, s2, s3, s4, s5, s6, s7⟩ := hSw; go_simp; (try with_reducible rfl))
          (try simp only [Act.put]); (try simp only [List.setIfInBounds_toArray]); (try simp only [List.set_cons_succ]); (try simp only [List.set_cons_zero])
          refine wpAnyH_ready (rs := [16]) (by kernel_rfl) (by simp) ?_
          refine AllReadyH.cons (o := { dst := some 151, op := Go.Op.call { callee := Go.Callee.value (Go.Operand.func 21), args := #[Go.Operand.tmp 150], argTypes := #[29] }, type := 50, pos := "law.go:162", after := #[{ on := 15, ground := Go.Ground.data }, { on := 14, ground := Go.Ground.chain }, { on := 14, ground := Go.Ground.guard }], guard := some (14, true) }) rfl (fun Kc hK => ?_) AllReadyH.nil
          go_simp
          go_at_call 21
          refine Calls.mono (HA.out _ (ss_gr hHeld)) ?_
          rintro e' v1 ⟨rfl, hk⟩
          go_wp2_with fail
          refine hK.out _ _ (ss_kept hHeld (hidM hk)) (fun hHeld => ?_)
          clear hK Kc hk
          (try simp only [Act.put]); (try simp only [List.setIfInBounds_toArray]); (try simp only [List.set_cons_succ]); (try simp only [List.set_cons_zero])
          refine wpAnyH_ready (rs := [18]) (by kernel_rfl) (by simp) ?_
          refine AllReadyH.cons (o := { dst := some 153, op := Go.Op.call { callee := Go.Callee.value (Go.Operand.func 21), args := #[Go.Operand.tmp 152], argTypes := #[29] }, type := 50, pos := "law.go:162", after := #[{ on := 17, ground := Go.Ground.data }, { on := 16, ground := Go.Ground.chain }, { on := 14, ground := Go.Ground.guard }], guard := some (14, true) }) rfl (fun Kc hK => ?_) AllReadyH.nil
          go_simp
          go_at_call 21
          refine Calls.mono (HB2.out _ (ss_gr hHeld)) ?_
          rintro e' v2 ⟨rfl, hk⟩
          go_wp2_with fail
          refine hK.out _ _ (ss_kept hHeld (hidM hk)) (fun hHeld => ?_)
          clear hK Kc hk
          (try simp only [Act.put]); (try simp only [List.setIfInBounds_toArray]); (try simp only [List.set_cons_succ]); (try simp only [List.set_cons_zero])
          refine wpAnyH_take (i := 19) (oi := { dst := some 154, op := Go.Op.binOp Go.BinOp.neq 50 (Go.Operand.tmp 151) (Go.Operand.tmp 153) 50, type := 4, pos := "law.go:162", after := #[{ on := 16, ground := Go.Ground.data }, { on := 18, ground := Go.Ground.data }, { on := 14, ground := Go.Ground.guard }], guard := some (14, true) }) (v := ?v19h1p1) rfl (by kernel_rfl) (by kernel_rfl) (by kernel_rfl) (fun _ _ _ h => h) (Or.inl ⟨by rfl, ?y19h1p1⟩) (by assumption) ?r19h1p1
          case y19h1p1 => (intro w hSw; obtain ⟨-, s0, s1, s2, s3, s4, s5, s6, s7⟩ := hSw; go_simp; (try with_reducible rfl))
          (try simp only [Act.put]); (try simp only [List.setIfInBounds_toArray]); (try simp only [List.set_cons_succ]); (try simp only [List.set_cons_zero])
          refine wpAnyH_take (i := 20) (oi := { dst := some 155, op := Go.Op.pick (Go.Operand.tmp 149) (Go.Operand.tmp 154) (Go.Operand.const (Go.Value.bool false)), type := 4, pos := "law.go:162", after := #[{ on := 14, ground := Go.Ground.data }, { on := 19, ground := Go.Ground.data }, { on := 12, ground := Go.Ground.guard }], guard := some (12, false) }) (v := ?v20h1p2) rfl (by kernel_rfl) (by kernel_rfl) (by kernel_rfl) (fun _ _ _ h => h) (Or.inl ⟨by rfl, ?y20h1p2⟩) (by assumption) ?r20h1p2
          case y20h1p2 => (intro w hSw; obtain ⟨-, s0, s1, s2, s3, s4, s5, s6, s7⟩ := hSw; go_simp; (try with_reducible rfl))
          (try simp only [Act.put]); (try simp only [List.setIfInBounds_toArray]); (try simp only [List.set_cons_succ]); (try simp only [List.set_cons_zero])
          refine wpAnyH_take (i := 21) (oi := { dst := some 156, op := Go.Op.pick (Go.Operand.tmp 147) (Go.Operand.const (Go.Value.bool true)) (Go.Operand.tmp 155), type := 4, pos := "law.go:162", after := #[{ on := 12, ground := Go.Ground.data }, { on := 20, ground := Go.Ground.data }], guard := none }) (v := ?v21h1p3) rfl (by kernel_rfl) (by kernel_rfl) (by kernel_rfl) (fun _ _ _ h => h) (Or.inl ⟨by rfl, ?y21h1p3⟩) (by assumption) ?r21h1p3
          case y21h1p3 => (intro w hSw; obtain ⟨-, s0, s1, s2, s3, s4, s5, s6, s7⟩ := hSw; go_simp; (try with_reducible rfl))
          (try simp only [Act.put]); (try simp only [List.setIfInBounds_toArray]); (try simp only [List.set_cons_succ]); (try simp only [List.set_cons_zero])
          refine wpAnyH_done (by kernel_rfl) ?_ _
          have HG := hidM hHeld.1.out.1
          clear hHeld
          go_wp2_with (go_at_call 18; refine Hid.out ?_)
          unfold Hid
          refine Calls.mono (H9.out _ HG.out) ?_
          rintro e' V10 ⟨rfl, hg⟩
          replace HG := hidM (HG.out.trans hg (fun _ _ h => h))
          clear hg
          go_wp2_with fail
          go_ret
          exact ⟨rfl, HG.out⟩
      · have hac : ac = 0 := by have := HT.out.1 (by decide) (by decide); have := HT.out.2 (by decide) (by decide); omega
        subst hac
        clear HT
        obtain ⟨q0, q1, q2, q3⟩ := HB.out.a.cells
        obtain ⟨r0, r1, r2, r3⟩ := HB.out.b.cells
        go_wp2_with (go_at_call 20; refine Hid.out ?_)
        unfold Hid
        refine Calls.mono (HSM.out _ HG.out) ?_
        rintro e' V9 ⟨rfl, hg⟩
        replace HB := hidM (HB.out.gr hg)
        replace HG := hidM (HG.out.trans hg (fun _ _ h => h))
        clear hg q0 q1 q2 q3 r0 r1 r2 r3
        obtain ⟨q0, q1, q2, q3⟩ := HB.out.a.cells
        obtain ⟨r0, r1, r2, r3⟩ := HB.out.b.cells
        go_wp2_with fail
        clear HNL
        obtain ⟨hh, hA, hB⟩ := HHS.out (by trivial)
        have HA := hidM hA
        have HB2 := hidM hB
        clear hA hB HHS q0 q1 q2 q3 r0 r1 r2 r3
        cases a0 with
        | true =>
          have HC := hidM (ss_of HG.out.drew (HB.out.gr (Keeps.refl _ _).drew))
          clear HB HG
          go_region_held3 (fun w' => Hid (Gr w w' ∧ Box4 w' w.heap.size f0 f1 f2 f3 f4 f5 ao n ca true b0 c0 a1 b1 c1 a2 b2 c2 uo vo xo un uc vn vc xn xc) ∧ w'.cell? ⟨w.heap.size + 1, 0, none⟩ = some (.bool true) ∧ w'.cell? ⟨w.heap.size + 1, 1, none⟩ = some (.int .i64 a1) ∧ w'.cell? ⟨w.heap.size + 1, 2, none⟩ = some (.string a2) ∧ w'.cell? ⟨w.heap.size + 1, 3, none⟩ = some (.slice uo un uc) ∧ w'.cell? ⟨w.heap.size + 1 + 1, 0, none⟩ = some (.bool b0) ∧ w'.cell? ⟨w.heap.size + 1 + 1, 1, none⟩ = some (.int .i64 b1) ∧ w'.cell? ⟨w.heap.size + 1 + 1, 2, none⟩ = some (.string b2) ∧ w'.cell? ⟨w.heap.size + 1 + 1, 3, none⟩ = some (.slice vo vn vc)) (first | with_reducible exact HC.out | with_reducible exact ss_kept (by assumption) hk2 | with_reducible exact ss_kept (by assumption) hk1) (first | ((with_reducible show Calls _ _ #[.agg #[.bool true, .int .i64 a1, .string a2, .slice uo un uc]] _ _); refine Calls.mono (HA.out _ (ss_gr (by assumption))) ?_; rintro e' v1 ⟨rfl, hk1⟩; replace hk1 := hidM hk1) | ((with_reducible show Calls _ _ #[.agg #[.bool b0, .int .i64 b1, .string b2, .slice vo vn vc]] _ _); refine Calls.mono (HB2.out _ (ss_gr (by assumption))) ?_; rintro e' v2 ⟨rfl, hk2⟩; replace hk2 := hidM hk2))
          all_goals
            rename_i hHeld
            have HG := hidM hHeld.1.out.1
            clear hHeld
            go_wp2_with (go_at_call 18; refine Hid.out ?_)
            unfold Hid
            refine Calls.mono (H9.out _ HG.out) ?_
            rintro e' V10 ⟨rfl, hg⟩
            replace HG := hidM (HG.out.trans hg (fun _ _ h => h))
            clear hg
            go_wp2_with fail
            go_ret
            exact ⟨rfl, HG.out⟩
        | false =>
          have HC := hidM (ss_of HG.out.drew (HB.out.gr (Keeps.refl _ _).drew))
          clear HB HG
          refine wp_region_held_drew (S := fun w' => Hid (Gr w w' ∧ Box4 w' w.heap.size f0 f1 f2 f3 f4 f5 ao n ca false b0 c0 a1 b1 c1 a2 b2 c2 uo vo xo un uc vn vc xn xc) ∧ w'.cell? ⟨w.heap.size + 1, 0, none⟩ = some (.bool false) ∧ w'.cell? ⟨w.heap.size + 1, 1, none⟩ = some (.int .i64 a1) ∧ w'.cell? ⟨w.heap.size + 1, 2, none⟩ = some (.string a2) ∧ w'.cell? ⟨w.heap.size + 1, 3, none⟩ = some (.slice uo un uc) ∧ w'.cell? ⟨w.heap.size + 1 + 1, 0, none⟩ = some (.bool b0) ∧ w'.cell? ⟨w.heap.size + 1 + 1, 1, none⟩ = some (.int .i64 b1) ∧ w'.cell? ⟨w.heap.size + 1 + 1, 2, none⟩ = some (.string b2) ∧ w'.cell? ⟨w.heap.size + 1 + 1, 3, none⟩ = some (.slice vo vn vc)) (by kernel_rfl) (HC.out) (fun hHeld => ?_)
          refine wpAnyH_take (i := 0) (oi := { dst := some 135, op := Go.Op.move (Go.Operand.tmp 20), type := 4, pos := "law.go:162", after := #[], guard := none }) (v := ?v0h21) rfl (by kernel_rfl) (by kernel_rfl) (by kernel_rfl) (fun _ _ _ h => h) (Or.inl ⟨by rfl, ?y0h21⟩) (by assumption) ?r0h21
          case y0h21 => (intro w hSw; obtain ⟨-, s0, s1, s2, s3, s4, s5, s6, s7⟩ := hSw; go_simp; (try with_reducible rfl))
          (try simp only [Act.put]); (try simp only [List.setIfInBounds_toArray]); (try simp only [List.set_cons_succ]); (try simp only [List.set_cons_zero])
          refine wpAnyH_take (i := 1) (oi := { dst := some 136, op := Go.Op.move (Go.Operand.tmp 9), type := 3, pos := "law.go:162", after := #[], guard := none }) (v := ?v1h22) rfl (by kernel_rfl) (by kernel_rfl) (by kernel_rfl) (fun _ _ _ h => h) (Or.inl ⟨by rfl, ?y1h22⟩) (by assumption) ?r1h22
          case y1h22 => (intro w hSw; obtain ⟨-, s0, s1, s2, s3, s4, s5, s6, s7⟩ := hSw; go_simp; (try with_reducible rfl))
          (try simp only [Act.put]); (try simp only [List.setIfInBounds_toArray]); (try simp only [List.set_cons_succ]); (try simp only [List.set_cons_zero])
          refine wpAnyH_take (i := 2) (oi := { dst := some 137, op := Go.Op.binOp Go.BinOp.eql 3 (Go.Operand.tmp 136) (Go.Operand.const (Go.Value.int Go.IntKind.i64 0)) 3, type := 4, pos := "law.go:162", after := #[{ on := 1, ground := Go.Ground.data }], guard := none }) (v := ?v2h23) rfl (by kernel_rfl) (by kernel_rfl) (by kernel_rfl) (fun _ _ _ h => h) (Or.inl ⟨by rfl, ?y2h23⟩) (by assumption) ?r2h23
          case y2h23 => (intro w hSw; obtain ⟨-, s0, s1, s2, s3, s4, s5, s6, s7⟩ := hSw; go_simp; (try with_reducible rfl))
          (try simp only [Act.put]); (try simp only [List.setIfInBounds_toArray]); (try simp only [List.set_cons_succ]); (try simp only [List.set_cons_zero])
          refine wpAnyH_take (i := 3) (oi := { dst := some 138, op := Go.Op.binOp Go.BinOp.neq 4 (Go.Operand.tmp 135) (Go.Operand.tmp 137) 4, type := 4, pos := "law.go:162", after := #[{ on := 0, ground := Go.Ground.data }, { on := 2, ground := Go.Ground.data }], guard := none }) (v := ?v3h24) rfl (by kernel_rfl) (by kernel_rfl) (by kernel_rfl) (fun _ _ _ h => h) (Or.inl ⟨by rfl, ?y3h24⟩) (by assumption) ?r3h24
          case y3h24 => (intro w hSw; obtain ⟨-, s0, s1, s2, s3, s4, s5, s6, s7⟩ := hSw; go_simp; (try with_reducible rfl))
          (try simp only [Act.put]); (try simp only [List.setIfInBounds_toArray]); (try simp only [List.set_cons_succ]); (try simp only [List.set_cons_zero])
          refine wpAnyH_take (i := 4) (oi := { dst := some 139, op := Go.Op.move (Go.Operand.tmp 138), type := 4, pos := "law.go:162", after := #[{ on := 3, ground := Go.Ground.data }], guard := none }) (v := ?v4h25) rfl (by kernel_rfl) (by kernel_rfl) (by kernel_rfl) (fun _ _ _ h => h) (Or.inl ⟨by rfl, ?y4h25⟩) (by assumption) ?r4h25
          case y4h25 => (intro w hSw; obtain ⟨-, s0, s1, s2, s3, s4, s5, s6, s7⟩ := hSw; go_simp; (try with_reducible rfl))
          (try simp only [Act.put]); (try simp only [List.setIfInBounds_toArray]); (try simp only [List.set_cons_succ]); (try simp only [List.set_cons_zero])
          refine wpAnyH_take (i := 5) (oi := { dst := some 140, op := Go.Op.fieldAddr 29 (Go.Operand.tmp 5) 0, type := 0, pos := "law.go:162", after := #[{ on := 4, ground := Go.Ground.guard }], guard := some (4, false) }) (v := ?v5h26) rfl (by kernel_rfl) (by kernel_rfl) (by kernel_rfl) (fun _ _ _ h => h) (Or.inl ⟨by rfl, ?y5h26⟩) (by assumption) ?r5h26
          case y5h26 => (intro w hSw; obtain ⟨-, s0, s1, s2, s3, s4, s5, s6, s7⟩ := hSw; go_simp; (try with_reducible rfl))
          (try simp only [Act.put]); (try simp only [List.setIfInBounds_toArray]); (try simp only [List.set_cons_succ]); (try simp only [List.set_cons_zero])
          refine wpAnyH_take (i := 6) (oi := { dst := some 141, op := Go.Op.load 4 (Go.Operand.tmp 140), type := 4, pos := "law.go:162", after := #[{ on := 5, ground := Go.Ground.data }, { on := 4, ground := Go.Ground.guard }], guard := some (4, false) }) (v := ?v6h27) rfl (by kernel_rfl) (by kernel_rfl) (by kernel_rfl) (fun _ _ _ h => h) (Or.inl ⟨by rfl, ?y6h27⟩) (by assumption) ?r6h27
          case y6h27 => (intro w hSw; obtain ⟨-, s0, s1, s2, s3, s4, s5, s6, s7⟩ := hSw; go_simp; (try with_reducible rfl))
          (try simp only [Act.put]); (try simp only [List.setIfInBounds_toArray]); (try simp only [List.set_cons_succ]); (try simp only [List.set_cons_zero])
          refine wpAnyH_take (i := 7) (oi := { dst := some 142, op := Go.Op.move (Go.Operand.tmp 141), type := 4, pos := "law.go:162", after := #[{ on := 6, ground := Go.Ground.data }, { on := 4, ground := Go.Ground.chain }, { on := 4, ground := Go.Ground.guard }], guard := some (4, false) }) (v := ?v7h28) rfl (by kernel_rfl) (by kernel_rfl) (by kernel_rfl) (fun _ _ _ h => h) (Or.inl ⟨by rfl, ?y7h28⟩) (by assumption) ?r7h28
          case y7h28 => (intro w hSw; obtain ⟨-, s0, s1, s2, s3, s4, s5, s6, s7⟩ := hSw; go_simp; (try with_reducible rfl))
          (try simp only [Act.put]); (try simp only [List.setIfInBounds_toArray]); (try simp only [List.set_cons_succ]); (try simp only [List.set_cons_zero])
          refine wpAnyH_take (i := 8) (oi := { dst := some 143, op := Go.Op.move (Go.Operand.tmp 9), type := 3, pos := "law.go:162", after := #[{ on := 7, ground := Go.Ground.guard }], guard := some (7, true) }) (v := undef) rfl (by kernel_rfl) (by kernel_rfl) (by kernel_rfl) (fun _ _ _ h => h) (Or.inr ⟨by kernel_rfl, rfl⟩) (by assumption) ?r8h29
          (try simp only [Act.put]); (try simp only [List.setIfInBounds_toArray]); (try simp only [List.set_cons_succ]); (try simp only [List.set_cons_zero])
          refine wpAnyH_take (i := 9) (oi := { dst := some 144, op := Go.Op.binOp Go.BinOp.gtr 3 (Go.Operand.tmp 143) (Go.Operand.const (Go.Value.int Go.IntKind.i64 0)) 3, type := 4, pos := "law.go:162", after := #[{ on := 8, ground := Go.Ground.data }, { on := 7, ground := Go.Ground.guard }], guard := some (7, true) }) (v := undef) rfl (by kernel_rfl) (by kernel_rfl) (by kernel_rfl) (fun _ _ _ h => h) (Or.inr ⟨by kernel_rfl, rfl⟩) (by assumption) ?r9h210
          (try simp only [Act.put]); (try simp only [List.setIfInBounds_toArray]); (try simp only [List.set_cons_succ]); (try simp only [List.set_cons_zero])
          refine wpAnyH_take (i := 10) (oi := { dst := some 145, op := Go.Op.pick (Go.Operand.tmp 142) (Go.Operand.tmp 144) (Go.Operand.const (Go.Value.bool false)), type := 4, pos := "law.go:162", after := #[{ on := 7, ground := Go.Ground.data }, { on := 9, ground := Go.Ground.data }, { on := 4, ground := Go.Ground.guard }], guard := some (4, false) }) (v := ?v10h211) rfl (by kernel_rfl) (by kernel_rfl) (by kernel_rfl) (fun _ _ _ h => h) (Or.inl ⟨by rfl, ?y10h211⟩) (by assumption) ?r10h211
          case y10h211 => (intro w hSw; obtain ⟨-, s0, s1, s2, s3, s4, s5, s6, s7⟩ := hSw; go_simp; (try with_reducible rfl))
          (try simp only [Act.put]); (try simp only [List.setIfInBounds_toArray]); (try simp only [List.set_cons_succ]); (try simp only [List.set_cons_zero])
          refine wpAnyH_take (i := 11) (oi := { dst := some 146, op := Go.Op.pick (Go.Operand.tmp 139) (Go.Operand.const (Go.Value.bool true)) (Go.Operand.tmp 145), type := 4, pos := "law.go:162", after := #[{ on := 4, ground := Go.Ground.data }, { on := 10, ground := Go.Ground.data }], guard := none }) (v := ?v11h212) rfl (by kernel_rfl) (by kernel_rfl) (by kernel_rfl) (fun _ _ _ h => h) (Or.inl ⟨by rfl, ?y11h212⟩) (by assumption) ?r11h212
          case y11h212 => (intro w hSw; obtain ⟨-, s0, s1, s2, s3, s4, s5, s6, s7⟩ := hSw; go_simp; (try with_reducible rfl))
          (try simp only [Act.put]); (try simp only [List.setIfInBounds_toArray]); (try simp only [List.set_cons_succ]); (try simp only [List.set_cons_zero])
          refine wpAnyH_take (i := 12) (oi := { dst := some 147, op := Go.Op.move (Go.Operand.tmp 146), type := 4, pos := "law.go:162", after := #[{ on := 11, ground := Go.Ground.data }, { on := 7, ground := Go.Ground.chain }], guard := none }) (v := ?v12h213) rfl (by kernel_rfl) (by kernel_rfl) (by kernel_rfl) (fun _ _ _ h => h) (Or.inl ⟨by rfl, ?y12h213⟩) (by assumption) ?r12h213
          case y12h213 => (intro w hSw; obtain ⟨-, s0, s1, s2, s3, s4, s5, s6, s7⟩ := hSw; go_simp; (try with_reducible rfl))
          (try simp only [Act.put]); (try simp only [List.setIfInBounds_toArray]); (try simp only [List.set_cons_succ]); (try simp only [List.set_cons_zero])
          refine wpAnyH_take (i := 13) (oi := { dst := some 148, op := Go.Op.move (Go.Operand.tmp 20), type := 4, pos := "law.go:162", after := #[{ on := 12, ground := Go.Ground.guard }], guard := some (12, false) }) (v := ?v13h214) rfl (by kernel_rfl) (by kernel_rfl) (by kernel_rfl) (fun _ _ _ h => h) (Or.inl ⟨by rfl, ?y13h214⟩) (by assumption) ?r13h214
          case y13h214 => (intro w hSw; obtain ⟨-, s0, s1, s2, s3, s4, s5, s6, s7⟩ := hSw; go_simp; (try with_reducible rfl))
          (try simp only [Act.put]); (try simp only [List.setIfInBounds_toArray]); (try simp only [List.set_cons_succ]); (try simp only [List.set_cons_zero])
          refine wpAnyH_take (i := 14) (oi := { dst := some 149, op := Go.Op.move (Go.Operand.tmp 148), type := 4, pos := "law.go:162", after := #[{ on := 13, ground := Go.Ground.data }, { on := 12, ground := Go.Ground.chain }, { on := 12, ground := Go.Ground.guard }], guard := some (12, false) }) (v := ?v14h215) rfl (by kernel_rfl) (by kernel_rfl) (by kernel_rfl) (fun _ _ _ h => h) (Or.inl ⟨by rfl, ?y14h215⟩) (by assumption) ?r14h215
          case y14h215 => (intro w hSw; obtain ⟨-, s0, s1, s2, s3, s4, s5, s6, s7⟩ := hSw; go_simp; (try with_reducible rfl))
          (try simp only [Act.put]); (try simp only [List.setIfInBounds_toArray]); (try simp only [List.set_cons_succ]); (try simp only [List.set_cons_zero])
          refine wpAnyH_take (i := 15) (oi := { dst := some 150, op := Go.Op.load 29 (Go.Operand.tmp 5), type := 29, pos := "law.go:162", after := #[{ on := 14, ground := Go.Ground.guard }], guard := some (14, true) }) (v := ?v15h216) rfl (by kernel_rfl) (by kernel_rfl) (by kernel_rfl) (fun _ _ _ h => h) (Or.inl ⟨by rfl, ?y15h216⟩) (by assumption) ?r15h216
          case y15h216 => (intro w hSw; obtain ⟨-, s0, s1, s2, s3, s4, s5, s6, s7⟩ := hSw; go_simp; (try with_reducible rfl))
          (try simp only [Act.put]); (try simp only [List.setIfInBounds_toArray]); (try simp only [List.set_cons_succ]); (try simp only [List.set_cons_zero])
          refine wpAnyH_take (i := 17) (oi := { dst := some 152, op := Go.Op.load 29 (Go.Operand.tmp 6), type := 29, pos := "law.go:162", after := #[{ on := 14, ground := Go.Ground.guard }], guard := some (14, true) }) (v := ?v17h217) rfl (by kernel_rfl) (by kernel_rfl) (by kernel_rfl) (fun _ _ _ h => h) (Or.inl ⟨by rfl, ?y17h217⟩) (by assumption) ?r17h217
          case y17h217 => (intro w hSw; obtain ⟨-, s0, s1, s2, s3, s4, s5, s6, s7⟩ := hSw; go_simp; (try with_reducible rfl))
          (try simp only [Act.put]); (try simp only [List.setIfInBounds_toArray]); (try simp only [List.set_cons_succ]); (try simp only [List.set_cons_zero])
          refine wpAnyH_ready (rs := [16]) (by kernel_rfl) (by simp) ?_
          refine AllReadyH.cons (o := { dst := some 151, op := Go.Op.call { callee := Go.Callee.value (Go.Operand.func 21), args := #[Go.Operand.tmp 150], argTypes := #[29] }, type := 50, pos := "law.go:162", after := #[{ on := 15, ground := Go.Ground.data }, { on := 14, ground := Go.Ground.chain }, { on := 14, ground := Go.Ground.guard }], guard := some (14, true) }) rfl (fun Kc hK => ?_) AllReadyH.nil
          go_simp
          go_at_call 21
          refine Calls.mono (HA.out _ (ss_gr hHeld)) ?_
          rintro e' v1 ⟨rfl, hk⟩
          go_wp2_with fail
          refine hK.out _ _ (ss_kept hHeld (hidM hk)) (fun hHeld => ?_)
          clear hK Kc hk
          (try simp only [Act.put]); (try simp only [List.setIfInBounds_toArray]); (try simp only [List.set_cons_succ]); (try simp only [List.set_cons_zero])
          refine wpAnyH_ready (rs := [18]) (by kernel_rfl) (by simp) ?_
          refine AllReadyH.cons (o := { dst := some 153, op := Go.Op.call { callee := Go.Callee.value (Go.Operand.func 21), args := #[Go.Operand.tmp 152], argTypes := #[29] }, type := 50, pos := "law.go:162", after := #[{ on := 17, ground := Go.Ground.data }, { on := 16, ground := Go.Ground.chain }, { on := 14, ground := Go.Ground.guard }], guard := some (14, true) }) rfl (fun Kc hK => ?_) AllReadyH.nil
          go_simp
          go_at_call 21
          refine Calls.mono (HB2.out _ (ss_gr hHeld)) ?_
          rintro e' v2 ⟨rfl, hk⟩
          go_wp2_with fail
          refine hK.out _ _ (ss_kept hHeld (hidM hk)) (fun hHeld => ?_)
          clear hK Kc hk
          (try simp only [Act.put]); (try simp only [List.setIfInBounds_toArray]); (try simp only [List.set_cons_succ]); (try simp only [List.set_cons_zero])
          refine wpAnyH_take (i := 19) (oi := { dst := some 154, op := Go.Op.binOp Go.BinOp.neq 50 (Go.Operand.tmp 151) (Go.Operand.tmp 153) 50, type := 4, pos := "law.go:162", after := #[{ on := 16, ground := Go.Ground.data }, { on := 18, ground := Go.Ground.data }, { on := 14, ground := Go.Ground.guard }], guard := some (14, true) }) (v := ?v19h2p1) rfl (by kernel_rfl) (by kernel_rfl) (by kernel_rfl) (fun _ _ _ h => h) (Or.inl ⟨by rfl, ?y19h2p1⟩) (by assumption) ?r19h2p1
          case y19h2p1 => (intro w hSw; obtain ⟨-, s0, s1, s2, s3, s4, s5, s6, s7⟩ := hSw; go_simp; (try with_reducible rfl))
          (try simp only [Act.put]); (try simp only [List.setIfInBounds_toArray]); (try simp only [List.set_cons_succ]); (try simp only [List.set_cons_zero])
          refine wpAnyH_take (i := 20) (oi := { dst := some 155, op := Go.Op.pick (Go.Operand.tmp 149) (Go.Operand.tmp 154) (Go.Operand.const (Go.Value.bool false)), type := 4, pos := "law.go:162", after := #[{ on := 14, ground := Go.Ground.data }, { on := 19, ground := Go.Ground.data }, { on := 12, ground := Go.Ground.guard }], guard := some (12, false) }) (v := ?v20h2p2) rfl (by kernel_rfl) (by kernel_rfl) (by kernel_rfl) (fun _ _ _ h => h) (Or.inl ⟨by rfl, ?y20h2p2⟩) (by assumption) ?r20h2p2
          case y20h2p2 => (intro w hSw; obtain ⟨-, s0, s1, s2, s3, s4, s5, s6, s7⟩ := hSw; go_simp; (try with_reducible rfl))
          (try simp only [Act.put]); (try simp only [List.setIfInBounds_toArray]); (try simp only [List.set_cons_succ]); (try simp only [List.set_cons_zero])
          refine wpAnyH_take (i := 21) (oi := { dst := some 156, op := Go.Op.pick (Go.Operand.tmp 147) (Go.Operand.const (Go.Value.bool true)) (Go.Operand.tmp 155), type := 4, pos := "law.go:162", after := #[{ on := 12, ground := Go.Ground.data }, { on := 20, ground := Go.Ground.data }], guard := none }) (v := ?v21h2p3) rfl (by kernel_rfl) (by kernel_rfl) (by kernel_rfl) (fun _ _ _ h => h) (Or.inl ⟨by rfl, ?y21h2p3⟩) (by assumption) ?r21h2p3
          case y21h2p3 => (intro w hSw; obtain ⟨-, s0, s1, s2, s3, s4, s5, s6, s7⟩ := hSw; go_simp; (try with_reducible rfl))
          (try simp only [Act.put]); (try simp only [List.setIfInBounds_toArray]); (try simp only [List.set_cons_succ]); (try simp only [List.set_cons_zero])
          refine wpAnyH_done (by kernel_rfl) ?_ _
          have HG := hidM hHeld.1.out.1
          clear hHeld
          go_wp2_with (go_at_call 18; refine Hid.out ?_)
          unfold Hid
          refine Calls.mono (H9.out _ HG.out) ?_
          rintro e' V10 ⟨rfl, hg⟩
          replace HG := hidM (HG.out.trans hg (fun _ _ h => h))
          clear hg
          go_wp2_with fail
          go_ret
          exact ⟨rfl, HG.out⟩
      · have hac := HT.out.2 (by decide) (by omega)
        clear HT
        obtain ⟨q0, q1, q2, q3⟩ := HB.out.a.cells
        obtain ⟨r0, r1, r2, r3⟩ := HB.out.b.cells
        go_wp2_with (go_at_call 20; refine Hid.out ?_)
        unfold Hid
        refine Calls.mono (HSM.out _ HG.out) ?_
        rintro e' V9 ⟨rfl, hg⟩
        replace HB := hidM (HB.out.gr hg)
        replace HG := hidM (HG.out.trans hg (fun _ _ h => h))
        clear hg q0 q1 q2 q3 r0 r1 r2 r3
        obtain ⟨q0, q1, q2, q3⟩ := HB.out.a.cells
        obtain ⟨r0, r1, r2, r3⟩ := HB.out.b.cells
        go_wp2_with fail
        clear HNL
        obtain ⟨hh, hA, hB⟩ := HHS.out (by trivial)
        have HA := hidM hA
        have HB2 := hidM hB
        clear hA hB HHS q0 q1 q2 q3 r0 r1 r2 r3
        cases a0 with
        | true =>
          have HC := hidM (ss_of HG.out.drew (HB.out.gr (Keeps.refl _ _).drew))
          clear HB HG
          go_region_held3 (fun w' => Hid (Gr w w' ∧ Box4 w' w.heap.size f0 f1 f2 f3 f4 f5 ao n ca true b0 c0 a1 b1 c1 a2 b2 c2 uo vo xo un uc vn vc xn xc) ∧ w'.cell? ⟨w.heap.size + 1, 0, none⟩ = some (.bool true) ∧ w'.cell? ⟨w.heap.size + 1, 1, none⟩ = some (.int .i64 a1) ∧ w'.cell? ⟨w.heap.size + 1, 2, none⟩ = some (.string a2) ∧ w'.cell? ⟨w.heap.size + 1, 3, none⟩ = some (.slice uo un uc) ∧ w'.cell? ⟨w.heap.size + 1 + 1, 0, none⟩ = some (.bool b0) ∧ w'.cell? ⟨w.heap.size + 1 + 1, 1, none⟩ = some (.int .i64 b1) ∧ w'.cell? ⟨w.heap.size + 1 + 1, 2, none⟩ = some (.string b2) ∧ w'.cell? ⟨w.heap.size + 1 + 1, 3, none⟩ = some (.slice vo vn vc)) (first | with_reducible exact HC.out | with_reducible exact ss_kept (by assumption) hk2 | with_reducible exact ss_kept (by assumption) hk1) (first | ((with_reducible show Calls _ _ #[.agg #[.bool true, .int .i64 a1, .string a2, .slice uo un uc]] _ _); refine Calls.mono (HA.out _ (ss_gr (by assumption))) ?_; rintro e' v1 ⟨rfl, hk1⟩; replace hk1 := hidM hk1) | ((with_reducible show Calls _ _ #[.agg #[.bool b0, .int .i64 b1, .string b2, .slice vo vn vc]] _ _); refine Calls.mono (HB2.out _ (ss_gr (by assumption))) ?_; rintro e' v2 ⟨rfl, hk2⟩; replace hk2 := hidM hk2))
          all_goals
            rename_i hHeld
            have HG := hidM hHeld.1.out.1
            clear hHeld
            go_wp2_with (go_at_call 18; refine Hid.out ?_)
            unfold Hid
            refine Calls.mono (H9.out _ HG.out) ?_
            rintro e' V10 ⟨rfl, hg⟩
            replace HG := hidM (HG.out.trans hg (fun _ _ h => h))
            clear hg
            go_wp2_with fail
            go_ret
            exact ⟨rfl, HG.out⟩
        | false =>
          have HC := hidM (ss_of HG.out.drew (HB.out.gr (Keeps.refl _ _).drew))
          clear HB HG
          refine wp_region_held_drew (S := fun w' => Hid (Gr w w' ∧ Box4 w' w.heap.size f0 f1 f2 f3 f4 f5 ao n ca false b0 c0 a1 b1 c1 a2 b2 c2 uo vo xo un uc vn vc xn xc) ∧ w'.cell? ⟨w.heap.size + 1, 0, none⟩ = some (.bool false) ∧ w'.cell? ⟨w.heap.size + 1, 1, none⟩ = some (.int .i64 a1) ∧ w'.cell? ⟨w.heap.size + 1, 2, none⟩ = some (.string a2) ∧ w'.cell? ⟨w.heap.size + 1, 3, none⟩ = some (.slice uo un uc) ∧ w'.cell? ⟨w.heap.size + 1 + 1, 0, none⟩ = some (.bool b0) ∧ w'.cell? ⟨w.heap.size + 1 + 1, 1, none⟩ = some (.int .i64 b1) ∧ w'.cell? ⟨w.heap.size + 1 + 1, 2, none⟩ = some (.string b2) ∧ w'.cell? ⟨w.heap.size + 1 + 1, 3, none⟩ = some (.slice vo vn vc)) (by kernel_rfl) (HC.out) (fun hHeld => ?_)
          refine wpAnyH_take (i := 0) (oi := { dst := some 135, op := Go.Op.move (Go.Operand.tmp 20), type := 4, pos := "law.go:162", after := #[], guard := none }) (v := ?v0h31) rfl (by kernel_rfl) (by kernel_rfl) (by kernel_rfl) (fun _ _ _ h => h) (Or.inl ⟨by rfl, ?y0h31⟩) (by assumption) ?r0h31
          case y0h31 => (intro w hSw; obtain ⟨-, s0, s1, s2, s3, s4, s5, s6, s7⟩ := hSw; go_simp; (try with_reducible rfl))
          (try simp only [Act.put]); (try simp only [List.setIfInBounds_toArray]); (try simp only [List.set_cons_succ]); (try simp only [List.set_cons_zero])
          refine wpAnyH_take (i := 1) (oi := { dst := some 136, op := Go.Op.move (Go.Operand.tmp 9), type := 3, pos := "law.go:162", after := #[], guard := none }) (v := ?v1h32) rfl (by kernel_rfl) (by kernel_rfl) (by kernel_rfl) (fun _ _ _ h => h) (Or.inl ⟨by rfl, ?y1h32⟩) (by assumption) ?r1h32
          case y1h32 => (intro w hSw; obtain ⟨-, s0, s1, s2, s3, s4, s5, s6, s7⟩ := hSw; go_simp; (try with_reducible rfl))
          (try simp only [Act.put]); (try simp only [List.setIfInBounds_toArray]); (try simp only [List.set_cons_succ]); (try simp only [List.set_cons_zero])
          refine wpAnyH_take (i := 2) (oi := { dst := some 137, op := Go.Op.binOp Go.BinOp.eql 3 (Go.Operand.tmp 136) (Go.Operand.const (Go.Value.int Go.IntKind.i64 0)) 3, type := 4, pos := "law.go:162", after := #[{ on := 1, ground := Go.Ground.data }], guard := none }) (v := ?v2h33) rfl (by kernel_rfl) (by kernel_rfl) (by kernel_rfl) (fun _ _ _ h => h) (Or.inl ⟨by rfl, ?y2h33⟩) (by assumption) ?r2h33
          case y2h33 => (intro w hSw; obtain ⟨-, s0, s1, s2, s3, s4, s5, s6, s7⟩ := hSw; go_simp; (try with_reducible rfl))
          (try simp only [Act.put]); (try simp only [List.setIfInBounds_toArray]); (try simp only [List.set_cons_succ]); (try simp only [List.set_cons_zero])
          refine wpAnyH_take (i := 3) (oi := { dst := some 138, op := Go.Op.binOp Go.BinOp.neq 4 (Go.Operand.tmp 135) (Go.Operand.tmp 137) 4, type := 4, pos := "law.go:162", after := #[{ on := 0, ground := Go.Ground.data }, { on := 2, ground := Go.Ground.data }], guard := none }) (v := ?v3h34) rfl (by kernel_rfl) (by kernel_rfl) (by kernel_rfl) (fun _ _ _ h => h) (Or.inl ⟨by rfl, ?y3h34⟩) (by assumption) ?r3h34
          case y3h34 => (intro w hSw; obtain ⟨-, s0, s1, s2, s3, s4, s5, s6, s7⟩ := hSw; go_simp; (try with_reducible rfl))
          (try simp only [Act.put]); (try simp only [List.setIfInBounds_toArray]); (try simp only [List.set_cons_succ]); (try simp only [List.set_cons_zero])
          refine wpAnyH_take (i := 4) (oi := { dst := some 139, op := Go.Op.move (Go.Operand.tmp 138), type := 4, pos := "law.go:162", after := #[{ on := 3, ground := Go.Ground.data }], guard := none }) (v := ?v4h35) rfl (by kernel_rfl) (by kernel_rfl) (by kernel_rfl) (fun _ _ _ h => h) (Or.inl ⟨by rfl, ?y4h35⟩) (by assumption) ?r4h35
          case y4h35 => (intro w hSw; obtain ⟨-, s0, s1, s2, s3, s4, s5, s6, s7⟩ := hSw; go_simp; (try with_reducible rfl))
          (try simp only [Act.put]); (try simp only [List.setIfInBounds_toArray]); (try simp only [List.set_cons_succ]); (try simp only [List.set_cons_zero])
          refine wpAnyH_take (i := 5) (oi := { dst := some 140, op := Go.Op.fieldAddr 29 (Go.Operand.tmp 5) 0, type := 0, pos := "law.go:162", after := #[{ on := 4, ground := Go.Ground.guard }], guard := some (4, false) }) (v := ?v5h36) rfl (by kernel_rfl) (by kernel_rfl) (by kernel_rfl) (fun _ _ _ h => h) (Or.inl ⟨by rfl, ?y5h36⟩) (by assumption) ?r5h36
          case y5h36 => (intro w hSw; obtain ⟨-, s0, s1, s2, s3, s4, s5, s6, s7⟩ := hSw; go_simp; (try with_reducible rfl))
          (try simp only [Act.put]); (try simp only [List.setIfInBounds_toArray]); (try simp only [List.set_cons_succ]); (try simp only [List.set_cons_zero])
          refine wpAnyH_take (i := 6) (oi := { dst := some 141, op := Go.Op.load 4 (Go.Operand.tmp 140), type := 4, pos := "law.go:162", after := #[{ on := 5, ground := Go.Ground.data }, { on := 4, ground := Go.Ground.guard }], guard := some (4, false) }) (v := ?v6h37) rfl (by kernel_rfl) (by kernel_rfl) (by kernel_rfl) (fun _ _ _ h => h) (Or.inl ⟨by rfl, ?y6h37⟩) (by assumption) ?r6h37
          case y6h37 => (intro w hSw; obtain ⟨-, s0, s1, s2, s3, s4, s5, s6, s7⟩ := hSw; go_simp; (try with_reducible rfl))
          (try simp only [Act.put]); (try simp only [List.setIfInBounds_toArray]); (try simp only [List.set_cons_succ]); (try simp only [List.set_cons_zero])
          refine wpAnyH_take (i := 7) (oi := { dst := some 142, op := Go.Op.move (Go.Operand.tmp 141), type := 4, pos := "law.go:162", after := #[{ on := 6, ground := Go.Ground.data }, { on := 4, ground := Go.Ground.chain }, { on := 4, ground := Go.Ground.guard }], guard := some (4, false) }) (v := ?v7h38) rfl (by kernel_rfl) (by kernel_rfl) (by kernel_rfl) (fun _ _ _ h => h) (Or.inl ⟨by rfl, ?y7h38⟩) (by assumption) ?r7h38
          case y7h38 => (intro w hSw; obtain ⟨-, s0, s1, s2, s3, s4, s5, s6, s7⟩ := hSw; go_simp; (try with_reducible rfl))
          (try simp only [Act.put]); (try simp only [List.setIfInBounds_toArray]); (try simp only [List.set_cons_succ]); (try simp only [List.set_cons_zero])
          refine wpAnyH_take (i := 8) (oi := { dst := some 143, op := Go.Op.move (Go.Operand.tmp 9), type := 3, pos := "law.go:162", after := #[{ on := 7, ground := Go.Ground.guard }], guard := some (7, true) }) (v := undef) rfl (by kernel_rfl) (by kernel_rfl) (by kernel_rfl) (fun _ _ _ h => h) (Or.inr ⟨by kernel_rfl, rfl⟩) (by assumption) ?r8h39
          (try simp only [Act.put]); (try simp only [List.setIfInBounds_toArray]); (try simp only [List.set_cons_succ]); (try simp only [List.set_cons_zero])
          refine wpAnyH_take (i := 9) (oi := { dst := some 144, op := Go.Op.binOp Go.BinOp.gtr 3 (Go.Operand.tmp 143) (Go.Operand.const (Go.Value.int Go.IntKind.i64 0)) 3, type := 4, pos := "law.go:162", after := #[{ on := 8, ground := Go.Ground.data }, { on := 7, ground := Go.Ground.guard }], guard := some (7, true) }) (v := undef) rfl (by kernel_rfl) (by kernel_rfl) (by kernel_rfl) (fun _ _ _ h => h) (Or.inr ⟨by kernel_rfl, rfl⟩) (by assumption) ?r9h310
          (try simp only [Act.put]); (try simp only [List.setIfInBounds_toArray]); (try simp only [List.set_cons_succ]); (try simp only [List.set_cons_zero])
          refine wpAnyH_take (i := 10) (oi := { dst := some 145, op := Go.Op.pick (Go.Operand.tmp 142) (Go.Operand.tmp 144) (Go.Operand.const (Go.Value.bool false)), type := 4, pos := "law.go:162", after := #[{ on := 7, ground := Go.Ground.data }, { on := 9, ground := Go.Ground.data }, { on := 4, ground := Go.Ground.guard }], guard := some (4, false) }) (v := ?v10h311) rfl (by kernel_rfl) (by kernel_rfl) (by kernel_rfl) (fun _ _ _ h => h) (Or.inl ⟨by rfl, ?y10h311⟩) (by assumption) ?r10h311
          case y10h311 => (intro w hSw; obtain ⟨-, s0, s1, s2, s3, s4, s5, s6, s7⟩ := hSw; go_simp; (try with_reducible rfl))
          (try simp only [Act.put]); (try simp only [List.setIfInBounds_toArray]); (try simp only [List.set_cons_succ]); (try simp only [List.set_cons_zero])
          refine wpAnyH_take (i := 11) (oi := { dst := some 146, op := Go.Op.pick (Go.Operand.tmp 139) (Go.Operand.const (Go.Value.bool true)) (Go.Operand.tmp 145), type := 4, pos := "law.go:162", after := #[{ on := 4, ground := Go.Ground.data }, { on := 10, ground := Go.Ground.data }], guard := none }) (v := ?v11h312) rfl (by kernel_rfl) (by kernel_rfl) (by kernel_rfl) (fun _ _ _ h => h) (Or.inl ⟨by rfl, ?y11h312⟩) (by assumption) ?r11h312
          case y11h312 => (intro w hSw; obtain ⟨-, s0, s1, s2, s3, s4, s5, s6, s7⟩ := hSw; go_simp; (try with_reducible rfl))
          (try simp only [Act.put]); (try simp only [List.setIfInBounds_toArray]); (try simp only [List.set_cons_succ]); (try simp only [List.set_cons_zero])
          refine wpAnyH_take (i := 12) (oi := { dst := some 147, op := Go.Op.move (Go.Operand.tmp 146), type := 4, pos := "law.go:162", after := #[{ on := 11, ground := Go.Ground.data }, { on := 7, ground := Go.Ground.chain }], guard := none }) (v := ?v12h313) rfl (by kernel_rfl) (by kernel_rfl) (by kernel_rfl) (fun _ _ _ h => h) (Or.inl ⟨by rfl, ?y12h313⟩) (by assumption) ?r12h313
          case y12h313 => (intro w hSw; obtain ⟨-, s0, s1, s2, s3, s4, s5, s6, s7⟩ := hSw; go_simp; (try with_reducible rfl))
          (try simp only [Act.put]); (try simp only [List.setIfInBounds_toArray]); (try simp only [List.set_cons_succ]); (try simp only [List.set_cons_zero])
          refine wpAnyH_take (i := 13) (oi := { dst := some 148, op := Go.Op.move (Go.Operand.tmp 20), type := 4, pos := "law.go:162", after := #[{ on := 12, ground := Go.Ground.guard }], guard := some (12, false) }) (v := ?v13h314) rfl (by kernel_rfl) (by kernel_rfl) (by kernel_rfl) (fun _ _ _ h => h) (Or.inl ⟨by rfl, ?y13h314⟩) (by assumption) ?r13h314
          case y13h314 => (intro w hSw; obtain ⟨-, s0, s1, s2, s3, s4, s5, s6, s7⟩ := hSw; go_simp; (try with_reducible rfl))
          (try simp only [Act.put]); (try simp only [List.setIfInBounds_toArray]); (try simp only [List.set_cons_succ]); (try simp only [List.set_cons_zero])
          refine wpAnyH_take (i := 14) (oi := { dst := some 149, op := Go.Op.move (Go.Operand.tmp 148), type := 4, pos := "law.go:162", after := #[{ on := 13, ground := Go.Ground.data }, { on := 12, ground := Go.Ground.chain }, { on := 12, ground := Go.Ground.guard }], guard := some (12, false) }) (v := ?v14h315) rfl (by kernel_rfl) (by kernel_rfl) (by kernel_rfl) (fun _ _ _ h => h) (Or.inl ⟨by rfl, ?y14h315⟩) (by assumption) ?r14h315
          case y14h315 => (intro w hSw; obtain ⟨-, s0, s1, s2, s3, s4, s5, s6, s7⟩ := hSw; go_simp; (try with_reducible rfl))
          (try simp only [Act.put]); (try simp only [List.setIfInBounds_toArray]); (try simp only [List.set_cons_succ]); (try simp only [List.set_cons_zero])
          refine wpAnyH_take (i := 15) (oi := { dst := some 150, op := Go.Op.load 29 (Go.Operand.tmp 5), type := 29, pos := "law.go:162", after := #[{ on := 14, ground := Go.Ground.guard }], guard := some (14, true) }) (v := ?v15h316) rfl (by kernel_rfl) (by kernel_rfl) (by kernel_rfl) (fun _ _ _ h => h) (Or.inl ⟨by rfl, ?y15h316⟩) (by assumption) ?r15h316
          case y15h316 => (intro w hSw; obtain ⟨-, s0, s1, s2, s3, s4, s5, s6, s7⟩ := hSw; go_simp; (try with_reducible rfl))
          (try simp only [Act.put]); (try simp only [List.setIfInBounds_toArray]); (try simp only [List.set_cons_succ]); (try simp only [List.set_cons_zero])
          refine wpAnyH_take (i := 17) (oi := { dst := some 152, op := Go.Op.load 29 (Go.Operand.tmp 6), type := 29, pos := "law.go:162", after := #[{ on := 14, ground := Go.Ground.guard }], guard := some (14, true) }) (v := ?v17h317) rfl (by kernel_rfl) (by kernel_rfl) (by kernel_rfl) (fun _ _ _ h => h) (Or.inl ⟨by rfl, ?y17h317⟩) (by assumption) ?r17h317
          case y17h317 => (intro w hSw; obtain ⟨-, s0, s1, s2, s3, s4, s5, s6, s7⟩ := hSw; go_simp; (try with_reducible rfl))
          (try simp only [Act.put]); (try simp only [List.setIfInBounds_toArray]); (try simp only [List.set_cons_succ]); (try simp only [List.set_cons_zero])
          refine wpAnyH_ready (rs := [16]) (by kernel_rfl) (by simp) ?_
          refine AllReadyH.cons (o := { dst := some 151, op := Go.Op.call { callee := Go.Callee.value (Go.Operand.func 21), args := #[Go.Operand.tmp 150], argTypes := #[29] }, type := 50, pos := "law.go:162", after := #[{ on := 15, ground := Go.Ground.data }, { on := 14, ground := Go.Ground.chain }, { on := 14, ground := Go.Ground.guard }], guard := some (14, true) }) rfl (fun Kc hK => ?_) AllReadyH.nil
          go_simp
          go_at_call 21
          refine Calls.mono (HA.out _ (ss_gr hHeld)) ?_
          rintro e' v1 ⟨rfl, hk⟩
          go_wp2_with fail
          refine hK.out _ _ (ss_kept hHeld (hidM hk)) (fun hHeld => ?_)
          clear hK Kc hk
          (try simp only [Act.put]); (try simp only [List.setIfInBounds_toArray]); (try simp only [List.set_cons_succ]); (try simp only [List.set_cons_zero])
          refine wpAnyH_ready (rs := [18]) (by kernel_rfl) (by simp) ?_
          refine AllReadyH.cons (o := { dst := some 153, op := Go.Op.call { callee := Go.Callee.value (Go.Operand.func 21), args := #[Go.Operand.tmp 152], argTypes := #[29] }, type := 50, pos := "law.go:162", after := #[{ on := 17, ground := Go.Ground.data }, { on := 16, ground := Go.Ground.chain }, { on := 14, ground := Go.Ground.guard }], guard := some (14, true) }) rfl (fun Kc hK => ?_) AllReadyH.nil
          go_simp
          go_at_call 21
          refine Calls.mono (HB2.out _ (ss_gr hHeld)) ?_
          rintro e' v2 ⟨rfl, hk⟩
          go_wp2_with fail
          refine hK.out _ _ (ss_kept hHeld (hidM hk)) (fun hHeld => ?_)
          clear hK Kc hk
          (try simp only [Act.put]); (try simp only [List.setIfInBounds_toArray]); (try simp only [List.set_cons_succ]); (try simp only [List.set_cons_zero])
          refine wpAnyH_take (i := 19) (oi := { dst := some 154, op := Go.Op.binOp Go.BinOp.neq 50 (Go.Operand.tmp 151) (Go.Operand.tmp 153) 50, type := 4, pos := "law.go:162", after := #[{ on := 16, ground := Go.Ground.data }, { on := 18, ground := Go.Ground.data }, { on := 14, ground := Go.Ground.guard }], guard := some (14, true) }) (v := ?v19h3p1) rfl (by kernel_rfl) (by kernel_rfl) (by kernel_rfl) (fun _ _ _ h => h) (Or.inl ⟨by rfl, ?y19h3p1⟩) (by assumption) ?r19h3p1
          case y19h3p1 => (intro w hSw; obtain ⟨-, s0, s1, s2, s3, s4, s5, s6, s7⟩ := hSw; go_simp; (try with_reducible rfl))
          (try simp only [Act.put]); (try simp only [List.setIfInBounds_toArray]); (try simp only [List.set_cons_succ]); (try simp only [List.set_cons_zero])
          refine wpAnyH_take (i := 20) (oi := { dst := some 155, op := Go.Op.pick (Go.Operand.tmp 149) (Go.Operand.tmp 154) (Go.Operand.const (Go.Value.bool false)), type := 4, pos := "law.go:162", after := #[{ on := 14, ground := Go.Ground.data }, { on := 19, ground := Go.Ground.data }, { on := 12, ground := Go.Ground.guard }], guard := some (12, false) }) (v := ?v20h3p2) rfl (by kernel_rfl) (by kernel_rfl) (by kernel_rfl) (fun _ _ _ h => h) (Or.inl ⟨by rfl, ?y20h3p2⟩) (by assumption) ?r20h3p2
          case y20h3p2 => (intro w hSw; obtain ⟨-, s0, s1, s2, s3, s4, s5, s6, s7⟩ := hSw; go_simp; (try with_reducible rfl))
          (try simp only [Act.put]); (try simp only [List.setIfInBounds_toArray]); (try simp only [List.set_cons_succ]); (try simp only [List.set_cons_zero])
          refine wpAnyH_take (i := 21) (oi := { dst := some 156, op := Go.Op.pick (Go.Operand.tmp 147) (Go.Operand.const (Go.Value.bool true)) (Go.Operand.tmp 155), type := 4, pos := "law.go:162", after := #[{ on := 12, ground := Go.Ground.data }, { on := 20, ground := Go.Ground.data }], guard := none }) (v := ?v21h3p3) rfl (by kernel_rfl) (by kernel_rfl) (by kernel_rfl) (fun _ _ _ h => h) (Or.inl ⟨by rfl, ?y21h3p3⟩) (by assumption) ?r21h3p3
          case y21h3p3 => (intro w hSw; obtain ⟨-, s0, s1, s2, s3, s4, s5, s6, s7⟩ := hSw; go_simp; (try with_reducible rfl))
          (try simp only [Act.put]); (try simp only [List.setIfInBounds_toArray]); (try simp only [List.set_cons_succ]); (try simp only [List.set_cons_zero])
          refine wpAnyH_done (by kernel_rfl) ?_ _
          have HG := hidM hHeld.1.out.1
          clear hHeld
          go_wp2_with (go_at_call 18; refine Hid.out ?_)
          unfold Hid
          refine Calls.mono (H9.out _ HG.out) ?_
          rintro e' V10 ⟨rfl, hg⟩
          replace HG := hidM (HG.out.trans hg (fun _ _ h => h))
          clear hg
          go_wp2_with fail
          go_ret
          exact ⟨rfl, HG.out⟩
    · by_cases hb : 0 ≤ bc
      · have hac := HT.out.2 (by decide) hb
        clear HT
        obtain ⟨q0, q1, q2, q3⟩ := HB.out.a.cells
        obtain ⟨r0, r1, r2, r3⟩ := HB.out.b.cells
        go_wp2_with (go_at_call 20; refine Hid.out ?_)
        unfold Hid
        refine Calls.mono (HSM.out _ HG.out) ?_
        rintro e' V9 ⟨rfl, hg⟩
        replace HB := hidM (HB.out.gr hg)
        replace HG := hidM (HG.out.trans hg (fun _ _ h => h))
        clear hg q0 q1 q2 q3 r0 r1 r2 r3
        obtain ⟨q0, q1, q2, q3⟩ := HB.out.a.cells
        obtain ⟨r0, r1, r2, r3⟩ := HB.out.b.cells
        go_wp2_with fail
        have ha0 : a0 = false := by cases h : a0 with | false => rfl | true => exact absurd (HNL.out h) (by decide)
        subst ha0
        clear HNL
        go_region
        all_goals
          replace HG := hidM HG.out.drew
          go_wp2_with (go_at_call 18; refine Hid.out ?_)
          unfold Hid
          refine Calls.mono (H9.out _ HG.out) ?_
          rintro e' V10 ⟨rfl, hg⟩
          replace HG := hidM (HG.out.trans hg (fun _ _ h => h))
          clear hg
          go_wp2_with fail
          go_ret
          exact ⟨rfl, HG.out⟩
      · have hb : bc < 0 := by omega
        clear HT
        obtain ⟨q0, q1, q2, q3⟩ := HB.out.a.cells
        obtain ⟨r0, r1, r2, r3⟩ := HB.out.b.cells
        go_wp2_with (go_at_call 20; refine Hid.out ?_)
        unfold Hid
        refine Calls.mono (HSM.out _ HG.out) ?_
        rintro e' V9 ⟨rfl, hg⟩
        replace HB := hidM (HB.out.gr hg)
        replace HG := hidM (HG.out.trans hg (fun _ _ h => h))
        clear hg q0 q1 q2 q3 r0 r1 r2 r3
        obtain ⟨q0, q1, q2, q3⟩ := HB.out.a.cells
        obtain ⟨r0, r1, r2, r3⟩ := HB.out.b.cells
        go_wp2_with fail
        have ha0 : a0 = false := by cases h : a0 with | false => rfl | true => exact absurd (HNL.out h) (by decide)
        subst ha0
        clear HNL
        go_region
        all_goals
          replace HG := hidM HG.out.drew
          go_wp2_with (go_at_call 18; refine Hid.out ?_)
          unfold Hid
          refine Calls.mono (H9.out _ HG.out) ?_
          rintro e' V10 ⟨rfl, hg⟩
          replace HG := hidM (HG.out.trans hg (fun _ _ h => h))
          clear hg
          go_wp2_with fail
          go_ret
          exact ⟨rfl, HG.out⟩
end Go.Proofs.YtcfdkadhclickaaDoor.Kit
