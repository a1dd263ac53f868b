import Derived.Test.YtknnoiomdngmfaaGreatDoorUD
import Derived.Test.YtknnoiomdngmfaaGreatDoorLQ
import Derived.LoopN
set_option maxRecDepth 100000
set_option maxHeartbeats 4000000
namespace Go.Proofs.YtknnoiomdngmfaaGreatDoor.Kit
open Go.RowKit Go.Shelf Go.Deep
set_option linter.unusedVariables false
set_option linter.unusedSimpArgs false
attribute [local go_sem] run_store_func
theorem mayNot10 (S : Nat → Prop) (d : Nat) (f : FT) (ao : Option Addr) (ca : Nat) (er tt : Int) (p : List Nat) (w : World) (hT : Tab w) (hr : RowAt S w d ao f.kids) (hca : f.kids.length ≤ ca) (hd : d + 1 ≤ big) (hS : ∀ b, S b → b < w.heap.size) (hF : FaultIs (0, 0) (nodes (d + 1) [f] [] false) er p tt) :
    ∀ W, Gr w W → Calls Tryz.prog 10 #[.agg #[.string f.name, .bool f.nul, .int .i64 f.kind, .int .i64 f.width, .int .i64 f.id, .int .i64 f.index, .slice ao f.kids.length ca]] W fun e w' => e = .returned (.bool (!(er == 0))) ∧ Gr W w' := by
  intro W g
  obtain ⟨A1, hA1⟩ := ex (W.alloc (.cells #[.string f.name, .bool f.nul, .int .i64 f.kind, .int .i64 f.width, .int .i64 f.id, .int .i64 f.index, .slice ao f.kids.length ca] 26))
  have g1 := gr_al hA1
  have b1 := al_new hA1
  obtain ⟨q0, q1, q2, q3, q4, q5, q6⟩ := cell7p b1
  have gA := g.tr g1
  have HC : Hid (Calls Tryz.prog 26 #[.agg #[.string f.name, .bool f.nul, .int .i64 f.kind, .int .i64 f.width, .int .i64 f.id, .int .i64 f.index, .slice ao f.kids.length ca]] A1 fun e w' => ∃ vo vn vc tt', e = .returned (.agg #[.int .i64 er, .slice vo vn vc, .int .i64 tt']) ∧ Gr W w') := by
    refine Calls.mono (checkField_any S d f ao ca A1 (hT.gr gA) (hr.kept fun b hb => gA.block b (hS b hb) id) hca hd (fun b hb => Nat.lt_of_lt_of_le (hS b hb) gA.size)) ?_
    rintro e w' ⟨er', p', vo, vc, tt', rfl, hg, h1, h2⟩
    obtain ⟨rfl, -, -⟩ := hF.one h1
    exact ⟨vo, _, vc, tt', rfl, g1.tr hg⟩
  have hfl : ∀ (tt : Int) vo vn vc w, (Instr.field 60 (.agg #[.int .i64 er, .slice vo vn vc, .int .i64 tt]) 0).run Tryz.prog w = .ok (.int .i64 er) w := fun tt vo vn vc w => by kernel_rfl
  clear hT hr hca hd hS hF g g1 b1 gA
  go_enter Tryz.func10, Tryz.ntmps10
  go_wp2_with (go_at_call 26; refine HC.out.mono ?_; rintro e w1 ⟨vo, vn, vc, tt', rfl, gw⟩; have HG := hidM gw; clear gw)
  go_ret
  refine ⟨?_, HG.out⟩
  first
    | rfl
    | (congr 2; simp)
theorem null31 (f : FT) (ao : Option Addr) (ca : Nat) (W : World) : Calls Tryz.prog 31 #[.agg #[.string f.name, .bool f.nul, .int .i64 f.kind, .int .i64 f.width, .int .i64 f.id, .int .i64 f.index, .slice ao f.kids.length ca]] W fun e w' => e = .returned (.bool f.nul) ∧ Gr W w' := by
  obtain ⟨A1, hA1⟩ := ex (W.alloc (.cells #[.string f.name, .bool f.nul, .int .i64 f.kind, .int .i64 f.width, .int .i64 f.id, .int .i64 f.index, .slice ao f.kids.length ca] 26))
  have g1 := gr_al hA1
  have b1 := al_new hA1
  obtain ⟨q0, q1, q2, q3, q4, q5, q6⟩ := cell7p b1
  have HG := hidM g1
  clear g1 b1
  go_enter Tryz.func31, Tryz.ntmps31
  go_wp2_with fail
  go_ret
  exact ⟨rfl, HG.out⟩
theorem idx25_10_1 (S : Nat → Prop) (d b o lc : Nat) (f0 : FT) (ao0 : Option Addr) (ca0 : Nat) (r0 : Bool) (W : World) (hS : ∀ b, S b → b < W.heap.size) (hb : b < W.heap.size) (hlc : 1 ≤ lc) (h0 : FlI S W d b o f0 ao0 ca0) (c0 : ∀ u, Gr W u → Calls Tryz.prog 10 #[.agg #[.string f0.name, .bool f0.nul, .int .i64 f0.kind, .int .i64 f0.width, .int .i64 f0.id, .int .i64 f0.index, .slice ao0 f0.kids.length ca0]] u fun e w' => e = .returned (.bool r0) ∧ Gr u w') :
    Calls Tryz.prog 25 #[.slice (some ⟨b, o, none⟩) 1 lc, .func (.func 10) #[] #[]] W fun e w' => ∃ k : Int, e = .returned (.int .i64 k) ∧ decide (0 ≤ k) = (r0) ∧ Gr W w' := by
  have hlc' : (1 : Int) ≤ (lc : Int) := by omega
  have HSt0 : Hid (Gr W W) := Keeps.refl W _
  have HF0 := hidM h0
  have HC0 := hidM c0
  have HS := hidM hS
  have HB := hidM hb
  clear hS hb hlc h0 c0
  go_enter Tryz.func25, Tryz.ntmps25
  go_wp2_with fail
  refine wp_loop_rounds 2 ?_
  obtain ⟨d00, d01, d02, d03, d04, d05, d06⟩ := (HF0.out.gr HSt0.out HB.out HS.out).c
  have HD0 := hidM (HC0.out _ HSt0.out)
  cases r0
  · refine Eq.mpr (rounds_succ (n := 1)) ?_
    go_wp2_with (go_at_call 10; refine HD0.out.mono ?_; rintro e V1 ⟨rfl, gv⟩; have HSt1 : Hid (Gr W V1) := HSt0.out.tr gv; clear gv HD0 d00 d01 d02 d03 d04 d05 d06)
    refine Eq.mpr (rounds_succ (n := 0)) ?_
    go_wp2_with fail
    go_ret
    exact ⟨-1, rfl, by decide, HSt1.out⟩
  refine Eq.mpr (rounds_succ (n := 1)) ?_
  go_wp2_with (go_at_call 10; refine HD0.out.mono ?_; rintro e V1 ⟨rfl, gv⟩; have HSt1 : Hid (Gr W V1) := HSt0.out.tr gv; clear gv HD0 d00 d01 d02 d03 d04 d05 d06)
  go_ret
  exact ⟨0, rfl, by simp, HSt1.out⟩
theorem has9_10_1 (S : Nat → Prop) (d b o lc : Nat) (f0 : FT) (ao0 : Option Addr) (ca0 : Nat) (r0 : Bool) (W : World) (hS : ∀ b, S b → b < W.heap.size) (hb : b < W.heap.size) (hlc : 1 ≤ lc) (h0 : FlI S W d b o f0 ao0 ca0) (c0 : ∀ u, Gr W u → Calls Tryz.prog 10 #[.agg #[.string f0.name, .bool f0.nul, .int .i64 f0.kind, .int .i64 f0.width, .int .i64 f0.id, .int .i64 f0.index, .slice ao0 f0.kids.length ca0]] u fun e w' => e = .returned (.bool r0) ∧ Gr u w') :
    Calls Tryz.prog 9 #[.slice (some ⟨b, o, none⟩) 1 lc, .func (.func 10) #[] #[]] W fun e w' => e = .returned (.bool (r0)) ∧ Gr W w' := by
  have H := hidM (idx25_10_1 S d b o lc f0 ao0 ca0 r0 W hS hb hlc h0 c0)
  clear hS hb hlc h0 c0
  go_enter Tryz.func9, Tryz.ntmps9
  go_wp2_with (go_at_call 25; refine H.out.mono ?_; rintro e w1 ⟨k, rfl, hk, gw⟩; have HG := hidM (And.intro hk gw); clear gw hk)
  all_goals go_ret
  all_goals (refine ⟨?_, HG.out.2⟩; rw [← HG.out.1]; first | rfl | (congr 2; simp_all))
theorem idx25_10_2 (S : Nat → Prop) (d b o lc : Nat) (f0 f1 : FT) (ao0 ao1 : Option Addr) (ca0 ca1 : Nat) (r0 r1 : Bool) (W : World) (hS : ∀ b, S b → b < W.heap.size) (hb : b < W.heap.size) (hlc : 2 ≤ lc) (h0 : FlI S W d b o f0 ao0 ca0) (c0 : ∀ u, Gr W u → Calls Tryz.prog 10 #[.agg #[.string f0.name, .bool f0.nul, .int .i64 f0.kind, .int .i64 f0.width, .int .i64 f0.id, .int .i64 f0.index, .slice ao0 f0.kids.length ca0]] u fun e w' => e = .returned (.bool r0) ∧ Gr u w') (h1 : FlI S W d b (o + 7) f1 ao1 ca1) (c1 : ∀ u, Gr W u → Calls Tryz.prog 10 #[.agg #[.string f1.name, .bool f1.nul, .int .i64 f1.kind, .int .i64 f1.width, .int .i64 f1.id, .int .i64 f1.index, .slice ao1 f1.kids.length ca1]] u fun e w' => e = .returned (.bool r1) ∧ Gr u w') :
    Calls Tryz.prog 25 #[.slice (some ⟨b, o, none⟩) 2 lc, .func (.func 10) #[] #[]] W fun e w' => ∃ k : Int, e = .returned (.int .i64 k) ∧ decide (0 ≤ k) = (r0 || r1) ∧ Gr W w' := by
  have hlc' : (2 : Int) ≤ (lc : Int) := by omega
  have HSt0 : Hid (Gr W W) := Keeps.refl W _
  have HF0 := hidM h0
  have HC0 := hidM c0
  have HF1 := hidM h1
  have HC1 := hidM c1
  have HS := hidM hS
  have HB := hidM hb
  clear hS hb hlc h0 c0 h1 c1
  go_enter Tryz.func25, Tryz.ntmps25
  go_wp2_with fail
  refine wp_loop_rounds 3 ?_
  obtain ⟨d00, d01, d02, d03, d04, d05, d06⟩ := (HF0.out.gr HSt0.out HB.out HS.out).c
  have HD0 := hidM (HC0.out _ HSt0.out)
  cases r0
  · refine Eq.mpr (rounds_succ (n := 2)) ?_
    go_wp2_with (go_at_call 10; refine HD0.out.mono ?_; rintro e V1 ⟨rfl, gv⟩; have HSt1 : Hid (Gr W V1) := HSt0.out.tr gv; clear gv HD0 d00 d01 d02 d03 d04 d05 d06)
    obtain ⟨d10, d11, d12, d13, d14, d15, d16⟩ := (HF1.out.gr HSt1.out HB.out HS.out).c
    have HD1 := hidM (HC1.out _ HSt1.out)
    cases r1
    · refine Eq.mpr (rounds_succ (n := 1)) ?_
      go_wp2_with (go_at_call 10; refine HD1.out.mono ?_; rintro e V2 ⟨rfl, gv⟩; have HSt2 : Hid (Gr W V2) := HSt1.out.tr gv; clear gv HD1 d10 d11 d12 d13 d14 d15 d16)
      refine Eq.mpr (rounds_succ (n := 0)) ?_
      go_wp2_with fail
      go_ret
      exact ⟨-1, rfl, by decide, HSt2.out⟩
    refine Eq.mpr (rounds_succ (n := 1)) ?_
    go_wp2_with (go_at_call 10; refine HD1.out.mono ?_; rintro e V2 ⟨rfl, gv⟩; have HSt2 : Hid (Gr W V2) := HSt1.out.tr gv; clear gv HD1 d10 d11 d12 d13 d14 d15 d16)
    go_ret
    exact ⟨1, rfl, by simp, HSt2.out⟩
  refine Eq.mpr (rounds_succ (n := 2)) ?_
  go_wp2_with (go_at_call 10; refine HD0.out.mono ?_; rintro e V1 ⟨rfl, gv⟩; have HSt1 : Hid (Gr W V1) := HSt0.out.tr gv; clear gv HD0 d00 d01 d02 d03 d04 d05 d06)
  go_ret
  exact ⟨0, rfl, by simp, HSt1.out⟩
theorem has9_10_2 (S : Nat → Prop) (d b o lc : Nat) (f0 f1 : FT) (ao0 ao1 : Option Addr) (ca0 ca1 : Nat) (r0 r1 : Bool) (W : World) (hS : ∀ b, S b → b < W.heap.size) (hb : b < W.heap.size) (hlc : 2 ≤ lc) (h0 : FlI S W d b o f0 ao0 ca0) (c0 : ∀ u, Gr W u → Calls Tryz.prog 10 #[.agg #[.string f0.name, .bool f0.nul, .int .i64 f0.kind, .int .i64 f0.width, .int .i64 f0.id, .int .i64 f0.index, .slice ao0 f0.kids.length ca0]] u fun e w' => e = .returned (.bool r0) ∧ Gr u w') (h1 : FlI S W d b (o + 7) f1 ao1 ca1) (c1 : ∀ u, Gr W u → Calls Tryz.prog 10 #[.agg #[.string f1.name, .bool f1.nul, .int .i64 f1.kind, .int .i64 f1.width, .int .i64 f1.id, .int .i64 f1.index, .slice ao1 f1.kids.length ca1]] u fun e w' => e = .returned (.bool r1) ∧ Gr u w') :
    Calls Tryz.prog 9 #[.slice (some ⟨b, o, none⟩) 2 lc, .func (.func 10) #[] #[]] W fun e w' => e = .returned (.bool (r0 || r1)) ∧ Gr W w' := by
  have H := hidM (idx25_10_2 S d b o lc f0 f1 ao0 ao1 ca0 ca1 r0 r1 W hS hb hlc h0 c0 h1 c1)
  clear hS hb hlc h0 c0 h1 c1
  go_enter Tryz.func9, Tryz.ntmps9
  go_wp2_with (go_at_call 25; refine H.out.mono ?_; rintro e w1 ⟨k, rfl, hk, gw⟩; have HG := hidM (And.intro hk gw); clear gw hk)
  all_goals go_ret
  all_goals (refine ⟨?_, HG.out.2⟩; rw [← HG.out.1]; first | rfl | (congr 2; simp_all))
theorem idx25_10_3 (S : Nat → Prop) (d b o lc : Nat) (f0 f1 f2 : FT) (ao0 ao1 ao2 : Option Addr) (ca0 ca1 ca2 : Nat) (r0 r1 r2 : Bool) (W : World) (hS : ∀ b, S b → b < W.heap.size) (hb : b < W.heap.size) (hlc : 3 ≤ lc) (h0 : FlI S W d b o f0 ao0 ca0) (c0 : ∀ u, Gr W u → Calls Tryz.prog 10 #[.agg #[.string f0.name, .bool f0.nul, .int .i64 f0.kind, .int .i64 f0.width, .int .i64 f0.id, .int .i64 f0.index, .slice ao0 f0.kids.length ca0]] u fun e w' => e = .returned (.bool r0) ∧ Gr u w') (h1 : FlI S W d b (o + 7) f1 ao1 ca1) (c1 : ∀ u, Gr W u → Calls Tryz.prog 10 #[.agg #[.string f1.name, .bool f1.nul, .int .i64 f1.kind, .int .i64 f1.width, .int .i64 f1.id, .int .i64 f1.index, .slice ao1 f1.kids.length ca1]] u fun e w' => e = .returned (.bool r1) ∧ Gr u w') (h2 : FlI S W d b (o + 14) f2 ao2 ca2) (c2 : ∀ u, Gr W u → Calls Tryz.prog 10 #[.agg #[.string f2.name, .bool f2.nul, .int .i64 f2.kind, .int .i64 f2.width, .int .i64 f2.id, .int .i64 f2.index, .slice ao2 f2.kids.length ca2]] u fun e w' => e = .returned (.bool r2) ∧ Gr u w') :
    Calls Tryz.prog 25 #[.slice (some ⟨b, o, none⟩) 3 lc, .func (.func 10) #[] #[]] W fun e w' => ∃ k : Int, e = .returned (.int .i64 k) ∧ decide (0 ≤ k) = (r0 || r1 || r2) ∧ Gr W w' := by
  have hlc' : (3 : Int) ≤ (lc : Int) := by omega
  have HSt0 : Hid (Gr W W) := Keeps.refl W _
  have HF0 := hidM h0
  have HC0 := hidM c0
  have HF1 := hidM h1
  have HC1 := hidM c1
  have HF2 := hidM h2
  have HC2 := hidM c2
  have HS := hidM hS
  have HB := hidM hb
  clear hS hb hlc h0 c0 h1 c1 h2 c2
  go_enter Tryz.func25, Tryz.ntmps25
  go_wp2_with fail
  refine wp_loop_rounds 4 ?_
  obtain ⟨d00, d01, d02, d03, d04, d05, d06⟩ := (HF0.out.gr HSt0.out HB.out HS.out).c
  have HD0 := hidM (HC0.out _ HSt0.out)
  cases r0
  · refine Eq.mpr (rounds_succ (n := 3)) ?_
    go_wp2_with (go_at_call 10; refine HD0.out.mono ?_; rintro e V1 ⟨rfl, gv⟩; have HSt1 : Hid (Gr W V1) := HSt0.out.tr gv; clear gv HD0 d00 d01 d02 d03 d04 d05 d06)
    obtain ⟨d10, d11, d12, d13, d14, d15, d16⟩ := (HF1.out.gr HSt1.out HB.out HS.out).c
    have HD1 := hidM (HC1.out _ HSt1.out)
    cases r1
    · refine Eq.mpr (rounds_succ (n := 2)) ?_
      go_wp2_with (go_at_call 10; refine HD1.out.mono ?_; rintro e V2 ⟨rfl, gv⟩; have HSt2 : Hid (Gr W V2) := HSt1.out.tr gv; clear gv HD1 d10 d11 d12 d13 d14 d15 d16)
      obtain ⟨d20, d21, d22, d23, d24, d25, d26⟩ := (HF2.out.gr HSt2.out HB.out HS.out).c
      have HD2 := hidM (HC2.out _ HSt2.out)
      cases r2
      · refine Eq.mpr (rounds_succ (n := 1)) ?_
        go_wp2_with (go_at_call 10; refine HD2.out.mono ?_; rintro e V3 ⟨rfl, gv⟩; have HSt3 : Hid (Gr W V3) := HSt2.out.tr gv; clear gv HD2 d20 d21 d22 d23 d24 d25 d26)
        refine Eq.mpr (rounds_succ (n := 0)) ?_
        go_wp2_with fail
        go_ret
        exact ⟨-1, rfl, by decide, HSt3.out⟩
      refine Eq.mpr (rounds_succ (n := 1)) ?_
      go_wp2_with (go_at_call 10; refine HD2.out.mono ?_; rintro e V3 ⟨rfl, gv⟩; have HSt3 : Hid (Gr W V3) := HSt2.out.tr gv; clear gv HD2 d20 d21 d22 d23 d24 d25 d26)
      go_ret
      exact ⟨2, rfl, by simp, HSt3.out⟩
    refine Eq.mpr (rounds_succ (n := 2)) ?_
    go_wp2_with (go_at_call 10; refine HD1.out.mono ?_; rintro e V2 ⟨rfl, gv⟩; have HSt2 : Hid (Gr W V2) := HSt1.out.tr gv; clear gv HD1 d10 d11 d12 d13 d14 d15 d16)
    go_ret
    exact ⟨1, rfl, by simp, HSt2.out⟩
  refine Eq.mpr (rounds_succ (n := 3)) ?_
  go_wp2_with (go_at_call 10; refine HD0.out.mono ?_; rintro e V1 ⟨rfl, gv⟩; have HSt1 : Hid (Gr W V1) := HSt0.out.tr gv; clear gv HD0 d00 d01 d02 d03 d04 d05 d06)
  go_ret
  exact ⟨0, rfl, by simp, HSt1.out⟩
theorem has9_10_3 (S : Nat → Prop) (d b o lc : Nat) (f0 f1 f2 : FT) (ao0 ao1 ao2 : Option Addr) (ca0 ca1 ca2 : Nat) (r0 r1 r2 : Bool) (W : World) (hS : ∀ b, S b → b < W.heap.size) (hb : b < W.heap.size) (hlc : 3 ≤ lc) (h0 : FlI S W d b o f0 ao0 ca0) (c0 : ∀ u, Gr W u → Calls Tryz.prog 10 #[.agg #[.string f0.name, .bool f0.nul, .int .i64 f0.kind, .int .i64 f0.width, .int .i64 f0.id, .int .i64 f0.index, .slice ao0 f0.kids.length ca0]] u fun e w' => e = .returned (.bool r0) ∧ Gr u w') (h1 : FlI S W d b (o + 7) f1 ao1 ca1) (c1 : ∀ u, Gr W u → Calls Tryz.prog 10 #[.agg #[.string f1.name, .bool f1.nul, .int .i64 f1.kind, .int .i64 f1.width, .int .i64 f1.id, .int .i64 f1.index, .slice ao1 f1.kids.length ca1]] u fun e w' => e = .returned (.bool r1) ∧ Gr u w') (h2 : FlI S W d b (o + 14) f2 ao2 ca2) (c2 : ∀ u, Gr W u → Calls Tryz.prog 10 #[.agg #[.string f2.name, .bool f2.nul, .int .i64 f2.kind, .int .i64 f2.width, .int .i64 f2.id, .int .i64 f2.index, .slice ao2 f2.kids.length ca2]] u fun e w' => e = .returned (.bool r2) ∧ Gr u w') :
    Calls Tryz.prog 9 #[.slice (some ⟨b, o, none⟩) 3 lc, .func (.func 10) #[] #[]] W fun e w' => e = .returned (.bool (r0 || r1 || r2)) ∧ Gr W w' := by
  have H := hidM (idx25_10_3 S d b o lc f0 f1 f2 ao0 ao1 ao2 ca0 ca1 ca2 r0 r1 r2 W hS hb hlc h0 c0 h1 c1 h2 c2)
  clear hS hb hlc h0 c0 h1 c1 h2 c2
  go_enter Tryz.func9, Tryz.ntmps9
  go_wp2_with (go_at_call 25; refine H.out.mono ?_; rintro e w1 ⟨k, rfl, hk, gw⟩; have HG := hidM (And.intro hk gw); clear gw hk)
  all_goals go_ret
  all_goals (refine ⟨?_, HG.out.2⟩; rw [← HG.out.1]; first | rfl | (congr 2; simp_all))
theorem idx25_31_1 (S : Nat → Prop) (d b o lc : Nat) (f0 : FT) (ao0 : Option Addr) (ca0 : Nat) (r0 : Bool) (W : World) (hS : ∀ b, S b → b < W.heap.size) (hb : b < W.heap.size) (hlc : 1 ≤ lc) (h0 : FlI S W d b o f0 ao0 ca0) (c0 : ∀ u, Gr W u → Calls Tryz.prog 31 #[.agg #[.string f0.name, .bool f0.nul, .int .i64 f0.kind, .int .i64 f0.width, .int .i64 f0.id, .int .i64 f0.index, .slice ao0 f0.kids.length ca0]] u fun e w' => e = .returned (.bool r0) ∧ Gr u w') :
    Calls Tryz.prog 25 #[.slice (some ⟨b, o, none⟩) 1 lc, .func (.func 31) #[] #[]] W fun e w' => ∃ k : Int, e = .returned (.int .i64 k) ∧ decide (0 ≤ k) = (r0) ∧ Gr W w' := by
  have hlc' : (1 : Int) ≤ (lc : Int) := by omega
  have HSt0 : Hid (Gr W W) := Keeps.refl W _
  have HF0 := hidM h0
  have HC0 := hidM c0
  have HS := hidM hS
  have HB := hidM hb
  clear hS hb hlc h0 c0
  go_enter Tryz.func25, Tryz.ntmps25
  go_wp2_with fail
  refine wp_loop_rounds 2 ?_
  obtain ⟨d00, d01, d02, d03, d04, d05, d06⟩ := (HF0.out.gr HSt0.out HB.out HS.out).c
  have HD0 := hidM (HC0.out _ HSt0.out)
  cases r0
  · refine Eq.mpr (rounds_succ (n := 1)) ?_
    go_wp2_with (go_at_call 31; refine HD0.out.mono ?_; rintro e V1 ⟨rfl, gv⟩; have HSt1 : Hid (Gr W V1) := HSt0.out.tr gv; clear gv HD0 d00 d01 d02 d03 d04 d05 d06)
    refine Eq.mpr (rounds_succ (n := 0)) ?_
    go_wp2_with fail
    go_ret
    exact ⟨-1, rfl, by decide, HSt1.out⟩
  refine Eq.mpr (rounds_succ (n := 1)) ?_
  go_wp2_with (go_at_call 31; refine HD0.out.mono ?_; rintro e V1 ⟨rfl, gv⟩; have HSt1 : Hid (Gr W V1) := HSt0.out.tr gv; clear gv HD0 d00 d01 d02 d03 d04 d05 d06)
  go_ret
  exact ⟨0, rfl, by simp, HSt1.out⟩
theorem has9_31_1 (S : Nat → Prop) (d b o lc : Nat) (f0 : FT) (ao0 : Option Addr) (ca0 : Nat) (r0 : Bool) (W : World) (hS : ∀ b, S b → b < W.heap.size) (hb : b < W.heap.size) (hlc : 1 ≤ lc) (h0 : FlI S W d b o f0 ao0 ca0) (c0 : ∀ u, Gr W u → Calls Tryz.prog 31 #[.agg #[.string f0.name, .bool f0.nul, .int .i64 f0.kind, .int .i64 f0.width, .int .i64 f0.id, .int .i64 f0.index, .slice ao0 f0.kids.length ca0]] u fun e w' => e = .returned (.bool r0) ∧ Gr u w') :
    Calls Tryz.prog 9 #[.slice (some ⟨b, o, none⟩) 1 lc, .func (.func 31) #[] #[]] W fun e w' => e = .returned (.bool (r0)) ∧ Gr W w' := by
  have H := hidM (idx25_31_1 S d b o lc f0 ao0 ca0 r0 W hS hb hlc h0 c0)
  clear hS hb hlc h0 c0
  go_enter Tryz.func9, Tryz.ntmps9
  go_wp2_with (go_at_call 25; refine H.out.mono ?_; rintro e w1 ⟨k, rfl, hk, gw⟩; have HG := hidM (And.intro hk gw); clear gw hk)
  all_goals go_ret
  all_goals (refine ⟨?_, HG.out.2⟩; rw [← HG.out.1]; first | rfl | (congr 2; simp_all))
theorem idx25_31_2 (S : Nat → Prop) (d b o lc : Nat) (f0 f1 : FT) (ao0 ao1 : Option Addr) (ca0 ca1 : Nat) (r0 r1 : Bool) (W : World) (hS : ∀ b, S b → b < W.heap.size) (hb : b < W.heap.size) (hlc : 2 ≤ lc) (h0 : FlI S W d b o f0 ao0 ca0) (c0 : ∀ u, Gr W u → Calls Tryz.prog 31 #[.agg #[.string f0.name, .bool f0.nul, .int .i64 f0.kind, .int .i64 f0.width, .int .i64 f0.id, .int .i64 f0.index, .slice ao0 f0.kids.length ca0]] u fun e w' => e = .returned (.bool r0) ∧ Gr u w') (h1 : FlI S W d b (o + 7) f1 ao1 ca1) (c1 : ∀ u, Gr W u → Calls Tryz.prog 31 #[.agg #[.string f1.name, .bool f1.nul, .int .i64 f1.kind, .int .i64 f1.width, .int .i64 f1.id, .int .i64 f1.index, .slice ao1 f1.kids.length ca1]] u fun e w' => e = .returned (.bool r1) ∧ Gr u w') :
    Calls Tryz.prog 25 #[.slice (some ⟨b, o, none⟩) 2 lc, .func (.func 31) #[] #[]] W fun e w' => ∃ k : Int, e = .returned (.int .i64 k) ∧ decide (0 ≤ k) = (r0 || r1) ∧ Gr W w' := by
  have hlc' : (2 : Int) ≤ (lc : Int) := by omega
  have HSt0 : Hid (Gr W W) := Keeps.refl W _
  have HF0 := hidM h0
  have HC0 := hidM c0
  have HF1 := hidM h1
  have HC1 := hidM c1
  have HS := hidM hS
  have HB := hidM hb
  clear hS hb hlc h0 c0 h1 c1
  go_enter Tryz.func25, Tryz.ntmps25
  go_wp2_with fail
  refine wp_loop_rounds 3 ?_
  obtain ⟨d00, d01, d02, d03, d04, d05, d06⟩ := (HF0.out.gr HSt0.out HB.out HS.out).c
  have HD0 := hidM (HC0.out _ HSt0.out)
  cases r0
  · refine Eq.mpr (rounds_succ (n := 2)) ?_
    go_wp2_with (go_at_call 31; refine HD0.out.mono ?_; rintro e V1 ⟨rfl, gv⟩; have HSt1 : Hid (Gr W V1) := HSt0.out.tr gv; clear gv HD0 d00 d01 d02 d03 d04 d05 d06)
    obtain ⟨d10, d11, d12, d13, d14, d15, d16⟩ := (HF1.out.gr HSt1.out HB.out HS.out).c
    have HD1 := hidM (HC1.out _ HSt1.out)
    cases r1
    · refine Eq.mpr (rounds_succ (n := 1)) ?_
      go_wp2_with (go_at_call 31; refine HD1.out.mono ?_; rintro e V2 ⟨rfl, gv⟩; have HSt2 : Hid (Gr W V2) := HSt1.out.tr gv; clear gv HD1 d10 d11 d12 d13 d14 d15 d16)
      refine Eq.mpr (rounds_succ (n := 0)) ?_
      go_wp2_with fail
      go_ret
      exact ⟨-1, rfl, by decide, HSt2.out⟩
    refine Eq.mpr (rounds_succ (n := 1)) ?_
    go_wp2_with (go_at_call 31; refine HD1.out.mono ?_; rintro e V2 ⟨rfl, gv⟩; have HSt2 : Hid (Gr W V2) := HSt1.out.tr gv; clear gv HD1 d10 d11 d12 d13 d14 d15 d16)
    go_ret
    exact ⟨1, rfl, by simp, HSt2.out⟩
  refine Eq.mpr (rounds_succ (n := 2)) ?_
  go_wp2_with (go_at_call 31; refine HD0.out.mono ?_; rintro e V1 ⟨rfl, gv⟩; have HSt1 : Hid (Gr W V1) := HSt0.out.tr gv; clear gv HD0 d00 d01 d02 d03 d04 d05 d06)
  go_ret
  exact ⟨0, rfl, by simp, HSt1.out⟩
theorem has9_31_2 (S : Nat → Prop) (d b o lc : Nat) (f0 f1 : FT) (ao0 ao1 : Option Addr) (ca0 ca1 : Nat) (r0 r1 : Bool) (W : World) (hS : ∀ b, S b → b < W.heap.size) (hb : b < W.heap.size) (hlc : 2 ≤ lc) (h0 : FlI S W d b o f0 ao0 ca0) (c0 : ∀ u, Gr W u → Calls Tryz.prog 31 #[.agg #[.string f0.name, .bool f0.nul, .int .i64 f0.kind, .int .i64 f0.width, .int .i64 f0.id, .int .i64 f0.index, .slice ao0 f0.kids.length ca0]] u fun e w' => e = .returned (.bool r0) ∧ Gr u w') (h1 : FlI S W d b (o + 7) f1 ao1 ca1) (c1 : ∀ u, Gr W u → Calls Tryz.prog 31 #[.agg #[.string f1.name, .bool f1.nul, .int .i64 f1.kind, .int .i64 f1.width, .int .i64 f1.id, .int .i64 f1.index, .slice ao1 f1.kids.length ca1]] u fun e w' => e = .returned (.bool r1) ∧ Gr u w') :
    Calls Tryz.prog 9 #[.slice (some ⟨b, o, none⟩) 2 lc, .func (.func 31) #[] #[]] W fun e w' => e = .returned (.bool (r0 || r1)) ∧ Gr W w' := by
  have H := hidM (idx25_31_2 S d b o lc f0 f1 ao0 ao1 ca0 ca1 r0 r1 W hS hb hlc h0 c0 h1 c1)
  clear hS hb hlc h0 c0 h1 c1
  go_enter Tryz.func9, Tryz.ntmps9
  go_wp2_with (go_at_call 25; refine H.out.mono ?_; rintro e w1 ⟨k, rfl, hk, gw⟩; have HG := hidM (And.intro hk gw); clear gw hk)
  all_goals go_ret
  all_goals (refine ⟨?_, HG.out.2⟩; rw [← HG.out.1]; first | rfl | (congr 2; simp_all))
theorem run_makeFuncT (fn : Fn) (first cap : Array Value) (w : World) : (Instr.makeFunc fn first cap).run Tryz.prog w = .ok (.func fn first cap) w := rfl
def TyAt (W : World) (tb o : Nat) (f : FT) (ao : Option Addr) (ca : Nat) : Prop := W.cell? ⟨tb, o, none⟩ = some (.int .i64 f.kind) ∧ W.cell? ⟨tb, o + 1, none⟩ = some (.int .i64 f.width) ∧ W.cell? ⟨tb, o + 2, none⟩ = some (.int .i64 f.id) ∧ W.cell? ⟨tb, o + 3, none⟩ = some (.int .i64 f.index) ∧ W.cell? ⟨tb, o + 4, none⟩ = some (.slice ao f.kids.length ca)
theorem TyAt.gr {W V : World} {tb o : Nat} {f : FT} {ao : Option Addr} {ca : Nat} (h : TyAt W tb o f ao ca) (g : Gr W V) : TyAt V tb o f ao ca := by
  obtain ⟨h0, h1, h2, h3, h4⟩ := h
  exact ⟨g.cell' h0 id, g.cell' h1 id, g.cell' h2 id, g.cell' h3 id, g.cell' h4 id⟩
theorem alike47 (a b : FT) (ao bo : Option Addr) (ca cb tb o n c x : Nat) (r : Bool) (W : World) (hn : 0 < n) (hnc : n ≤ c) (hx : W.cell? ⟨x, 0, none⟩ = some (.slice (some ⟨tb, o, none⟩) n c)) (ht : TyAt W tb o a ao ca) (hA : Ans 48 #[.agg #[.int .i64 a.kind, .int .i64 a.width, .int .i64 a.id, .int .i64 a.index, .slice ao a.kids.length ca], .agg #[.int .i64 b.kind, .int .i64 b.width, .int .i64 b.id, .int .i64 b.index, .slice bo b.kids.length cb]] r W) :
    Calls Tryz.prog 47 #[.agg #[.int .i64 b.kind, .int .i64 b.width, .int .i64 b.id, .int .i64 b.index, .slice bo b.kids.length cb], .pointer (some ⟨x, 0, none⟩)] W fun e w' => e = .returned (.bool (!r)) ∧ Gr W w' := by
  obtain ⟨A1, hA1⟩ := ex (W.alloc (.cells #[.int .i64 b.kind, .int .i64 b.width, .int .i64 b.id, .int .i64 b.index, .slice bo b.kids.length cb] 24))
  have g1 := gr_al hA1
  have b1 : A1.heap[W.heap.size]? = some (.cells #[.int .i64 b.kind, .int .i64 b.width, .int .i64 b.id, .int .i64 b.index, .slice bo b.kids.length cb] 24) := by rw [← hA1]; exact heap_alloc_new W _
  have HC : Hid (∀ u, Gr A1 u → u.cell? ⟨x, 0, none⟩ = some (.slice (some ⟨tb, o, none⟩) n c) ∧ (u.cell? ⟨tb, o, none⟩ = some (.int .i64 a.kind) ∧ u.cell? ⟨tb, o + 1, none⟩ = some (.int .i64 a.width) ∧ u.cell? ⟨tb, o + 2, none⟩ = some (.int .i64 a.id) ∧ u.cell? ⟨tb, o + 3, none⟩ = some (.int .i64 a.index) ∧ u.cell? ⟨tb, o + 4, none⟩ = some (.slice ao a.kids.length ca)) ∧ (u.cell? ⟨W.heap.size, 0, none⟩ = some (.int .i64 b.kind) ∧ u.cell? ⟨W.heap.size, 1, none⟩ = some (.int .i64 b.width) ∧ u.cell? ⟨W.heap.size, 2, none⟩ = some (.int .i64 b.id) ∧ u.cell? ⟨W.heap.size, 3, none⟩ = some (.int .i64 b.index) ∧ u.cell? ⟨W.heap.size, 4, none⟩ = some (.slice bo b.kids.length cb))) := fun u g => ⟨(g1.tr g).cell' hx id, ht.gr (g1.tr g), cell5p ((g.block _ (lt_of_heap b1) id).trans b1)⟩
  have HA : Hid (∀ u, Gr A1 u → Calls Tryz.prog 48 #[.agg #[.int .i64 a.kind, .int .i64 a.width, .int .i64 a.id, .int .i64 a.index, .slice ao a.kids.length ca], .agg #[.int .i64 b.kind, .int .i64 b.width, .int .i64 b.id, .int .i64 b.index, .slice bo b.kids.length cb]] u fun e w' => e = .returned (.bool r) ∧ Gr u w') := fun u g => hA u (g1.tr g)
  have HG1 := hidM g1
  have hnI : (0 : Int) < (n : Int) := by omega
  have hncI : (n : Int) ≤ (c : Int) := by omega
  clear hx ht hA g1 b1
  go_enter Tryz.func47, Tryz.ntmps47
  go_wp2_with fail
  clear hA1
  refine wp_region_held_drew (S := fun w' => w'.cell? ⟨x, 0, none⟩ = some (.slice (some ⟨tb, o, none⟩) n c) ∧ (w'.cell? ⟨tb, o, none⟩ = some (.int .i64 a.kind) ∧ w'.cell? ⟨tb, o + 1, none⟩ = some (.int .i64 a.width) ∧ w'.cell? ⟨tb, o + 2, none⟩ = some (.int .i64 a.id) ∧ w'.cell? ⟨tb, o + 3, none⟩ = some (.int .i64 a.index) ∧ w'.cell? ⟨tb, o + 4, none⟩ = some (.slice ao a.kids.length ca)) ∧ (w'.cell? ⟨W.heap.size, 0, none⟩ = some (.int .i64 b.kind) ∧ w'.cell? ⟨W.heap.size, 1, none⟩ = some (.int .i64 b.width) ∧ w'.cell? ⟨W.heap.size, 2, none⟩ = some (.int .i64 b.id) ∧ w'.cell? ⟨W.heap.size, 3, none⟩ = some (.int .i64 b.index) ∧ w'.cell? ⟨W.heap.size, 4, none⟩ = some (.slice bo b.kids.length cb))) (by kernel_rfl) (HC.out _ gr_drew) (fun hHeld => ?_)
  refine wpAnyH_take (i := 0) (oi := { dst := some 4, op := Op.load 38 (Operand.tmp 1), type := 38, pos := "types.go:89", after := #[], guard := none }) (v := ?v0a1) rfl (by kernel_rfl) (by kernel_rfl) (by kernel_rfl) (fun _ _ _ h => h) (Or.inl ⟨by rfl, ?y0a1⟩) (by assumption) ?r0a1
  case y0a1 => (intro w hSw; obtain ⟨s0, ⟨t0, t1, t2, t3, t4⟩, ⟨u0, u1, u2, u3, u4⟩⟩ := hSw; go_simp; (try with_reducible rfl))
  try simp only [Act.put, lA, lB, lC]
  refine wpAnyH_take (i := 1) (oi := { dst := some 5, op := Op.indexAddr 38 (Operand.tmp 4) (Operand.const (Value.int IntKind.i64 0)), type := 0, pos := "types.go:89", after := #[{ on := 0, ground := Ground.data }], guard := none }) (v := ?v1a2) rfl (by kernel_rfl) (by kernel_rfl) (by kernel_rfl) (fun _ _ _ h => h) (Or.inl ⟨by rfl, ?y1a2⟩) (by assumption) ?r1a2
  case y1a2 => (intro w hSw; obtain ⟨s0, ⟨t0, t1, t2, t3, t4⟩, ⟨u0, u1, u2, u3, u4⟩⟩ := hSw; go_simp; (try with_reducible rfl))
  try simp only [Act.put, lA, lB, lC]
  refine wpAnyH_take (i := 2) (oi := { dst := some 6, op := Op.load 24 (Operand.tmp 5), type := 24, pos := "types.go:89", after := #[{ on := 1, ground := Ground.data }], guard := none }) (v := ?v2a3) rfl (by kernel_rfl) (by kernel_rfl) (by kernel_rfl) (fun _ _ _ h => h) (Or.inl ⟨by rfl, ?y2a3⟩) (by assumption) ?r2a3
  case y2a3 => (intro w hSw; obtain ⟨s0, ⟨t0, t1, t2, t3, t4⟩, ⟨u0, u1, u2, u3, u4⟩⟩ := hSw; go_simp; (try with_reducible rfl))
  try simp only [Act.put, lA, lB, lC]
  refine wpAnyH_take (i := 3) (oi := { dst := some 7, op := Op.load 24 (Operand.tmp 2), type := 24, pos := "types.go:89", after := #[], guard := none }) (v := ?v3a4) rfl (by kernel_rfl) (by kernel_rfl) (by kernel_rfl) (fun _ _ _ h => h) (Or.inl ⟨by rfl, ?y3a4⟩) (by assumption) ?r3a4
  case y3a4 => (intro w hSw; obtain ⟨s0, ⟨t0, t1, t2, t3, t4⟩, ⟨u0, u1, u2, u3, u4⟩⟩ := hSw; go_simp; (try with_reducible rfl))
  try simp only [Act.put, lA, lB, lC]
  refine rd1 4 fun Kc hK => ?_
  go_simp
  go_at_call 48
  refine Calls.mono (HA.out _ gr_drew) ?_
  rintro e' w4 ⟨rfl, g4⟩
  have HG4 : Hid (Gr A1 w4) := Keeps.trans gr_drew g4 (fun _ _ h => h)
  clear g4
  go_wp2_with fail
  refine hK.out _ _ (HC.out _ HG4.out) (fun hHeld => ?_)
  clear hK Kc
  try simp only [Act.put, lA, lB, lC]
  refine wpAnyH_take (i := 5) (oi := { dst := some 9, op := Op.unOp UnOp.not 4 (Operand.tmp 8), type := 4, pos := "types.go:89", after := #[{ on := 4, ground := Ground.data }], guard := none }) (v := ?v5b1) rfl (by kernel_rfl) (by kernel_rfl) (by kernel_rfl) (fun _ _ _ h => h) (Or.inl ⟨by rfl, ?y5b1⟩) (by assumption) ?r5b1
  case y5b1 => (intro w hSw; obtain ⟨s0, ⟨t0, t1, t2, t3, t4⟩, ⟨u0, u1, u2, u3, u4⟩⟩ := hSw; go_simp; (try with_reducible rfl))
  try simp only [Act.put, lA, lB, lC]
  refine wpAnyH_take (i := 6) (oi := { dst := some 3, op := Op.assign (Operand.tmp 9), type := 4, pos := "types.go:89", after := #[{ on := 5, ground := Ground.data }, { on := 4, ground := Ground.chain }, { on := 0, ground := Ground.phase }, { on := 1, ground := Ground.phase }, { on := 2, ground := Ground.phase }, { on := 3, ground := Ground.phase }, { on := 4, ground := Ground.phase }, { on := 5, ground := Ground.phase }], guard := none }) (v := ?v6b2) rfl (by kernel_rfl) (by kernel_rfl) (by kernel_rfl) (fun _ _ _ h => h) (Or.inl ⟨by rfl, ?y6b2⟩) (by assumption) ?r6b2
  case y6b2 => (intro w hSw; obtain ⟨s0, ⟨t0, t1, t2, t3, t4⟩, ⟨u0, u1, u2, u3, u4⟩⟩ := hSw; go_simp; (try with_reducible rfl))
  try simp only [Act.put, lA, lB, lC]
  refine wpAnyH_done (by kernel_rfl) ?_ _
  go_wp2_with fail
  go_ret
  exact ⟨rfl, HG1.out.tr HG4.out⟩
theorem idx73_0 (ad : Option Addr) (fv : Value) (W : World) : Calls Tryz.prog 73 #[.slice ad 0 0, fv] W fun e w' => e = .returned (.int .i64 (-1)) ∧ W = w' := by
  go_enter Tryz.func73, Tryz.ntmps73
  go_wp2_with fail
  refine wp_loop_rounds 1 ?_
  refine Eq.mpr (rounds_succ (n := 0)) ?_
  go_wp2_with fail
  go_ret
  exact ⟨rfl, rfl⟩
theorem has46_0 (ad : Option Addr) (fv : Value) (W : World) : Calls Tryz.prog 46 #[.slice ad 0 0, fv] W fun e w' => e = .returned (.bool false) ∧ W = w' := by
  go_enter Tryz.func46, Tryz.ntmps46
  go_wp2_with (go_at_call 73; refine (idx73_0 ad fv W).mono ?_; rintro e w1 ⟨rfl, rfl⟩)
  go_ret
  exact ⟨rfl, rfl⟩
theorem idx73_1 (b : FT) (bo : Option Addr) (cb tb o c x : Nat) (r : Bool) (W : World) (hc : 1 ≤ c) (ht : TyAt W tb o b bo cb) (h : Calls Tryz.prog 47 #[.agg #[.int .i64 b.kind, .int .i64 b.width, .int .i64 b.id, .int .i64 b.index, .slice bo b.kids.length cb], .pointer (some ⟨x, 0, none⟩)] W fun e w' => e = .returned (.bool r) ∧ Gr W w') :
    Calls Tryz.prog 73 #[.slice (some ⟨tb, o, none⟩) 1 c, .func (.func 47) #[] #[.pointer (some ⟨x, 0, none⟩)]] W fun e w' => ∃ k : Int, e = .returned (.int .i64 k) ∧ decide (0 ≤ k) = r ∧ Gr W w' := by
  obtain ⟨t0, t1, t2, t3, t4⟩ := ht
  have HC := hidM h
  have hcI : (1 : Int) ≤ (c : Int) := by omega
  clear h
  go_enter Tryz.func73, Tryz.ntmps73
  go_wp2_with fail
  refine wp_loop_rounds 2 ?_
  cases r
  · refine Eq.mpr (rounds_succ (n := 1)) ?_
    go_wp2_with (go_at_call 47; refine HC.out.mono ?_; rintro e w1 ⟨rfl, g1⟩; have HG := hidM g1; clear g1 t0 t1 t2 t3 t4 HC)
    refine Eq.mpr (rounds_succ (n := 0)) ?_
    go_wp2_with fail
    go_ret
    exact ⟨-1, rfl, by decide, HG.out⟩
  refine Eq.mpr (rounds_succ (n := 1)) ?_
  go_wp2_with (go_at_call 47; refine HC.out.mono ?_; rintro e w1 ⟨rfl, g1⟩; have HG := hidM g1; clear g1 t0 t1 t2 t3 t4 HC)
  go_ret
  exact ⟨0, rfl, by decide, HG.out⟩
theorem has46_1 (b : FT) (bo : Option Addr) (cb tb o c x : Nat) (r : Bool) (W : World) (hc : 1 ≤ c) (ht : TyAt W tb o b bo cb) (h : Calls Tryz.prog 47 #[.agg #[.int .i64 b.kind, .int .i64 b.width, .int .i64 b.id, .int .i64 b.index, .slice bo b.kids.length cb], .pointer (some ⟨x, 0, none⟩)] W fun e w' => e = .returned (.bool r) ∧ Gr W w') :
    Calls Tryz.prog 46 #[.slice (some ⟨tb, o, none⟩) 1 c, .func (.func 47) #[] #[.pointer (some ⟨x, 0, none⟩)]] W fun e w' => e = .returned (.bool r) ∧ Gr W w' := by
  have H := hidM (idx73_1 b bo cb tb o c x r W hc ht h)
  clear hc ht h
  go_enter Tryz.func46, Tryz.ntmps46
  go_wp2_with (go_at_call 73; refine H.out.mono ?_; rintro e w1 ⟨k, rfl, hk, gw⟩; have HG := hidM (And.intro hk gw); clear gw hk)
  all_goals go_ret
  all_goals (refine ⟨?_, HG.out.2⟩; rw [← HG.out.1]; first | rfl | (congr 2; simp_all))
theorem areAlike27_1 (tb o : Nat) (W : World) : Calls Tryz.prog 27 #[.slice (some ⟨tb, o, none⟩) 1 1] W fun e w' => e = .returned (.bool true) ∧ Gr W w' := by
  have hmf := run_makeFuncT
  have H0 := hidM has46_0
  obtain ⟨A1, hA1⟩ := ex (W.alloc (.cells #[.slice (some ⟨tb, o, none⟩) 1 1] 38))
  have g1 := gr_al hA1
  have c1 := cell1 (show A1.heap[W.heap.size]? = some (.cells #[.slice (some ⟨tb, o, none⟩) 1 1] 38) by rw [← hA1]; exact heap_alloc_new W _)
  have HG := hidM g1
  clear g1
  go_enter Tryz.func27, Tryz.ntmps27
  go_wp2_with (go_at_call 46; refine (H0.out _ _ _).mono ?_; rintro e w1 ⟨rfl, hw⟩; have hw2 := hw; subst hw2)
  all_goals go_ret
  all_goals exact ⟨rfl, HG.out⟩
theorem areAlike27_2 (a b : FT) (ao bo : Option Addr) (ca cb tb o : Nat) (r : Bool) (W : World) (ha : TyAt W tb o a ao ca) (hb : TyAt W tb (o + 5) b bo cb) (hA : Ans 48 #[.agg #[.int .i64 a.kind, .int .i64 a.width, .int .i64 a.id, .int .i64 a.index, .slice ao a.kids.length ca], .agg #[.int .i64 b.kind, .int .i64 b.width, .int .i64 b.id, .int .i64 b.index, .slice bo b.kids.length cb]] r W) : Calls Tryz.prog 27 #[.slice (some ⟨tb, o, none⟩) 2 2] W fun e w' => e = .returned (.bool r) ∧ Gr W w' := by
  have hmf := run_makeFuncT
  obtain ⟨A1, hA1⟩ := ex (W.alloc (.cells #[.slice (some ⟨tb, o, none⟩) 2 2] 38))
  have g1 := gr_al hA1
  have c1 := cell1 (show A1.heap[W.heap.size]? = some (.cells #[.slice (some ⟨tb, o, none⟩) 2 2] 38) by rw [← hA1]; exact heap_alloc_new W _)
  have H46 := hidM (has46_1 b bo cb tb (o + 5) 1 W.heap.size (!r) A1 (Nat.le_refl _) (hb.gr g1) (alike47 a b ao bo ca cb tb o 2 2 W.heap.size r A1 (by decide) (by decide) c1 (ha.gr g1) (fun u g => hA u (g1.tr g))))
  have HG := hidM g1
  clear g1 ha hb hA
  go_enter Tryz.func27, Tryz.ntmps27
  go_wp2_with (go_at_call 46; refine H46.out.mono ?_; rintro e w1 ⟨rfl, gw⟩; have HG1 := hidM (HG.out.tr gw); clear gw)
  all_goals go_ret
  all_goals (refine ⟨?_, HG1.out⟩; first | rfl | (cases r <;> rfl))
end Go.Proofs.YtknnoiomdngmfaaGreatDoor.Kit
