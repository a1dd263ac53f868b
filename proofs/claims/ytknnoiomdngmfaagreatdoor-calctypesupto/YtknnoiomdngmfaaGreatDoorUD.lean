import Derived.Test.YtknnoiomdngmfaaGreatDoorUC
import Derived.LoopN
set_option maxRecDepth 100000
set_option maxHeartbeats 4000000
namespace Go.Proofs.YtknnoiomdngmfaaGreatDoor.Kit
open Go.RowKit Go.Shelf Go.Deep
set_option linter.unusedVariables false
set_option linter.unusedSimpArgs false
attribute [local go_sem] run_store_func
structure FlI (S : Nat → Prop) (W : World) (d b o : Nat) (f : FT) (ao : Option Addr) (ca : Nat) : Prop where
  c : CellsAt W b o f ao ca
  le : f.kids.length ≤ ca
  row : RowAt S W d ao f.kids
theorem FlI.gr {S : Nat → Prop} {W V : World} {d b o : Nat} {f : FT} {ao : Option Addr} {ca : Nat} (h : FlI S W d b o f ao ca) (g : Gr W V) (hb : b < W.heap.size) (hS : ∀ b, S b → b < W.heap.size) : FlI S V d b o f ao ca := ⟨h.c.kept (g.block b hb id), h.le, h.row.kept fun b hb => g.block b (hS b hb) id⟩
structure TyI (S : Nat → Prop) (W : World) (d : Nat) (g : FT) (bo : Option Addr) (cb : Nat) : Prop where
  le : g.kids.length ≤ cb
  row : ∃ d', d' ≤ d ∧ RowAt S W d' bo g.kids
theorem plainTypes12_1 (S : Nat → Prop) (d b o lc n0 : Nat) (f0 g0 : FT) (ao0 : Option Addr) (ca0 : Nat) (W : World) (hS : ∀ b, S b → b < W.heap.size) (hb : b < W.heap.size) (hlc : 1 ≤ lc) (h0 : FlI S W d b o f0 ao0 ca0) (p0 : PlR n0 f0 g0) :
    Calls Tryz.prog 12 #[.slice (some ⟨b, o, none⟩) 1 lc] W fun e w' => ∃ tb bo0 cb0, e = .returned (.slice (some ⟨tb, 0, none⟩) 1 1) ∧ Gr W w' ∧ W.heap.size ≤ tb ∧ w'.heap[tb]? = some (.cells #[.int .i64 g0.kind, .int .i64 g0.width, .int .i64 g0.id, .int .i64 g0.index, .slice bo0 g0.kids.length cb0] 24) ∧ TyI S W d g0 bo0 cb0 := by
  have hmk : ∀ w : World, (Instr.makeSlice 38 (.int .i64 1) (.int .i64 1)).run Tryz.prog w = .ok (.slice (some ⟨w.heap.size, 0, none⟩) 1 1) (w.alloc (.cells #[.int .i64 0, .int .i64 0, .int .i64 0, .int .i64 0, .slice none 0 0] 24)) := fun w => by kernel_rfl
  obtain ⟨tb, htb⟩ := ex (W.heap.size)
  obtain ⟨V0, hV0⟩ := ex (W.alloc (.cells #[.int .i64 0, .int .i64 0, .int .i64 0, .int .i64 0, .slice none 0 0] 24))
  have HSt0 : Hid (Gr W V0 ∧ V0.heap[tb]? = some (.cells #[.int .i64 0, .int .i64 0, .int .i64 0, .int .i64 0, .slice none 0 0] 24)) := by
    rw [← hV0, ← htb]
    exact ⟨gr_alloc W _, heap_alloc_new W _⟩
  have hlc' : (1 : Int) ≤ (lc : Int) := by omega
  have HF0 := hidM h0
  have HP0 := hidM p0
  have HS := hidM hS
  have HB := hidM hb
  have HT := hidM htb
  clear hS hb hlc h0 p0
  go_enter Tryz.func12, Tryz.ntmps12
  go_wp2_with fail
  (try rw [htb])
  clear hV0
  refine wp_loop_rounds 2 ?_
  obtain ⟨g0', hP0⟩ := HSt0.out
  obtain ⟨d00, d01, d02, d03, d04, d05, d06⟩ := (HF0.out.gr g0' HB.out HS.out).c
  obtain ⟨y0, hy0⟩ := ex (V0.heap.size)
  obtain ⟨X0, hX0⟩ := ex (V0.alloc (.cells #[.string f0.name, .bool f0.nul, .int .i64 f0.kind, .int .i64 f0.width, .int .i64 f0.id, .int .i64 f0.index, .slice ao0 f0.kids.length ca0] 26))
  have gX0 := gr_al hX0
  have bX0 : X0.heap[y0]? = some (.cells #[.string f0.name, .bool f0.nul, .int .i64 f0.kind, .int .i64 f0.width, .int .i64 f0.id, .int .i64 f0.index, .slice ao0 f0.kids.length ca0] 26) := by rw [← hX0, ← hy0]; exact heap_alloc_new V0 _
  have HC0 : Hid (Calls Tryz.prog 30 #[.agg #[.string f0.name, .bool f0.nul, .int .i64 f0.kind, .int .i64 f0.width, .int .i64 f0.id, .int .i64 f0.index, .slice ao0 f0.kids.length ca0]] X0 fun e w' => ∃ bo0 cb0, e = .returned (.agg #[.int .i64 g0.kind, .int .i64 g0.width, .int .i64 g0.id, .int .i64 g0.index, .slice bo0 g0.kids.length cb0]) ∧ w'.heap[tb]? = some (.cells #[.int .i64 0, .int .i64 0, .int .i64 0, .int .i64 0, .slice none 0 0] 24) ∧ Hid (Gr W (stA w' tb [(0, .int .i64 g0.kind), (1, .int .i64 g0.width), (2, .int .i64 g0.id), (3, .int .i64 g0.index), (4, .slice bo0 g0.kids.length cb0)]) ∧ (stA w' tb [(0, .int .i64 g0.kind), (1, .int .i64 g0.width), (2, .int .i64 g0.id), (3, .int .i64 g0.index), (4, .slice bo0 g0.kids.length cb0)]).heap[tb]? = some (.cells #[.int .i64 g0.kind, .int .i64 g0.width, .int .i64 g0.id, .int .i64 g0.index, .slice bo0 g0.kids.length cb0] 24)) ∧ TyI S W d g0 bo0 cb0) := by
    have gWX := g0'.tr gX0
    refine (plain30 S n0 d f0 g0 ao0 ca0 X0 (HF0.out.row.kept fun b hb => gWX.block b (HS.out b hb) id) HF0.out.le (fun b hb => Nat.lt_of_lt_of_le (HS.out b hb) gWX.size) HP0.out).mono ?_
    rintro e w' ⟨d', bo, cb, rfl, g', hd, hr, hl⟩
    have tw := ((gX0.tr g').block _ (lt_of_heap hP0) id).trans hP0
    have ez := HT.out
    have tb2 := stA_blk tb 24 [(0, .int .i64 g0.kind), (1, .int .i64 g0.width), (2, .int .i64 g0.id), (3, .int .i64 g0.index), (4, .slice bo g0.kids.length cb)] w' _ tw
    refine ⟨bo, cb, rfl, tw, ⟨(gWX.tr g').trans (stA_kp tb _ w') (fun j hj (e : j = tb) => by omega), by simpa [stC] using tb2⟩, hl, d', hd, hr.kept fun b hb => (gWX.block b (HS.out b hb) id).symm⟩
  obtain ⟨x00, x01, x02, x03, x04, x05, x06⟩ := cell7p bX0
  clear g0' hP0 gX0 bX0 HSt0
  refine Eq.mpr (rounds_succ (n := 1)) ?_
  go_wp2_with (go_at_call 30; refine HC0.out.mono ?_; rintro e w' ⟨bo0, cb0, rfl, tw, HSt1', HTy0'⟩; have HTy0 := hidM HTy0'; clear HTy0'; have cl := fun j => frz tw j; have cc : ∀ j v, ((#[.int .i64 0, .int .i64 0, .int .i64 0, .int .i64 0, .slice none 0 0] : Array Value))[j]? = some v → w'.cell? ⟨tb, j, none⟩ = some v := (fun j v h => by simp only [World.cell?, tw]; exact h); have f0 := cl 0; have f1 := cl 1; have f2 := cl 2; have f3 := cl 3; have f4 := cl 4; have a0 := cc 0 _ rfl; have a1 := cc 1 _ rfl; have a2 := cc 2 _ rfl; have a3 := cc 3 _ rfl; have a4 := cc 4 _ rfl; obtain ⟨V1, hV1⟩ := ex (stA w' tb [(0, .int .i64 g0.kind), (1, .int .i64 g0.width), (2, .int .i64 g0.id), (3, .int .i64 g0.index), (4, .slice bo0 g0.kids.length cb0)]); rw [hV1] at HSt1'; have HSt1 := HSt1'; clear HSt1'; simp only [stA] at hV1; clear tw cl cc d00 d01 d02 d03 d04 d05 d06 x00 x01 x02 x03 x04 x05 x06 hX0 hy0 HC0)
  clear hV1 f0 f1 f2 f3 f4 a0 a1 a2 a3 a4
  refine Eq.mpr (rounds_succ (n := 0)) ?_
  go_wp2_with fail
  go_ret
  have ez := HT.out
  exact ⟨tb, bo0, cb0, rfl, HSt1.out.1, by omega, HSt1.out.2, HTy0.out⟩
theorem plainTypes12_2 (S : Nat → Prop) (d b o lc n0 n1 : Nat) (f0 g0 f1 g1 : FT) (ao0 ao1 : Option Addr) (ca0 ca1 : Nat) (W : World) (hS : ∀ b, S b → b < W.heap.size) (hb : b < W.heap.size) (hlc : 2 ≤ lc) (h0 : FlI S W d b o f0 ao0 ca0) (p0 : PlR n0 f0 g0) (h1 : FlI S W d b (o + 7) f1 ao1 ca1) (p1 : PlR n1 f1 g1) :
    Calls Tryz.prog 12 #[.slice (some ⟨b, o, none⟩) 2 lc] W fun e w' => ∃ tb bo0 cb0 bo1 cb1, e = .returned (.slice (some ⟨tb, 0, none⟩) 2 2) ∧ Gr W w' ∧ W.heap.size ≤ tb ∧ w'.heap[tb]? = some (.cells #[.int .i64 g0.kind, .int .i64 g0.width, .int .i64 g0.id, .int .i64 g0.index, .slice bo0 g0.kids.length cb0, .int .i64 g1.kind, .int .i64 g1.width, .int .i64 g1.id, .int .i64 g1.index, .slice bo1 g1.kids.length cb1] 24) ∧ TyI S W d g0 bo0 cb0 ∧ TyI S W d g1 bo1 cb1 := by
  have hmk : ∀ w : World, (Instr.makeSlice 38 (.int .i64 2) (.int .i64 2)).run Tryz.prog w = .ok (.slice (some ⟨w.heap.size, 0, none⟩) 2 2) (w.alloc (.cells #[.int .i64 0, .int .i64 0, .int .i64 0, .int .i64 0, .slice none 0 0, .int .i64 0, .int .i64 0, .int .i64 0, .int .i64 0, .slice none 0 0] 24)) := fun w => by kernel_rfl
  obtain ⟨tb, htb⟩ := ex (W.heap.size)
  obtain ⟨V0, hV0⟩ := ex (W.alloc (.cells #[.int .i64 0, .int .i64 0, .int .i64 0, .int .i64 0, .slice none 0 0, .int .i64 0, .int .i64 0, .int .i64 0, .int .i64 0, .slice none 0 0] 24))
  have HSt0 : Hid (Gr W V0 ∧ V0.heap[tb]? = some (.cells #[.int .i64 0, .int .i64 0, .int .i64 0, .int .i64 0, .slice none 0 0, .int .i64 0, .int .i64 0, .int .i64 0, .int .i64 0, .slice none 0 0] 24)) := by
    rw [← hV0, ← htb]
    exact ⟨gr_alloc W _, heap_alloc_new W _⟩
  have hlc' : (2 : Int) ≤ (lc : Int) := by omega
  have HF0 := hidM h0
  have HP0 := hidM p0
  have HF1 := hidM h1
  have HP1 := hidM p1
  have HS := hidM hS
  have HB := hidM hb
  have HT := hidM htb
  clear hS hb hlc h0 p0 h1 p1
  go_enter Tryz.func12, Tryz.ntmps12
  go_wp2_with fail
  (try rw [htb])
  clear hV0
  refine wp_loop_rounds 3 ?_
  obtain ⟨g0', hP0⟩ := HSt0.out
  obtain ⟨d00, d01, d02, d03, d04, d05, d06⟩ := (HF0.out.gr g0' HB.out HS.out).c
  obtain ⟨y0, hy0⟩ := ex (V0.heap.size)
  obtain ⟨X0, hX0⟩ := ex (V0.alloc (.cells #[.string f0.name, .bool f0.nul, .int .i64 f0.kind, .int .i64 f0.width, .int .i64 f0.id, .int .i64 f0.index, .slice ao0 f0.kids.length ca0] 26))
  have gX0 := gr_al hX0
  have bX0 : X0.heap[y0]? = some (.cells #[.string f0.name, .bool f0.nul, .int .i64 f0.kind, .int .i64 f0.width, .int .i64 f0.id, .int .i64 f0.index, .slice ao0 f0.kids.length ca0] 26) := by rw [← hX0, ← hy0]; exact heap_alloc_new V0 _
  have HC0 : Hid (Calls Tryz.prog 30 #[.agg #[.string f0.name, .bool f0.nul, .int .i64 f0.kind, .int .i64 f0.width, .int .i64 f0.id, .int .i64 f0.index, .slice ao0 f0.kids.length ca0]] X0 fun e w' => ∃ bo0 cb0, e = .returned (.agg #[.int .i64 g0.kind, .int .i64 g0.width, .int .i64 g0.id, .int .i64 g0.index, .slice bo0 g0.kids.length cb0]) ∧ w'.heap[tb]? = some (.cells #[.int .i64 0, .int .i64 0, .int .i64 0, .int .i64 0, .slice none 0 0, .int .i64 0, .int .i64 0, .int .i64 0, .int .i64 0, .slice none 0 0] 24) ∧ Hid (Gr W (stA w' tb [(0, .int .i64 g0.kind), (1, .int .i64 g0.width), (2, .int .i64 g0.id), (3, .int .i64 g0.index), (4, .slice bo0 g0.kids.length cb0)]) ∧ (stA w' tb [(0, .int .i64 g0.kind), (1, .int .i64 g0.width), (2, .int .i64 g0.id), (3, .int .i64 g0.index), (4, .slice bo0 g0.kids.length cb0)]).heap[tb]? = some (.cells #[.int .i64 g0.kind, .int .i64 g0.width, .int .i64 g0.id, .int .i64 g0.index, .slice bo0 g0.kids.length cb0, .int .i64 0, .int .i64 0, .int .i64 0, .int .i64 0, .slice none 0 0] 24)) ∧ TyI S W d g0 bo0 cb0) := by
    have gWX := g0'.tr gX0
    refine (plain30 S n0 d f0 g0 ao0 ca0 X0 (HF0.out.row.kept fun b hb => gWX.block b (HS.out b hb) id) HF0.out.le (fun b hb => Nat.lt_of_lt_of_le (HS.out b hb) gWX.size) HP0.out).mono ?_
    rintro e w' ⟨d', bo, cb, rfl, g', hd, hr, hl⟩
    have tw := ((gX0.tr g').block _ (lt_of_heap hP0) id).trans hP0
    have ez := HT.out
    have tb2 := stA_blk tb 24 [(0, .int .i64 g0.kind), (1, .int .i64 g0.width), (2, .int .i64 g0.id), (3, .int .i64 g0.index), (4, .slice bo g0.kids.length cb)] w' _ tw
    refine ⟨bo, cb, rfl, tw, ⟨(gWX.tr g').trans (stA_kp tb _ w') (fun j hj (e : j = tb) => by omega), by simpa [stC] using tb2⟩, hl, d', hd, hr.kept fun b hb => (gWX.block b (HS.out b hb) id).symm⟩
  obtain ⟨x00, x01, x02, x03, x04, x05, x06⟩ := cell7p bX0
  clear g0' hP0 gX0 bX0 HSt0
  refine Eq.mpr (rounds_succ (n := 2)) ?_
  go_wp2_with (go_at_call 30; refine HC0.out.mono ?_; rintro e w' ⟨bo0, cb0, rfl, tw, HSt1', HTy0'⟩; have HTy0 := hidM HTy0'; clear HTy0'; have cl := fun j => frz tw j; have cc : ∀ j v, ((#[.int .i64 0, .int .i64 0, .int .i64 0, .int .i64 0, .slice none 0 0, .int .i64 0, .int .i64 0, .int .i64 0, .int .i64 0, .slice none 0 0] : Array Value))[j]? = some v → w'.cell? ⟨tb, j, none⟩ = some v := (fun j v h => by simp only [World.cell?, tw]; exact h); have f0 := cl 0; have f1 := cl 1; have f2 := cl 2; have f3 := cl 3; have f4 := cl 4; have a0 := cc 0 _ rfl; have a1 := cc 1 _ rfl; have a2 := cc 2 _ rfl; have a3 := cc 3 _ rfl; have a4 := cc 4 _ rfl; obtain ⟨V1, hV1⟩ := ex (stA w' tb [(0, .int .i64 g0.kind), (1, .int .i64 g0.width), (2, .int .i64 g0.id), (3, .int .i64 g0.index), (4, .slice bo0 g0.kids.length cb0)]); rw [hV1] at HSt1'; have HSt1 := HSt1'; clear HSt1'; simp only [stA] at hV1; clear tw cl cc d00 d01 d02 d03 d04 d05 d06 x00 x01 x02 x03 x04 x05 x06 hX0 hy0 HC0)
  clear hV1 f0 f1 f2 f3 f4 a0 a1 a2 a3 a4
  obtain ⟨g1', hP1⟩ := HSt1.out
  obtain ⟨d10, d11, d12, d13, d14, d15, d16⟩ := (HF1.out.gr g1' HB.out HS.out).c
  obtain ⟨y1, hy1⟩ := ex (V1.heap.size)
  obtain ⟨X1, hX1⟩ := ex (V1.alloc (.cells #[.string f1.name, .bool f1.nul, .int .i64 f1.kind, .int .i64 f1.width, .int .i64 f1.id, .int .i64 f1.index, .slice ao1 f1.kids.length ca1] 26))
  have gX1 := gr_al hX1
  have bX1 : X1.heap[y1]? = some (.cells #[.string f1.name, .bool f1.nul, .int .i64 f1.kind, .int .i64 f1.width, .int .i64 f1.id, .int .i64 f1.index, .slice ao1 f1.kids.length ca1] 26) := by rw [← hX1, ← hy1]; exact heap_alloc_new V1 _
  have HC1 : Hid (Calls Tryz.prog 30 #[.agg #[.string f1.name, .bool f1.nul, .int .i64 f1.kind, .int .i64 f1.width, .int .i64 f1.id, .int .i64 f1.index, .slice ao1 f1.kids.length ca1]] X1 fun e w' => ∃ bo1 cb1, e = .returned (.agg #[.int .i64 g1.kind, .int .i64 g1.width, .int .i64 g1.id, .int .i64 g1.index, .slice bo1 g1.kids.length cb1]) ∧ w'.heap[tb]? = some (.cells #[.int .i64 g0.kind, .int .i64 g0.width, .int .i64 g0.id, .int .i64 g0.index, .slice bo0 g0.kids.length cb0, .int .i64 0, .int .i64 0, .int .i64 0, .int .i64 0, .slice none 0 0] 24) ∧ Hid (Gr W (stA w' tb [(5, .int .i64 g1.kind), (6, .int .i64 g1.width), (7, .int .i64 g1.id), (8, .int .i64 g1.index), (9, .slice bo1 g1.kids.length cb1)]) ∧ (stA w' tb [(5, .int .i64 g1.kind), (6, .int .i64 g1.width), (7, .int .i64 g1.id), (8, .int .i64 g1.index), (9, .slice bo1 g1.kids.length cb1)]).heap[tb]? = some (.cells #[.int .i64 g0.kind, .int .i64 g0.width, .int .i64 g0.id, .int .i64 g0.index, .slice bo0 g0.kids.length cb0, .int .i64 g1.kind, .int .i64 g1.width, .int .i64 g1.id, .int .i64 g1.index, .slice bo1 g1.kids.length cb1] 24)) ∧ TyI S W d g1 bo1 cb1) := by
    have gWX := g1'.tr gX1
    refine (plain30 S n1 d f1 g1 ao1 ca1 X1 (HF1.out.row.kept fun b hb => gWX.block b (HS.out b hb) id) HF1.out.le (fun b hb => Nat.lt_of_lt_of_le (HS.out b hb) gWX.size) HP1.out).mono ?_
    rintro e w' ⟨d', bo, cb, rfl, g', hd, hr, hl⟩
    have tw := ((gX1.tr g').block _ (lt_of_heap hP1) id).trans hP1
    have ez := HT.out
    have tb2 := stA_blk tb 24 [(5, .int .i64 g1.kind), (6, .int .i64 g1.width), (7, .int .i64 g1.id), (8, .int .i64 g1.index), (9, .slice bo g1.kids.length cb)] w' _ tw
    refine ⟨bo, cb, rfl, tw, ⟨(gWX.tr g').trans (stA_kp tb _ w') (fun j hj (e : j = tb) => by omega), by simpa [stC] using tb2⟩, hl, d', hd, hr.kept fun b hb => (gWX.block b (HS.out b hb) id).symm⟩
  obtain ⟨x10, x11, x12, x13, x14, x15, x16⟩ := cell7p bX1
  clear g1' hP1 gX1 bX1 HSt1
  refine Eq.mpr (rounds_succ (n := 1)) ?_
  go_wp2_with (go_at_call 30; refine HC1.out.mono ?_; rintro e w' ⟨bo1, cb1, rfl, tw, HSt2', HTy1'⟩; have HTy1 := hidM HTy1'; clear HTy1'; have cl := fun j => frz tw j; have cc : ∀ j v, ((#[.int .i64 g0.kind, .int .i64 g0.width, .int .i64 g0.id, .int .i64 g0.index, .slice bo0 g0.kids.length cb0, .int .i64 0, .int .i64 0, .int .i64 0, .int .i64 0, .slice none 0 0] : Array Value))[j]? = some v → w'.cell? ⟨tb, j, none⟩ = some v := (fun j v h => by simp only [World.cell?, tw]; exact h); have f0 := cl 5; have f1 := cl 6; have f2 := cl 7; have f3 := cl 8; have f4 := cl 9; have a0 := cc 5 _ rfl; have a1 := cc 6 _ rfl; have a2 := cc 7 _ rfl; have a3 := cc 8 _ rfl; have a4 := cc 9 _ rfl; obtain ⟨V2, hV2⟩ := ex (stA w' tb [(5, .int .i64 g1.kind), (6, .int .i64 g1.width), (7, .int .i64 g1.id), (8, .int .i64 g1.index), (9, .slice bo1 g1.kids.length cb1)]); rw [hV2] at HSt2'; have HSt2 := HSt2'; clear HSt2'; simp only [stA] at hV2; clear tw cl cc d10 d11 d12 d13 d14 d15 d16 x10 x11 x12 x13 x14 x15 x16 hX1 hy1 HC1)
  clear hV2 f0 f1 f2 f3 f4 a0 a1 a2 a3 a4
  refine Eq.mpr (rounds_succ (n := 0)) ?_
  go_wp2_with fail
  go_ret
  have ez := HT.out
  exact ⟨tb, bo0, cb0, bo1, cb1, rfl, HSt2.out.1, by omega, HSt2.out.2, HTy0.out, HTy1.out⟩
theorem plainTypes12_3 (S : Nat → Prop) (d b o lc n0 n1 n2 : Nat) (f0 g0 f1 g1 f2 g2 : FT) (ao0 ao1 ao2 : Option Addr) (ca0 ca1 ca2 : Nat) (W : World) (hS : ∀ b, S b → b < W.heap.size) (hb : b < W.heap.size) (hlc : 3 ≤ lc) (h0 : FlI S W d b o f0 ao0 ca0) (p0 : PlR n0 f0 g0) (h1 : FlI S W d b (o + 7) f1 ao1 ca1) (p1 : PlR n1 f1 g1) (h2 : FlI S W d b (o + 14) f2 ao2 ca2) (p2 : PlR n2 f2 g2) :
    Calls Tryz.prog 12 #[.slice (some ⟨b, o, none⟩) 3 lc] W fun e w' => ∃ tb bo0 cb0 bo1 cb1 bo2 cb2, e = .returned (.slice (some ⟨tb, 0, none⟩) 3 3) ∧ Gr W w' ∧ W.heap.size ≤ tb ∧ w'.heap[tb]? = some (.cells #[.int .i64 g0.kind, .int .i64 g0.width, .int .i64 g0.id, .int .i64 g0.index, .slice bo0 g0.kids.length cb0, .int .i64 g1.kind, .int .i64 g1.width, .int .i64 g1.id, .int .i64 g1.index, .slice bo1 g1.kids.length cb1, .int .i64 g2.kind, .int .i64 g2.width, .int .i64 g2.id, .int .i64 g2.index, .slice bo2 g2.kids.length cb2] 24) ∧ TyI S W d g0 bo0 cb0 ∧ TyI S W d g1 bo1 cb1 ∧ TyI S W d g2 bo2 cb2 := by
  have hmk : ∀ w : World, (Instr.makeSlice 38 (.int .i64 3) (.int .i64 3)).run Tryz.prog w = .ok (.slice (some ⟨w.heap.size, 0, none⟩) 3 3) (w.alloc (.cells #[.int .i64 0, .int .i64 0, .int .i64 0, .int .i64 0, .slice none 0 0, .int .i64 0, .int .i64 0, .int .i64 0, .int .i64 0, .slice none 0 0, .int .i64 0, .int .i64 0, .int .i64 0, .int .i64 0, .slice none 0 0] 24)) := fun w => by kernel_rfl
  obtain ⟨tb, htb⟩ := ex (W.heap.size)
  obtain ⟨V0, hV0⟩ := ex (W.alloc (.cells #[.int .i64 0, .int .i64 0, .int .i64 0, .int .i64 0, .slice none 0 0, .int .i64 0, .int .i64 0, .int .i64 0, .int .i64 0, .slice none 0 0, .int .i64 0, .int .i64 0, .int .i64 0, .int .i64 0, .slice none 0 0] 24))
  have HSt0 : Hid (Gr W V0 ∧ V0.heap[tb]? = some (.cells #[.int .i64 0, .int .i64 0, .int .i64 0, .int .i64 0, .slice none 0 0, .int .i64 0, .int .i64 0, .int .i64 0, .int .i64 0, .slice none 0 0, .int .i64 0, .int .i64 0, .int .i64 0, .int .i64 0, .slice none 0 0] 24)) := by
    rw [← hV0, ← htb]
    exact ⟨gr_alloc W _, heap_alloc_new W _⟩
  have hlc' : (3 : Int) ≤ (lc : Int) := by omega
  have HF0 := hidM h0
  have HP0 := hidM p0
  have HF1 := hidM h1
  have HP1 := hidM p1
  have HF2 := hidM h2
  have HP2 := hidM p2
  have HS := hidM hS
  have HB := hidM hb
  have HT := hidM htb
  clear hS hb hlc h0 p0 h1 p1 h2 p2
  go_enter Tryz.func12, Tryz.ntmps12
  go_wp2_with fail
  (try rw [htb])
  clear hV0
  refine wp_loop_rounds 4 ?_
  obtain ⟨g0', hP0⟩ := HSt0.out
  obtain ⟨d00, d01, d02, d03, d04, d05, d06⟩ := (HF0.out.gr g0' HB.out HS.out).c
  obtain ⟨y0, hy0⟩ := ex (V0.heap.size)
  obtain ⟨X0, hX0⟩ := ex (V0.alloc (.cells #[.string f0.name, .bool f0.nul, .int .i64 f0.kind, .int .i64 f0.width, .int .i64 f0.id, .int .i64 f0.index, .slice ao0 f0.kids.length ca0] 26))
  have gX0 := gr_al hX0
  have bX0 : X0.heap[y0]? = some (.cells #[.string f0.name, .bool f0.nul, .int .i64 f0.kind, .int .i64 f0.width, .int .i64 f0.id, .int .i64 f0.index, .slice ao0 f0.kids.length ca0] 26) := by rw [← hX0, ← hy0]; exact heap_alloc_new V0 _
  have HC0 : Hid (Calls Tryz.prog 30 #[.agg #[.string f0.name, .bool f0.nul, .int .i64 f0.kind, .int .i64 f0.width, .int .i64 f0.id, .int .i64 f0.index, .slice ao0 f0.kids.length ca0]] X0 fun e w' => ∃ bo0 cb0, e = .returned (.agg #[.int .i64 g0.kind, .int .i64 g0.width, .int .i64 g0.id, .int .i64 g0.index, .slice bo0 g0.kids.length cb0]) ∧ w'.heap[tb]? = some (.cells #[.int .i64 0, .int .i64 0, .int .i64 0, .int .i64 0, .slice none 0 0, .int .i64 0, .int .i64 0, .int .i64 0, .int .i64 0, .slice none 0 0, .int .i64 0, .int .i64 0, .int .i64 0, .int .i64 0, .slice none 0 0] 24) ∧ Hid (Gr W (stA w' tb [(0, .int .i64 g0.kind), (1, .int .i64 g0.width), (2, .int .i64 g0.id), (3, .int .i64 g0.index), (4, .slice bo0 g0.kids.length cb0)]) ∧ (stA w' tb [(0, .int .i64 g0.kind), (1, .int .i64 g0.width), (2, .int .i64 g0.id), (3, .int .i64 g0.index), (4, .slice bo0 g0.kids.length cb0)]).heap[tb]? = some (.cells #[.int .i64 g0.kind, .int .i64 g0.width, .int .i64 g0.id, .int .i64 g0.index, .slice bo0 g0.kids.length cb0, .int .i64 0, .int .i64 0, .int .i64 0, .int .i64 0, .slice none 0 0, .int .i64 0, .int .i64 0, .int .i64 0, .int .i64 0, .slice none 0 0] 24)) ∧ TyI S W d g0 bo0 cb0) := by
    have gWX := g0'.tr gX0
    refine (plain30 S n0 d f0 g0 ao0 ca0 X0 (HF0.out.row.kept fun b hb => gWX.block b (HS.out b hb) id) HF0.out.le (fun b hb => Nat.lt_of_lt_of_le (HS.out b hb) gWX.size) HP0.out).mono ?_
    rintro e w' ⟨d', bo, cb, rfl, g', hd, hr, hl⟩
    have tw := ((gX0.tr g').block _ (lt_of_heap hP0) id).trans hP0
    have ez := HT.out
    have tb2 := stA_blk tb 24 [(0, .int .i64 g0.kind), (1, .int .i64 g0.width), (2, .int .i64 g0.id), (3, .int .i64 g0.index), (4, .slice bo g0.kids.length cb)] w' _ tw
    refine ⟨bo, cb, rfl, tw, ⟨(gWX.tr g').trans (stA_kp tb _ w') (fun j hj (e : j = tb) => by omega), by simpa [stC] using tb2⟩, hl, d', hd, hr.kept fun b hb => (gWX.block b (HS.out b hb) id).symm⟩
  obtain ⟨x00, x01, x02, x03, x04, x05, x06⟩ := cell7p bX0
  clear g0' hP0 gX0 bX0 HSt0
  refine Eq.mpr (rounds_succ (n := 3)) ?_
  go_wp2_with (go_at_call 30; refine HC0.out.mono ?_; rintro e w' ⟨bo0, cb0, rfl, tw, HSt1', HTy0'⟩; have HTy0 := hidM HTy0'; clear HTy0'; have cl := fun j => frz tw j; have cc : ∀ j v, ((#[.int .i64 0, .int .i64 0, .int .i64 0, .int .i64 0, .slice none 0 0, .int .i64 0, .int .i64 0, .int .i64 0, .int .i64 0, .slice none 0 0, .int .i64 0, .int .i64 0, .int .i64 0, .int .i64 0, .slice none 0 0] : Array Value))[j]? = some v → w'.cell? ⟨tb, j, none⟩ = some v := (fun j v h => by simp only [World.cell?, tw]; exact h); have f0 := cl 0; have f1 := cl 1; have f2 := cl 2; have f3 := cl 3; have f4 := cl 4; have a0 := cc 0 _ rfl; have a1 := cc 1 _ rfl; have a2 := cc 2 _ rfl; have a3 := cc 3 _ rfl; have a4 := cc 4 _ rfl; obtain ⟨V1, hV1⟩ := ex (stA w' tb [(0, .int .i64 g0.kind), (1, .int .i64 g0.width), (2, .int .i64 g0.id), (3, .int .i64 g0.index), (4, .slice bo0 g0.kids.length cb0)]); rw [hV1] at HSt1'; have HSt1 := HSt1'; clear HSt1'; simp only [stA] at hV1; clear tw cl cc d00 d01 d02 d03 d04 d05 d06 x00 x01 x02 x03 x04 x05 x06 hX0 hy0 HC0)
  clear hV1 f0 f1 f2 f3 f4 a0 a1 a2 a3 a4
  obtain ⟨g1', hP1⟩ := HSt1.out
  obtain ⟨d10, d11, d12, d13, d14, d15, d16⟩ := (HF1.out.gr g1' HB.out HS.out).c
  obtain ⟨y1, hy1⟩ := ex (V1.heap.size)
  obtain ⟨X1, hX1⟩ := ex (V1.alloc (.cells #[.string f1.name, .bool f1.nul, .int .i64 f1.kind, .int .i64 f1.width, .int .i64 f1.id, .int .i64 f1.index, .slice ao1 f1.kids.length ca1] 26))
  have gX1 := gr_al hX1
  have bX1 : X1.heap[y1]? = some (.cells #[.string f1.name, .bool f1.nul, .int .i64 f1.kind, .int .i64 f1.width, .int .i64 f1.id, .int .i64 f1.index, .slice ao1 f1.kids.length ca1] 26) := by rw [← hX1, ← hy1]; exact heap_alloc_new V1 _
  have HC1 : Hid (Calls Tryz.prog 30 #[.agg #[.string f1.name, .bool f1.nul, .int .i64 f1.kind, .int .i64 f1.width, .int .i64 f1.id, .int .i64 f1.index, .slice ao1 f1.kids.length ca1]] X1 fun e w' => ∃ bo1 cb1, e = .returned (.agg #[.int .i64 g1.kind, .int .i64 g1.width, .int .i64 g1.id, .int .i64 g1.index, .slice bo1 g1.kids.length cb1]) ∧ w'.heap[tb]? = some (.cells #[.int .i64 g0.kind, .int .i64 g0.width, .int .i64 g0.id, .int .i64 g0.index, .slice bo0 g0.kids.length cb0, .int .i64 0, .int .i64 0, .int .i64 0, .int .i64 0, .slice none 0 0, .int .i64 0, .int .i64 0, .int .i64 0, .int .i64 0, .slice none 0 0] 24) ∧ Hid (Gr W (stA w' tb [(5, .int .i64 g1.kind), (6, .int .i64 g1.width), (7, .int .i64 g1.id), (8, .int .i64 g1.index), (9, .slice bo1 g1.kids.length cb1)]) ∧ (stA w' tb [(5, .int .i64 g1.kind), (6, .int .i64 g1.width), (7, .int .i64 g1.id), (8, .int .i64 g1.index), (9, .slice bo1 g1.kids.length cb1)]).heap[tb]? = some (.cells #[.int .i64 g0.kind, .int .i64 g0.width, .int .i64 g0.id, .int .i64 g0.index, .slice bo0 g0.kids.length cb0, .int .i64 g1.kind, .int .i64 g1.width, .int .i64 g1.id, .int .i64 g1.index, .slice bo1 g1.kids.length cb1, .int .i64 0, .int .i64 0, .int .i64 0, .int .i64 0, .slice none 0 0] 24)) ∧ TyI S W d g1 bo1 cb1) := by
    have gWX := g1'.tr gX1
    refine (plain30 S n1 d f1 g1 ao1 ca1 X1 (HF1.out.row.kept fun b hb => gWX.block b (HS.out b hb) id) HF1.out.le (fun b hb => Nat.lt_of_lt_of_le (HS.out b hb) gWX.size) HP1.out).mono ?_
    rintro e w' ⟨d', bo, cb, rfl, g', hd, hr, hl⟩
    have tw := ((gX1.tr g').block _ (lt_of_heap hP1) id).trans hP1
    have ez := HT.out
    have tb2 := stA_blk tb 24 [(5, .int .i64 g1.kind), (6, .int .i64 g1.width), (7, .int .i64 g1.id), (8, .int .i64 g1.index), (9, .slice bo g1.kids.length cb)] w' _ tw
    refine ⟨bo, cb, rfl, tw, ⟨(gWX.tr g').trans (stA_kp tb _ w') (fun j hj (e : j = tb) => by omega), by simpa [stC] using tb2⟩, hl, d', hd, hr.kept fun b hb => (gWX.block b (HS.out b hb) id).symm⟩
  obtain ⟨x10, x11, x12, x13, x14, x15, x16⟩ := cell7p bX1
  clear g1' hP1 gX1 bX1 HSt1
  refine Eq.mpr (rounds_succ (n := 2)) ?_
  go_wp2_with (go_at_call 30; refine HC1.out.mono ?_; rintro e w' ⟨bo1, cb1, rfl, tw, HSt2', HTy1'⟩; have HTy1 := hidM HTy1'; clear HTy1'; have cl := fun j => frz tw j; have cc : ∀ j v, ((#[.int .i64 g0.kind, .int .i64 g0.width, .int .i64 g0.id, .int .i64 g0.index, .slice bo0 g0.kids.length cb0, .int .i64 0, .int .i64 0, .int .i64 0, .int .i64 0, .slice none 0 0, .int .i64 0, .int .i64 0, .int .i64 0, .int .i64 0, .slice none 0 0] : Array Value))[j]? = some v → w'.cell? ⟨tb, j, none⟩ = some v := (fun j v h => by simp only [World.cell?, tw]; exact h); have f0 := cl 5; have f1 := cl 6; have f2 := cl 7; have f3 := cl 8; have f4 := cl 9; have a0 := cc 5 _ rfl; have a1 := cc 6 _ rfl; have a2 := cc 7 _ rfl; have a3 := cc 8 _ rfl; have a4 := cc 9 _ rfl; obtain ⟨V2, hV2⟩ := ex (stA w' tb [(5, .int .i64 g1.kind), (6, .int .i64 g1.width), (7, .int .i64 g1.id), (8, .int .i64 g1.index), (9, .slice bo1 g1.kids.length cb1)]); rw [hV2] at HSt2'; have HSt2 := HSt2'; clear HSt2'; simp only [stA] at hV2; clear tw cl cc d10 d11 d12 d13 d14 d15 d16 x10 x11 x12 x13 x14 x15 x16 hX1 hy1 HC1)
  clear hV2 f0 f1 f2 f3 f4 a0 a1 a2 a3 a4
  obtain ⟨g2', hP2⟩ := HSt2.out
  obtain ⟨d20, d21, d22, d23, d24, d25, d26⟩ := (HF2.out.gr g2' HB.out HS.out).c
  obtain ⟨y2, hy2⟩ := ex (V2.heap.size)
  obtain ⟨X2, hX2⟩ := ex (V2.alloc (.cells #[.string f2.name, .bool f2.nul, .int .i64 f2.kind, .int .i64 f2.width, .int .i64 f2.id, .int .i64 f2.index, .slice ao2 f2.kids.length ca2] 26))
  have gX2 := gr_al hX2
  have bX2 : X2.heap[y2]? = some (.cells #[.string f2.name, .bool f2.nul, .int .i64 f2.kind, .int .i64 f2.width, .int .i64 f2.id, .int .i64 f2.index, .slice ao2 f2.kids.length ca2] 26) := by rw [← hX2, ← hy2]; exact heap_alloc_new V2 _
  have HC2 : Hid (Calls Tryz.prog 30 #[.agg #[.string f2.name, .bool f2.nul, .int .i64 f2.kind, .int .i64 f2.width, .int .i64 f2.id, .int .i64 f2.index, .slice ao2 f2.kids.length ca2]] X2 fun e w' => ∃ bo2 cb2, e = .returned (.agg #[.int .i64 g2.kind, .int .i64 g2.width, .int .i64 g2.id, .int .i64 g2.index, .slice bo2 g2.kids.length cb2]) ∧ w'.heap[tb]? = some (.cells #[.int .i64 g0.kind, .int .i64 g0.width, .int .i64 g0.id, .int .i64 g0.index, .slice bo0 g0.kids.length cb0, .int .i64 g1.kind, .int .i64 g1.width, .int .i64 g1.id, .int .i64 g1.index, .slice bo1 g1.kids.length cb1, .int .i64 0, .int .i64 0, .int .i64 0, .int .i64 0, .slice none 0 0] 24) ∧ Hid (Gr W (stA w' tb [(10, .int .i64 g2.kind), (11, .int .i64 g2.width), (12, .int .i64 g2.id), (13, .int .i64 g2.index), (14, .slice bo2 g2.kids.length cb2)]) ∧ (stA w' tb [(10, .int .i64 g2.kind), (11, .int .i64 g2.width), (12, .int .i64 g2.id), (13, .int .i64 g2.index), (14, .slice bo2 g2.kids.length cb2)]).heap[tb]? = some (.cells #[.int .i64 g0.kind, .int .i64 g0.width, .int .i64 g0.id, .int .i64 g0.index, .slice bo0 g0.kids.length cb0, .int .i64 g1.kind, .int .i64 g1.width, .int .i64 g1.id, .int .i64 g1.index, .slice bo1 g1.kids.length cb1, .int .i64 g2.kind, .int .i64 g2.width, .int .i64 g2.id, .int .i64 g2.index, .slice bo2 g2.kids.length cb2] 24)) ∧ TyI S W d g2 bo2 cb2) := by
    have gWX := g2'.tr gX2
    refine (plain30 S n2 d f2 g2 ao2 ca2 X2 (HF2.out.row.kept fun b hb => gWX.block b (HS.out b hb) id) HF2.out.le (fun b hb => Nat.lt_of_lt_of_le (HS.out b hb) gWX.size) HP2.out).mono ?_
    rintro e w' ⟨d', bo, cb, rfl, g', hd, hr, hl⟩
    have tw := ((gX2.tr g').block _ (lt_of_heap hP2) id).trans hP2
    have ez := HT.out
    have tb2 := stA_blk tb 24 [(10, .int .i64 g2.kind), (11, .int .i64 g2.width), (12, .int .i64 g2.id), (13, .int .i64 g2.index), (14, .slice bo g2.kids.length cb)] w' _ tw
    refine ⟨bo, cb, rfl, tw, ⟨(gWX.tr g').trans (stA_kp tb _ w') (fun j hj (e : j = tb) => by omega), by simpa [stC] using tb2⟩, hl, d', hd, hr.kept fun b hb => (gWX.block b (HS.out b hb) id).symm⟩
  obtain ⟨x20, x21, x22, x23, x24, x25, x26⟩ := cell7p bX2
  clear g2' hP2 gX2 bX2 HSt2
  refine Eq.mpr (rounds_succ (n := 1)) ?_
  go_wp2_with (go_at_call 30; refine HC2.out.mono ?_; rintro e w' ⟨bo2, cb2, rfl, tw, HSt3', HTy2'⟩; have HTy2 := hidM HTy2'; clear HTy2'; have cl := fun j => frz tw j; have cc : ∀ j v, ((#[.int .i64 g0.kind, .int .i64 g0.width, .int .i64 g0.id, .int .i64 g0.index, .slice bo0 g0.kids.length cb0, .int .i64 g1.kind, .int .i64 g1.width, .int .i64 g1.id, .int .i64 g1.index, .slice bo1 g1.kids.length cb1, .int .i64 0, .int .i64 0, .int .i64 0, .int .i64 0, .slice none 0 0] : Array Value))[j]? = some v → w'.cell? ⟨tb, j, none⟩ = some v := (fun j v h => by simp only [World.cell?, tw]; exact h); have f0 := cl 10; have f1 := cl 11; have f2 := cl 12; have f3 := cl 13; have f4 := cl 14; have a0 := cc 10 _ rfl; have a1 := cc 11 _ rfl; have a2 := cc 12 _ rfl; have a3 := cc 13 _ rfl; have a4 := cc 14 _ rfl; obtain ⟨V3, hV3⟩ := ex (stA w' tb [(10, .int .i64 g2.kind), (11, .int .i64 g2.width), (12, .int .i64 g2.id), (13, .int .i64 g2.index), (14, .slice bo2 g2.kids.length cb2)]); rw [hV3] at HSt3'; have HSt3 := HSt3'; clear HSt3'; simp only [stA] at hV3; clear tw cl cc d20 d21 d22 d23 d24 d25 d26 x20 x21 x22 x23 x24 x25 x26 hX2 hy2 HC2)
  clear hV3 f0 f1 f2 f3 f4 a0 a1 a2 a3 a4
  refine Eq.mpr (rounds_succ (n := 0)) ?_
  go_wp2_with fail
  go_ret
  have ez := HT.out
  exact ⟨tb, bo0, cb0, bo1, cb1, bo2, cb2, rfl, HSt3.out.1, by omega, HSt3.out.2, HTy0.out, HTy1.out, HTy2.out⟩
end Go.Proofs.YtknnoiomdngmfaaGreatDoor.Kit
