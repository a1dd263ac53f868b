import Derived.Test.YtegjpmodleigeaaGreatDoorCQ
import Derived.OrdersIn
import Derived.OrdersHeld
import Derived.Deep.RegionHeld3
import Derived.Test.YtegjpmodleigeaaGreatDoorEA
import Derived.Test.YtegjpmodleigeaaGreatDoorFG
import Derived.Shelf.Spec.SlicesInsertGrow
import Derived.Test.YtegjpmodleigeaaGreatDoorProg
set_option maxRecDepth 100000
set_option maxHeartbeats 4000000
namespace Go.Proofs.YtegjpmodleigeaaGreatDoor.Kit
open Go.RowKit Go.Shelf Go.Deep
open Go.Proofs.YtegjpmodleigeaaGreatDoor.Kd (Ans AnsV cell5 cell2)
open Go.Proofs.YtegjpmodleigeaaGreatDoor.Ink (OwnRow)
set_option linter.unusedVariables false
set_option linter.unusedSimpArgs false
attribute [local go_sem] run_store_func
theorem results_cell37t {fn : Func} {t u : Tmp} {tmps : Array Value} {g : Nat} {cs : Array Value} {w : World} (h : fn.results = #[.cell t 88, .tmp u]) (ht : tmps.getD t undef = .pointer (some ⟨g, 0, none⟩)) (hg : w.heap[g]? = some (.cells cs 88 (0, 0))) (hi : (Tryz.prog.info? 88).map (·.size) = some cs.size) :
    (results fn tmps).run Tryz.prog w = .ok (.tuple #[.agg cs, tmps.getD u undef]) w := by
  have hl := run_loadVar_row (P := Tryz.prog) w g 88 88 cs (0, 0) _ hg Tryz.underlying88 rfl hi
  unfold results
  rw [h]
  simp only [Array.mapM_eq_mapM_toList, List.mapM_cons, List.mapM_nil, ht]
  simp [asAddr, hl]
theorem look49 (L a q : Nat) (W : World) (ha : W.heap[a]? = some (.cells #[.pointer (some ⟨q, 0, none⟩), .int .i64 0, .int .i64 L, .pointer none] 111)) : Calls Tryz.prog 67 #[.pointer (some ⟨a, 0, none⟩)] W fun e w' => e = .returned (.pointer (some ⟨W.heap.size, 0, none⟩)) ∧ w' = W.alloc (.cells #[.pointer none, .int .i64 4194304] 140) := by
  obtain ⟨a0, a1, a2, a3⟩ := cell4 ha
  clear ha
  go_enter Tryz.func67, Tryz.ntmps67
  go_wp2_with fail
  go_ret
  exact ⟨rfl, rfl⟩
theorem read50_0 (a l left : Nat) (W : World) (q r rc : Nat) (nu : Bool) (ao : Option Addr) (ca L : Nat) (v2 n2 c2 : Nat) (ha : W.heap[a]? = some (.cells #[.pointer (some ⟨q, 0, none⟩), .int .i64 0, .int .i64 L, .pointer none] 111)) (h : NdA W q r rc nu ao ca L 0 v2 n2 c2) (hl : W.heap[l]? = some (.cells #[.pointer none, .int .i64 left] 140)) (hlq : q ≠ l) (hlr : r ≠ l) (hlv : v2 ≠ l) (h16 : 16 ≤ left) (hle : left ≤ 4194304) (hn0 : 1 ≤ n2) (hn : n2 ≤ 100000) (hc : n2 ≤ c2) (h0 : W.cell? ⟨v2, 0, none⟩ = some (.int .u8 5)) (h1 : W.cell? ⟨v2, 0, none⟩ = some (.int .u8 5)) :
    Calls Tryz.prog 66 #[.pointer (some ⟨a, 0, none⟩), .pointer (some ⟨l, 0, none⟩), .int .i64 0] W fun e w' => e = .returned (.tuple #[.agg #[.bool false, .int .i64 5, .string ⟨#[]⟩, .slice none 0 0], .int .i64 0]) ∧ Rd1 W w' l left := by
  have hmf : ∀ (fn : Fn) (first cap : Array Value) (w : World), (Instr.makeFunc fn first cap).run Tryz.prog w = .ok (.func fn first cap) w := fun _ _ _ _ => rfl
  obtain ⟨A0, hA0⟩ : ∃ A0, W.alloc (.cells #[.pointer (some ⟨a, 0, none⟩)] 79) = A0 := ⟨_, rfl⟩
  have g0 : Gr W A0 := by rw [← hA0]; exact gr_alloc W _
  have b0 : A0.heap[W.heap.size]? = some (.cells #[.pointer (some ⟨a, 0, none⟩)] 79) := by rw [← hA0]; exact heap_alloc_new W _
  obtain ⟨A1, hA1⟩ : ∃ A1, A0.alloc (.cells #[.pointer (some ⟨l, 0, none⟩)] 159) = A1 := ⟨_, rfl⟩
  have g1 : Gr A0 A1 := by rw [← hA1]; exact gr_alloc A0 _
  have b1 : A1.heap[A0.heap.size]? = some (.cells #[.pointer (some ⟨l, 0, none⟩)] 159) := by rw [← hA1]; exact heap_alloc_new A0 _
  obtain ⟨A2, hA2⟩ : ∃ A2, A1.alloc (.cells #[.int .i64 0] 3) = A2 := ⟨_, rfl⟩
  have g2 : Gr A1 A2 := by rw [← hA2]; exact gr_alloc A1 _
  have b2 : A2.heap[A1.heap.size]? = some (.cells #[.int .i64 0] 3) := by rw [← hA2]; exact heap_alloc_new A1 _
  obtain ⟨A3, hA3⟩ : ∃ A3, A2.alloc (.cells #[.bool false, .int .i64 0, .string ⟨#[]⟩, .slice none 0 0] 88) = A3 := ⟨_, rfl⟩
  have g3 : Gr A2 A3 := by rw [← hA3]; exact gr_alloc A2 _
  have b3 : A3.heap[A2.heap.size]? = some (.cells #[.bool false, .int .i64 0, .string ⟨#[]⟩, .slice none 0 0] 88) := by rw [← hA3]; exact heap_alloc_new A2 _
  have z3 : A3.heap.size = A2.heap.size + 1 := by rw [← hA3]; simp
  obtain ⟨A4, hA4⟩ : ∃ A4, A3.alloc (.cells #[.bool false, .int .i64 0, .string ⟨#[]⟩, .slice none 0 0] 88) = A4 := ⟨_, rfl⟩
  have g4 : Gr A3 A4 := by rw [← hA4]; exact gr_alloc A3 _
  have b4 : A4.heap[A3.heap.size]? = some (.cells #[.bool false, .int .i64 0, .string ⟨#[]⟩, .slice none 0 0] 88) := by rw [← hA4]; exact heap_alloc_new A3 _
  have b3' := (g4.block _ (lt_of_heap b3) id).trans b3
  have g34 := g3.trans g4 (fun _ _ h => h)
  have g24 := g2.trans g34 (fun _ _ h => h)
  have g14 := g1.trans g24 (fun _ _ h => h)
  have gW : Gr W A4 := g0.trans g14 (fun _ _ h => h)
  have hRC : RdC A4 L A0.heap.size W.heap.size A1.heap.size A3.heap.size l a q 0 left := ⟨(g24.block _ (lt_of_heap b1) id).trans b1, (g14.block _ (lt_of_heap b0) id).trans b0, (g34.block _ (lt_of_heap b2) id).trans b2, b4, (gW.block _ (lt_of_heap ha) id).trans ha, (gW.block _ (lt_of_heap hl) id).trans hl⟩
  have hll := lt_of_heap hl
  have s0 := g0.size
  have s1 := g1.size
  have s2 := g2.size
  have HC := hidM (caught73 A0.heap.size W.heap.size A1.heap.size A3.heap.size (fun z => z = l ∨ z = A3.heap.size) (fun w => w.heap[l]? = some (.cells #[.pointer none, .int .i64 ((left - 16 : Nat) : Int)] 140) ∧ w.heap[A3.heap.size]? = some (.cells #[.bool false, .int .i64 5, .string ⟨#[]⟩, .slice none 0 0] 88)) A4 (fun e => by have := lt_of_heap b4; have := gW.size; rcases e with e | e <;> omega)
    (fun u v hu g => ⟨(g.block _ (lt_of_heap hu.1) id).trans hu.1, (g.block _ (lt_of_heap hu.2) id).trans hu.2⟩)
    (fun A gA => by
      have gWA := gW.trans gA (fun _ _ h => h)
      exact read74_0 A0.heap.size W.heap.size A1.heap.size A3.heap.size a l left A q r rc nu ao ca L v2 n2 c2 ⟨(gA.block _ (lt_of_heap hRC.h4) id).trans hRC.h4, (gA.block _ (lt_of_heap hRC.h3) id).trans hRC.h3, (gA.block _ (lt_of_heap hRC.h5) id).trans hRC.h5, (gA.block _ (lt_of_heap hRC.h8) id).trans hRC.h8, (gA.block _ (lt_of_heap hRC.ha) id).trans hRC.ha, (gA.block _ (lt_of_heap hRC.hl) id).trans hRC.hl⟩ (h.gr gWA) hlq hlr hlv h16 hle hn0 hn hc (gWA.cell' h0 id) (gWA.cell' h1 id)))
  have HT : Hid (∀ w2, Keeps A4 w2 (fun z => z = l ∨ z = A3.heap.size) → (w2.heap[l]? = some (.cells #[.pointer none, .int .i64 ((left - 16 : Nat) : Int)] 140) ∧ w2.heap[A3.heap.size]? = some (.cells #[.bool false, .int .i64 5, .string ⟨#[]⟩, .slice none 0 0] 88)) → w2.heap[A2.heap.size]? = some (.cells #[.bool false, .int .i64 0, .string ⟨#[]⟩, .slice none 0 0] 88) ∧ (vlU w2 A2.heap.size false 5).heap[A2.heap.size]? = some (.cells #[.bool false, .int .i64 5, .string ⟨#[]⟩, .slice none 0 0] 88) ∧ Rd1 W (vlU w2 A2.heap.size false 5) l left) := fun w2 k2 ⟨e1, e2⟩ => by
    have hb := (k2.block _ (lt_of_heap b3') (fun e => by rcases e with e | e <;> omega)).trans b3'
    refine ⟨hb, vl_blk hb, ?_, ((vl_kp _ _ _ _).block l (lt_of_heap e1) (fun e => by have e' : l = A2.heap.size := e; omega)).trans e1⟩
    exact ((gW.mono fun _ _ h => h.elim).trans k2 (fun j hj e => e.elim id (fun e => by omega))).trans (vl_kp _ _ _ _) (fun j hj e => by have e' : j = A2.heap.size := e; omega)
  clear g0 b0 g1 b1 g2 b2 g3 b3 z3 g4 b4 b3' g34 g24 g14 gW hRC hll s0 s1 s2 ha h hl h0 h1
  go_enter Tryz.func66, Tryz.ntmps66
  go_wp2_with (go_at_call 93; refine HC.out.mono ?_; rintro e w2 ⟨rfl, k2, e2⟩; obtain ⟨hr3, hu3, hq3⟩ := HT.out w2 k2 e2; obtain ⟨U, hU⟩ : ∃ U, vlU w2 A2.heap.size false 5 = U := ⟨_, rfl⟩; rw [hU] at hu3 hq3; simp only [vlU, setAll] at hU; obtain ⟨y0, y1, y2, y3⟩ := cell4 hr3; have x0 := frz hr3 0; have x1 := frz hr3 1; have x2 := frz hr3 2; have x3 := frz hr3 3; obtain ⟨f0, f1, f2, f3⟩ := cell4 e2.2; have HU3 := hidM hu3; have HQ3 := hidM hq3; clear hr3 hu3 hq3 k2 e2 hA0 hA1 hA2 hA3 hA4)
  (try simp only [Exit.inBlock, Exit.then])
  refine bodyPost_ret (results_cell37t rfl rfl (by with_reducible exact HU3.out) (by kernel_rfl)) rfl ?_
  exact ⟨rfl, HQ3.out⟩
theorem read50_1 (a l left : Nat) (W : World) (q r rc : Nat) (nu : Bool) (ao : Option Addr) (ca L : Nat) (v2 n2 c2 : Nat) (ha : W.heap[a]? = some (.cells #[.pointer (some ⟨q, 0, none⟩), .int .i64 0, .int .i64 L, .pointer none] 111)) (h : NdA W q r rc nu ao ca L 0 v2 n2 c2) (hl : W.heap[l]? = some (.cells #[.pointer none, .int .i64 left] 140)) (hlq : q ≠ l) (hlr : r ≠ l) (hlv : v2 ≠ l) (h16 : 16 ≤ left) (hle : left ≤ 4194304) (hn0 : 2 ≤ n2) (hn : n2 ≤ 100000) (hc : n2 ≤ c2) (h0 : W.cell? ⟨v2, 1, none⟩ = some (.int .u8 6)) (h1 : W.cell? ⟨v2, 1, none⟩ = some (.int .u8 6)) :
    Calls Tryz.prog 66 #[.pointer (some ⟨a, 0, none⟩), .pointer (some ⟨l, 0, none⟩), .int .i64 1] W fun e w' => e = .returned (.tuple #[.agg #[.bool false, .int .i64 6, .string ⟨#[]⟩, .slice none 0 0], .int .i64 0]) ∧ Rd1 W w' l left := by
  have hmf : ∀ (fn : Fn) (first cap : Array Value) (w : World), (Instr.makeFunc fn first cap).run Tryz.prog w = .ok (.func fn first cap) w := fun _ _ _ _ => rfl
  obtain ⟨A0, hA0⟩ : ∃ A0, W.alloc (.cells #[.pointer (some ⟨a, 0, none⟩)] 79) = A0 := ⟨_, rfl⟩
  have g0 : Gr W A0 := by rw [← hA0]; exact gr_alloc W _
  have b0 : A0.heap[W.heap.size]? = some (.cells #[.pointer (some ⟨a, 0, none⟩)] 79) := by rw [← hA0]; exact heap_alloc_new W _
  obtain ⟨A1, hA1⟩ : ∃ A1, A0.alloc (.cells #[.pointer (some ⟨l, 0, none⟩)] 159) = A1 := ⟨_, rfl⟩
  have g1 : Gr A0 A1 := by rw [← hA1]; exact gr_alloc A0 _
  have b1 : A1.heap[A0.heap.size]? = some (.cells #[.pointer (some ⟨l, 0, none⟩)] 159) := by rw [← hA1]; exact heap_alloc_new A0 _
  obtain ⟨A2, hA2⟩ : ∃ A2, A1.alloc (.cells #[.int .i64 1] 3) = A2 := ⟨_, rfl⟩
  have g2 : Gr A1 A2 := by rw [← hA2]; exact gr_alloc A1 _
  have b2 : A2.heap[A1.heap.size]? = some (.cells #[.int .i64 1] 3) := by rw [← hA2]; exact heap_alloc_new A1 _
  obtain ⟨A3, hA3⟩ : ∃ A3, A2.alloc (.cells #[.bool false, .int .i64 0, .string ⟨#[]⟩, .slice none 0 0] 88) = A3 := ⟨_, rfl⟩
  have g3 : Gr A2 A3 := by rw [← hA3]; exact gr_alloc A2 _
  have b3 : A3.heap[A2.heap.size]? = some (.cells #[.bool false, .int .i64 0, .string ⟨#[]⟩, .slice none 0 0] 88) := by rw [← hA3]; exact heap_alloc_new A2 _
  have z3 : A3.heap.size = A2.heap.size + 1 := by rw [← hA3]; simp
  obtain ⟨A4, hA4⟩ : ∃ A4, A3.alloc (.cells #[.bool false, .int .i64 0, .string ⟨#[]⟩, .slice none 0 0] 88) = A4 := ⟨_, rfl⟩
  have g4 : Gr A3 A4 := by rw [← hA4]; exact gr_alloc A3 _
  have b4 : A4.heap[A3.heap.size]? = some (.cells #[.bool false, .int .i64 0, .string ⟨#[]⟩, .slice none 0 0] 88) := by rw [← hA4]; exact heap_alloc_new A3 _
  have b3' := (g4.block _ (lt_of_heap b3) id).trans b3
  have g34 := g3.trans g4 (fun _ _ h => h)
  have g24 := g2.trans g34 (fun _ _ h => h)
  have g14 := g1.trans g24 (fun _ _ h => h)
  have gW : Gr W A4 := g0.trans g14 (fun _ _ h => h)
  have hRC : RdC A4 L A0.heap.size W.heap.size A1.heap.size A3.heap.size l a q 1 left := ⟨(g24.block _ (lt_of_heap b1) id).trans b1, (g14.block _ (lt_of_heap b0) id).trans b0, (g34.block _ (lt_of_heap b2) id).trans b2, b4, (gW.block _ (lt_of_heap ha) id).trans ha, (gW.block _ (lt_of_heap hl) id).trans hl⟩
  have hll := lt_of_heap hl
  have s0 := g0.size
  have s1 := g1.size
  have s2 := g2.size
  have HC := hidM (caught73 A0.heap.size W.heap.size A1.heap.size A3.heap.size (fun z => z = l ∨ z = A3.heap.size) (fun w => w.heap[l]? = some (.cells #[.pointer none, .int .i64 ((left - 16 : Nat) : Int)] 140) ∧ w.heap[A3.heap.size]? = some (.cells #[.bool false, .int .i64 6, .string ⟨#[]⟩, .slice none 0 0] 88)) A4 (fun e => by have := lt_of_heap b4; have := gW.size; rcases e with e | e <;> omega)
    (fun u v hu g => ⟨(g.block _ (lt_of_heap hu.1) id).trans hu.1, (g.block _ (lt_of_heap hu.2) id).trans hu.2⟩)
    (fun A gA => by
      have gWA := gW.trans gA (fun _ _ h => h)
      exact read74_1 A0.heap.size W.heap.size A1.heap.size A3.heap.size a l left A q r rc nu ao ca L v2 n2 c2 ⟨(gA.block _ (lt_of_heap hRC.h4) id).trans hRC.h4, (gA.block _ (lt_of_heap hRC.h3) id).trans hRC.h3, (gA.block _ (lt_of_heap hRC.h5) id).trans hRC.h5, (gA.block _ (lt_of_heap hRC.h8) id).trans hRC.h8, (gA.block _ (lt_of_heap hRC.ha) id).trans hRC.ha, (gA.block _ (lt_of_heap hRC.hl) id).trans hRC.hl⟩ (h.gr gWA) hlq hlr hlv h16 hle hn0 hn hc (gWA.cell' h0 id) (gWA.cell' h1 id)))
  have HT : Hid (∀ w2, Keeps A4 w2 (fun z => z = l ∨ z = A3.heap.size) → (w2.heap[l]? = some (.cells #[.pointer none, .int .i64 ((left - 16 : Nat) : Int)] 140) ∧ w2.heap[A3.heap.size]? = some (.cells #[.bool false, .int .i64 6, .string ⟨#[]⟩, .slice none 0 0] 88)) → w2.heap[A2.heap.size]? = some (.cells #[.bool false, .int .i64 0, .string ⟨#[]⟩, .slice none 0 0] 88) ∧ (vlU w2 A2.heap.size false 6).heap[A2.heap.size]? = some (.cells #[.bool false, .int .i64 6, .string ⟨#[]⟩, .slice none 0 0] 88) ∧ Rd1 W (vlU w2 A2.heap.size false 6) l left) := fun w2 k2 ⟨e1, e2⟩ => by
    have hb := (k2.block _ (lt_of_heap b3') (fun e => by rcases e with e | e <;> omega)).trans b3'
    refine ⟨hb, vl_blk hb, ?_, ((vl_kp _ _ _ _).block l (lt_of_heap e1) (fun e => by have e' : l = A2.heap.size := e; omega)).trans e1⟩
    exact ((gW.mono fun _ _ h => h.elim).trans k2 (fun j hj e => e.elim id (fun e => by omega))).trans (vl_kp _ _ _ _) (fun j hj e => by have e' : j = A2.heap.size := e; omega)
  clear g0 b0 g1 b1 g2 b2 g3 b3 z3 g4 b4 b3' g34 g24 g14 gW hRC hll s0 s1 s2 ha h hl h0 h1
  go_enter Tryz.func66, Tryz.ntmps66
  go_wp2_with (go_at_call 93; refine HC.out.mono ?_; rintro e w2 ⟨rfl, k2, e2⟩; obtain ⟨hr3, hu3, hq3⟩ := HT.out w2 k2 e2; obtain ⟨U, hU⟩ : ∃ U, vlU w2 A2.heap.size false 6 = U := ⟨_, rfl⟩; rw [hU] at hu3 hq3; simp only [vlU, setAll] at hU; obtain ⟨y0, y1, y2, y3⟩ := cell4 hr3; have x0 := frz hr3 0; have x1 := frz hr3 1; have x2 := frz hr3 2; have x3 := frz hr3 3; obtain ⟨f0, f1, f2, f3⟩ := cell4 e2.2; have HU3 := hidM hu3; have HQ3 := hidM hq3; clear hr3 hu3 hq3 k2 e2 hA0 hA1 hA2 hA3 hA4)
  (try simp only [Exit.inBlock, Exit.then])
  refine bodyPost_ret (results_cell37t rfl rfl (by with_reducible exact HU3.out) (by kernel_rfl)) rfl ?_
  exact ⟨rfl, HQ3.out⟩
theorem read50_2 (a l left : Nat) (W : World) (q r rc : Nat) (nu : Bool) (ao : Option Addr) (ca L : Nat) (v2 n2 c2 : Nat) (ha : W.heap[a]? = some (.cells #[.pointer (some ⟨q, 0, none⟩), .int .i64 0, .int .i64 L, .pointer none] 111)) (h : NdA W q r rc nu ao ca L 1 v2 n2 c2) (hl : W.heap[l]? = some (.cells #[.pointer none, .int .i64 left] 140)) (hlq : q ≠ l) (hlr : r ≠ l) (hlv : v2 ≠ l) (h16 : 16 ≤ left) (hle : left ≤ 4194304) (hn0 : 2 ≤ n2) (hn : n2 ≤ 100000) (hc : n2 ≤ c2) (h0 : W.cell? ⟨v2, 1, none⟩ = some (.int .u8 6)) (h1 : W.cell? ⟨v2, 1, none⟩ = some (.int .u8 6)) :
    Calls Tryz.prog 66 #[.pointer (some ⟨a, 0, none⟩), .pointer (some ⟨l, 0, none⟩), .int .i64 0] W fun e w' => e = .returned (.tuple #[.agg #[.bool false, .int .i64 6, .string ⟨#[]⟩, .slice none 0 0], .int .i64 0]) ∧ Rd1 W w' l left := by
  have hmf : ∀ (fn : Fn) (first cap : Array Value) (w : World), (Instr.makeFunc fn first cap).run Tryz.prog w = .ok (.func fn first cap) w := fun _ _ _ _ => rfl
  obtain ⟨A0, hA0⟩ : ∃ A0, W.alloc (.cells #[.pointer (some ⟨a, 0, none⟩)] 79) = A0 := ⟨_, rfl⟩
  have g0 : Gr W A0 := by rw [← hA0]; exact gr_alloc W _
  have b0 : A0.heap[W.heap.size]? = some (.cells #[.pointer (some ⟨a, 0, none⟩)] 79) := by rw [← hA0]; exact heap_alloc_new W _
  obtain ⟨A1, hA1⟩ : ∃ A1, A0.alloc (.cells #[.pointer (some ⟨l, 0, none⟩)] 159) = A1 := ⟨_, rfl⟩
  have g1 : Gr A0 A1 := by rw [← hA1]; exact gr_alloc A0 _
  have b1 : A1.heap[A0.heap.size]? = some (.cells #[.pointer (some ⟨l, 0, none⟩)] 159) := by rw [← hA1]; exact heap_alloc_new A0 _
  obtain ⟨A2, hA2⟩ : ∃ A2, A1.alloc (.cells #[.int .i64 0] 3) = A2 := ⟨_, rfl⟩
  have g2 : Gr A1 A2 := by rw [← hA2]; exact gr_alloc A1 _
  have b2 : A2.heap[A1.heap.size]? = some (.cells #[.int .i64 0] 3) := by rw [← hA2]; exact heap_alloc_new A1 _
  obtain ⟨A3, hA3⟩ : ∃ A3, A2.alloc (.cells #[.bool false, .int .i64 0, .string ⟨#[]⟩, .slice none 0 0] 88) = A3 := ⟨_, rfl⟩
  have g3 : Gr A2 A3 := by rw [← hA3]; exact gr_alloc A2 _
  have b3 : A3.heap[A2.heap.size]? = some (.cells #[.bool false, .int .i64 0, .string ⟨#[]⟩, .slice none 0 0] 88) := by rw [← hA3]; exact heap_alloc_new A2 _
  have z3 : A3.heap.size = A2.heap.size + 1 := by rw [← hA3]; simp
  obtain ⟨A4, hA4⟩ : ∃ A4, A3.alloc (.cells #[.bool false, .int .i64 0, .string ⟨#[]⟩, .slice none 0 0] 88) = A4 := ⟨_, rfl⟩
  have g4 : Gr A3 A4 := by rw [← hA4]; exact gr_alloc A3 _
  have b4 : A4.heap[A3.heap.size]? = some (.cells #[.bool false, .int .i64 0, .string ⟨#[]⟩, .slice none 0 0] 88) := by rw [← hA4]; exact heap_alloc_new A3 _
  have b3' := (g4.block _ (lt_of_heap b3) id).trans b3
  have g34 := g3.trans g4 (fun _ _ h => h)
  have g24 := g2.trans g34 (fun _ _ h => h)
  have g14 := g1.trans g24 (fun _ _ h => h)
  have gW : Gr W A4 := g0.trans g14 (fun _ _ h => h)
  have hRC : RdC A4 L A0.heap.size W.heap.size A1.heap.size A3.heap.size l a q 0 left := ⟨(g24.block _ (lt_of_heap b1) id).trans b1, (g14.block _ (lt_of_heap b0) id).trans b0, (g34.block _ (lt_of_heap b2) id).trans b2, b4, (gW.block _ (lt_of_heap ha) id).trans ha, (gW.block _ (lt_of_heap hl) id).trans hl⟩
  have hll := lt_of_heap hl
  have s0 := g0.size
  have s1 := g1.size
  have s2 := g2.size
  have HC := hidM (caught73 A0.heap.size W.heap.size A1.heap.size A3.heap.size (fun z => z = l ∨ z = A3.heap.size) (fun w => w.heap[l]? = some (.cells #[.pointer none, .int .i64 ((left - 16 : Nat) : Int)] 140) ∧ w.heap[A3.heap.size]? = some (.cells #[.bool false, .int .i64 6, .string ⟨#[]⟩, .slice none 0 0] 88)) A4 (fun e => by have := lt_of_heap b4; have := gW.size; rcases e with e | e <;> omega)
    (fun u v hu g => ⟨(g.block _ (lt_of_heap hu.1) id).trans hu.1, (g.block _ (lt_of_heap hu.2) id).trans hu.2⟩)
    (fun A gA => by
      have gWA := gW.trans gA (fun _ _ h => h)
      exact read74_2 A0.heap.size W.heap.size A1.heap.size A3.heap.size a l left A q r rc nu ao ca L v2 n2 c2 ⟨(gA.block _ (lt_of_heap hRC.h4) id).trans hRC.h4, (gA.block _ (lt_of_heap hRC.h3) id).trans hRC.h3, (gA.block _ (lt_of_heap hRC.h5) id).trans hRC.h5, (gA.block _ (lt_of_heap hRC.h8) id).trans hRC.h8, (gA.block _ (lt_of_heap hRC.ha) id).trans hRC.ha, (gA.block _ (lt_of_heap hRC.hl) id).trans hRC.hl⟩ (h.gr gWA) hlq hlr hlv h16 hle hn0 hn hc (gWA.cell' h0 id) (gWA.cell' h1 id)))
  have HT : Hid (∀ w2, Keeps A4 w2 (fun z => z = l ∨ z = A3.heap.size) → (w2.heap[l]? = some (.cells #[.pointer none, .int .i64 ((left - 16 : Nat) : Int)] 140) ∧ w2.heap[A3.heap.size]? = some (.cells #[.bool false, .int .i64 6, .string ⟨#[]⟩, .slice none 0 0] 88)) → w2.heap[A2.heap.size]? = some (.cells #[.bool false, .int .i64 0, .string ⟨#[]⟩, .slice none 0 0] 88) ∧ (vlU w2 A2.heap.size false 6).heap[A2.heap.size]? = some (.cells #[.bool false, .int .i64 6, .string ⟨#[]⟩, .slice none 0 0] 88) ∧ Rd1 W (vlU w2 A2.heap.size false 6) l left) := fun w2 k2 ⟨e1, e2⟩ => by
    have hb := (k2.block _ (lt_of_heap b3') (fun e => by rcases e with e | e <;> omega)).trans b3'
    refine ⟨hb, vl_blk hb, ?_, ((vl_kp _ _ _ _).block l (lt_of_heap e1) (fun e => by have e' : l = A2.heap.size := e; omega)).trans e1⟩
    exact ((gW.mono fun _ _ h => h.elim).trans k2 (fun j hj e => e.elim id (fun e => by omega))).trans (vl_kp _ _ _ _) (fun j hj e => by have e' : j = A2.heap.size := e; omega)
  clear g0 b0 g1 b1 g2 b2 g3 b3 z3 g4 b4 b3' g34 g24 g14 gW hRC hll s0 s1 s2 ha h hl h0 h1
  go_enter Tryz.func66, Tryz.ntmps66
  go_wp2_with (go_at_call 93; refine HC.out.mono ?_; rintro e w2 ⟨rfl, k2, e2⟩; obtain ⟨hr3, hu3, hq3⟩ := HT.out w2 k2 e2; obtain ⟨U, hU⟩ : ∃ U, vlU w2 A2.heap.size false 6 = U := ⟨_, rfl⟩; rw [hU] at hu3 hq3; simp only [vlU, setAll] at hU; obtain ⟨y0, y1, y2, y3⟩ := cell4 hr3; have x0 := frz hr3 0; have x1 := frz hr3 1; have x2 := frz hr3 2; have x3 := frz hr3 3; obtain ⟨f0, f1, f2, f3⟩ := cell4 e2.2; have HU3 := hidM hu3; have HQ3 := hidM hq3; clear hr3 hu3 hq3 k2 e2 hA0 hA1 hA2 hA3 hA4)
  (try simp only [Exit.inBlock, Exit.then])
  refine bodyPost_ret (results_cell37t rfl rfl (by with_reducible exact HU3.out) (by kernel_rfl)) rfl ?_
  exact ⟨rfl, HQ3.out⟩
end Go.Proofs.YtegjpmodleigeaaGreatDoor.Kit
namespace Go.Proofs.YtegjpmodleigeaaGreatDoor.Kit
open Go.RowKit Go.Shelf Go.Deep
set_option linter.unusedVariables false
/-! ### a region that draws its order, in a round of a range over a function -/
theorem no_depth {l : Nat} (h : (Fence.wide.inRound l).depth.isSome = true) : False := by cases h
theorem rows_round {P : Program} {row : String} {args : Array Value} {w : World} {R : Value → World → Prop} {l n : Nat} (h : Rows P row args w R) : RowsIn (Fence.wide.inRound l) n P row args w R := fun c cs _ =>
  let ⟨v, w', r, s⟩ := h c cs
  ⟨v, w', r, stepsIn_wide.2 s⟩
theorem op_round {P : Program} {ops : Array Oper} {Q : Exit → Act → World → Prop} {i : Nat} {K : Act → World → Prop} {a : Act} {w : World} {l n : Nat} (hd : ∀ o, ops[i]? = some o → ∀ c, o.op ≠ .defer c) (hlo : ¬ LetsOut Q)
    (h : wpOp P ops Q i K a w) : wpOpIn (Fence.wide.inRound l) n P ops Q i K a w := by
  unfold wpOp at h
  unfold wpOpIn
  cases ho : ops[i]? with
  | none => simpa [ho] using h
  | some o =>
    simp only [ho] at h ⊢
    split
    · rename_i hw
      simp only [hw, if_true] at h
      have h1 : o.wp P a w K Q := h.resolve_right fun h => hlo h.2
      refine ⟨fun _ _ => trivial, ?_⟩
      have e : o.semAt (Fence.wide.inRound l).round a.eval = execOp a.eval o := Oper.semAt_some l _ _ (hd o ho)
      rw [e]
      unfold Oper.wp at h1
      generalize (execOp a.eval o).run P w = r at h1 ⊢
      cases r with
      | ok x w' =>
        cases x <;> simp only [Oper.upon] at h1 <;> simp only [Oper.uponIn] <;>
          first
            | exact h1
            | exact ⟨fun h => (no_depth h).elim, CallsIn.inRound l (callsIn_wide.2 h1)⟩
            | exact ⟨fun h => (no_depth h).elim, rows_round h1⟩
            | exact h1.elim
      | halt x w' => cases x <;> simp only [Oper.upon] at h1 <;> simp only [Oper.uponIn] <;> exact h1
    · rename_i hw
      simp only [hw] at h
      exact ⟨fun _ _ => trivial, h⟩
theorem any_round {P : Program} {md : Region.Mode} {ops : Array Oper} {Q : Exit → Act → World → Prop} {l n : Nat} (hd : ∀ (i : Nat) (o : Oper), ops[i]? = some o → ∀ c, o.op ≠ Op.defer c) (hlo : ¬ LetsOut Q) :
    ∀ (fuel : Nat) (listed : Array Bool) (a : Act) (w : World), wpAny P md ops Q fuel listed a w → wpAnyIn (Fence.wide.inRound l) n P md ops Q fuel listed a w
  | 0, _, _, _, h => h
  | fuel + 1, listed, a, w, h => ⟨h.1, fun i hi => op_round (hd i) hlo (wpOp_mono (fun a' w' => any_round hd hlo fuel _ a' w') (h.2 i hi))⟩
theorem region_round {P : Program} {ops : Array Oper} {Q : Exit → Act → World → Prop} {S : World → Prop} {l n id : Nat} {a : Act} {w : World} (hm : P.follows .mixedOrders = true) (hd : ∀ (i : Nat) (o : Oper), ops[i]? = some o → ∀ c, o.op ≠ Op.defer c) (hlo : ¬ LetsOut Q)
    (h : wpAnyH P .any ops Q S ops.size (Array.replicate ops.size false) a w.drew) : (Code.region id ops true).wpIn (Fence.wide.inRound l) n P Q a w :=
  wpIn_region_any hm (any_round hd hlo _ _ _ _ (wpAny_of_held _ _ _ _ h))
end Go.Proofs.YtegjpmodleigeaaGreatDoor.Kit
namespace Go.Proofs.YtegjpmodleigeaaGreatDoor.Kit
open Go.RowKit Go.Shelf Go.Deep
set_option linter.unusedVariables false

def noDefer (ops : Array Oper) : Bool := ops.all fun o => match o.op with | .defer _ => false | _ => true
theorem noDefer_spec {ops : Array Oper} (h : noDefer ops = true) (i : Nat) (o : Oper) (ho : ops[i]? = some o) (c : Call) : o.op ≠ Op.defer c := fun e => by
  unfold noDefer at h
  rw [Array.all_eq_true_iff_forall_mem] at h
  have := h o (Array.mem_of_getElem? ho)
  rw [e] at this
  cases this
theorem gr_allocD2 (V : World) (o : Obj) : Gr V.drew (V.alloc o).drew := gr_alloc V.drew o
end Go.Proofs.YtegjpmodleigeaaGreatDoor.Kit
namespace Go.Proofs
open Go.Shelf
def Tryz.laysNm221_ren : Go.Shelf.Ren := ⟨fun | 21 => 106 | 27 => 122 | 28 => 123 | 35 => 135 | 39 => 142 | n => n, fun | 22 => 44 | 3 => 3 | 4 => 4 | 0 => 0 | n => n, fun | n => n⟩
theorem Tryz.laysNm221 : Go.Proofs.Lays2.n21 Tryz.prog Tryz.laysNm221_ren := {
  mixed := by kernel_rfl
  f21 := Tryz.func106.trans (congrArg some (by kernel_rfl))
  f27 := Tryz.func122.trans (congrArg some (by kernel_rfl))
  f28 := Tryz.func123.trans (congrArg some (by kernel_rfl))
  f35 := Tryz.func135.trans (congrArg some (by kernel_rfl))
  f39 := Tryz.func142.trans (congrArg some (by kernel_rfl))
  t0 := Tryz.underlying0
  a0 := Tryz.isAgg0
  z0 := Tryz.sizeOf0
  v0 := Tryz.zeroValue0
  t3 := Tryz.underlying3
  a3 := Tryz.isAgg3
  z3 := Tryz.sizeOf3
  v3 := Tryz.zeroValue3
  t4 := Tryz.underlying4
  a4 := Tryz.isAgg4
  z4 := Tryz.sizeOf4
  v4 := Tryz.zeroValue4
  t22 := Tryz.underlying44
  a22 := Tryz.isAgg44
  z22 := Tryz.sizeOf44
  v22 := Tryz.zeroValue44
  i3 := by kernel_rfl }
end Go.Proofs
namespace Go.Proofs.YtegjpmodleigeaaGreatDoor.Kit
open Go.RowKit Go.Shelf Go.Deep
open Go.Proofs.YtegjpmodleigeaaGreatDoor.Kd (Ans AnsV cell5 cell2)
open Go.Proofs.YtegjpmodleigeaaGreatDoor.Ink (OwnRow)
set_option linter.unusedVariables false
set_option linter.unusedSimpArgs false
attribute [local go_sem] run_store_func
theorem kp_setCells (b : Nat) : ∀ (vs : List Value) (o : Nat) (w : World), Keeps w (w.setCells b o vs) (fun z => z = b)
  | [], _, w => Keeps.refl w _
  | v :: vs, o, w => by
    have h : Keeps w (w.setCell ⟨b, o, none⟩ v) (fun z => z = b) := (Keeps.refl w (fun z => z = b)).setCell (p := ⟨b, o, none⟩) (fun _ => rfl) _
    exact h.trans (kp_setCells b vs (o + 1) _) (fun _ _ h => h)
theorem insert98 (b vb : Nat) (x y : Int) (W : World) (h0 : W.cell? ⟨b, 0, none⟩ = some (.int .i64 x)) (hv : W.cell? ⟨vb, 0, none⟩ = some (.int .i64 y)) :
    Calls Tryz.prog 106 #[.slice (some ⟨b, 0, none⟩) 1 1, .int .i64 0, .slice (some ⟨vb, 0, none⟩) 1 1] W fun e w' => ∃ g c, e = .returned (.slice (some ⟨g, 0, none⟩) 2 c) ∧ Gr W w' ∧ w'.cell? ⟨g, 0, none⟩ = some (.int .i64 y) ∧ w'.cell? ⟨g, 1, none⟩ = some (.int .i64 x) := by
  have h := Any2.slices_Insert_int_grow Tryz.laysNm221 b 0 1 1 0 vb 0 1 1 [.int .i64 x] [.int .i64 y] W (by decide) (by decide) (by decide) (by decide) (by decide) rfl rfl
    (fun j v hj => by
      match j, hj with
      | 0, hj => cases hj; exact h0
      | j + 1, hj => simp at hj)
    (fun j v hj => by
      match j, hj with
      | 0, hj => cases hj; exact hv
      | j + 1, hj => simp at hj)
    (fun v hv => by simp at hv; subst hv; rfl) (fun v hv => by simp at hv; subst hv; rfl)
  refine Calls.mono h ?_
  rintro e w' ⟨rfl, hw⟩
  refine ⟨_, _, rfl, ?_⟩
  generalize hR : ((([Value.int .i64 x].take 0).toArray ++ Builtin.zeroCells (Value.int .i64 0).cells (1 + 1 - 0) ++ Builtin.zeroCells (Value.int .i64 0).cells (grownCap W (1 + 1) 1 (Tryz.laysNm221_ren.t 3) - (1 + 1))) : Array Value) = R at hw
  have hsz : 2 ≤ R.size := by
    rw [← hR]
    simp [Builtin.zeroCells, Value.cells]
  obtain ⟨A, hA⟩ : ∃ A, W.alloc (.cells R (Tryz.laysNm221_ren.t 3)) = A := ⟨_, rfl⟩
  rw [hA] at hw
  have gA : Gr W A := by rw [← hA]; exact gr_alloc W _
  have hb : A.heap[W.heap.size]? = some (.cells R (Tryz.laysNm221_ren.t 3)) := by rw [← hA]; exact heap_alloc_new W _
  have hd : (w' : World) = ((A.drew.setCell ⟨W.heap.size, 0, none⟩ (.int .i64 y)).drew).setCell ⟨W.heap.size, 1, none⟩ (.int .i64 x) := hw
  have e1 := heap_setCell_same A.drew W.heap.size 0 _ _ (.int .i64 y) hb
  have e2 := heap_setCell_same (A.drew.setCell ⟨W.heap.size, 0, none⟩ (.int .i64 y)).drew W.heap.size 1 _ _ (.int .i64 x) e1
  rw [← hd] at e2
  refine ⟨?_, ?_, ?_⟩
  · rw [hd]
    exact Keeps.setCell (p := ⟨W.heap.size, 1, none⟩) ((Keeps.setCell (p := ⟨W.heap.size, 0, none⟩) gA.drew (fun h => by simp at h) _).drew) (fun h => by simp at h) _
  · have q0 : 0 < R.size := by omega
    simp only [World.cell?, e2]
    simp [Array.getElem?_setIfInBounds, q0]
  · have q1 : 1 < R.size := by omega
    simp only [World.cell?, e2]
    simp [Array.getElem?_setIfInBounds, q1]
theorem needs308_1 (W : World) : Calls Tryz.prog 320 #[.agg #[.int .i64 1, .bool true], .int .i64 1] W fun e w' => ∃ g, e = .returned (.tuple #[.slice (some ⟨g, 0, none⟩) 1 1, .int .i64 (-9223372036854775808)]) ∧ Gr W w' ∧ W.heap.size ≤ g ∧ w'.cell? ⟨g, 0, none⟩ = some (.int .i64 1) := by
  obtain ⟨A, hA⟩ : ∃ A, W.alloc (.cells #[.int .i64 1, .bool true] 236) = A := ⟨_, rfl⟩
  have gA : Gr W A := by rw [← hA]; exact gr_alloc W _
  have hb : A.heap[W.heap.size]? = some (.cells #[.int .i64 1, .bool true] 236) := by rw [← hA]; exact heap_alloc_new W _
  obtain ⟨e0, e1⟩ := cell2 hb
  have HG := hidM gA
  clear gA hb
  go_enter Tryz.func320, Tryz.ntmps320
  go_wp2_with fail
  go_ret2
  exact ⟨_, rfl, HG.out.alloc _, HG.out.size, cell1 (heap_alloc_new A _)⟩
theorem needs308_2 (W : World) : Calls Tryz.prog 320 #[.agg #[.int .i64 1, .bool true], .int .i64 2] W fun e w' => ∃ g, e = .returned (.tuple #[.slice (some ⟨g, 0, none⟩) 1 1, .int .i64 (-9223372036854775808)]) ∧ Gr W w' ∧ W.heap.size ≤ g ∧ w'.cell? ⟨g, 0, none⟩ = some (.int .i64 2) := by
  obtain ⟨A, hA⟩ : ∃ A, W.alloc (.cells #[.int .i64 1, .bool true] 236) = A := ⟨_, rfl⟩
  have gA : Gr W A := by rw [← hA]; exact gr_alloc W _
  have hb : A.heap[W.heap.size]? = some (.cells #[.int .i64 1, .bool true] 236) := by rw [← hA]; exact heap_alloc_new W _
  obtain ⟨e0, e1⟩ := cell2 hb
  have HG := hidM gA
  clear gA hb
  go_enter Tryz.func320, Tryz.ntmps320
  go_wp2_with fail
  go_ret2
  exact ⟨_, rfl, HG.out.alloc _, HG.out.size, cell1 (heap_alloc_new A _)⟩
theorem wrong266 (l : Value) (q : Value) (W : World) : Calls Tryz.prog 278 #[.agg #[], l, q] W fun e w' => e = .returned (.tuple #[.int .i64 0, .int .i64 0]) ∧ Gr W w' := by
  go_enter Tryz.func278, Tryz.ntmps278
  go_wp2_with fail
  go_ret2
  exact ⟨rfl, gr_alloc _ _⟩
theorem wrong267 (l : Value) (q : Value) (W : World) : Calls Tryz.prog 279 #[.agg #[], l, q] W fun e w' => e = .returned (.tuple #[.int .i64 0, .int .i64 0]) ∧ Gr W w' := by
  go_enter Tryz.func279, Tryz.ntmps279
  go_wp2_with fail
  go_ret2
  exact ⟨rfl, gr_alloc _ _⟩
theorem weight310 (l q v : Value) (r : Int) (W : World) : Calls Tryz.prog 322 #[.agg #[.int .i64 1, .bool true], l, q, .int .i64 r, v] W fun e w' => e = .returned (.int .i64 16) ∧ Gr W w' := by
  go_enter Tryz.func322, Tryz.ntmps322
  go_wp2_with fail
  go_ret
  exact ⟨rfl, gr_alloc _ _⟩
theorem sum72_2 (z : Nat) (c : Nat) (W : World) (h0 : W.cell? ⟨z, 0, none⟩ = some (.int .i64 16)) (h1 : W.cell? ⟨z, 1, none⟩ = some (.int .i64 16)) : Calls Tryz.prog 85 #[.slice (some ⟨z, 0, none⟩) 2 c] W fun e w' => e = .returned (.int .i64 32) ∧ w' = W := by
  have H : Hid (∀ k, k < 2 → W.cell? ⟨z, k, none⟩ = some (.int .i64 16)) := fun k hk => by
    have : k = 0 ∨ k = 1 := by omega
    rcases this with rfl | rfl
    · exact h0
    · exact h1
  clear h0 h1
  go_enter Tryz.func85, Tryz.ntmps85
  go_wp2_with fail
  go_loopw [8, 3] (fun i s wr => ∃ k : Nat, k ≤ 2 ∧ i = .int .i64 k ∧ s = .int .i64 ((16 * k : Nat) : Int) ∧ wr = W) (fun i _ _ => 2 - (intOf i).toNat)
  case atStart => exact ⟨0, by omega, rfl, rfl, rfl⟩
  case round =>
    obtain ⟨k, hk, rfl, rfl, rfl⟩ := hrel
    by_cases hlt : k < 2
    · have c1 := H.out k hlt
      have w1 : IntKind.i64.wrap (((16 * k : Nat) : Int) + 16) = ((16 * (k + 1) : Nat) : Int) := by rw [IntKind.wrap_i64]; omega
      generalize ((16 * k : Nat) : Int) = y at w1 ⊢
      go_wp2_with fail
      go_roundw
      case rel => exact ⟨k + 1, by omega, by go_num, by first | rfl | rw [w1], trivial⟩
      case measure => simp [intOf]; omega
    · obtain rfl : k = 2 := by omega
      go_wp2_with fail
      go_ret
      exact ⟨rfl, rfl⟩
theorem sum72_1 (z : Nat) (c : Nat) (W : World) (h0 : W.cell? ⟨z, 0, none⟩ = some (.int .i64 16)) : Calls Tryz.prog 85 #[.slice (some ⟨z, 0, none⟩) 1 c] W fun e w' => e = .returned (.int .i64 16) ∧ w' = W := by
  have H : Hid (∀ k, k < 1 → W.cell? ⟨z, k, none⟩ = some (.int .i64 16)) := fun k hk => by
    have : k = 0 := by omega
    subst this
    exact h0
  clear h0
  go_enter Tryz.func85, Tryz.ntmps85
  go_wp2_with fail
  go_loopw [8, 3] (fun i s wr => ∃ k : Nat, k ≤ 1 ∧ i = .int .i64 k ∧ s = .int .i64 ((16 * k : Nat) : Int) ∧ wr = W) (fun i _ _ => 1 - (intOf i).toNat)
  case atStart => exact ⟨0, by omega, rfl, rfl, rfl⟩
  case round =>
    obtain ⟨k, hk, rfl, rfl, rfl⟩ := hrel
    by_cases hlt : k < 1
    · have c1 := H.out k hlt
      have w1 : IntKind.i64.wrap (((16 * k : Nat) : Int) + 16) = ((16 * (k + 1) : Nat) : Int) := by rw [IntKind.wrap_i64]; omega
      generalize ((16 * k : Nat) : Int) = y at w1 ⊢
      go_wp2_with fail
      go_roundw
      case rel => exact ⟨k + 1, by omega, by go_num, by first | rfl | rw [w1], trivial⟩
      case measure => simp [intOf]; omega
    · obtain rfl : k = 1 := by omega
      go_wp2_with fail
      go_ret
      exact ⟨rfl, rfl⟩
end Go.Proofs.YtegjpmodleigeaaGreatDoor.Kit
