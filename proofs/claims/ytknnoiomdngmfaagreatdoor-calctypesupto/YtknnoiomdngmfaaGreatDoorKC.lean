import Derived.Test.YtknnoiomdngmfaaGreatDoorKA
import Derived.Test.YtknnoiomdngmfaaGreatDoorLQ
set_option maxRecDepth 100000
set_option maxHeartbeats 4000000
namespace Go.Proofs.YtknnoiomdngmfaaGreatDoor.Kit
open Go.RowKit Go.Shelf Go.Deep
open Go.Proofs.YtknnoiomdngmfaaGreatDoor.Ink (OwnRow)
set_option linter.unusedVariables false
set_option linter.unusedSimpArgs false
attribute [local go_sem] run_store_func
theorem eqF211 (W : World) : Calls Tryz.prog 110 #[.slice none 0 0, .slice none 0 0, .func (.func 111) #[] #[]] W fun e w' => e = .returned (.bool true) ∧ w' = W := by
  go_enter Tryz.func110, Tryz.ntmps110
  go_wp2_with fail
  go_loopw [17] (fun i wr => i = .int .i64 0 ∧ wr = W) (fun i _ => 0)
  case atStart => exact ⟨rfl, rfl⟩
  case round =>
    obtain ⟨rfl, rfl⟩ := hrel
    go_wp2_with fail
    go_ret
    exact ⟨rfl, rfl⟩
theorem same128 (W : World) : Calls Tryz.prog 75 #[.agg tyC, .agg tyC] W fun e w' => e = .returned (.bool true) ∧ Gr W w' := by
  obtain ⟨A0, hA0⟩ := ex (W.alloc (.cells tyC 24))
  have g0 := gr_al hA0
  have b0 : A0.heap[W.heap.size]? = some (.cells tyC 24) := by rw [← hA0]; exact heap_alloc_new W _
  obtain ⟨A, hA⟩ := ex (A0.alloc (.cells tyC 24))
  have g1 := gr_al hA
  have b1 : A.heap[A0.heap.size]? = some (.cells tyC 24) := by rw [← hA]; exact heap_alloc_new A0 _
  have b0' := (g1.block _ (lt_of_heap b0) id).trans b0
  have gA : Gr W A := g0.tr g1
  obtain ⟨a0, a1, a2, a3, a4⟩ := cell5 b0'
  obtain ⟨c0, c1, c2, c3, c4⟩ := cell5 b1
  have HG := hidM gA
  clear g0 b0 g1 b1 b0' gA
  unfold tyC at hA hA0 ⊢
  go_enter Tryz.func75, Tryz.ntmps75
  go_wp2_with (go_at_call 110; refine (eqF211 _).mono ?_; rintro e w1 ⟨rfl, rfl⟩)
  go_ret
  exact ⟨rfl, HG.out⟩
theorem alike78 (W : World) (hT : Tab W) : Calls Tryz.prog 48 #[.agg tyC, .agg tyC] W fun e w' => e = .returned (.bool true) ∧ Gr W w' := by
  obtain ⟨A0, hA0⟩ := ex (W.alloc (.cells tyC 24))
  have g0 := gr_al hA0
  have b0 : A0.heap[W.heap.size]? = some (.cells tyC 24) := by rw [← hA0]; exact heap_alloc_new W _
  obtain ⟨A, hA⟩ := ex (A0.alloc (.cells tyC 24))
  have g1 := gr_al hA
  have b1 : A.heap[A0.heap.size]? = some (.cells tyC 24) := by rw [← hA]; exact heap_alloc_new A0 _
  have b0' := (g1.block _ (lt_of_heap b0) id).trans b0
  have gA : Gr W A := g0.tr g1
  have HS : Hid (∀ u, Gr A u → u.heap[W.heap.size]? = some (.cells tyC 24) ∧ u.heap[A0.heap.size]? = some (.cells tyC 24)) := fun u g => ⟨(g.block _ (lt_of_heap b0') id).trans b0', (g.block _ (lt_of_heap b1) id).trans b1⟩
  obtain ⟨a0, a1, a2, a3, a4⟩ := cell5 b0'
  have HC1 : Hid (∀ u, Gr A u → Calls Tryz.prog 74 #[.agg #[.int .i64 3, .int .i64 0, .int .i64 0, .int .i64 0, .slice none 0 0]] u fun e w' => e = .returned (.bool true) ∧ Gr u w') := fun u g => typeMayBe83 none 0 u ((hT.gr gA).gr g)
  have HC2 : Hid (∀ u, Calls Tryz.prog 75 #[.agg #[.int .i64 3, .int .i64 0, .int .i64 0, .int .i64 0, .slice none 0 0], .agg #[.int .i64 3, .int .i64 0, .int .i64 0, .int .i64 0, .slice none 0 0]] u fun e w' => e = .returned (.bool true) ∧ Gr u w') := same128
  have HG := hidM gA
  have HR : Hid (Gr A A) := Keeps.refl _ _
  clear g0 b0 g1 b1 b0' gA hT
  unfold tyC at hA hA0 ⊢
  go_enter Tryz.func48, Tryz.ntmps48
  go_wp2_with (first
    | (go_at_call 74; refine (HC1.out _ HR.out).mono ?_; rintro e w1 ⟨rfl, g1⟩; replace HR := hidM (HR.out.tr g1); clear g1 ; try clear a0 a1 a2 a3 a4; obtain ⟨p0, p1⟩ := HS.out _ HR.out; obtain ⟨a0, a1, a2, a3, a4⟩ := cell5 p0; obtain ⟨c0, c1, c2, c3, c4⟩ := cell5 p1; clear p0 p1)
    | (go_at_call 75; refine (HC2.out _).mono ?_; rintro e w2 ⟨rfl, g2⟩; have HE := hidM (HR.out.tr g2); clear g2))
  go_ret
  exact ⟨rfl, HG.out.tr HE.out⟩
def ty2 : Array Value := #[.int .i64 3, .int .i64 0, .int .i64 0, .int .i64 0, .slice none 0 0, .int .i64 3, .int .i64 0, .int .i64 0, .int .i64 0, .slice none 0 0]
theorem cellT10 {W : World} {g t : Nat} {a0 a1 a2 a3 a4 b0 b1 b2 b3 b4 : Value} (h : W.heap[g]? = some (.cells #[a0, a1, a2, a3, a4, b0, b1, b2, b3, b4] t)) : (W.cell? ⟨g, 0, none⟩ = some a0 ∧ W.cell? ⟨g, 1, none⟩ = some a1 ∧ W.cell? ⟨g, 2, none⟩ = some a2 ∧ W.cell? ⟨g, 3, none⟩ = some a3 ∧ W.cell? ⟨g, 4, none⟩ = some a4) ∧ (W.cell? ⟨g, 5, none⟩ = some b0 ∧ W.cell? ⟨g, 6, none⟩ = some b1 ∧ W.cell? ⟨g, 7, none⟩ = some b2 ∧ W.cell? ⟨g, 8, none⟩ = some b3 ∧ W.cell? ⟨g, 9, none⟩ = some b4) := by
  simp [World.cell?, h]
theorem alike77 (bx tb c : Nat) (W : World) (hT : Tab W) (hx : W.heap[bx]? = some (.cells #[.slice (some ⟨tb, 0, none⟩) 2 c] 38)) (ht : W.heap[tb]? = some (.cells ty2 24)) : Calls Tryz.prog 47 #[.agg tyC, .pointer (some ⟨bx, 0, none⟩)] W fun e w' => e = .returned (.bool false) ∧ Gr W w' := by
  obtain ⟨A, hA⟩ := ex (W.alloc (.cells tyC 24))
  have gA := gr_al hA
  have hb : A.heap[W.heap.size]? = some (.cells tyC 24) := by rw [← hA]; exact heap_alloc_new W _
  have hS : ∀ u, Gr A u → u.cell? ⟨bx, 0, none⟩ = some (.slice (some ⟨tb, 0, none⟩) 2 c) ∧ u.cell? ⟨tb, 0, none⟩ = some (.int .i64 3) ∧ u.cell? ⟨tb, 1, none⟩ = some (.int .i64 0) ∧ u.cell? ⟨tb, 2, none⟩ = some (.int .i64 0) ∧ u.cell? ⟨tb, 3, none⟩ = some (.int .i64 0) ∧ u.cell? ⟨tb, 4, none⟩ = some (.slice none 0 0) ∧ u.cell? ⟨W.heap.size, 0, none⟩ = some (.int .i64 3) ∧ u.cell? ⟨W.heap.size, 1, none⟩ = some (.int .i64 0) ∧ u.cell? ⟨W.heap.size, 2, none⟩ = some (.int .i64 0) ∧ u.cell? ⟨W.heap.size, 3, none⟩ = some (.int .i64 0) ∧ u.cell? ⟨W.heap.size, 4, none⟩ = some (.slice none 0 0) := fun u g => by
    have gW := gA.tr g
    have x0 := cell1 ((gW.block _ (lt_of_heap hx) id).trans hx)
    obtain ⟨⟨a0, a1, a2, a3, a4⟩, -⟩ := cellT10 ((gW.block _ (lt_of_heap ht) id).trans ht)
    obtain ⟨c0, c1, c2, c3, c4⟩ := cell5 ((g.block _ (lt_of_heap hb) id).trans hb)
    exact ⟨x0, a0, a1, a2, a3, a4, c0, c1, c2, c3, c4⟩
  have HS0 := hidM (hS A.drew gr_drew)
  have HSS := hidM hS
  have HC : Hid (Calls Tryz.prog 48 #[.agg #[.int .i64 3, .int .i64 0, .int .i64 0, .int .i64 0, .slice none 0 0], .agg #[.int .i64 3, .int .i64 0, .int .i64 0, .int .i64 0, .slice none 0 0]] A.drew fun e w' => e = .returned (.bool true) ∧ Gr A.drew w') := alike78 A.drew (hT.gr gA.drew)
  have HG := hidM gA
  clear gA hb hS hT hx ht
  unfold tyC at hA ⊢
  go_enter Tryz.func47, Tryz.ntmps47
  go_wp2_with fail
  clear hA
  go_region_held3 (fun u => u.cell? ⟨bx, 0, none⟩ = some (.slice (some ⟨tb, 0, none⟩) 2 c) ∧ u.cell? ⟨tb, 0, none⟩ = some (.int .i64 3) ∧ u.cell? ⟨tb, 1, none⟩ = some (.int .i64 0) ∧ u.cell? ⟨tb, 2, none⟩ = some (.int .i64 0) ∧ u.cell? ⟨tb, 3, none⟩ = some (.int .i64 0) ∧ u.cell? ⟨tb, 4, none⟩ = some (.slice none 0 0) ∧ u.cell? ⟨W.heap.size, 0, none⟩ = some (.int .i64 3) ∧ u.cell? ⟨W.heap.size, 1, none⟩ = some (.int .i64 0) ∧ u.cell? ⟨W.heap.size, 2, none⟩ = some (.int .i64 0) ∧ u.cell? ⟨W.heap.size, 3, none⟩ = some (.int .i64 0) ∧ u.cell? ⟨W.heap.size, 4, none⟩ = some (.slice none 0 0)) (first | with_reducible exact HS0.out | with_reducible exact HS1.out) ((go_at_call 48; refine HC.out.mono ?_; rintro e w1 ⟨rfl, g1⟩; have HG1 : Hid (Gr A w1) := Keeps.trans gr_drew g1 (fun _ _ h => h); have HS1 := hidM (HSS.out w1 HG1.out); clear g1))
  go_wp2_with fail
  go_ret
  exact ⟨rfl, HG.out.tr HG1.out⟩
theorem idx126 (bx tb c c' : Nat) (W : World) (hT : Tab W) (hx : W.heap[bx]? = some (.cells #[.slice (some ⟨tb, 0, none⟩) 2 c] 38)) (ht : W.heap[tb]? = some (.cells ty2 24)) : Calls Tryz.prog 73 #[.slice (some ⟨tb, 5, none⟩) 1 c', .func (.func 47) #[] #[.pointer (some ⟨bx, 0, none⟩)]] W fun e w' => e = .returned (.int .i64 (-1)) ∧ Gr W w' := by
  have HB : Hid (∀ u, Gr W u → u.heap[tb]? = some (.cells ty2 24)) := fun u g => (g.block tb (lt_of_heap ht) id).trans ht
  have HC : Hid (∀ u, Gr W u → Calls Tryz.prog 47 #[.agg #[.int .i64 3, .int .i64 0, .int .i64 0, .int .i64 0, .slice none 0 0], .pointer (some ⟨bx, 0, none⟩)] u fun e w' => e = .returned (.bool false) ∧ Gr u w') := fun u g => alike77 bx tb c u (hT.gr g) ((g.block bx (lt_of_heap hx) id).trans hx) ((g.block tb (lt_of_heap ht) id).trans ht)
  clear hx ht hT
  go_enter Tryz.func73, Tryz.ntmps73
  go_wp2_with fail
  go_loopw [8] (fun i wr => ∃ k : Nat, k ≤ 1 ∧ i = .int .i64 k ∧ Hid (Gr W wr)) (fun i _ => 1 - (intOf i).toNat)
  case atStart => exact ⟨0, by omega, rfl, Keeps.refl _ _⟩
  case round =>
    obtain ⟨k, hk, rfl, HI⟩ := hrel
    have hk3 : k = 0 ∨ k = 1 := by omega
    rcases hk3 with rfl | rfl
    · obtain ⟨-, a0, a1, a2, a3, a4⟩ := cellT10 (HB.out wr HI.out)
      go_wp2_with (go_at_call 47; refine (HC.out wr HI.out).mono ?_; rintro e w2 ⟨rfl, g2⟩; have HI2 := hidM (HI.out.tr g2); clear g2)
      go_roundw
      case rel => exact ⟨1, by omega, by go_num, HI2⟩
      case measure => simp [intOf]
    go_wp2_with fail
    go_ret
    exact ⟨rfl, HI.out⟩
theorem has76 (bx tb c c' : Nat) (W : World) (hT : Tab W) (hx : W.heap[bx]? = some (.cells #[.slice (some ⟨tb, 0, none⟩) 2 c] 38)) (ht : W.heap[tb]? = some (.cells ty2 24)) : Calls Tryz.prog 46 #[.slice (some ⟨tb, 5, none⟩) 1 c', .func (.func 47) #[] #[.pointer (some ⟨bx, 0, none⟩)]] W fun e w' => e = .returned (.bool false) ∧ Gr W w' := by
  have HC := hidM (idx126 bx tb c c' W hT hx ht)
  clear hx ht hT
  go_enter Tryz.func46, Tryz.ntmps46
  go_wp2_with (go_at_call 73; refine HC.out.mono ?_; rintro e w2 ⟨rfl, g2⟩; have HI2 := hidM g2; clear g2)
  go_ret
  exact ⟨rfl, HI2.out⟩
theorem areAlike42 (tb : Nat) (W : World) (hT : Tab W) (ht : W.heap[tb]? = some (.cells ty2 24)) : Calls Tryz.prog 27 #[.slice (some ⟨tb, 0, none⟩) 2 2] W fun e w' => e = .returned (.bool true) ∧ Gr W w' := by
  have hmf : ∀ (fn : Fn) (first cap : Array Value) (w : World), (Instr.makeFunc fn first cap).run Tryz.prog w = .ok (.func fn first cap) w := fun _ _ _ _ => rfl
  obtain ⟨A, hA⟩ := ex (W.alloc (.cells #[.slice (some ⟨tb, 0, none⟩) 2 2] 38))
  have gA := gr_al hA
  have hb : A.heap[W.heap.size]? = some (.cells #[.slice (some ⟨tb, 0, none⟩) 2 2] 38) := by rw [← hA]; exact heap_alloc_new W _
  have c0 := cell1 hb
  have HC : Hid (∀ c', Calls Tryz.prog 46 #[.slice (some ⟨tb, 5, none⟩) 1 c', .func (.func 47) #[] #[.pointer (some ⟨W.heap.size, 0, none⟩)]] A fun e w' => e = .returned (.bool false) ∧ Gr A w') := fun c' => has76 W.heap.size tb 2 c' A (hT.gr gA) hb ((gA.block tb (lt_of_heap ht) id).trans ht)
  have HG := hidM gA
  clear gA hb hT ht
  go_enter Tryz.func27, Tryz.ntmps27
  go_wp2_with (go_at_call 46; refine (HC.out _).mono ?_; rintro e w2 ⟨rfl, g2⟩; have HI2 := hidM (HG.out.tr g2); clear g2)
  go_ret
  exact ⟨rfl, HI2.out⟩
theorem results_cell25 {fn : Func} {t : Tmp} {tmps : Array Value} {g : Nat} {cs : Array Value} {w : World} (h : fn.results = #[.cell t 24]) (ht : tmps.getD t undef = .pointer (some ⟨g, 0, none⟩)) (hg : w.heap[g]? = some (.cells cs 24 (0, 0))) (hi : (Tryz.prog.info? 24).map (·.size) = some cs.size) :
    (results fn tmps).run Tryz.prog w = .ok (.agg cs) w := by
  have hl := run_loadVar_row (P := Tryz.prog) w g 24 24 cs (0, 0) _ hg Tryz.underlying24 rfl hi
  unfold results
  rw [h]
  simp only [Array.mapM_eq_mapM_toList, List.mapM_cons, List.mapM_nil, ht]
  simp [asAddr, hl]
def tyU (w : World) (b : Nat) : World := setAll w b [(0, .int .i64 3), (1, .int .i64 0), (2, .int .i64 0), (3, .int .i64 0), (4, .slice none 0 0)]
def tyZ : Array Value := #[.int .i64 0, .int .i64 0, .int .i64 0, .int .i64 0, .slice none 0 0]
theorem ty_blk {w : World} {b : Nat} (h : w.heap[b]? = some (.cells tyZ 24)) : (tyU w b).heap[b]? = some (.cells tyC 24) := by
  unfold tyU
  rw [setAll_blk b 24 _ _ _ h]
  simp [setsA, tyZ, tyC]
theorem plain10 (W : World) : Calls Tryz.prog 30 #[.agg fdC] W fun e w' => e = .returned (.agg tyC) ∧ Gr W w' := by
  obtain ⟨A0, hA0⟩ := ex (W.alloc (.cells fdC 26))
  have g0 := gr_al hA0
  have b0 : A0.heap[W.heap.size]? = some (.cells fdC 26) := by rw [← hA0]; exact heap_alloc_new W _
  obtain ⟨A, hA⟩ := ex (A0.alloc (.cells tyZ 24))
  have g1 := gr_al hA
  have b1 : A.heap[A0.heap.size]? = some (.cells tyZ 24) := by rw [← hA]; exact heap_alloc_new A0 _
  have b0' := (g1.block _ (lt_of_heap b0) id).trans b0
  have gA : Gr W A := g0.tr g1
  obtain ⟨a0, a1, a2, a3, a4, a5, a6⟩ := cell7 b0'
  obtain ⟨c0, c1, c2, c3, c4⟩ := cell5 b1
  obtain ⟨x0, x1, x2, x3, x4⟩ := frz5 b1
  obtain ⟨U, hU⟩ := ex (tyU A A0.heap.size)
  have HUB := hidM (ty_blk b1)
  have HUG : Hid (Gr W (tyU A A0.heap.size)) := gA.trans (setAll_kp _ _ _) (fun j hj (e : j = A0.heap.size) => by have := g0.size; omega)
  rw [hU] at HUB HUG
  simp only [tyU, setAll] at hU
  clear g0 b0 g1 b1 b0' gA
  unfold fdC at hA0 ⊢
  unfold tyZ at hA
  go_enter Tryz.func30, Tryz.ntmps30
  go_wp2_with fail
  go_loopw [3] (fun i wr => wr = A) (fun i _ => 0)
  case atStart => exact rfl
  case round =>
    obtain rfl := hrel
    go_wp2_with fail
    (try simp only [Exit.inBlock, Exit.then])
    refine bodyPost_ret (results_cell25 rfl rfl (by with_reducible exact HUB.out) (by kernel_rfl)) rfl ?_
    exact ⟨rfl, HUG.out⟩
theorem mk58 (w : World) : (Instr.makeSlice 38 (.int .i64 2) (.int .i64 2)).run Tryz.prog w = .ok (.slice (some ⟨w.heap.size, 0, none⟩) 2 2) (w.alloc (.cells #[.int .i64 0, .int .i64 0, .int .i64 0, .int .i64 0, .slice none 0 0, .int .i64 0, .int .i64 0, .int .i64 0, .int .i64 0, .slice none 0 0] 24)) := by kernel_rfl
def fdZ : Array Value := #[.string ⟨#[]⟩, .bool false, .int .i64 0, .int .i64 0, .int .i64 0, .int .i64 0, .slice none 0 0]
def fdU (w : World) (b : Nat) : World := setAll w b [(0, .string nmA), (1, .bool false), (2, .int .i64 3), (3, .int .i64 0), (4, .int .i64 0), (5, .int .i64 0), (6, .slice none 0 0)]
theorem fd_blk {w : World} {b : Nat} (h : w.heap[b]? = some (.cells fdZ 26)) : (fdU w b).heap[b]? = some (.cells fdC 26) := by
  unfold fdU
  rw [setAll_blk b 26 _ _ _ h]
  simp [setsA, fdZ, fdC]
def tyK (k : Nat) : Array Value := if k = 0 then #[.int .i64 0, .int .i64 0, .int .i64 0, .int .i64 0, .slice none 0 0, .int .i64 0, .int .i64 0, .int .i64 0, .int .i64 0, .slice none 0 0] else if k = 1 then #[.int .i64 3, .int .i64 0, .int .i64 0, .int .i64 0, .slice none 0 0, .int .i64 0, .int .i64 0, .int .i64 0, .int .i64 0, .slice none 0 0] else ty2
def t5U0 (w : World) (b : Nat) : World := setAll w b [(0, .int .i64 3), (1, .int .i64 0), (2, .int .i64 0), (3, .int .i64 0), (4, .slice none 0 0)]
def t5U1 (w : World) (b : Nat) : World := setAll w b [(5, .int .i64 3), (6, .int .i64 0), (7, .int .i64 0), (8, .int .i64 0), (9, .slice none 0 0)]
theorem t5_0 {w : World} {b : Nat} (h : w.heap[b]? = some (.cells (tyK 0) 24)) : (t5U0 w b).heap[b]? = some (.cells (tyK 1) 24) := by
  unfold t5U0
  rw [setAll_blk b 24 _ _ _ h]
  simp [setsA, tyK]
theorem t5_1 {w : World} {b : Nat} (h : w.heap[b]? = some (.cells (tyK 1) 24)) : (t5U1 w b).heap[b]? = some (.cells (tyK 2) 24) := by
  unfold t5U1
  rw [setAll_blk b 24 _ _ _ h]
  simp [setsA, tyK, ty2]
def PtI (W : World) (z k : Nat) (wr : World) : Prop := Keeps W wr (fun b => b = z) ∧ wr.heap[z]? = some (.cells (tyK k) 24)
theorem types18 (b c : Nat) (W : World) (hb : W.heap[b]? = some (.cells fd2 26)) : Calls Tryz.prog 12 #[.slice (some ⟨b, 0, none⟩) 2 c] W fun e w' => ∃ z, e = .returned (.slice (some ⟨z, 0, none⟩) 2 2) ∧ Gr W w' ∧ W.heap.size ≤ z ∧ w'.heap[z]? = some (.cells ty2 24) := by
  obtain ⟨z, hz⟩ := ex (W.heap.size)
  obtain ⟨A, hA⟩ := ex (W.alloc (.cells (tyK 0) 24))
  have gA := gr_al hA
  have hbA : A.heap[z]? = some (.cells (tyK 0) 24) := by rw [← hA, ← hz]; exact heap_alloc_new W _
  have nb : b ≠ z := by have := lt_of_heap hb; omega
  have HI0 : Hid (PtI W z 0 A) := ⟨gA.mono fun _ _ h => h.elim, hbA⟩
  have HB : Hid (∀ u, Keeps W u (fun b => b = z) → u.heap[b]? = some (.cells fd2 26)) := fun u g => (g.block b (lt_of_heap hb) nb).trans hb
  have HC : Hid (∀ u, Calls Tryz.prog 30 #[.agg #[.string nmA, .bool false, .int .i64 3, .int .i64 0, .int .i64 0, .int .i64 0, .slice none 0 0]] u fun e w' => e = .returned (.agg #[.int .i64 3, .int .i64 0, .int .i64 0, .int .i64 0, .slice none 0 0]) ∧ Gr u w') := plain10
  have HZ := hidM hz
  have hmk := mk58
  clear gA hbA nb hb
  simp only [tyK, if_pos] at hA
  go_enter Tryz.func12, Tryz.ntmps12
  go_wp2_with fail
  clear hA hz
  go_loopw [11] (fun i wr => ∃ k : Nat, k ≤ 2 ∧ i = .int .i64 k ∧ Hid (PtI W z k wr)) (fun i _ => 2 - (intOf i).toNat)
  case atStart => exact ⟨0, by omega, rfl, HI0⟩
  case round =>
    clear HI0 hmk
    obtain ⟨k, hk, rfl, HI⟩ := hrel
    have hk3 : k = 0 ∨ k = 1 ∨ k = 2 := by omega
    rcases hk3 with rfl | rfl | rfl
    · obtain ⟨⟨a0, a1, a2, a3, a4, a5, a6⟩, -⟩ := cell14 (HB.out wr HI.out.1)
      obtain ⟨A2, hA2⟩ := ex (wr.alloc (.cells fdZ 26))
      have g2 := gr_al hA2
      have b2 := al_new hA2
      obtain ⟨y0, y1, y2, y3, y4, y5, y6⟩ := cell7 b2
      obtain ⟨z0, z1, z2, z3, z4, z5, z6⟩ := frz7 b2
      have hV0 := fd_blk b2
      have gV0 : Gr wr (fdU A2 wr.heap.size) := g2.trans (setAll_kp _ _ _) (fun j hj (e : j = wr.heap.size) => by omega)
      obtain ⟨V, hV⟩ := ex (fdU A2 wr.heap.size)
      rw [hV] at hV0 gV0
      simp only [fdU, setAll] at hV
      obtain ⟨v0, v1, v2, v3, v4, v5, v6⟩ := cell7 hV0
      have HT : Hid (∀ w2, Gr V w2 → w2.heap[z]? = some (.cells (tyK 0) 24) ∧ PtI W z 1 (t5U0 w2 z)) := fun w2 g => by
        have gw := gV0.tr g
        have hz2 := (gw.block z (lt_of_heap HI.out.2) id).trans HI.out.2
        exact ⟨hz2, (HI.out.1.tr (gw.mono fun _ _ h => h.elim)).tr (setAll_kp _ _ _), t5_0 hz2⟩
      unfold fdZ at hA2
      clear g2 b2 hV0 gV0 HI
      go_wp2_with (go_at_call 30; refine (HC.out _).mono ?_; rintro e w2 ⟨rfl, g3⟩; obtain ⟨hz2, hp⟩ := HT.out w2 g3; clear g3 v0 v1 v2 v3 v4 v5 v6 y0 y1 y2 y3 y4 y5 y6 z0 z1 z2 z3 z4 z5 z6 hV hA2; obtain ⟨⟨c0, c1, c2, c3, c4⟩, -⟩ := cellT10 hz2; obtain ⟨x0, x1, x2, x3, x4⟩ := frz5 hz2; obtain ⟨U, hU⟩ := ex (t5U0 w2 z); rw [hU] at hp; simp only [t5U0, setAll] at hU; have HP := hidM hp; clear hp hz2)
      go_roundw
      case rel => exact ⟨1, by omega, by go_num, HP⟩
      case measure => simp [intOf]
    · obtain ⟨-, a0, a1, a2, a3, a4, a5, a6⟩ := cell14 (HB.out wr HI.out.1)
      obtain ⟨A2, hA2⟩ := ex (wr.alloc (.cells fdZ 26))
      have g2 := gr_al hA2
      have b2 := al_new hA2
      obtain ⟨y0, y1, y2, y3, y4, y5, y6⟩ := cell7 b2
      obtain ⟨z0, z1, z2, z3, z4, z5, z6⟩ := frz7 b2
      have hV0 := fd_blk b2
      have gV0 : Gr wr (fdU A2 wr.heap.size) := g2.trans (setAll_kp _ _ _) (fun j hj (e : j = wr.heap.size) => by omega)
      obtain ⟨V, hV⟩ := ex (fdU A2 wr.heap.size)
      rw [hV] at hV0 gV0
      simp only [fdU, setAll] at hV
      obtain ⟨v0, v1, v2, v3, v4, v5, v6⟩ := cell7 hV0
      have HT : Hid (∀ w2, Gr V w2 → w2.heap[z]? = some (.cells (tyK 1) 24) ∧ PtI W z 2 (t5U1 w2 z)) := fun w2 g => by
        have gw := gV0.tr g
        have hz2 := (gw.block z (lt_of_heap HI.out.2) id).trans HI.out.2
        exact ⟨hz2, (HI.out.1.tr (gw.mono fun _ _ h => h.elim)).tr (setAll_kp _ _ _), t5_1 hz2⟩
      unfold fdZ at hA2
      clear g2 b2 hV0 gV0 HI
      go_wp2_with (go_at_call 30; refine (HC.out _).mono ?_; rintro e w2 ⟨rfl, g3⟩; obtain ⟨hz2, hp⟩ := HT.out w2 g3; clear g3 v0 v1 v2 v3 v4 v5 v6 y0 y1 y2 y3 y4 y5 y6 z0 z1 z2 z3 z4 z5 z6 hV hA2; obtain ⟨-, c0, c1, c2, c3, c4⟩ := cellT10 hz2; have x0 := frz hz2 5; have x1 := frz hz2 6; have x2 := frz hz2 7; have x3 := frz hz2 8; have x4 := frz hz2 9; obtain ⟨U, hU⟩ := ex (t5U1 w2 z); rw [hU] at hp; simp only [t5U1, setAll] at hU; have HP := hidM hp; clear hp hz2)
      go_roundw
      case rel => exact ⟨2, by omega, by go_num, HP⟩
      case measure => simp [intOf]
    have HE : Hid (Gr W wr ∧ W.heap.size ≤ z ∧ wr.heap[z]? = some (.cells ty2 24)) := ⟨HI.out.1.mono fun j hj (e : j = z) => by have := HZ.out; omega, Nat.le_of_eq HZ.out, HI.out.2⟩
    clear HI
    go_wp2_with fail
    go_ret
    exact ⟨z, rfl, HE.out⟩
theorem results_cell25t {fn : Func} {t u : Tmp} {tmps : Array Value} {g : Nat} {cs : Array Value} {w : World} (h : fn.results = #[.cell t 24, .tmp u]) (ht : tmps.getD t undef = .pointer (some ⟨g, 0, none⟩)) (hg : w.heap[g]? = some (.cells cs 24 (0, 0))) (hi : (Tryz.prog.info? 24).map (·.size) = some cs.size) :
    (results fn tmps).run Tryz.prog w = .ok (.tuple #[.agg cs, tmps.getD u undef]) w := by
  have hl := run_loadVar_row (P := Tryz.prog) w g 24 24 cs (0, 0) _ hg Tryz.underlying24 rfl hi
  unfold results
  rw [h]
  simp only [Array.mapM_eq_mapM_toList, List.mapM_cons, List.mapM_nil, ht]
  simp [asAddr, hl]
def t2U (w : World) (b : Nat) : World := setAll w b [(0, .int .i64 2), (1, .int .i64 0), (2, .int .i64 0), (3, .int .i64 0), (4, .slice none 0 0)]
theorem outcome17 (tb : Nat) (W : World) (hT : Tab W) (ht : W.heap[tb]? = some (.cells ty2 24)) : Calls Tryz.prog 11 #[.int .i64 3, .slice (some ⟨tb, 0, none⟩) 2 2] W fun e w' => e = .returned (.tuple #[.agg tyC, .bool true]) ∧ Gr W w' := by
  obtain ⟨A0, hA0⟩ := ex (W.alloc (.cells tyZ 24))
  have g0 := gr_al hA0
  have b0 := al_new hA0
  have z0 : A0.heap.size = W.heap.size + 1 := by rw [← hA0]; simp
  obtain ⟨A1, hA1⟩ := ex (A0.alloc (.cells tyZ 24))
  have g1 := gr_al hA1
  have b1 := al_new hA1
  obtain ⟨y0, y1, y2, y3, y4⟩ := cell5 b1
  obtain ⟨x0, x1, x2, x3, x4⟩ := frz5 b1
  obtain ⟨⟨a0, a1, a2, a3, a4⟩, -⟩ := cellT10 (((g0.tr g1).block tb (lt_of_heap ht) id).trans ht)
  obtain ⟨⟨d0, d1, d2, d3, d4⟩, -⟩ := cellT10 ((g0.block tb (lt_of_heap ht) id).trans ht)
  obtain ⟨V, hV⟩ := ex (t2U A1 A0.heap.size)
  have gV : Gr A0 V := by rw [← hV]; exact g1.trans (setAll_kp _ _ _) (fun j hj (e : j = A0.heap.size) => by omega)
  have gW : Gr W V := g0.tr gV
  have hbV := (gV.block _ (lt_of_heap b0) id).trans b0
  have hS : ∀ u, Gr W u → u.cell? ⟨tb, 0, none⟩ = some (.int .i64 3) ∧ u.cell? ⟨tb, 1, none⟩ = some (.int .i64 0) ∧ u.cell? ⟨tb, 2, none⟩ = some (.int .i64 0) ∧ u.cell? ⟨tb, 3, none⟩ = some (.int .i64 0) ∧ u.cell? ⟨tb, 4, none⟩ = some (.slice none 0 0) := fun u g => (cellT10 ((g.block tb (lt_of_heap ht) id).trans ht)).1
  have HS0 := hidM (hS V.drew gW.drew)
  have HC := hidM (areAlike42 tb V.drew (hT.gr gW.drew) ((gW.drew.block tb (lt_of_heap ht) id).trans ht))
  have HT : Hid (∀ w2, Gr V.drew w2 → (w2.cell? ⟨tb, 0, none⟩ = some (.int .i64 3) ∧ w2.cell? ⟨tb, 1, none⟩ = some (.int .i64 0) ∧ w2.cell? ⟨tb, 2, none⟩ = some (.int .i64 0) ∧ w2.cell? ⟨tb, 3, none⟩ = some (.int .i64 0) ∧ w2.cell? ⟨tb, 4, none⟩ = some (.slice none 0 0)) ∧ w2.heap[W.heap.size]? = some (.cells tyZ 24) ∧ (tyU w2 W.heap.size).heap[W.heap.size]? = some (.cells tyC 24) ∧ Gr W (tyU w2 W.heap.size) ∧ ((tyU w2 W.heap.size).cell? ⟨tb, 0, none⟩ = some (.int .i64 3) ∧ (tyU w2 W.heap.size).cell? ⟨tb, 1, none⟩ = some (.int .i64 0) ∧ (tyU w2 W.heap.size).cell? ⟨tb, 2, none⟩ = some (.int .i64 0) ∧ (tyU w2 W.heap.size).cell? ⟨tb, 3, none⟩ = some (.int .i64 0) ∧ (tyU w2 W.heap.size).cell? ⟨tb, 4, none⟩ = some (.slice none 0 0))) := fun w2 g => by
    have g' := gW.drew.tr g
    have h2 := (g.block _ (lt_of_heap (W := V.drew) hbV) id).trans hbV
    have gU : Gr W (tyU w2 W.heap.size) := g'.trans (setAll_kp _ _ _) (fun j hj (e : j = W.heap.size) => by omega)
    exact ⟨hS w2 g', h2, ty_blk h2, gU, hS _ gU⟩
  clear g0 b0 z0 g1 b1 gV gW hbV hS hT ht
  unfold tyZ at hA0 hA1
  simp only [t2U, setAll] at hV
  go_enter Tryz.func11, Tryz.ntmps11
  go_wp2_with fail
  clear y0 y1 y2 y3 y4 x0 x1 x2 x3 x4 a0 a1 a2 a3 a4 d0 d1 d2 d3 d4 hA0 hA1 hV
  refine wp_region_held_drew (S := fun w' => w'.cell? ⟨tb, 0, none⟩ = some (.int .i64 3) ∧ w'.cell? ⟨tb, 1, none⟩ = some (.int .i64 0) ∧ w'.cell? ⟨tb, 2, none⟩ = some (.int .i64 0) ∧ w'.cell? ⟨tb, 3, none⟩ = some (.int .i64 0) ∧ w'.cell? ⟨tb, 4, none⟩ = some (.slice none 0 0)) (by kernel_rfl) (HS0.out) (fun hHeld => ?_)
  refine tk 0 ?_
  refine tk 1 ?_
  refine tk 2 ?_
  refine tk 3 ?_
  refine rd1 4 fun Kc hK => ?_
  go_simp
  go_at_call 27
  refine Calls.mono (HC.out) ?_
  rintro e' w2 ⟨rfl, g2⟩; obtain ⟨hs2, hz2, hu2, hg2, hsU⟩ := HT.out w2 g2; have HS2 := hidM hs2; have HSU := hidM hsU; have HU2 := hidM hu2; have HG2 := hidM hg2; have HZ2 := hidM hz2; clear g2 hs2 hsU hu2 hg2 hz2
  go_wp2_with fail
  refine hK.out _ _ (HS2.out) (fun hHeld => ?_)
  clear hK Kc
  try simp only [Act.put, lA, lB, lC]
  refine tk 5 ?_
  refine tk 6 ?_
  refine rd1 7 fun Kc hK => ?_
  go_simp
  go_at_call 28
  refine Calls.mono (whole43 _) ?_
  rintro e' w3 ⟨rfl, hw⟩; replace hw := hw.symm; subst hw
  go_wp2_with fail
  refine hK.out _ _ (HS2.out) (fun hHeld => ?_)
  clear hK Kc
  try simp only [Act.put, lA, lB, lC]
  refine tk 8 ?_
  refine sk 9 ?_
  refine sk 10 ?_
  refine tk 11 ?_
  refine tk 12 ?_
  refine rd1 13 fun Kc hK => ?_
  obtain ⟨c0, c1, c2, c3, c4⟩ := cell5 HZ2.out
  obtain ⟨x0, x1, x2, x3, x4⟩ := frz5 HZ2.out
  obtain ⟨U, hU⟩ := ex (tyU w2 W.heap.size)
  rw [hU] at HU2 HG2 HSU
  simp only [tyU, setAll] at hU
  go_simp
  refine hK.out _ _ (HSU.out) (fun hHeld => ?_)
  clear hK Kc
  try simp only [Act.put, lA, lB, lC]
  refine tk 14 ?_
  refine wpAnyH_done (by kernel_rfl) ?_ _
  go_wp2_with fail
  (try simp only [Exit.inBlock, Exit.then])
  refine bodyPost_ret (results_cell25t rfl rfl (by with_reducible exact HU2.out) (by kernel_rfl)) rfl ?_
  exact ⟨rfl, HG2.out⟩
end Go.Proofs.YtknnoiomdngmfaaGreatDoor.Kit
