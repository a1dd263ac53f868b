import Derived.Test.YtcedjdkldiffdaaGreatDoorKA
set_option maxRecDepth 100000
set_option maxHeartbeats 4000000
namespace Go.Proofs.YtcedjdkldiffdaaGreatDoor.Kit
open Go.RowKit Go.Shelf Go.Deep
open Go.Proofs.YtcedjdkldiffdaaGreatDoor.Kd (Ans AnsV cell5 cell2)
open Go.Proofs.YtcedjdkldiffdaaGreatDoor.Ink (OwnRow)
set_option linter.unusedVariables false
set_option linter.unusedSimpArgs false
attribute [local go_sem] run_store_func
theorem eqF211 (W : World) : Calls Tryz.prog 211 #[.slice none 0 0, .slice none 0 0, .func (.func 212) #[] #[]] W fun e w' => e = .returned (.bool true) ∧ w' = W := by
  go_enter Tryz.func211, Tryz.ntmps211
  go_wp2_with fail
  go_loopw [17] (fun i wr => i = .int .i64 0 ∧ wr = W) (fun i _ => 0)
  case atStart => exact ⟨rfl, rfl⟩
  case round =>
    obtain ⟨rfl, rfl⟩ := hrel
    go_wp2_with fail
    go_ret
    exact ⟨rfl, rfl⟩
theorem same128 (W : World) : Calls Tryz.prog 128 #[.agg tyC, .agg tyC] W fun e w' => e = .returned (.bool true) ∧ Gr W w' := by
  obtain ⟨A0, hA0⟩ : ∃ A0, W.alloc (.cells tyC 25) = A0 := ⟨_, rfl⟩
  have g0 : Gr W A0 := by rw [← hA0]; exact gr_alloc W _
  have b0 : A0.heap[W.heap.size]? = some (.cells tyC 25) := by rw [← hA0]; exact heap_alloc_new W _
  obtain ⟨A, hA⟩ : ∃ A, A0.alloc (.cells tyC 25) = A := ⟨_, rfl⟩
  have g1 : Gr A0 A := by rw [← hA]; exact gr_alloc A0 _
  have b1 : A.heap[A0.heap.size]? = some (.cells tyC 25) := by rw [← hA]; exact heap_alloc_new A0 _
  have b0' := (g1.block _ (lt_of_heap b0) id).trans b0
  have gA : Gr W A := g0.trans g1 (fun _ _ h => h)
  obtain ⟨a0, a1, a2, a3, a4⟩ := cell5 b0'
  obtain ⟨c0, c1, c2, c3, c4⟩ := cell5 b1
  have HG := hidM gA
  clear g0 b0 g1 b1 b0' gA
  unfold tyC at hA hA0 ⊢
  go_enter Tryz.func128, Tryz.ntmps128
  go_wp2_with (go_at_call 211; refine (eqF211 _).mono ?_; rintro e w1 ⟨rfl, rfl⟩)
  go_ret
  exact ⟨rfl, HG.out⟩
theorem alike78 (W : World) (hT : Tab W) : Calls Tryz.prog 78 #[.agg tyC, .agg tyC] W fun e w' => e = .returned (.bool true) ∧ Gr W w' := by
  obtain ⟨A0, hA0⟩ : ∃ A0, W.alloc (.cells tyC 25) = A0 := ⟨_, rfl⟩
  have g0 : Gr W A0 := by rw [← hA0]; exact gr_alloc W _
  have b0 : A0.heap[W.heap.size]? = some (.cells tyC 25) := by rw [← hA0]; exact heap_alloc_new W _
  obtain ⟨A, hA⟩ : ∃ A, A0.alloc (.cells tyC 25) = A := ⟨_, rfl⟩
  have g1 : Gr A0 A := by rw [← hA]; exact gr_alloc A0 _
  have b1 : A.heap[A0.heap.size]? = some (.cells tyC 25) := by rw [← hA]; exact heap_alloc_new A0 _
  have b0' := (g1.block _ (lt_of_heap b0) id).trans b0
  have gA : Gr W A := g0.trans g1 (fun _ _ h => h)
  have HS : Hid (∀ u, Gr A u → u.heap[W.heap.size]? = some (.cells tyC 25) ∧ u.heap[A0.heap.size]? = some (.cells tyC 25)) := fun u g => ⟨(g.block _ (lt_of_heap b0') id).trans b0', (g.block _ (lt_of_heap b1) id).trans b1⟩
  obtain ⟨a0, a1, a2, a3, a4⟩ := cell5 b0'
  have HC1 : Hid (∀ u, Gr A u → Calls Tryz.prog 127 #[.agg #[.int .i64 3, .int .i64 0, .int .i64 0, .int .i64 0, .slice none 0 0]] u fun e w' => e = .returned (.bool true) ∧ Gr u w') := fun u g => typeMayBe83 none 0 u ((hT.gr gA).gr g)
  have HC2 : Hid (∀ u, Calls Tryz.prog 128 #[.agg #[.int .i64 3, .int .i64 0, .int .i64 0, .int .i64 0, .slice none 0 0], .agg #[.int .i64 3, .int .i64 0, .int .i64 0, .int .i64 0, .slice none 0 0]] u fun e w' => e = .returned (.bool true) ∧ Gr u w') := same128
  have HG := hidM gA
  have HR : Hid (Gr A A) := Keeps.refl _ _
  clear g0 b0 g1 b1 b0' gA hT
  unfold tyC at hA hA0 ⊢
  go_enter Tryz.func78, Tryz.ntmps78
  go_wp2_with (first
    | (go_at_call 127; refine (HC1.out _ HR.out).mono ?_; rintro e w1 ⟨rfl, g1⟩; replace HR := hidM (HR.out.trans g1 (fun _ _ h => h)); clear g1 ; try clear a0 a1 a2 a3 a4; obtain ⟨p0, p1⟩ := HS.out _ HR.out; obtain ⟨a0, a1, a2, a3, a4⟩ := cell5 p0; obtain ⟨c0, c1, c2, c3, c4⟩ := cell5 p1; clear p0 p1)
    | (go_at_call 128; refine (HC2.out _).mono ?_; rintro e w2 ⟨rfl, g2⟩; have HE := hidM (HR.out.trans g2 (fun _ _ h => h)); clear g2))
  go_ret
  exact ⟨rfl, HG.out.trans HE.out (fun _ _ h => h)⟩
/-- a row of two types of numbers -/
def ty2 : Array Value := #[.int .i64 3, .int .i64 0, .int .i64 0, .int .i64 0, .slice none 0 0, .int .i64 3, .int .i64 0, .int .i64 0, .int .i64 0, .slice none 0 0]
theorem cellT10 {W : World} {g t : Nat} {a0 a1 a2 a3 a4 b0 b1 b2 b3 b4 : Value} (h : W.heap[g]? = some (.cells #[a0, a1, a2, a3, a4, b0, b1, b2, b3, b4] t)) : (W.cell? ⟨g, 0, none⟩ = some a0 ∧ W.cell? ⟨g, 1, none⟩ = some a1 ∧ W.cell? ⟨g, 2, none⟩ = some a2 ∧ W.cell? ⟨g, 3, none⟩ = some a3 ∧ W.cell? ⟨g, 4, none⟩ = some a4) ∧ (W.cell? ⟨g, 5, none⟩ = some b0 ∧ W.cell? ⟨g, 6, none⟩ = some b1 ∧ W.cell? ⟨g, 7, none⟩ = some b2 ∧ W.cell? ⟨g, 8, none⟩ = some b3 ∧ W.cell? ⟨g, 9, none⟩ = some b4) := by
  simp [World.cell?, h]
theorem alike77 (bx tb c : Nat) (W : World) (hT : Tab W) (hx : W.heap[bx]? = some (.cells #[.slice (some ⟨tb, 0, none⟩) 2 c] 58)) (ht : W.heap[tb]? = some (.cells ty2 25)) : Calls Tryz.prog 77 #[.agg tyC, .pointer (some ⟨bx, 0, none⟩)] W fun e w' => e = .returned (.bool false) ∧ Gr W w' := by
  obtain ⟨A, hA⟩ : ∃ A, W.alloc (.cells tyC 25) = A := ⟨_, rfl⟩
  have gA : Gr W A := by rw [← hA]; exact gr_alloc W _
  have hb : A.heap[W.heap.size]? = some (.cells tyC 25) := by rw [← hA]; exact heap_alloc_new W _
  have hS : ∀ u, Gr A u → u.cell? ⟨bx, 0, none⟩ = some (.slice (some ⟨tb, 0, none⟩) 2 c) ∧ u.cell? ⟨tb, 0, none⟩ = some (.int .i64 3) ∧ u.cell? ⟨tb, 1, none⟩ = some (.int .i64 0) ∧ u.cell? ⟨tb, 2, none⟩ = some (.int .i64 0) ∧ u.cell? ⟨tb, 3, none⟩ = some (.int .i64 0) ∧ u.cell? ⟨tb, 4, none⟩ = some (.slice none 0 0) ∧ u.cell? ⟨W.heap.size, 0, none⟩ = some (.int .i64 3) ∧ u.cell? ⟨W.heap.size, 1, none⟩ = some (.int .i64 0) ∧ u.cell? ⟨W.heap.size, 2, none⟩ = some (.int .i64 0) ∧ u.cell? ⟨W.heap.size, 3, none⟩ = some (.int .i64 0) ∧ u.cell? ⟨W.heap.size, 4, none⟩ = some (.slice none 0 0) := fun u g => by
    have gW := gA.trans g (fun _ _ h => h)
    have x0 := cell1 ((gW.block _ (lt_of_heap hx) id).trans hx)
    obtain ⟨⟨a0, a1, a2, a3, a4⟩, -⟩ := cellT10 ((gW.block _ (lt_of_heap ht) id).trans ht)
    obtain ⟨c0, c1, c2, c3, c4⟩ := cell5 ((g.block _ (lt_of_heap hb) id).trans hb)
    exact ⟨x0, a0, a1, a2, a3, a4, c0, c1, c2, c3, c4⟩
  have HS0 := hidM (hS A.drew gr_drew)
  have HSS := hidM hS
  have HC : Hid (Calls Tryz.prog 78 #[.agg #[.int .i64 3, .int .i64 0, .int .i64 0, .int .i64 0, .slice none 0 0], .agg #[.int .i64 3, .int .i64 0, .int .i64 0, .int .i64 0, .slice none 0 0]] A.drew fun e w' => e = .returned (.bool true) ∧ Gr A.drew w') := alike78 A.drew (hT.gr gA.drew)
  have HG := hidM gA
  clear gA hb hS hT hx ht
  unfold tyC at hA ⊢
  go_enter Tryz.func77, Tryz.ntmps77
  go_wp2_with fail
  clear hA
  go_region_held3 (fun u => u.cell? ⟨bx, 0, none⟩ = some (.slice (some ⟨tb, 0, none⟩) 2 c) ∧ u.cell? ⟨tb, 0, none⟩ = some (.int .i64 3) ∧ u.cell? ⟨tb, 1, none⟩ = some (.int .i64 0) ∧ u.cell? ⟨tb, 2, none⟩ = some (.int .i64 0) ∧ u.cell? ⟨tb, 3, none⟩ = some (.int .i64 0) ∧ u.cell? ⟨tb, 4, none⟩ = some (.slice none 0 0) ∧ u.cell? ⟨W.heap.size, 0, none⟩ = some (.int .i64 3) ∧ u.cell? ⟨W.heap.size, 1, none⟩ = some (.int .i64 0) ∧ u.cell? ⟨W.heap.size, 2, none⟩ = some (.int .i64 0) ∧ u.cell? ⟨W.heap.size, 3, none⟩ = some (.int .i64 0) ∧ u.cell? ⟨W.heap.size, 4, none⟩ = some (.slice none 0 0)) (first | with_reducible exact HS0.out | with_reducible exact HS1.out) ((go_at_call 78; refine HC.out.mono ?_; rintro e w1 ⟨rfl, g1⟩; have HG1 : Hid (Gr A w1) := Keeps.trans gr_drew g1 (fun _ _ h => h); have HS1 := hidM (HSS.out w1 HG1.out); clear g1))
  go_wp2_with fail
  go_ret
  exact ⟨rfl, HG.out.trans HG1.out (fun _ _ h => h)⟩
theorem idx126 (bx tb c c' : Nat) (W : World) (hT : Tab W) (hx : W.heap[bx]? = some (.cells #[.slice (some ⟨tb, 0, none⟩) 2 c] 58)) (ht : W.heap[tb]? = some (.cells ty2 25)) : Calls Tryz.prog 126 #[.slice (some ⟨tb, 5, none⟩) 1 c', .func (.func 77) #[] #[.pointer (some ⟨bx, 0, none⟩)]] W fun e w' => e = .returned (.int .i64 (-1)) ∧ Gr W w' := by
  have HB : Hid (∀ u, Gr W u → u.heap[tb]? = some (.cells ty2 25)) := fun u g => (g.block tb (lt_of_heap ht) id).trans ht
  have HC : Hid (∀ u, Gr W u → Calls Tryz.prog 77 #[.agg #[.int .i64 3, .int .i64 0, .int .i64 0, .int .i64 0, .slice none 0 0], .pointer (some ⟨bx, 0, none⟩)] u fun e w' => e = .returned (.bool false) ∧ Gr u w') := fun u g => alike77 bx tb c u (hT.gr g) ((g.block bx (lt_of_heap hx) id).trans hx) ((g.block tb (lt_of_heap ht) id).trans ht)
  clear hx ht hT
  go_enter Tryz.func126, Tryz.ntmps126
  go_wp2_with fail
  go_loopw [8] (fun i wr => ∃ k : Nat, k ≤ 1 ∧ i = .int .i64 k ∧ Hid (Gr W wr)) (fun i _ => 1 - (intOf i).toNat)
  case atStart => exact ⟨0, by omega, rfl, Keeps.refl _ _⟩
  case round =>
    obtain ⟨k, hk, rfl, HI⟩ := hrel
    have hk3 : k = 0 ∨ k = 1 := by omega
    rcases hk3 with rfl | rfl
    · obtain ⟨-, a0, a1, a2, a3, a4⟩ := cellT10 (HB.out wr HI.out)
      go_wp2_with (go_at_call 77; refine (HC.out wr HI.out).mono ?_; rintro e w2 ⟨rfl, g2⟩; have HI2 := hidM (HI.out.trans g2 (fun _ _ h => h)); clear g2)
      go_roundw
      case rel => exact ⟨1, by omega, by go_num, HI2⟩
      case measure => simp [intOf]
    · go_wp2_with fail
      go_ret
      exact ⟨rfl, HI.out⟩
theorem has76 (bx tb c c' : Nat) (W : World) (hT : Tab W) (hx : W.heap[bx]? = some (.cells #[.slice (some ⟨tb, 0, none⟩) 2 c] 58)) (ht : W.heap[tb]? = some (.cells ty2 25)) : Calls Tryz.prog 76 #[.slice (some ⟨tb, 5, none⟩) 1 c', .func (.func 77) #[] #[.pointer (some ⟨bx, 0, none⟩)]] W fun e w' => e = .returned (.bool false) ∧ Gr W w' := by
  have HC := hidM (idx126 bx tb c c' W hT hx ht)
  clear hx ht hT
  go_enter Tryz.func76, Tryz.ntmps76
  go_wp2_with (go_at_call 126; refine HC.out.mono ?_; rintro e w2 ⟨rfl, g2⟩; have HI2 := hidM g2; clear g2)
  go_ret
  exact ⟨rfl, HI2.out⟩
theorem areAlike42 (tb : Nat) (W : World) (hT : Tab W) (ht : W.heap[tb]? = some (.cells ty2 25)) : Calls Tryz.prog 42 #[.slice (some ⟨tb, 0, none⟩) 2 2] W fun e w' => e = .returned (.bool true) ∧ Gr W w' := by
  have hmf : ∀ (fn : Fn) (first cap : Array Value) (w : World), (Instr.makeFunc fn first cap).run Tryz.prog w = .ok (.func fn first cap) w := fun _ _ _ _ => rfl
  obtain ⟨A, hA⟩ : ∃ A, W.alloc (.cells #[.slice (some ⟨tb, 0, none⟩) 2 2] 58) = A := ⟨_, rfl⟩
  have gA : Gr W A := by rw [← hA]; exact gr_alloc W _
  have hb : A.heap[W.heap.size]? = some (.cells #[.slice (some ⟨tb, 0, none⟩) 2 2] 58) := by rw [← hA]; exact heap_alloc_new W _
  have c0 := cell1 hb
  have HC : Hid (∀ c', Calls Tryz.prog 76 #[.slice (some ⟨tb, 5, none⟩) 1 c', .func (.func 77) #[] #[.pointer (some ⟨W.heap.size, 0, none⟩)]] A fun e w' => e = .returned (.bool false) ∧ Gr A w') := fun c' => has76 W.heap.size tb 2 c' A (hT.gr gA) hb ((gA.block tb (lt_of_heap ht) id).trans ht)
  have HG := hidM gA
  clear gA hb hT ht
  go_enter Tryz.func42, Tryz.ntmps42
  go_wp2_with (go_at_call 76; refine (HC.out _).mono ?_; rintro e w2 ⟨rfl, g2⟩; have HI2 := hidM (HG.out.trans g2 (fun _ _ h => h)); clear g2)
  go_ret
  exact ⟨rfl, HI2.out⟩
theorem results_cell25 {fn : Func} {t : Tmp} {tmps : Array Value} {g : Nat} {cs : Array Value} {w : World} (h : fn.results = #[.cell t 25]) (ht : tmps.getD t undef = .pointer (some ⟨g, 0, none⟩)) (hg : w.heap[g]? = some (.cells cs 25 (0, 0))) (hi : (Tryz.prog.info? 25).map (·.size) = some cs.size) :
    (results fn tmps).run Tryz.prog w = .ok (.agg cs) w := by
  have hl := run_loadVar_row (P := Tryz.prog) w g 25 25 cs (0, 0) _ hg Tryz.underlying25 rfl hi
  unfold results
  rw [h]
  simp only [Array.mapM_eq_mapM_toList, List.mapM_cons, List.mapM_nil, ht]
  simp [asAddr, hl]
/-- a type of numbers stored into its cells -/
def tyU (w : World) (b : Nat) : World := setAll w b [(0, .int .i64 3), (1, .int .i64 0), (2, .int .i64 0), (3, .int .i64 0), (4, .slice none 0 0)]
def tyZ : Array Value := #[.int .i64 0, .int .i64 0, .int .i64 0, .int .i64 0, .slice none 0 0]
theorem ty_blk {w : World} {b : Nat} (h : w.heap[b]? = some (.cells tyZ 25)) : (tyU w b).heap[b]? = some (.cells tyC 25) := by
  unfold tyU
  rw [setAll_blk b 25 _ _ _ h]
  simp [setsA, tyZ, tyC]
theorem plain10 (W : World) : Calls Tryz.prog 10 #[.agg fdC] W fun e w' => e = .returned (.agg tyC) ∧ Gr W w' := by
  obtain ⟨A0, hA0⟩ : ∃ A0, W.alloc (.cells fdC 27) = A0 := ⟨_, rfl⟩
  have g0 : Gr W A0 := by rw [← hA0]; exact gr_alloc W _
  have b0 : A0.heap[W.heap.size]? = some (.cells fdC 27) := by rw [← hA0]; exact heap_alloc_new W _
  obtain ⟨A, hA⟩ : ∃ A, A0.alloc (.cells tyZ 25) = A := ⟨_, rfl⟩
  have g1 : Gr A0 A := by rw [← hA]; exact gr_alloc A0 _
  have b1 : A.heap[A0.heap.size]? = some (.cells tyZ 25) := by rw [← hA]; exact heap_alloc_new A0 _
  have b0' := (g1.block _ (lt_of_heap b0) id).trans b0
  have gA : Gr W A := g0.trans g1 (fun _ _ h => h)
  obtain ⟨a0, a1, a2, a3, a4, a5, a6⟩ := cell7 b0'
  obtain ⟨c0, c1, c2, c3, c4⟩ := cell5 b1
  have x0 := frz b1 0
  have x1 := frz b1 1
  have x2 := frz b1 2
  have x3 := frz b1 3
  have x4 := frz b1 4
  obtain ⟨U, hU⟩ : ∃ U, tyU A A0.heap.size = U := ⟨_, rfl⟩
  have HUB := hidM (ty_blk b1)
  have HUG : Hid (Gr W (tyU A A0.heap.size)) := gA.trans (setAll_kp _ _ _) (fun j hj e => by have e' : j = A0.heap.size := e; have := g0.size; omega)
  rw [hU] at HUB HUG
  simp only [tyU, setAll] at hU
  clear g0 b0 g1 b1 b0' gA
  unfold fdC at hA0 ⊢
  unfold tyZ at hA
  go_enter Tryz.func10, Tryz.ntmps10
  go_wp2_with fail
  go_loopw [3] (fun i wr => wr = A) (fun i _ => 0)
  case atStart => exact rfl
  case round =>
    obtain rfl := hrel
    go_wp2_with fail
    (try simp only [Exit.inBlock, Exit.then])
    refine bodyPost_ret (results_cell25 rfl rfl (by with_reducible exact HUB.out) (by kernel_rfl)) rfl ?_
    exact ⟨rfl, HUG.out⟩
end Go.Proofs.YtcedjdkldiffdaaGreatDoor.Kit
