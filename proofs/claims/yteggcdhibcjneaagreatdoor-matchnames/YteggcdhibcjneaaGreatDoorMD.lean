import Derived.Test.YteggcdhibcjneaaGreatDoorCT
import Derived.Test.YteggcdhibcjneaaGreatDoorCU
set_option maxRecDepth 100000
set_option maxHeartbeats 4000000
namespace Go.Proofs.YteggcdhibcjneaaGreatDoor.Kit
variable {nx : Bool}
open Go.RowKit Go.Shelf Go.Deep
open Go.Proofs.YteggcdhibcjneaaGreatDoor.Kd (Ans AnsV cell5 cell2)
set_option linter.unusedVariables false
set_option linter.unusedSimpArgs false
attribute [local go_sem] run_store_func

theorem index22_0 (o : Option Addr) (c : Nat) (x : Int) (W : World) : Calls Tryz.prog 22 #[.slice o 0 c, .int .i64 x] W fun e w' => e = .returned (.int .i64 (-1)) ∧ w' = W := by
  go_enter Tryz.func22, Tryz.ntmps22
  go_wp2_with fail
  go_loopw [8] (fun i wr => i = .int .i64 0 ∧ wr = W) (fun _ _ => 0)
  case atStart => exact ⟨rfl, rfl⟩
  case round =>
    obtain ⟨rfl, rfl⟩ := hrel
    go_wp2_with fail
    go_ret
    exact ⟨rfl, rfl⟩
theorem index22_1 (z c : Nat) (W : World) (h : W.cell? ⟨z, 0, none⟩ = some (.int .i64 0)) : Calls Tryz.prog 22 #[.slice (some ⟨z, 0, none⟩) 1 c, .int .i64 0] W fun e w' => e = .returned (.int .i64 0) ∧ w' = W := by
  go_enter Tryz.func22, Tryz.ntmps22
  go_wp2_with fail
  go_loopw [8] (fun i wr => i = .int .i64 0 ∧ wr = W) (fun _ _ => 0)
  case atStart => exact ⟨rfl, rfl⟩
  case round =>
    obtain ⟨rfl, rfl⟩ := hrel
    go_wp2_with fail
    go_ret
    exact ⟨rfl, rfl⟩
theorem contains24_0 (o : Option Addr) (c : Nat) (x : Int) (W : World) : Calls Tryz.prog 24 #[.slice o 0 c, .int .i64 x] W fun e w' => e = .returned (.bool false) ∧ w' = W := by
  go_enter Tryz.func24, Tryz.ntmps24
  go_wp2_with (go_at_call 22; refine (index22_0 _ _ _ _).mono ?_; rintro e w1 ⟨rfl, rfl⟩)
  go_ret
  exact ⟨rfl, rfl⟩
theorem contains24_1 (z c : Nat) (W : World) (h : W.cell? ⟨z, 0, none⟩ = some (.int .i64 0)) : Calls Tryz.prog 24 #[.slice (some ⟨z, 0, none⟩) 1 c, .int .i64 0] W fun e w' => e = .returned (.bool true) ∧ w' = W := by
  go_enter Tryz.func24, Tryz.ntmps24
  go_wp2_with (go_at_call 22; refine (index22_1 _ _ _ h).mono ?_; rintro e w1 ⟨rfl, rfl⟩)
  go_ret
  exact ⟨rfl, rfl⟩
theorem keepsLeft23 (k : Int) (hk : k = 2 ∨ k = 3) (W : World) : Calls Tryz.prog 23 #[.int .i64 k] W fun e w' => e = .returned (.bool false) ∧ w' = W := by
  rcases hk with rfl | rfl
  all_goals
    go_enter Tryz.func23, Tryz.ntmps23
    go_wp2_with fail
    go_ret
    exact ⟨rfl, rfl⟩
theorem letsNulls38 (g c : Nat) (W : World) (ao : Option Addr) (ca : Nat) (h : W.heap[g]? = some (.cells #[.string (nmB nx), .bool false, .int .i64 3, .int .i64 0, .int .i64 0, .int .i64 0, .slice ao 0 ca] 47)) : Calls Tryz.prog 38 #[.slice (some ⟨g, 0, none⟩) 1 c] W fun e w' => e = .returned (.bool false) ∧ Gr W w' := by
  obtain ⟨a0, a1, a2, a3, a4, a5, a6⟩ := cell7 h
  obtain ⟨A, hA⟩ : ∃ A, W.alloc (.cells #[.string (nmB nx), .bool false, .int .i64 3, .int .i64 0, .int .i64 0, .int .i64 0, .slice ao 0 ca] 47) = A := ⟨_, rfl⟩
  have HG : Hid (Gr W A) := by rw [← hA]; exact gr_alloc W _
  have hb : A.heap[W.heap.size]? = some (.cells #[.string (nmB nx), .bool false, .int .i64 3, .int .i64 0, .int .i64 0, .int .i64 0, .slice ao 0 ca] 47) := by rw [← hA]; exact heap_alloc_new W _
  obtain ⟨e0, e1, e2, e3, e4, e5, e6⟩ := cell7 hb
  clear h hb
  go_enter Tryz.func38, Tryz.ntmps38
  go_wp2_with fail
  go_loopw [7] (fun i wr => i = .int .i64 0 ∧ wr = W) (fun _ _ => 0)
  case atStart => exact ⟨rfl, rfl⟩
  case round =>
    obtain ⟨rfl, rfl⟩ := hrel
    go_wp2_with fail
    go_ret
    exact ⟨rfl, HG.out⟩
theorem areKeys18 (g gc z zc : Nat) (no : Option Addr) (nn nc : Nat) (W : World) (hz : W.cell? ⟨z, 0, none⟩ = some (.int .i64 0)) : Calls Tryz.prog 18 #[.agg #[.slice (some ⟨g, 0, none⟩) 1 gc, .slice no nn nc], .slice (some ⟨z, 0, none⟩) 1 zc] W fun e w' => e = .returned (.bool true) ∧ Gr W w' := by
  obtain ⟨A, hA⟩ : ∃ A, W.alloc (.cells #[.slice (some ⟨g, 0, none⟩) 1 gc, .slice no nn nc] 30) = A := ⟨_, rfl⟩
  have gA : Gr W A := by rw [← hA]; exact gr_alloc W _
  have hb : A.heap[W.heap.size]? = some (.cells #[.slice (some ⟨g, 0, none⟩) 1 gc, .slice no nn nc] 30) := by rw [← hA]; exact heap_alloc_new W _
  obtain ⟨e0, e1⟩ := cell2 hb
  have hz' := gA.cell' hz id
  have HG := hidM gA
  clear gA hb hz
  go_enter Tryz.func18, Tryz.ntmps18
  go_wp2_with fail
  go_loopw [17] (fun i wr => ∃ k : Nat, k ≤ 1 ∧ i = .int .i64 k ∧ wr = A) (fun i _ => 1 - (intOf i).toNat)
  case atStart => exact ⟨0, by omega, rfl, rfl⟩
  case round =>
    obtain ⟨k, hk, rfl, rfl⟩ := hrel
    have hk3 : k = 0 ∨ k = 1 := by omega
    rcases hk3 with rfl | rfl
    · go_wp2_with (go_at_call 24; refine (contains24_0 _ _ _ _).mono ?_; rintro e w1 ⟨rfl, rfl⟩)
      go_roundw
      case rel => exact ⟨1, by omega, by go_num, trivial⟩
      case measure => simp [intOf]
    · go_wp2_with fail
      go_ret
      exact ⟨rfl, HG.out⟩
end Go.Proofs.YteggcdhibcjneaaGreatDoor.Kit
namespace Go.Proofs.YteggcdhibcjneaaGreatDoor.Kit
variable {nx : Bool}
open Go.RowKit Go.Shelf Go.Deep
open Go.Proofs.YteggcdhibcjneaaGreatDoor.Kd (Ans AnsV cell5 cell2)
set_option linter.unusedVariables false
set_option linter.unusedSimpArgs false
attribute [local go_sem] run_store_func

theorem mk27 (w : World) : (Instr.makeSlice 27 (.int .i64 0) (.int .i64 0)).run Tryz.prog w = .ok (.slice (some ⟨w.heap.size, 0, none⟩) 0 0) (w.alloc (.cells #[] 47)) := by kernel_rfl
theorem bare20 (ao : Option Addr) (ca : Nat) (W : World) : Calls Tryz.prog 20 #[.agg #[.string (nmB nx), .bool false, .int .i64 3, .int .i64 0, .int .i64 0, .int .i64 0, .slice ao 0 ca]] W fun e w' => ∃ fo, e = .returned (.agg #[.string (nmB nx), .bool false, .int .i64 3, .int .i64 0, .int .i64 0, .int .i64 0, .slice fo 0 0]) ∧ Gr W w' := by
  obtain ⟨A0, hA0⟩ : ∃ A, W.alloc (.cells #[.string (nmB nx), .bool false, .int .i64 3, .int .i64 0, .int .i64 0, .int .i64 0, .slice ao 0 ca] 47) = A := ⟨_, rfl⟩
  have g0 : Gr W A0 := by rw [← hA0]; exact gr_alloc W _
  have b0 : A0.heap[W.heap.size]? = some (.cells #[.string (nmB nx), .bool false, .int .i64 3, .int .i64 0, .int .i64 0, .int .i64 0, .slice ao 0 ca] 47) := by rw [← hA0]; exact heap_alloc_new W _
  obtain ⟨A1, hA1⟩ : ∃ A, A0.alloc (.cells #[.string ⟨#[]⟩, .bool false, .int .i64 0, .int .i64 0, .int .i64 0, .int .i64 0, .slice none 0 0] 47) = A := ⟨_, rfl⟩
  have g1 : Gr A0 A1 := by rw [← hA1]; exact gr_alloc A0 _
  have b1 : A1.heap[A0.heap.size]? = some (.cells #[.string ⟨#[]⟩, .bool false, .int .i64 0, .int .i64 0, .int .i64 0, .int .i64 0, .slice none 0 0] 47) := by rw [← hA1]; exact heap_alloc_new A0 _
  obtain ⟨A2, hA2⟩ : ∃ A, A1.alloc (.cells #[] 47) = A := ⟨_, rfl⟩
  have g2 : Gr A1 A2 := by rw [← hA2]; exact gr_alloc A1 _
  have b2 : A2.heap[A1.heap.size]? = some (.cells #[] 47) := by rw [← hA2]; exact heap_alloc_new A1 _
  have s0 : A0.heap.size = W.heap.size + 1 := by rw [← hA0]; simp
  have s1 : A1.heap.size = A0.heap.size + 1 := by rw [← hA1]; simp
  have g12 := g1.trans g2 (fun _ _ h => h)
  have gW : Gr W A2 := g0.trans g12 (fun _ _ h => h)
  have c0 := (g12.block _ (lt_of_heap b0) id).trans b0
  have c1 := (g2.block _ (lt_of_heap b1) id).trans b1
  obtain ⟨A3, hA3⟩ : ∃ A, A2.setCell ⟨W.heap.size, 6, none⟩ (.slice (some ⟨A1.heap.size, 0, none⟩) 0 0) = A := ⟨_, rfl⟩
  have k3 : Keeps A2 A3 (fun z => z = W.heap.size) := by rw [← hA3]; exact Keeps.setCell (S := fun z => z = W.heap.size) (p := ⟨W.heap.size, 6, none⟩) (Keeps.refl A2 _) (fun _ => rfl) _
  have d0 : A3.heap[W.heap.size]? = some (.cells #[.string (nmB nx), .bool false, .int .i64 3, .int .i64 0, .int .i64 0, .int .i64 0, .slice (some ⟨A1.heap.size, 0, none⟩) 0 0] 47) := by rw [← hA3, heap_setCell_same A2 W.heap.size 6 _ _ _ c0]; rfl
  have d1 := (k3.block A0.heap.size (lt_of_heap c1) (by omega)).trans c1
  obtain ⟨U, hU⟩ : ∃ U, setAll A3 A0.heap.size [(0, .string (nmB nx)), (1, .bool false), (2, .int .i64 3), (3, .int .i64 0), (4, .int .i64 0), (5, .int .i64 0), (6, .slice (some ⟨A1.heap.size, 0, none⟩) 0 0)] = U := ⟨_, rfl⟩
  have hu : U.heap[A0.heap.size]? = some (.cells #[.string (nmB nx), .bool false, .int .i64 3, .int .i64 0, .int .i64 0, .int .i64 0, .slice (some ⟨A1.heap.size, 0, none⟩) 0 0] 47) := by rw [← hU, setAll_blk A0.heap.size 47 _ _ _ d1]; simp [setsA]
  have HG : Hid (Gr W U) := by
    rw [← hU]
    exact (gW.trans k3 (fun j hj e => by have e' : j = W.heap.size := e; omega)).trans (setAll_kp _ _ _) (fun j hj e => by have e' : j = A0.heap.size := e; omega)
  have HU := hidM hu
  obtain ⟨e0, e1, e2, e3, e4, e5, e6⟩ := cell7 ((g1.block _ (lt_of_heap b0) id).trans b0)
  obtain ⟨f0, f1, f2, f3, f4, f5, f6⟩ := cell7 c0
  have x6 := frz c0 6
  obtain ⟨i0, i1, i2, i3, i4, i5, i6⟩ := cell7 d0
  obtain ⟨r0, r1, r2, r3, r4, r5, r6⟩ := cell7 d1
  have y := frzA d1
  have hmk := mk27
  simp only [setAll] at hU
  clear g0 b0 g1 b1 g2 b2 s0 s1 g12 gW c0 c1 k3 d0 d1 hu
  go_enter Tryz.func20, Tryz.ntmps20
  go_wp2_with fail
  go_loopw [34] (fun i wr => i = .int .i64 0 ∧ wr = A2) (fun _ _ => 0)
  case atStart => exact ⟨rfl, rfl⟩
  case round =>
    obtain ⟨rfl, rfl⟩ := hrel
    go_wp2_with fail
    (try simp only [Exit.inBlock, Exit.then])
    refine bodyPost_ret (results_cell27 rfl rfl (by with_reducible exact HU.out) (by kernel_rfl)) rfl ?_
    exact ⟨_, rfl, HG.out⟩
end Go.Proofs.YteggcdhibcjneaaGreatDoor.Kit
namespace Go.Proofs.YteggcdhibcjneaaGreatDoor.Kit
variable {nx : Bool}
open Go.RowKit Go.Shelf Go.Deep
open Go.Proofs.YteggcdhibcjneaaGreatDoor.Kd (Ans AnsV cell5 cell2)
set_option linter.unusedVariables false
set_option linter.unusedSimpArgs false
attribute [local go_sem] run_store_func

theorem eqF32 (o p : Option Addr) (c d : Nat) (W : World) : Calls Tryz.prog 32 #[.slice o 0 c, .slice p 0 d, .func (.func 33) #[] #[]] W fun e w' => e = .returned (.bool true) ∧ w' = W := by
  go_enter Tryz.func32, Tryz.ntmps32
  go_wp2_with fail
  go_loopw [17] (fun i wr => i = .int .i64 0 ∧ wr = W) (fun _ _ => 0)
  case atStart => exact ⟨rfl, rfl⟩
  case round =>
    obtain ⟨rfl, rfl⟩ := hrel
    go_wp2_with fail
    go_ret
    exact ⟨rfl, rfl⟩
theorem alike19 (o p : Option Addr) (c d : Nat) (W : World) : Calls Tryz.prog 19 #[.agg #[.int .i64 3, .int .i64 0, .int .i64 0, .int .i64 0, .slice o 0 c], .agg #[.int .i64 3, .int .i64 0, .int .i64 0, .int .i64 0, .slice p 0 d]] W fun e w' => e = .returned (.bool true) ∧ Gr W w' := by
  obtain ⟨A0, hA0⟩ : ∃ A, W.alloc (.cells #[.int .i64 3, .int .i64 0, .int .i64 0, .int .i64 0, .slice o 0 c] 45) = A := ⟨_, rfl⟩
  have g0 : Gr W A0 := by rw [← hA0]; exact gr_alloc W _
  have b0 : A0.heap[W.heap.size]? = some (.cells #[.int .i64 3, .int .i64 0, .int .i64 0, .int .i64 0, .slice o 0 c] 45) := by rw [← hA0]; exact heap_alloc_new W _
  obtain ⟨A1, hA1⟩ : ∃ A, A0.alloc (.cells #[.int .i64 3, .int .i64 0, .int .i64 0, .int .i64 0, .slice p 0 d] 45) = A := ⟨_, rfl⟩
  have g1 : Gr A0 A1 := by rw [← hA1]; exact gr_alloc A0 _
  have b1 : A1.heap[A0.heap.size]? = some (.cells #[.int .i64 3, .int .i64 0, .int .i64 0, .int .i64 0, .slice p 0 d] 45) := by rw [← hA1]; exact heap_alloc_new A0 _
  have HG : Hid (Gr W A1) := g0.trans g1 (fun _ _ h => h)
  obtain ⟨e0, e1, e2, e3, e4⟩ := cell5 ((g1.block _ (lt_of_heap b0) id).trans b0)
  obtain ⟨f0, f1, f2, f3, f4⟩ := cell5 b1
  clear g0 b0 g1 b1
  go_enter Tryz.func19, Tryz.ntmps19
  go_wp2_with (go_at_call 32; refine (eqF32 _ _ _ _ _).mono ?_; rintro e w1 ⟨rfl, rfl⟩)
  go_ret
  exact ⟨rfl, HG.out⟩
theorem check17 (fb fcc : Nat) (ao : Option Addr) (ca : Nat) (W : World) (hT : Tab W) (hc : 1 ≤ fcc) (hf : W.heap[fb]? = some (.cells #[.string (nmB nx), .bool false, .int .i64 3, .int .i64 0, .int .i64 0, .int .i64 0, .slice ao 0 ca] 47)) : Calls Tryz.prog 17 #[.agg #[.slice (some ⟨fb, 0, none⟩) 1 fcc, .slice none 0 0]] W fun e w' => ∃ vo vn vc tt, e = .returned (.agg #[.int .i64 0, .slice vo vn vc, .int .i64 tt]) ∧ Gr W w' := by
  refine (check_fault (S := fun b => b = fb) (D := 1) (fo := some ⟨fb, 0, none⟩) (no := none) (cf := fcc) (cn := 0) (fs := [leafF (nmB nx) false 3]) (ns := []) (w := W) hT (row_leaf rfl hf) hc (by decide) (fun b e => by have e' : b = fb := e; rw [e']; exact lt_of_heap hf) ⟨by decide, fun h => absurd rfl h⟩ W (Keeps.refl _ _)).mono ?_
  rintro e w' ⟨er, vo, vn, vc, tt, rfl, g, p, h1, h2, -⟩
  have hF : FaultIs (listsE 1 []) (nodes 1 [leafF (nmB nx) false 3] [] false) 0 [] 0 := .inr (.inl ⟨rfl, allR (nx := nx) false, rfl, rfl, rfl⟩)
  obtain ⟨rfl, -, -⟩ := hF.one h2
  exact ⟨vo, vn, vc, tt, rfl, g⟩
/-- a schema of one field: where its field lies -/
structure S1f (nx : Bool) (W : World) (g c : Nat) (ao : Option Addr) (ca : Nat) : Prop where
  f : W.heap[g]? = some (.cells #[.string (nmB nx), .bool false, .int .i64 3, .int .i64 0, .int .i64 0, .int .i64 0, .slice ao 0 ca] 47)
  c1 : 1 ≤ c
  T : Tab W
theorem S1f.gr {W u : World} {g c : Nat} {ao : Option Addr} {ca : Nat} (h : S1f nx W g c ao ca) (k : Gr W u) : S1f nx u g c ao ca := ⟨(k.block _ (lt_of_heap h.f) id).trans h.f, h.c1, h.T.gr k⟩
variable {ny : Bool}
theorem wrongSchemas10 (ga ac gb bc : Nat) (ao bo : Option Addr) (ca cb : Nat) (W : World) (h1 : S1f nx W ga ac ao ca) (h2 : S1f ny W gb bc bo cb) : Calls Tryz.prog 10 #[.agg #[.slice (some ⟨ga, 0, none⟩) 1 ac, .slice none 0 0], .agg #[.slice (some ⟨gb, 0, none⟩) 1 bc, .slice none 0 0]] W fun e w' => e = .returned (.int .i64 0) ∧ Gr W w' := by
  obtain ⟨A0, hA0⟩ : ∃ A, W.alloc (.cells #[.slice (some ⟨ga, 0, none⟩) 1 ac, .slice none 0 0] 30) = A := ⟨_, rfl⟩
  have g0 : Gr W A0 := by rw [← hA0]; exact gr_alloc W _
  have b0 : A0.heap[W.heap.size]? = some (.cells #[.slice (some ⟨ga, 0, none⟩) 1 ac, .slice none 0 0] 30) := by rw [← hA0]; exact heap_alloc_new W _
  obtain ⟨A1, hA1⟩ : ∃ A, A0.alloc (.cells #[.slice (some ⟨gb, 0, none⟩) 1 bc, .slice none 0 0] 30) = A := ⟨_, rfl⟩
  have g1 : Gr A0 A1 := by rw [← hA1]; exact gr_alloc A0 _
  have b1 : A1.heap[A0.heap.size]? = some (.cells #[.slice (some ⟨gb, 0, none⟩) 1 bc, .slice none 0 0] 30) := by rw [← hA1]; exact heap_alloc_new A0 _
  have gW : Gr W A1 := g0.trans g1 (fun _ _ h => h)
  have HG := hidM gW
  have HC1 := hidM (check17 ga ac ao ca A1 (h1.gr gW).T h1.c1 (h1.gr gW).f)
  have HC2 : Hid (∀ u, Gr A1 u → u.cell? ⟨A0.heap.size, 0, none⟩ = some (.slice (some ⟨gb, 0, none⟩) 1 bc) ∧ u.cell? ⟨A0.heap.size, 1, none⟩ = some (.slice none 0 0) ∧ Calls Tryz.prog 17 #[.agg #[.slice (some ⟨gb, 0, none⟩) 1 bc, .slice none 0 0]] u fun e w' => ∃ vo vn vc tt, e = .returned (.agg #[.int .i64 0, .slice vo vn vc, .int .i64 tt]) ∧ Gr u w') := fun u g => by
    obtain ⟨f0, f1⟩ := cell2 b1
    have k := gW.trans g (fun _ _ h => h)
    exact ⟨g.cell' f0 id, g.cell' f1 id, check17 gb bc bo cb u (h2.gr k).T h2.c1 (h2.gr k).f⟩
  obtain ⟨e0, e1⟩ := cell2 ((g1.block _ (lt_of_heap b0) id).trans b0)
  have hfl : ∀ (vo : Option Addr) (vn vc : Nat) (tt : Int) (w : World), (Instr.field 61 (.agg #[.int .i64 0, .slice vo vn vc, .int .i64 tt]) 0).run Tryz.prog w = .ok (.int .i64 0) w := fun vo vn vc tt w => by kernel_rfl
  clear g0 b0 g1 b1 gW h1 h2
  go_enter Tryz.func10, Tryz.ntmps10
  go_wp2_with (first
    | (go_at_call 17; have _ := HG2; refine HC4.out.mono ?_; rintro e w2 ⟨vo2, vn2, vc2, tt2, rfl, g2⟩; have HG3 := hidM (HG2.out.trans g2 (fun _ _ h => h)); clear g2)
    | (go_at_call 17; refine HC1.out.mono ?_; rintro e w1 ⟨vo1, vn1, vc1, tt1, rfl, g1⟩; have HG2 := hidM (HG.out.trans g1 (fun _ _ h => h)); obtain ⟨f0, f1, hc4⟩ := HC2.out w1 g1; have HC4 := hidM hc4; clear g1 hc4))
  go_ret
  exact ⟨rfl, HG3.out⟩
end Go.Proofs.YteggcdhibcjneaaGreatDoor.Kit
namespace Go.Proofs.YteggcdhibcjneaaGreatDoor.Kit
variable {nx ny : Bool}
open Go.RowKit Go.Shelf Go.Deep
open Go.Proofs.YteggcdhibcjneaaGreatDoor.Kd (Ans AnsV cell5 cell2)
set_option linter.unusedVariables false
set_option linter.unusedSimpArgs false
attribute [local go_sem] run_store_func

theorem wrongKeys11 (k : Int) (hk : k = 2 ∨ k = 3) (ga ac gb bc za zac zb zbc : Nat) (ao bo : Option Addr) (ca cb : Nat) (W : World) (h1 : S1f nx W ga ac ao ca) (h2 : S1f ny W gb bc bo cb) (ha0 : W.cell? ⟨za, 0, none⟩ = some (.int .i64 0)) (hb0 : W.cell? ⟨zb, 0, none⟩ = some (.int .i64 0)) : Calls Tryz.prog 11 #[.int .i64 k, .agg #[.slice (some ⟨ga, 0, none⟩) 1 ac, .slice none 0 0], .slice (some ⟨za, 0, none⟩) 1 zac, .agg #[.slice (some ⟨gb, 0, none⟩) 1 bc, .slice none 0 0], .slice (some ⟨zb, 0, none⟩) 1 zbc] W fun e w' => e = .returned (.int .i64 0) ∧ Gr W w' := by
  obtain ⟨A0, hA0⟩ : ∃ A, W.alloc (.cells #[.slice (some ⟨ga, 0, none⟩) 1 ac, .slice none 0 0] 30) = A := ⟨_, rfl⟩
  have g0 : Gr W A0 := by rw [← hA0]; exact gr_alloc W _
  have b0 : A0.heap[W.heap.size]? = some (.cells #[.slice (some ⟨ga, 0, none⟩) 1 ac, .slice none 0 0] 30) := by rw [← hA0]; exact heap_alloc_new W _
  obtain ⟨A1, hA1⟩ : ∃ A, A0.alloc (.cells #[.slice (some ⟨gb, 0, none⟩) 1 bc, .slice none 0 0] 30) = A := ⟨_, rfl⟩
  have g1 : Gr A0 A1 := by rw [← hA1]; exact gr_alloc A0 _
  have b1 : A1.heap[A0.heap.size]? = some (.cells #[.slice (some ⟨gb, 0, none⟩) 1 bc, .slice none 0 0] 30) := by rw [← hA1]; exact heap_alloc_new A0 _
  have gW : Gr W A1 := g0.trans g1 (fun _ _ h => h)
  have HG := hidM gW
  obtain ⟨e0, e1⟩ := cell2 ((g1.block _ (lt_of_heap b0) id).trans b0)
  obtain ⟨f0, f1⟩ := cell2 b1
  have ha := gW.cell' ha0 id
  have hb := gW.cell' hb0 id
  obtain ⟨p0, p1, p2, p3, p4, p5, p6⟩ := cell7 (h1.gr gW).f
  obtain ⟨q0, q1, q2, q3, q4, q5, q6⟩ := cell7 (h2.gr gW).f
  have HSS : Hid (∀ u, Gr A1 u → u.cell? ⟨W.heap.size, 0, none⟩ = some (.slice (some ⟨ga, 0, none⟩) 1 ac) ∧ u.cell? ⟨W.heap.size, 1, none⟩ = some (.slice none 0 0) ∧ u.cell? ⟨A0.heap.size, 0, none⟩ = some (.slice (some ⟨gb, 0, none⟩) 1 bc) ∧ u.cell? ⟨A0.heap.size, 1, none⟩ = some (.slice none 0 0) ∧ u.cell? ⟨za, 0, none⟩ = some (.int .i64 0) ∧ u.cell? ⟨zb, 0, none⟩ = some (.int .i64 0) ∧ u.cell? ⟨ga, 0, none⟩ = some (.string (nmB nx)) ∧ u.cell? ⟨ga, 1, none⟩ = some (.bool false) ∧ u.cell? ⟨ga, 2, none⟩ = some (.int .i64 3) ∧ u.cell? ⟨ga, 3, none⟩ = some (.int .i64 0) ∧ u.cell? ⟨ga, 4, none⟩ = some (.int .i64 0) ∧ u.cell? ⟨ga, 5, none⟩ = some (.int .i64 0) ∧ u.cell? ⟨ga, 6, none⟩ = some (.slice ao 0 ca) ∧ u.cell? ⟨gb, 0, none⟩ = some (.string (nmB ny)) ∧ u.cell? ⟨gb, 1, none⟩ = some (.bool false) ∧ u.cell? ⟨gb, 2, none⟩ = some (.int .i64 3) ∧ u.cell? ⟨gb, 3, none⟩ = some (.int .i64 0) ∧ u.cell? ⟨gb, 4, none⟩ = some (.int .i64 0) ∧ u.cell? ⟨gb, 5, none⟩ = some (.int .i64 0) ∧ u.cell? ⟨gb, 6, none⟩ = some (.slice bo 0 cb)) := fun u g => ⟨g.cell' e0 id, g.cell' e1 id, g.cell' f0 id, g.cell' f1 id, g.cell' ha id, g.cell' hb id, g.cell' p0 id, g.cell' p1 id, g.cell' p2 id, g.cell' p3 id, g.cell' p4 id, g.cell' p5 id, g.cell' p6 id, g.cell' q0 id, g.cell' q1 id, g.cell' q2 id, g.cell' q3 id, g.cell' q4 id, g.cell' q5 id, g.cell' q6 id⟩
  have HK : Hid (∀ u, Gr A1 u → Calls Tryz.prog 18 #[.agg #[.slice (some ⟨ga, 0, none⟩) 1 ac, .slice none 0 0], .slice (some ⟨za, 0, none⟩) 1 zac] u (fun e w' => e = .returned (.bool true) ∧ Gr u w') ∧ Calls Tryz.prog 18 #[.agg #[.slice (some ⟨gb, 0, none⟩) 1 bc, .slice none 0 0], .slice (some ⟨zb, 0, none⟩) 1 zbc] u (fun e w' => e = .returned (.bool true) ∧ Gr u w')) := fun u g => ⟨areKeys18 _ _ _ _ _ _ _ _ (g.cell' ha id), areKeys18 _ _ _ _ _ _ _ _ (g.cell' hb id)⟩
  have HK1 := hidM (HK.out A1 (Keeps.refl _ _)).1
  have hfl : ∀ (fo : Option Addr) (nm : ByteArray) (w : World), (Instr.field 47 (.agg #[.string nm, .bool false, .int .i64 3, .int .i64 0, .int .i64 0, .int .i64 0, .slice fo 0 0]) 2).run Tryz.prog w = .ok (.agg #[.int .i64 3, .int .i64 0, .int .i64 0, .int .i64 0, .slice fo 0 0]) w := fun fo nm w => by kernel_rfl
  clear g0 b0 g1 b1 gW h1 h2 ha0 hb0
  rcases hk with rfl | rfl
  all_goals
    go_enter Tryz.func11, Tryz.ntmps11
    go_wp2_with (first
      | (go_at_call 18; have _ := HX1; refine HK2.out.mono ?_; rintro e w2 ⟨rfl, g2⟩; have HX2 := hidM (HX1.out.trans g2 (fun _ _ h => h)); clear g2)
      | (go_at_call 18; refine HK1.out.mono ?_; rintro e w1 ⟨rfl, g1⟩; have HX1 := hidM g1; have HK2 := hidM (HK.out w1 g1).2; clear e0 e1 f0 f1 ha hb p0 p1 p2 p3 p4 p5 p6 q0 q1 q2 q3 q4 q5 q6; obtain ⟨e0, e1, f0, f1, ha, hb, p0, p1, p2, p3, p4, p5, p6, q0, q1, q2, q3, q4, q5, q6⟩ := HSS.out w1 g1; clear g1))
    have HI : Hid (Gr A1 w2) := HX2
    clear e0 e1 f0 f1 ha hb p0 p1 p2 p3 p4 p5 p6 q0 q1 q2 q3 q4 q5 q6
    go_loopw [37] (fun i wr => ∃ k : Nat, k ≤ 1 ∧ i = .int .i64 k ∧ Hid (Gr A1 wr)) (fun i _ => 1 - (intOf i).toNat)
    case atStart => exact ⟨0, by omega, rfl, HI⟩
    case round =>
      clear HI HX2
      obtain ⟨k, hk, rfl, HR⟩ := hrel
      have hk3 : k = 0 ∨ k = 1 := by omega
      rcases hk3 with rfl | rfl
      · have HD := hidM (HR.out.trans gr_drew (fun _ _ h => h))
        have HS0 := hidM (HSS.out wr.drew HD.out)
        go_wp2_with fail
        go_region_held3 (fun u => u.cell? ⟨W.heap.size, 0, none⟩ = some (.slice (some ⟨ga, 0, none⟩) 1 ac) ∧ u.cell? ⟨W.heap.size, 1, none⟩ = some (.slice none 0 0) ∧ u.cell? ⟨A0.heap.size, 0, none⟩ = some (.slice (some ⟨gb, 0, none⟩) 1 bc) ∧ u.cell? ⟨A0.heap.size, 1, none⟩ = some (.slice none 0 0) ∧ u.cell? ⟨za, 0, none⟩ = some (.int .i64 0) ∧ u.cell? ⟨zb, 0, none⟩ = some (.int .i64 0) ∧ u.cell? ⟨ga, 0, none⟩ = some (.string (nmB nx)) ∧ u.cell? ⟨ga, 1, none⟩ = some (.bool false) ∧ u.cell? ⟨ga, 2, none⟩ = some (.int .i64 3) ∧ u.cell? ⟨ga, 3, none⟩ = some (.int .i64 0) ∧ u.cell? ⟨ga, 4, none⟩ = some (.int .i64 0) ∧ u.cell? ⟨ga, 5, none⟩ = some (.int .i64 0) ∧ u.cell? ⟨ga, 6, none⟩ = some (.slice ao 0 ca) ∧ u.cell? ⟨gb, 0, none⟩ = some (.string (nmB ny)) ∧ u.cell? ⟨gb, 1, none⟩ = some (.bool false) ∧ u.cell? ⟨gb, 2, none⟩ = some (.int .i64 3) ∧ u.cell? ⟨gb, 3, none⟩ = some (.int .i64 0) ∧ u.cell? ⟨gb, 4, none⟩ = some (.int .i64 0) ∧ u.cell? ⟨gb, 5, none⟩ = some (.int .i64 0) ∧ u.cell? ⟨gb, 6, none⟩ = some (.slice bo 0 cb)) (first | with_reducible exact HS0.out | with_reducible exact HS1.out | with_reducible exact HS2.out | with_reducible exact HS3.out) (first
          | (go_at_call 19; refine (alike19 _ _ _ _ _).mono ?_; rintro e w5 ⟨rfl, g5⟩; have HD5 := hidM (HD4.out.trans g5 (fun _ _ h => h)); have HS3 := hidM (HSS.out w5 HD5.out); clear g5)
          | (go_at_call 20; have _ := HD3; refine (bare20 _ _ _).mono ?_; rintro e w4 ⟨fo4, rfl, g4⟩; have HD4 := hidM (HD3.out.trans g4 (fun _ _ h => h)); have HS2 := hidM (HSS.out w4 HD4.out); clear g4)
          | (go_at_call 20; refine (bare20 _ _ _).mono ?_; rintro e w3 ⟨fo3, rfl, g3⟩; have HD3 := hidM (HD.out.trans g3 (fun _ _ h => h)); have HS1 := hidM (HSS.out w3 HD3.out); clear g3))
        go_wp2_with fail
        go_roundw
        case rel => exact ⟨1, by omega, by go_num, HD5⟩
        case measure => simp [intOf]
      · go_wp2_with fail
        go_ret
        exact ⟨rfl, HG.out.trans HR.out (fun _ _ h => h)⟩
end Go.Proofs.YteggcdhibcjneaaGreatDoor.Kit
