import Derived.Test.YtknnoiomdngmfaaGreatDoorKC
import Derived.Test.YtknnoiomdngmfaaGreatDoorCU
set_option maxRecDepth 100000
set_option maxHeartbeats 4000000
namespace Go.Proofs.YtknnoiomdngmfaaGreatDoor.Kit
open Go.RowKit Go.Shelf Go.Deep
open Go.Proofs.YtknnoiomdngmfaaGreatDoor.Ink (OwnRow)
set_option linter.unusedVariables false
set_option linter.unusedSimpArgs false
attribute [local go_sem] run_store_func
theorem exact229 (n : Int) (W : World) : Calls Tryz.prog 265 #[.int .i8 n, .bool true] W fun e w' => e = .returned (.tuple #[.int .i8 n, .int .i64 0]) ∧ w' = W := by
  go_enter Tryz.func265, Tryz.ntmps265
  go_wp2_with fail
  go_ret2
  exact ⟨rfl, rfl⟩
theorem product145_0 (W : World) : Calls Tryz.prog 184 #[.int .i8 3, .int .i8 3] W fun e w' => e = .returned (.tuple #[.int .i8 9, .int .i64 0]) ∧ w' = W := by
  have q1 : ∀ w : World, (binOp .mul 128 (.int .i8 3) (.int .i8 3)).run Tryz.prog w = .ok (.int .i8 9) w := fun w => by kernel_rfl
  have q2 : ∀ w : World, (binOp .quo 128 (.int .i8 9) (.int .i8 3)).run Tryz.prog w = .ok (.int .i8 3) w := fun w => by kernel_rfl
  go_enter Tryz.func184, Tryz.ntmps184
  go_wp2_with (go_at_call 265; refine (exact229 9 _).mono ?_; rintro e w1 ⟨rfl, rfl⟩)
  go_ret2
  exact ⟨rfl, rfl⟩
theorem product145_1 (W : World) : Calls Tryz.prog 184 #[.int .i8 4, .int .i8 4] W fun e w' => e = .returned (.tuple #[.int .i8 16, .int .i64 0]) ∧ w' = W := by
  have q1 : ∀ w : World, (binOp .mul 128 (.int .i8 4) (.int .i8 4)).run Tryz.prog w = .ok (.int .i8 16) w := fun w => by kernel_rfl
  have q2 : ∀ w : World, (binOp .quo 128 (.int .i8 16) (.int .i8 4)).run Tryz.prog w = .ok (.int .i8 4) w := fun w => by kernel_rfl
  go_enter Tryz.func184, Tryz.ntmps184
  go_wp2_with (go_at_call 265; refine (exact229 16 _).mono ?_; rintro e w1 ⟨rfl, rfl⟩)
  go_ret2
  exact ⟨rfl, rfl⟩
theorem whole87 (W : World) : Calls Tryz.prog 122 #[.int .i64 3] W fun e w' => e = .returned (.func (.func 184) #[] #[]) ∧ w' = W := by
  go_enter Tryz.func122, Tryz.ntmps122
  go_wp2_with fail
  go_ret
  exact ⟨rfl, rfl⟩
def WkA (W w' : World) (v : Value) : Prop := ∃ p d, v = .func (.func 123) #[] #[.pointer (some ⟨p, 0, none⟩), .pointer (some ⟨d, 0, none⟩)] ∧ Gr W w' ∧ w'.heap[p]? = some (.cells #[.int .i64 3] 3) ∧ w'.heap[d]? = some (.cells #[.func (.func 184) #[] #[]] 174)
theorem reck50 (W : World) : Calls Tryz.prog 79 #[.int .i64 3] W fun e w' => ∃ v, e = .returned v ∧ WkA W w' v := by
  have hmf : ∀ (fn : Fn) (first cap : Array Value) (w : World), (Instr.makeFunc fn first cap).run Tryz.prog w = .ok (.func fn first cap) w := fun _ _ _ _ => rfl
  obtain ⟨A, hA⟩ := ex (W.alloc (.cells #[.int .i64 3] 3))
  have gA := gr_al hA
  have hb : A.heap[W.heap.size]? = some (.cells #[.int .i64 3] 3) := by rw [← hA]; exact heap_alloc_new W _
  have c0 := cell1 hb
  obtain ⟨V, hV⟩ := ex (A.alloc (.cells #[.func (.func 184) #[] #[]] 174))
  have gV := gr_al hV
  have hd := al_new hV
  have HE : Hid (WkA W V (.func (.func 123) #[] #[.pointer (some ⟨W.heap.size, 0, none⟩), .pointer (some ⟨A.heap.size, 0, none⟩)])) := ⟨_, _, rfl, gA.tr gV, (gV.block _ (lt_of_heap hb) id).trans hb, hd⟩
  have d0 := cell1 hd
  clear gA hb gV hd
  go_enter Tryz.func79, Tryz.ntmps79
  go_wp2_with (go_at_call 122; refine (whole87 _).mono ?_; rintro e w1 ⟨rfl, rfl⟩)
  go_ret
  exact ⟨_, rfl, HE.out⟩
theorem reck23 (W : World) : Calls Tryz.prog 55 #[.int .i64 3, .int .i64 3] W fun e w' => ∃ v, e = .returned v ∧ WkA W w' v := by
  go_enter Tryz.func55, Tryz.ntmps55
  go_wp2_with (go_at_call 79; refine (reck50 _).mono ?_; rintro e w1 ⟨v, rfl, h⟩; have HH := hidM h; clear h)
  go_ret
  exact ⟨_, rfl, HH.out⟩
theorem results_cell47 {fn : Func} {t : Tmp} {tmps : Array Value} {g : Nat} {cs : Array Value} {w : World} (h : fn.results = #[.cell t 77]) (ht : tmps.getD t undef = .pointer (some ⟨g, 0, none⟩)) (hg : w.heap[g]? = some (.cells cs 77 (0, 0))) (hi : (Tryz.prog.info? 77).map (·.size) = some cs.size) :
    (results fn tmps).run Tryz.prog w = .ok (.agg cs) w := by
  have hl := run_loadVar_row (P := Tryz.prog) w g 77 77 cs (0, 0) _ hg Tryz.underlying77 rfl hi
  unfold results
  rw [h]
  simp only [Array.mapM_eq_mapM_toList, List.mapM_cons, List.mapM_nil, ht]
  simp [asAddr, hl]
def wkU (w : World) (b : Nat) (v : Value) : World := setAll w b [(0, .bool false), (1, v)]
theorem wk_blk {w : World} {b : Nat} {v : Value} (h : w.heap[b]? = some (.cells #[.bool false, .nilFunc] 77)) : (wkU w b v).heap[b]? = some (.cells #[.bool false, v] 77) := by
  unfold wkU
  rw [setAll_blk b 77 _ _ _ h]
  simp [setsA]
theorem work9 (W : World) : Calls Tryz.prog 40 #[.int .i64 3, .agg tyC] W fun e w' => ∃ v, e = .returned (.agg #[.bool false, v]) ∧ WkA W w' v := by
  obtain ⟨A0, hA0⟩ := ex (W.alloc (.cells tyC 24))
  have g0 := gr_al hA0
  have b0 := al_new hA0
  obtain ⟨A, hA⟩ := ex (A0.alloc (.cells #[.bool false, .nilFunc] 77))
  have g1 := gr_al hA
  have b1 : A.heap[A0.heap.size]? = some (.cells #[.bool false, .nilFunc] 77) := by rw [← hA]; exact heap_alloc_new A0 _
  have gA : Gr W A := g0.tr g1
  obtain ⟨a0, a1, a2, a3, a4⟩ := cell5 ((g1.block _ (lt_of_heap b0) id).trans b0)
  have HT : Hid (∀ v w1, WkA A w1 v → (∃ p d, v = .func (.func 123) #[] #[.pointer (some ⟨p, 0, none⟩), .pointer (some ⟨d, 0, none⟩)]) ∧ w1.heap[A0.heap.size]? = some (.cells #[.bool false, .nilFunc] 77) ∧ (wkU w1 A0.heap.size v).heap[A0.heap.size]? = some (.cells #[.bool false, v] 77) ∧ WkA W (wkU w1 A0.heap.size v) v) := fun v w1 ⟨p, d, e, g, h1, h2⟩ => by
    have hb := (g.block _ (lt_of_heap b1) id).trans b1
    have kU : Keeps w1 (wkU w1 A0.heap.size v) (fun z => z = A0.heap.size) := setAll_kp _ _ _
    have n1 := blk_ne h1 hb (by decide)
    have n2 := blk_ne h2 hb (by decide)
    exact ⟨⟨p, d, e⟩, hb, wk_blk hb, p, d, e, (gA.tr g).trans kU (fun j hj (e : j = A0.heap.size) => by have := g0.size; omega), (kU.block p (lt_of_heap h1) n1).trans h1, (kU.block d (lt_of_heap h2) n2).trans h2⟩
  clear g0 b0 g1 b1 gA
  unfold tyC at hA0 ⊢
  go_enter Tryz.func40, Tryz.ntmps40
  go_wp2_with (go_at_call 55; refine (reck23 _).mono ?_; rintro e w1 ⟨v, rfl, h⟩; obtain ⟨⟨p, d, hv⟩, hb, hu, hw⟩ := HT.out v w1 h; subst hv; obtain ⟨U, hU⟩ := ex (wkU w1 A0.heap.size (.func (.func 123) #[] #[.pointer (some ⟨p, 0, none⟩), .pointer (some ⟨d, 0, none⟩)])); rw [hU] at hu hw; simp only [wkU, setAll] at hU; obtain ⟨c0, c1⟩ := cell2 hb; have x0 := frz hb 0; have x1 := frz hb 1; have HU := hidM hu; have HW := hidM hw; clear h hb hu hw)
  (try simp only [Exit.inBlock, Exit.then])
  refine bodyPost_ret (results_cell47 rfl rfl (by with_reducible exact HU.out) (by kernel_rfl)) rfl ?_
  exact ⟨_, rfl, HW.out⟩
def vl2 (x : Int) : Array Value := #[.bool false, .int .i64 x, .string ⟨#[]⟩, .slice none 0 0, .bool false, .int .i64 x, .string ⟨#[]⟩, .slice none 0 0]
theorem row88_0 (g c p d : Nat) (W : World) (hg : W.heap[g]? = some (.cells (vl2 3) 98)) (hp : W.heap[p]? = some (.cells #[.int .i64 3] 3)) (hd : W.heap[d]? = some (.cells #[.func (.func 184) #[] #[]] 174)) : Calls Tryz.prog 123 #[.slice (some ⟨g, 0, none⟩) 2 c, .pointer (some ⟨p, 0, none⟩), .pointer (some ⟨d, 0, none⟩)] W fun e w' => e = .returned (.tuple #[.agg #[.bool false, .int .i64 9, .string ⟨#[]⟩, .slice none 0 0], .int .i64 0]) ∧ Gr W w' := by
  obtain ⟨A, hA⟩ := ex (W.alloc (.cells #[.bool false, .int .i64 0, .string ⟨#[]⟩, .slice none 0 0] 98))
  have gA := gr_al hA
  have hb : A.heap[W.heap.size]? = some (.cells #[.bool false, .int .i64 0, .string ⟨#[]⟩, .slice none 0 0] 98) := by rw [← hA]; exact heap_alloc_new W _
  have hS : ∀ u, Gr W u → u.cell? ⟨g, 1, none⟩ = some (.int .i64 3) ∧ u.cell? ⟨g, 5, none⟩ = some (.int .i64 3) := fun u h => by
    obtain ⟨-, y1, -, -, -, y5, -, -⟩ := cell8 ((h.block g (lt_of_heap hg) id).trans hg)
    exact ⟨y1, y5⟩
  have HS0 := hidM (hS A.drew gA.drew)
  have HS1 := hidM (hS A.drew.drew gA.drew.drew)
  have c0 := cell1 (((gA.drew).block p (lt_of_heap hp) id).trans hp)
  have HBD : Hid (A.drew.drew.heap[W.heap.size]? = some (.cells #[.bool false, .int .i64 0, .string ⟨#[]⟩, .slice none 0 0] 98) ∧ A.drew.drew.heap[d]? = some (.cells #[.func (.func 184) #[] #[]] 174) ∧ Gr W A.drew.drew) := ⟨hb, ((gA.drew.drew).block d (lt_of_heap hd) id).trans hd, gA.drew.drew⟩
  clear gA hb hS hg hp hd
  have cv1 : ∀ w : World, (convert 2 128 (.int .i64 3)).run Tryz.prog w = .ok (.int .i8 3) w := fun w => by kernel_rfl
  have cv2 : ∀ w : World, (convert 128 2 (.int .i8 9)).run Tryz.prog w = .ok (.int .i64 9) w := fun w => by kernel_rfl
  go_enter Tryz.func123, Tryz.ntmps123
  go_wp2_with fail
  go_region_held3 (fun u => u.cell? ⟨g, 1, none⟩ = some (.int .i64 3) ∧ u.cell? ⟨g, 5, none⟩ = some (.int .i64 3)) (first | with_reducible exact HS0.out | with_reducible exact HS1.out) (fail)
  go_wp2_with fail
  go_region_held3 (fun u => u.cell? ⟨g, 1, none⟩ = some (.int .i64 3) ∧ u.cell? ⟨g, 5, none⟩ = some (.int .i64 3)) (first | with_reducible exact HS0.out | with_reducible exact HS1.out) (fail)
  obtain ⟨D, hD⟩ := ex (A.drew.drew)
  rw [hD] at HBD ⊢
  clear hD
  obtain ⟨hbD, hdD, gD⟩ := HBD.out
  have c1 := cell1 hdD
  obtain ⟨y0, y1, y2, y3⟩ := cell4 hbD
  have x0 := frz hbD 0
  have x1 := frz hbD 1
  have x2 := frz hbD 2
  have x3 := frz hbD 3
  have HU := hidM (vl_blk (vn := false) (x := 9) hbD)
  have HG : Hid (Gr W (vlU D W.heap.size false 9)) := gD.trans (vl_kp _ _ _ _) (fun j hj (e : j = W.heap.size) => by omega)
  obtain ⟨U, hU⟩ := ex (vlU D W.heap.size false 9)
  rw [hU] at HU HG
  simp only [vlU, setAll] at hU
  clear hbD hdD gD HBD HS0 HS1
  go_wp2_with (go_at_call 184; refine (product145_0 _).mono ?_; rintro e w1 ⟨rfl, rfl⟩)
  (try simp only [Exit.inBlock, Exit.then])
  refine bodyPost_ret (results_cell37t rfl rfl (by with_reducible exact HU.out) (by kernel_rfl)) rfl ?_
  exact ⟨rfl, HG.out⟩
theorem row88_1 (g c p d : Nat) (W : World) (hg : W.heap[g]? = some (.cells (vl2 4) 98)) (hp : W.heap[p]? = some (.cells #[.int .i64 3] 3)) (hd : W.heap[d]? = some (.cells #[.func (.func 184) #[] #[]] 174)) : Calls Tryz.prog 123 #[.slice (some ⟨g, 0, none⟩) 2 c, .pointer (some ⟨p, 0, none⟩), .pointer (some ⟨d, 0, none⟩)] W fun e w' => e = .returned (.tuple #[.agg #[.bool false, .int .i64 16, .string ⟨#[]⟩, .slice none 0 0], .int .i64 0]) ∧ Gr W w' := by
  obtain ⟨A, hA⟩ := ex (W.alloc (.cells #[.bool false, .int .i64 0, .string ⟨#[]⟩, .slice none 0 0] 98))
  have gA := gr_al hA
  have hb : A.heap[W.heap.size]? = some (.cells #[.bool false, .int .i64 0, .string ⟨#[]⟩, .slice none 0 0] 98) := by rw [← hA]; exact heap_alloc_new W _
  have hS : ∀ u, Gr W u → u.cell? ⟨g, 1, none⟩ = some (.int .i64 4) ∧ u.cell? ⟨g, 5, none⟩ = some (.int .i64 4) := fun u h => by
    obtain ⟨-, y1, -, -, -, y5, -, -⟩ := cell8 ((h.block g (lt_of_heap hg) id).trans hg)
    exact ⟨y1, y5⟩
  have HS0 := hidM (hS A.drew gA.drew)
  have HS1 := hidM (hS A.drew.drew gA.drew.drew)
  have c0 := cell1 (((gA.drew).block p (lt_of_heap hp) id).trans hp)
  have HBD : Hid (A.drew.drew.heap[W.heap.size]? = some (.cells #[.bool false, .int .i64 0, .string ⟨#[]⟩, .slice none 0 0] 98) ∧ A.drew.drew.heap[d]? = some (.cells #[.func (.func 184) #[] #[]] 174) ∧ Gr W A.drew.drew) := ⟨hb, ((gA.drew.drew).block d (lt_of_heap hd) id).trans hd, gA.drew.drew⟩
  clear gA hb hS hg hp hd
  have cv1 : ∀ w : World, (convert 2 128 (.int .i64 4)).run Tryz.prog w = .ok (.int .i8 4) w := fun w => by kernel_rfl
  have cv2 : ∀ w : World, (convert 128 2 (.int .i8 16)).run Tryz.prog w = .ok (.int .i64 16) w := fun w => by kernel_rfl
  go_enter Tryz.func123, Tryz.ntmps123
  go_wp2_with fail
  go_region_held3 (fun u => u.cell? ⟨g, 1, none⟩ = some (.int .i64 4) ∧ u.cell? ⟨g, 5, none⟩ = some (.int .i64 4)) (first | with_reducible exact HS0.out | with_reducible exact HS1.out) (fail)
  go_wp2_with fail
  go_region_held3 (fun u => u.cell? ⟨g, 1, none⟩ = some (.int .i64 4) ∧ u.cell? ⟨g, 5, none⟩ = some (.int .i64 4)) (first | with_reducible exact HS0.out | with_reducible exact HS1.out) (fail)
  obtain ⟨D, hD⟩ := ex (A.drew.drew)
  rw [hD] at HBD ⊢
  clear hD
  obtain ⟨hbD, hdD, gD⟩ := HBD.out
  have c1 := cell1 hdD
  obtain ⟨y0, y1, y2, y3⟩ := cell4 hbD
  have x0 := frz hbD 0
  have x1 := frz hbD 1
  have x2 := frz hbD 2
  have x3 := frz hbD 3
  have HU := hidM (vl_blk (vn := false) (x := 16) hbD)
  have HG : Hid (Gr W (vlU D W.heap.size false 16)) := gD.trans (vl_kp _ _ _ _) (fun j hj (e : j = W.heap.size) => by omega)
  obtain ⟨U, hU⟩ := ex (vlU D W.heap.size false 16)
  rw [hU] at HU HG
  simp only [vlU, setAll] at hU
  clear hbD hdD gD HBD HS0 HS1
  go_wp2_with (go_at_call 184; refine (product145_1 _).mono ?_; rintro e w1 ⟨rfl, rfl⟩)
  (try simp only [Exit.inBlock, Exit.then])
  refine bodyPost_ret (results_cell37t rfl rfl (by with_reducible exact HU.out) (by kernel_rfl)) rfl ?_
  exact ⟨rfl, HG.out⟩
theorem null69 (x : Int) (W : World) : Calls Tryz.prog 98 #[.agg #[.bool false, .int .i64 x, .string ⟨#[]⟩, .slice none 0 0]] W fun e w' => e = .returned (.bool false) ∧ Gr W w' := by
  obtain ⟨A, hA⟩ := ex (W.alloc (.cells #[.bool false, .int .i64 x, .string ⟨#[]⟩, .slice none 0 0] 98))
  have gA := gr_al hA
  have hb : A.heap[W.heap.size]? = some (.cells #[.bool false, .int .i64 x, .string ⟨#[]⟩, .slice none 0 0] 98) := by rw [← hA]; exact heap_alloc_new W _
  obtain ⟨a0, a1, a2, a3⟩ := cell4 hb
  have HG := hidM gA
  clear gA hb
  go_enter Tryz.func98, Tryz.ntmps98
  go_wp2_with fail
  go_ret
  exact ⟨rfl, HG.out⟩
theorem idx119 (g c : Nat) (x : Int) (W : World) (hg : W.heap[g]? = some (.cells (vl2 x) 98)) : Calls Tryz.prog 154 #[.slice (some ⟨g, 0, none⟩) 2 c, .func (.func 98) #[] #[]] W fun e w' => e = .returned (.int .i64 (-1)) ∧ Gr W w' := by
  have HB : Hid (∀ u, Gr W u → u.heap[g]? = some (.cells (vl2 x) 98)) := fun u h => (h.block g (lt_of_heap hg) id).trans hg
  clear hg
  go_enter Tryz.func154, Tryz.ntmps154
  go_wp2_with fail
  go_loopw [8] (fun i wr => ∃ k : Nat, k ≤ 2 ∧ i = .int .i64 k ∧ Hid (Gr W wr)) (fun i _ => 2 - (intOf i).toNat)
  case atStart => exact ⟨0, by omega, rfl, Keeps.refl _ _⟩
  case round =>
    obtain ⟨k, hk, rfl, HI⟩ := hrel
    have hk3 : k = 0 ∨ k = 1 ∨ k = 2 := by omega
    rcases hk3 with rfl | rfl | rfl
    · obtain ⟨a0, a1, a2, a3, -⟩ := cell8 (HB.out wr HI.out)
      go_wp2_with (go_at_call 98; refine (null69 _ _).mono ?_; rintro e w2 ⟨rfl, g2⟩; have HI2 := hidM (HI.out.tr g2); clear g2)
      go_roundw
      case rel => exact ⟨1, by omega, by go_num, HI2⟩
      case measure => simp [intOf]
    · obtain ⟨-, -, -, -, a0, a1, a2, a3⟩ := cell8 (HB.out wr HI.out)
      go_wp2_with (go_at_call 98; refine (null69 _ _).mono ?_; rintro e w2 ⟨rfl, g2⟩; have HI2 := hidM (HI.out.tr g2); clear g2)
      go_roundw
      case rel => exact ⟨2, by omega, by go_num, HI2⟩
      case measure => simp [intOf]
    go_wp2_with fail
    go_ret
    exact ⟨rfl, HI.out⟩
theorem has68 (g c : Nat) (x : Int) (W : World) (hg : W.heap[g]? = some (.cells (vl2 x) 98)) : Calls Tryz.prog 97 #[.slice (some ⟨g, 0, none⟩) 2 c, .func (.func 98) #[] #[]] W fun e w' => e = .returned (.bool false) ∧ Gr W w' := by
  have HC := hidM (idx119 g c x W hg)
  clear hg
  go_enter Tryz.func97, Tryz.ntmps97
  go_wp2_with (go_at_call 154; refine HC.out.mono ?_; rintro e w2 ⟨rfl, g2⟩; have HI2 := hidM g2; clear g2)
  go_ret
  exact ⟨rfl, HI2.out⟩
theorem one36_0 (g c p d : Nat) (W : World) (hg : W.heap[g]? = some (.cells (vl2 3) 98)) (hp : W.heap[p]? = some (.cells #[.int .i64 3] 3)) (hd : W.heap[d]? = some (.cells #[.func (.func 184) #[] #[]] 174)) : Calls Tryz.prog 68 #[.agg #[.bool false, .func (.func 123) #[] #[.pointer (some ⟨p, 0, none⟩), .pointer (some ⟨d, 0, none⟩)]], .slice (some ⟨g, 0, none⟩) 2 c] W fun e w' => e = .returned (.tuple #[.agg #[.bool false, .int .i64 9, .string ⟨#[]⟩, .slice none 0 0], .int .i64 0]) ∧ Gr W w' := by
  obtain ⟨A0, hA0⟩ := ex (W.alloc (.cells #[.bool false, .func (.func 123) #[] #[.pointer (some ⟨p, 0, none⟩), .pointer (some ⟨d, 0, none⟩)]] 77))
  have g0 := gr_al hA0
  have b0 := al_new hA0
  obtain ⟨A, hA⟩ := ex (A0.alloc (.cells #[.bool false, .int .i64 0, .string ⟨#[]⟩, .slice none 0 0] 98))
  have g1 := gr_al hA
  have b1 : A.heap[A0.heap.size]? = some (.cells #[.bool false, .int .i64 0, .string ⟨#[]⟩, .slice none 0 0] 98) := by rw [← hA]; exact heap_alloc_new A0 _
  have b0' := (g1.block _ (lt_of_heap b0) id).trans b0
  have gA : Gr W A := g0.tr g1
  have HC1 := hidM (has68 g c 3 A ((gA.block g (lt_of_heap hg) id).trans hg))
  have HC2 : Hid (∀ w1, Gr A w1 → Calls Tryz.prog 123 #[.slice (some ⟨g, 0, none⟩) 2 c, .pointer (some ⟨p, 0, none⟩), .pointer (some ⟨d, 0, none⟩)] w1 fun e w' => e = .returned (.tuple #[.agg #[.bool false, .int .i64 9, .string ⟨#[]⟩, .slice none 0 0], .int .i64 0]) ∧ Gr w1 w') := fun w1 h => by
    have h' := gA.tr h
    exact row88_0 g c p d w1 ((h'.block g (lt_of_heap hg) id).trans hg) ((h'.block p (lt_of_heap hp) id).trans hp) ((h'.block d (lt_of_heap hd) id).trans hd)
  have HS : Hid (∀ w1, Gr A w1 → w1.heap[W.heap.size]? = some (.cells #[.bool false, .func (.func 123) #[] #[.pointer (some ⟨p, 0, none⟩), .pointer (some ⟨d, 0, none⟩)]] 77)) := fun w1 h => (h.block _ (lt_of_heap b0') id).trans b0'
  have HT : Hid (∀ w2, Gr A w2 → w2.heap[A0.heap.size]? = some (.cells #[.bool false, .int .i64 0, .string ⟨#[]⟩, .slice none 0 0] 98) ∧ (vlU w2 A0.heap.size false 9).heap[A0.heap.size]? = some (.cells #[.bool false, .int .i64 9, .string ⟨#[]⟩, .slice none 0 0] 98) ∧ Gr W (vlU w2 A0.heap.size false 9)) := fun w2 h => by
    have h2 := (h.block _ (lt_of_heap b1) id).trans b1
    exact ⟨h2, vl_blk h2, (gA.tr h).trans (vl_kp _ _ _ _) (fun j hj (e : j = A0.heap.size) => by have := g0.size; omega)⟩
  obtain ⟨a0, a1⟩ := cell2 b0'
  clear g0 b0 g1 b1 b0' gA hg hp hd
  go_enter Tryz.func68, Tryz.ntmps68
  go_wp2_with (first
    | (go_at_call 97; refine HC1.out.mono ?_; rintro e w1 ⟨rfl, g1⟩; have HG1 := hidM g1; clear g1 a0 a1; obtain ⟨a0, a1⟩ := cell2 (HS.out w1 HG1.out))
    | (go_at_call 123; refine (HC2.out w1 HG1.out).mono ?_; rintro e w2 ⟨rfl, g2⟩; obtain ⟨h2, hu2, gu2⟩ := HT.out w2 (HG1.out.tr g2); obtain ⟨U, hU⟩ := ex (vlU w2 A0.heap.size false 9); rw [hU] at hu2 gu2; simp only [vlU, setAll] at hU; obtain ⟨y0, y1, y2, y3⟩ := cell4 h2; have x0 := frz h2 0; have x1 := frz h2 1; have x2 := frz h2 2; have x3 := frz h2 3; have HU := hidM hu2; have HG := hidM gu2; clear g2 h2 hu2 gu2))
  (try simp only [Exit.inBlock, Exit.then])
  refine bodyPost_ret (results_cell37t rfl rfl (by with_reducible exact HU.out) (by kernel_rfl)) rfl ?_
  exact ⟨rfl, HG.out⟩
theorem one36_1 (g c p d : Nat) (W : World) (hg : W.heap[g]? = some (.cells (vl2 4) 98)) (hp : W.heap[p]? = some (.cells #[.int .i64 3] 3)) (hd : W.heap[d]? = some (.cells #[.func (.func 184) #[] #[]] 174)) : Calls Tryz.prog 68 #[.agg #[.bool false, .func (.func 123) #[] #[.pointer (some ⟨p, 0, none⟩), .pointer (some ⟨d, 0, none⟩)]], .slice (some ⟨g, 0, none⟩) 2 c] W fun e w' => e = .returned (.tuple #[.agg #[.bool false, .int .i64 16, .string ⟨#[]⟩, .slice none 0 0], .int .i64 0]) ∧ Gr W w' := by
  obtain ⟨A0, hA0⟩ := ex (W.alloc (.cells #[.bool false, .func (.func 123) #[] #[.pointer (some ⟨p, 0, none⟩), .pointer (some ⟨d, 0, none⟩)]] 77))
  have g0 := gr_al hA0
  have b0 := al_new hA0
  obtain ⟨A, hA⟩ := ex (A0.alloc (.cells #[.bool false, .int .i64 0, .string ⟨#[]⟩, .slice none 0 0] 98))
  have g1 := gr_al hA
  have b1 : A.heap[A0.heap.size]? = some (.cells #[.bool false, .int .i64 0, .string ⟨#[]⟩, .slice none 0 0] 98) := by rw [← hA]; exact heap_alloc_new A0 _
  have b0' := (g1.block _ (lt_of_heap b0) id).trans b0
  have gA : Gr W A := g0.tr g1
  have HC1 := hidM (has68 g c 4 A ((gA.block g (lt_of_heap hg) id).trans hg))
  have HC2 : Hid (∀ w1, Gr A w1 → Calls Tryz.prog 123 #[.slice (some ⟨g, 0, none⟩) 2 c, .pointer (some ⟨p, 0, none⟩), .pointer (some ⟨d, 0, none⟩)] w1 fun e w' => e = .returned (.tuple #[.agg #[.bool false, .int .i64 16, .string ⟨#[]⟩, .slice none 0 0], .int .i64 0]) ∧ Gr w1 w') := fun w1 h => by
    have h' := gA.tr h
    exact row88_1 g c p d w1 ((h'.block g (lt_of_heap hg) id).trans hg) ((h'.block p (lt_of_heap hp) id).trans hp) ((h'.block d (lt_of_heap hd) id).trans hd)
  have HS : Hid (∀ w1, Gr A w1 → w1.heap[W.heap.size]? = some (.cells #[.bool false, .func (.func 123) #[] #[.pointer (some ⟨p, 0, none⟩), .pointer (some ⟨d, 0, none⟩)]] 77)) := fun w1 h => (h.block _ (lt_of_heap b0') id).trans b0'
  have HT : Hid (∀ w2, Gr A w2 → w2.heap[A0.heap.size]? = some (.cells #[.bool false, .int .i64 0, .string ⟨#[]⟩, .slice none 0 0] 98) ∧ (vlU w2 A0.heap.size false 16).heap[A0.heap.size]? = some (.cells #[.bool false, .int .i64 16, .string ⟨#[]⟩, .slice none 0 0] 98) ∧ Gr W (vlU w2 A0.heap.size false 16)) := fun w2 h => by
    have h2 := (h.block _ (lt_of_heap b1) id).trans b1
    exact ⟨h2, vl_blk h2, (gA.tr h).trans (vl_kp _ _ _ _) (fun j hj (e : j = A0.heap.size) => by have := g0.size; omega)⟩
  obtain ⟨a0, a1⟩ := cell2 b0'
  clear g0 b0 g1 b1 b0' gA hg hp hd
  go_enter Tryz.func68, Tryz.ntmps68
  go_wp2_with (first
    | (go_at_call 97; refine HC1.out.mono ?_; rintro e w1 ⟨rfl, g1⟩; have HG1 := hidM g1; clear g1 a0 a1; obtain ⟨a0, a1⟩ := cell2 (HS.out w1 HG1.out))
    | (go_at_call 123; refine (HC2.out w1 HG1.out).mono ?_; rintro e w2 ⟨rfl, g2⟩; obtain ⟨h2, hu2, gu2⟩ := HT.out w2 (HG1.out.tr g2); obtain ⟨U, hU⟩ := ex (vlU w2 A0.heap.size false 16); rw [hU] at hu2 gu2; simp only [vlU, setAll] at hU; obtain ⟨y0, y1, y2, y3⟩ := cell4 h2; have x0 := frz h2 0; have x1 := frz h2 1; have x2 := frz h2 2; have x3 := frz h2 3; have HU := hidM hu2; have HG := hidM gu2; clear g2 h2 hu2 gu2))
  (try simp only [Exit.inBlock, Exit.then])
  refine bodyPost_ret (results_cell37t rfl rfl (by with_reducible exact HU.out) (by kernel_rfl)) rfl ?_
  exact ⟨rfl, HG.out⟩
theorem mk42 (w : World) : (Instr.makeSlice 72 (.int .i64 2) (.int .i64 2)).run Tryz.prog w = .ok (.slice (some ⟨w.heap.size, 0, none⟩) 2 2) (w.alloc (.cells #[.bool false, .int .i64 0, .string ⟨#[]⟩, .slice none 0 0, .bool false, .int .i64 0, .string ⟨#[]⟩, .slice none 0 0] 98)) := by kernel_rfl
def agK (k j : Nat) : Array Value := if k = 0 then (if j = 0 then #[.bool false, .int .i64 0, .string ⟨#[]⟩, .slice none 0 0, .bool false, .int .i64 0, .string ⟨#[]⟩, .slice none 0 0] else if j = 1 then #[.bool false, .int .i64 3, .string ⟨#[]⟩, .slice none 0 0, .bool false, .int .i64 0, .string ⟨#[]⟩, .slice none 0 0] else #[.bool false, .int .i64 3, .string ⟨#[]⟩, .slice none 0 0, .bool false, .int .i64 3, .string ⟨#[]⟩, .slice none 0 0]) else (if j = 0 then #[.bool false, .int .i64 3, .string ⟨#[]⟩, .slice none 0 0, .bool false, .int .i64 3, .string ⟨#[]⟩, .slice none 0 0] else if j = 1 then #[.bool false, .int .i64 4, .string ⟨#[]⟩, .slice none 0 0, .bool false, .int .i64 3, .string ⟨#[]⟩, .slice none 0 0] else #[.bool false, .int .i64 4, .string ⟨#[]⟩, .slice none 0 0, .bool false, .int .i64 4, .string ⟨#[]⟩, .slice none 0 0])
def rsK (k : Nat) : Array Value := if k = 0 then #[.bool false, .int .i64 0, .string ⟨#[]⟩, .slice none 0 0, .bool false, .int .i64 0, .string ⟨#[]⟩, .slice none 0 0] else if k = 1 then #[.bool false, .int .i64 9, .string ⟨#[]⟩, .slice none 0 0, .bool false, .int .i64 0, .string ⟨#[]⟩, .slice none 0 0] else #[.bool false, .int .i64 9, .string ⟨#[]⟩, .slice none 0 0, .bool false, .int .i64 16, .string ⟨#[]⟩, .slice none 0 0]
def agB (k : Nat) : Array Value := if k = 0 then #[.bool false, .int .i64 0, .string ⟨#[]⟩, .slice none 0 0, .bool false, .int .i64 0, .string ⟨#[]⟩, .slice none 0 0] else if k = 1 then #[.bool false, .int .i64 3, .string ⟨#[]⟩, .slice none 0 0, .bool false, .int .i64 3, .string ⟨#[]⟩, .slice none 0 0] else #[.bool false, .int .i64 4, .string ⟨#[]⟩, .slice none 0 0, .bool false, .int .i64 4, .string ⟨#[]⟩, .slice none 0 0]
def v40 (w : World) (b : Nat) (x : Int) : World := setAll w b [(0, .bool false), (1, .int .i64 x), (2, .string ⟨#[]⟩), (3, .slice none 0 0)]
def v41 (w : World) (b : Nat) (x : Int) : World := setAll w b [(4, .bool false), (5, .int .i64 x), (6, .string ⟨#[]⟩), (7, .slice none 0 0)]
theorem ag_00 {w : World} {z : Nat} (h : w.heap[z]? = some (.cells (agK 0 0) 98)) : (v40 w z 3).heap[z]? = some (.cells (agK 0 1) 98) := by
  unfold v40
  rw [setAll_blk z 98 _ _ _ h]
  simp [setsA, agK]
theorem ag_01 {w : World} {z : Nat} (h : w.heap[z]? = some (.cells (agK 0 1) 98)) : (v41 w z 3).heap[z]? = some (.cells (agK 0 2) 98) := by
  unfold v41
  rw [setAll_blk z 98 _ _ _ h]
  simp [setsA, agK]
theorem rs_0 {w : World} {z : Nat} (h : w.heap[z]? = some (.cells (rsK 0) 98)) : (v40 w z 9).heap[z]? = some (.cells (rsK 1) 98) := by
  unfold v40
  rw [setAll_blk z 98 _ _ _ h]
  simp [setsA, rsK]
theorem ag_10 {w : World} {z : Nat} (h : w.heap[z]? = some (.cells (agK 1 0) 98)) : (v40 w z 4).heap[z]? = some (.cells (agK 1 1) 98) := by
  unfold v40
  rw [setAll_blk z 98 _ _ _ h]
  simp [setsA, agK]
theorem ag_11 {w : World} {z : Nat} (h : w.heap[z]? = some (.cells (agK 1 1) 98)) : (v41 w z 4).heap[z]? = some (.cells (agK 1 2) 98) := by
  unfold v41
  rw [setAll_blk z 98 _ _ _ h]
  simp [setsA, agK]
theorem rs_1 {w : World} {z : Nat} (h : w.heap[z]? = some (.cells (rsK 1) 98)) : (v41 w z 16).heap[z]? = some (.cells (rsK 2) 98) := by
  unfold v41
  rw [setAll_blk z 98 _ _ _ h]
  simp [setsA, rsK]
def EaI (A : World) (z7 z8 k : Nat) (wr : World) : Prop := Keeps A wr (fun b => b = z7 ∨ b = z8) ∧ wr.heap[z7]? = some (.cells (rsK k) 98) ∧ wr.heap[z8]? = some (.cells (agB k) 98)
def EbI (wo : World) (z8 k j : Nat) (wr : World) : Prop := Keeps wo wr (fun b => b = z8) ∧ wr.heap[z8]? = some (.cells (agK k j) 98)
structure ColA (W : World) (cb ga gb : Nat) : Prop where
  c0 : W.heap[cb]? = some (.cells #[.slice (some ⟨ga, 0, none⟩) 2 2, .slice (some ⟨gb, 0, none⟩) 2 2] 72)
  a : W.heap[ga]? = some (.cells #[.bool false, .int .i64 3, .string ⟨#[]⟩, .slice none 0 0, .bool false, .int .i64 4, .string ⟨#[]⟩, .slice none 0 0] 98)
  b : W.heap[gb]? = some (.cells #[.bool false, .int .i64 3, .string ⟨#[]⟩, .slice none 0 0, .bool false, .int .i64 4, .string ⟨#[]⟩, .slice none 0 0] 98)
theorem ColA.kp {W u : World} {cb ga gb : Nat} {S : Nat → Prop} (h : ColA W cb ga gb) (g : Keeps W u S) (h0 : ¬ S cb) (h1 : ¬ S ga) (h2 : ¬ S gb) : ColA u cb ga gb :=
  ⟨(g.block _ (lt_of_heap h.c0) h0).trans h.c0, (g.block _ (lt_of_heap h.a) h1).trans h.a, (g.block _ (lt_of_heap h.b) h2).trans h.b⟩
end Go.Proofs.YtknnoiomdngmfaaGreatDoor.Kit
