import Derived.Test.YtcedjdkldiffdaaGreatDoorKC
import Derived.Shelf.Spec.SlicesInsertGrow
import Derived.Test.YtcedjdkldiffdaaGreatDoorProg
import Derived.Test.YtcedjdkldiffdaaGreatDoorCU
set_option maxRecDepth 100000
set_option maxHeartbeats 4000000
namespace Go.Proofs.YtcedjdkldiffdaaGreatDoor.Kit
open Go.RowKit Go.Shelf Go.Deep
open Go.Proofs.YtcedjdkldiffdaaGreatDoor.Kd (Ans AnsV cell5 cell2)
open Go.Proofs.YtcedjdkldiffdaaGreatDoor.Ink (OwnRow)
set_option linter.unusedVariables false
set_option linter.unusedSimpArgs false
attribute [local go_sem] run_store_func
theorem results_cell27t {fn : Func} {t u : Tmp} {tmps : Array Value} {g : Nat} {cs : Array Value} {w : World} (h : fn.results = #[.cell t 27, .tmp u]) (ht : tmps.getD t undef = .pointer (some ⟨g, 0, none⟩)) (hg : w.heap[g]? = some (.cells cs 27 (0, 0))) (hi : (Tryz.prog.info? 27).map (·.size) = some cs.size) :
    (results fn tmps).run Tryz.prog w = .ok (.tuple #[.agg cs, tmps.getD u undef]) w := by
  have hl := run_loadVar_row (P := Tryz.prog) w g 27 27 cs (0, 0) _ hg Tryz.underlying27 rfl hi
  unfold results
  rw [h]
  simp only [Array.mapM_eq_mapM_toList, List.mapM_cons, List.mapM_nil, ht]
  simp [asAddr, hl]
def f9U (w : World) (b : Nat) (fo : Option Addr) (fc : Nat) : World := setAll w b [(0, .string nmA), (1, .bool false), (2, .int .i64 3), (3, .int .i64 0), (4, .int .i64 0), (5, .int .i64 0), (6, .slice fo 0 fc)]
theorem f9_blk {w : World} {b : Nat} {fo : Option Addr} {fc : Nat} (h : w.heap[b]? = some (.cells fdZ 27)) : (f9U w b fo fc).heap[b]? = some (.cells #[.string nmA, .bool false, .int .i64 3, .int .i64 0, .int .i64 0, .int .i64 0, .slice fo 0 fc] 27) := by
  unfold f9U
  rw [setAll_blk b 27 _ _ _ h]
  simp [setsA, fdZ]
theorem type7 (b c : Nat) (W : World) (hT : Tab W) (hb : W.heap[b]? = some (.cells fd2 27)) : Calls Tryz.prog 7 #[.int .i64 3, .slice (some ⟨b, 0, none⟩) 2 c] W fun e w' => ∃ fo fc, e = .returned (.tuple #[.agg #[.string nmA, .bool false, .int .i64 3, .int .i64 0, .int .i64 0, .int .i64 0, .slice fo 0 fc], .int .i64 0]) ∧ Gr W w' := by
  obtain ⟨A0, hA0⟩ : ∃ A0, W.alloc (.cells fdZ 27) = A0 := ⟨_, rfl⟩
  have g0 : Gr W A0 := by rw [← hA0]; exact gr_alloc W _
  have b0 : A0.heap[W.heap.size]? = some (.cells fdZ 27) := by rw [← hA0]; exact heap_alloc_new W _
  have hbA := (g0.block b (lt_of_heap hb) id).trans hb
  have HB : Hid (∀ u, Gr A0 u → u.heap[b]? = some (.cells fd2 27)) := fun u g => (g.block b (lt_of_heap hbA) id).trans hbA
  have HB0 : Hid (∀ u, Gr A0 u → u.heap[W.heap.size]? = some (.cells fdZ 27)) := fun u g => (g.block _ (lt_of_heap b0) id).trans b0
  have HTb : Hid (∀ u, Gr A0 u → Tab u) := fun u g => (hT.gr g0).gr g
  have HGW : Hid (∀ u, Gr A0 u → Gr W u) := fun u g => g0.trans g (fun _ _ h => h)
  clear g0 b0 hbA hb hT
  unfold fdZ at hA0
  go_enter Tryz.func7, Tryz.ntmps7
  go_wp2_with (first
    | (go_at_call 14; refine (args14 _).mono ?_; rintro e w1 ⟨rfl, hw⟩; replace hw := hw.symm; subst hw)
    | (go_at_call 15; refine (has15_16 b c A0 (HTb.out A0 (Keeps.refl _ _)) (HB.out A0 (Keeps.refl _ _))).mono ?_; rintro e w2 ⟨rfl, g2⟩; have HG2 := hidM g2; clear g2)
    | (go_at_call 18; refine (types18 b c w2 (HB.out w2 HG2.out)).mono ?_; rintro e w3 ⟨z, rfl, g3, hz, hty⟩; have HG3 := hidM (HG2.out.trans g3 (fun _ _ h => h)); have HTy := hidM hty; clear g3 hz hty)
    | (go_at_call 17; refine (outcome17 z w3 (HTb.out w3 HG3.out) HTy.out).mono ?_; rintro e w4 ⟨rfl, g4⟩; have HG4 := hidM (HG3.out.trans g4 (fun _ _ h => h)); clear g4; unfold tyC; obtain ⟨A5, hA5⟩ : ∃ A5, w4.alloc (.cells tyZ 25) = A5 := ⟨_, rfl⟩; have g5 : Gr w4 A5 := (by rw [← hA5]; exact gr_alloc w4 _); have hb5 : A5.heap[w4.heap.size]? = some (.cells tyZ 25) := (by rw [← hA5]; exact heap_alloc_new w4 _); obtain ⟨c0, c1, c2, c3, c4⟩ := cell5 hb5; have x0 := frz hb5 0; have x1 := frz hb5 1; have x2 := frz hb5 2; have x3 := frz hb5 3; have x4 := frz hb5 4; have hv5 := ty_blk hb5; have gv5 : Gr w4 (tyU A5 w4.heap.size) := g5.trans (setAll_kp _ _ _) (fun j hj e => (by have e' : j = w4.heap.size := e; omega)); obtain ⟨V, hV⟩ : ∃ V, tyU A5 w4.heap.size = V := ⟨_, rfl⟩; rw [hV] at hv5 gv5; simp only [tyU, setAll] at hV; unfold tyZ at hA5; have HV5 := hidM hv5; have HGV := hidM (HG4.out.trans gv5 (fun _ _ h => h)); clear g5 hb5 hv5 gv5))
  clear c0 c1 c2 c3 c4 x0 x1 x2 x3 x4 hA5 hV hA0
  obtain ⟨b7, hb7⟩ : ∃ b7, w4.heap.size = b7 := ⟨_, rfl⟩
  rw [hb7] at HV5 ⊢
  clear hb7
  have hS : ∀ u, Gr V u → u.cell? ⟨b, 0, none⟩ = some (.string nmA) ∧ u.cell? ⟨b7, 0, none⟩ = some (.int .i64 3) ∧ u.cell? ⟨b7, 1, none⟩ = some (.int .i64 0) ∧ u.cell? ⟨b7, 2, none⟩ = some (.int .i64 0) ∧ u.cell? ⟨b7, 3, none⟩ = some (.int .i64 0) ∧ u.cell? ⟨b7, 4, none⟩ = some (.slice none 0 0) := fun u g => by
    obtain ⟨⟨a0, -⟩, -⟩ := cell14 (HB.out u (HGV.out.trans g (fun _ _ h => h)))
    obtain ⟨c0, c1, c2, c3, c4⟩ := cell5 ((g.block _ (lt_of_heap HV5.out) id).trans HV5.out)
    exact ⟨a0, c0, c1, c2, c3, c4⟩
  have HS0 := hidM (hS V.drew gr_drew)
  have HSS := hidM hS
  have H19 : Hid (∀ u, Gr V u → Calls Tryz.prog 19 #[.int .i64 3, .slice (some ⟨b, 0, none⟩) 2 c] u fun e w' => e = .returned (.bool false) ∧ Gr u w') := fun u g => maybe19 b c u (HB.out u (HGV.out.trans g (fun _ _ h => h)))
  have HF : Hid (∀ w b9, Gr V w → V.heap.size ≤ b9 → w.heap[b9]? = some (.cells fdZ 27) → (fdU w b9).heap[b9]? = some (.cells fdC 27) ∧ Gr A0 (fdU w b9) ∧ ((fdU w b9).cell? ⟨b, 0, none⟩ = some (.string nmA) ∧ (fdU w b9).cell? ⟨b7, 0, none⟩ = some (.int .i64 3) ∧ (fdU w b9).cell? ⟨b7, 1, none⟩ = some (.int .i64 0) ∧ (fdU w b9).cell? ⟨b7, 2, none⟩ = some (.int .i64 0) ∧ (fdU w b9).cell? ⟨b7, 3, none⟩ = some (.int .i64 0) ∧ (fdU w b9).cell? ⟨b7, 4, none⟩ = some (.slice none 0 0)) ∧ (fdU w b9).heap[W.heap.size]? = some (.cells fdZ 27)) := fun w b9 g hl h9 => by
    have gU : Gr V (fdU w b9) := g.trans (setAll_kp _ _ _) (fun j hj e => by have e' : j = b9 := e; omega)
    have gA := HGV.out.trans gU (fun _ _ h => h)
    exact ⟨fd_blk h9, gA, hS _ gU, HB0.out _ gA⟩
  have HVd : Hid (Gr V V.drew) := gr_drew
  clear hS
  refine wp_region_held_drew (S := fun w' => w'.cell? ⟨b, 0, none⟩ = some (.string nmA) ∧ w'.cell? ⟨b7, 0, none⟩ = some (.int .i64 3) ∧ w'.cell? ⟨b7, 1, none⟩ = some (.int .i64 0) ∧ w'.cell? ⟨b7, 2, none⟩ = some (.int .i64 0) ∧ w'.cell? ⟨b7, 3, none⟩ = some (.int .i64 0) ∧ w'.cell? ⟨b7, 4, none⟩ = some (.slice none 0 0)) (by kernel_rfl) (HS0.out) (fun hHeld => ?_)
  refine wpAnyH_take (i := 0) (oi := { dst := some 34, op := Op.move (Operand.tmp 1), type := 23, pos := "calc.go:25", after := #[], guard := none }) (v := ?v0k1) rfl (by kernel_rfl) (by kernel_rfl) (by kernel_rfl) (fun _ _ _ h => h) (Or.inl ⟨by rfl, ?y0k1⟩) (by assumption) ?r0k1
  case y0k1 => (intro w hSw; obtain ⟨s0, s1, s2, s3, s4, s5⟩ := hSw; go_simp; (try with_reducible rfl))
  (try simp only [Act.put]); (try simp only [List.setIfInBounds_toArray]); (try simp only [List.set_cons_succ]); (try simp only [List.set_cons_zero])
  refine wpAnyH_take (i := 1) (oi := { dst := some 35, op := Op.indexAddr 23 (Operand.tmp 34) (Operand.const (Value.int IntKind.i64 0)), type := 0, pos := "calc.go:25", after := #[{ on := 0, ground := Ground.data }], guard := none }) (v := ?v1k2) rfl (by kernel_rfl) (by kernel_rfl) (by kernel_rfl) (fun _ _ _ h => h) (Or.inl ⟨by rfl, ?y1k2⟩) (by assumption) ?r1k2
  case y1k2 => (intro w hSw; obtain ⟨s0, s1, s2, s3, s4, s5⟩ := hSw; go_simp; (try with_reducible rfl))
  (try simp only [Act.put]); (try simp only [List.setIfInBounds_toArray]); (try simp only [List.set_cons_succ]); (try simp only [List.set_cons_zero])
  refine wpAnyH_take (i := 2) (oi := { dst := some 36, op := Op.fieldAddr 27 (Operand.tmp 35) 0, type := 0, pos := "calc.go:25", after := #[{ on := 1, ground := Ground.data }], guard := none }) (v := ?v2k3) rfl (by kernel_rfl) (by kernel_rfl) (by kernel_rfl) (fun _ _ _ h => h) (Or.inl ⟨by rfl, ?y2k3⟩) (by assumption) ?r2k3
  case y2k3 => (intro w hSw; obtain ⟨s0, s1, s2, s3, s4, s5⟩ := hSw; go_simp; (try with_reducible rfl))
  (try simp only [Act.put]); (try simp only [List.setIfInBounds_toArray]); (try simp only [List.set_cons_succ]); (try simp only [List.set_cons_zero])
  refine wpAnyH_take (i := 3) (oi := { dst := some 37, op := Op.load 9 (Operand.tmp 36), type := 9, pos := "calc.go:25", after := #[{ on := 2, ground := Ground.data }], guard := none }) (v := ?v3k4) rfl (by kernel_rfl) (by kernel_rfl) (by kernel_rfl) (fun _ _ _ h => h) (Or.inl ⟨by rfl, ?y3k4⟩) (by assumption) ?r3k4
  case y3k4 => (intro w hSw; obtain ⟨s0, s1, s2, s3, s4, s5⟩ := hSw; go_simp; (try with_reducible rfl))
  (try simp only [Act.put]); (try simp only [List.setIfInBounds_toArray]); (try simp only [List.set_cons_succ]); (try simp only [List.set_cons_zero])
  refine wpAnyH_take (i := 4) (oi := { dst := some 38, op := Op.move (Operand.tmp 0), type := 3, pos := "calc.go:25", after := #[], guard := none }) (v := ?v4k5) rfl (by kernel_rfl) (by kernel_rfl) (by kernel_rfl) (fun _ _ _ h => h) (Or.inl ⟨by rfl, ?y4k5⟩) (by assumption) ?r4k5
  case y4k5 => (intro w hSw; obtain ⟨s0, s1, s2, s3, s4, s5⟩ := hSw; go_simp; (try with_reducible rfl))
  (try simp only [Act.put]); (try simp only [List.setIfInBounds_toArray]); (try simp only [List.set_cons_succ]); (try simp only [List.set_cons_zero])
  refine wpAnyH_take (i := 5) (oi := { dst := some 39, op := Op.move (Operand.tmp 1), type := 23, pos := "calc.go:25", after := #[], guard := none }) (v := ?v5k6) rfl (by kernel_rfl) (by kernel_rfl) (by kernel_rfl) (fun _ _ _ h => h) (Or.inl ⟨by rfl, ?y5k6⟩) (by assumption) ?r5k6
  case y5k6 => (intro w hSw; obtain ⟨s0, s1, s2, s3, s4, s5⟩ := hSw; go_simp; (try with_reducible rfl))
  (try simp only [Act.put]); (try simp only [List.setIfInBounds_toArray]); (try simp only [List.set_cons_succ]); (try simp only [List.set_cons_zero])
  refine wpAnyH_take (i := 7) (oi := { dst := some 41, op := Op.load 25 (Operand.tmp 7), type := 25, pos := "calc.go:25", after := #[], guard := none }) (v := ?v7k7) rfl (by kernel_rfl) (by kernel_rfl) (by kernel_rfl) (fun _ _ _ h => h) (Or.inl ⟨by rfl, ?y7k7⟩) (by assumption) ?r7k7
  case y7k7 => (intro w hSw; obtain ⟨s0, s1, s2, s3, s4, s5⟩ := hSw; go_simp; (try with_reducible rfl))
  (try simp only [Act.put]); (try simp only [List.setIfInBounds_toArray]); (try simp only [List.set_cons_succ]); (try simp only [List.set_cons_zero])
  refine wpAnyH_ready (rs := [6, 9]) (by kernel_rfl) (by simp) ?_
  refine AllReadyH.cons (o := { dst := some 40, op := Op.call { callee := Callee.value (Operand.func 19), args := #[Operand.tmp 38, Operand.tmp 39], argTypes := #[3, 23] }, type := 4, pos := "calc.go:25", after := #[{ on := 4, ground := Ground.data }, { on := 5, ground := Ground.data }], guard := none }) rfl (fun Kc hK => ?_) (AllReadyH.cons (o := { dst := some 9, op := Op.alloc 27, type := 0, pos := "calc.go:25", after := #[], guard := none }) rfl (fun Kc hK => ?_) AllReadyH.nil)
  · go_simp
    go_at_call 19
    refine Calls.mono (H19.out _ HVd.out) ?_
    rintro e' w5 ⟨rfl, g5⟩
    have HG5 := hidM (HVd.out.trans g5 (fun _ _ h => h))
    have HS5 := hidM (HSS.out w5 HG5.out)
    clear g5
    go_wp2_with fail
    refine hK.out _ _ (HS5.out) (fun hHeld => ?_)
    clear hK Kc
    (try simp only [Act.put]); (try simp only [List.setIfInBounds_toArray]); (try simp only [List.set_cons_succ]); (try simp only [List.set_cons_zero])
    refine wpAnyH_take (i := 8) (oi := { dst := some 42, op := Op.build 27 #[(0, Operand.tmp 37), (1, Operand.tmp 40), (2, Operand.tmp 41)], type := 27, pos := "calc.go:25", after := #[{ on := 3, ground := Ground.data }, { on := 6, ground := Ground.data }, { on := 7, ground := Ground.data }], guard := none }) (v := ?v8p1) rfl (by kernel_rfl) (by kernel_rfl) (by kernel_rfl) (fun _ _ _ h => h) (Or.inl ⟨by rfl, ?y8p1⟩) (by assumption) ?r8p1
    case y8p1 => (intro w hSw; obtain ⟨s0, s1, s2, s3, s4, s5⟩ := hSw; go_simp; (try with_reducible rfl))
    (try simp only [Act.put]); (try simp only [List.setIfInBounds_toArray]); (try simp only [List.set_cons_succ]); (try simp only [List.set_cons_zero])
    refine wpAnyH_ready (rs := [9]) (by kernel_rfl) (by simp) ?_
    refine AllReadyH.cons (o := { dst := some 9, op := Op.alloc 27, type := 0, pos := "calc.go:25", after := #[], guard := none }) rfl (fun Kc hK => ?_) AllReadyH.nil
    obtain ⟨A6, hA6⟩ : ∃ A6, w5.alloc (.cells #[.string ⟨#[]⟩, .bool false, .int .i64 0, .int .i64 0, .int .i64 0, .int .i64 0, .slice none 0 0] 27) = A6 := ⟨_, rfl⟩
    have g6 : Gr w5 A6 := by rw [← hA6]; exact gr_alloc w5 _
    have HZ : Hid (A6.heap[w5.heap.size]? = some (.cells fdZ 27) ∧ Gr V A6 ∧ V.heap.size ≤ w5.heap.size) := ⟨by rw [← hA6]; exact heap_alloc_new w5 _, HG5.out.trans g6 (fun _ _ h => h), HG5.out.size⟩
    have HS6 := hidM (HSS.out A6 HZ.out.2.1)
    go_simp
    clear g6 hA6
    refine hK.out _ _ (HS6.out) (fun hHeld => ?_)
    clear hK Kc
    (try simp only [Act.put]); (try simp only [List.setIfInBounds_toArray]); (try simp only [List.set_cons_succ]); (try simp only [List.set_cons_zero])
    refine wpAnyH_ready (rs := [10]) (by kernel_rfl) (by simp) ?_
    refine AllReadyH.cons (o := { dst := none, op := Op.store 27 (Operand.tmp 9) (Operand.tmp 42), type := 0, pos := "calc.go:25", after := #[{ on := 9, ground := Ground.data }, { on := 8, ground := Ground.data }, { on := 6, ground := Ground.chain }, { on := 0, ground := Ground.phase }, { on := 1, ground := Ground.phase }, { on := 2, ground := Ground.phase }, { on := 3, ground := Ground.phase }, { on := 4, ground := Ground.phase }, { on := 5, ground := Ground.phase }, { on := 6, ground := Ground.phase }, { on := 7, ground := Ground.phase }, { on := 8, ground := Ground.phase }, { on := 9, ground := Ground.phase }], guard := none }) rfl (fun Kc hK => ?_) AllReadyH.nil
    obtain ⟨hbz, gz⟩ := HZ.out
    obtain ⟨hU9, gU9, hSU, hb4⟩ := HF.out A6 w5.heap.size gz.1 gz.2 hbz
    obtain ⟨c0, c1, c2, c3, c4, c5, c6⟩ := cell7 hbz
    have x0 := frz hbz 0
    have x1 := frz hbz 1
    have x2 := frz hbz 2
    have x3 := frz hbz 3
    have x4 := frz hbz 4
    have x5 := frz hbz 5
    have x6 := frz hbz 6
    obtain ⟨U, hU⟩ : ∃ U, fdU A6 w5.heap.size = U := ⟨_, rfl⟩
    rw [hU] at hU9 gU9 hSU hb4
    simp only [fdU, setAll] at hU
    have HSU := hidM hSU
    have HU9 := hidM hU9
    have HGU := hidM gU9
    have HB4 := hidM hb4
    clear hbz gz hU9 gU9 hSU hb4 HZ
    go_simp
    refine hK.out _ _ (HSU.out) (fun hHeld => ?_)
    clear hK Kc c0 c1 c2 c3 c4 c5 c6 x0 x1 x2 x3 x4 x5 x6 hU
    (try simp only [Act.put]); (try simp only [List.setIfInBounds_toArray]); (try simp only [List.set_cons_succ]); (try simp only [List.set_cons_zero])
    refine wpAnyH_done (by kernel_rfl) ?_ _
    clear hHeld
    obtain ⟨e0, e1, e2, e3, e4, e5, e6⟩ := cell7 HU9.out
    obtain ⟨B1, hB1⟩ : ∃ B1, U.alloc (.cells #[.string nmA, .bool false, .int .i64 3, .int .i64 0, .int .i64 0, .int .i64 0, .slice none 0 0] 27) = B1 := ⟨_, rfl⟩
    have gB1 : Gr U B1 := by rw [← hB1]; exact gr_alloc U _
    have hB1b : B1.heap[U.heap.size]? = some (.cells #[.string nmA, .bool false, .int .i64 3, .int .i64 0, .int .i64 0, .int .i64 0, .slice none 0 0] 27) := by rw [← hB1]; exact heap_alloc_new U _
    obtain ⟨B2, hB2⟩ : ∃ B2, B1.alloc (.cells #[.int .i64 0] 3) = B2 := ⟨_, rfl⟩
    have gB2 : Gr B1 B2 := by rw [← hB2]; exact gr_alloc B1 _
    have hB2b : B2.heap[B1.heap.size]? = some (.cells #[.int .i64 0] 3) := by rw [← hB2]; exact heap_alloc_new B1 _
    have gB := gB1.trans gB2 (fun _ _ h => h)
    have HAt := hidM (at13 false none 0 U.heap.size B1.heap.size B2 ((HTb.out U HGU.out).gr gB) ((gB2.block _ (lt_of_heap hB1b) id).trans hB1b) (cell1 hB2b))
    have HEnd : Hid (∀ w8 fo fc, Gr B2 w8 → w8.heap[W.heap.size]? = some (.cells fdZ 27) ∧ (f9U w8 W.heap.size fo fc).heap[W.heap.size]? = some (.cells #[.string nmA, .bool false, .int .i64 3, .int .i64 0, .int .i64 0, .int .i64 0, .slice fo 0 fc] 27) ∧ Gr W (f9U w8 W.heap.size fo fc)) := fun w8 fo fc g8 => by
      have g9 := gB.trans g8 (fun _ _ h => h)
      have h8 := (g9.block _ (lt_of_heap HB4.out) id).trans HB4.out
      exact ⟨h8, f9_blk h8, ((HGW.out U HGU.out).trans g9 (fun _ _ h => h)).trans (setAll_kp _ _ _) (fun j hj e => by have e' : j = W.heap.size := e; omega)⟩
    clear gB1 hB1b gB2 hB2b gB
    go_wp2_with (go_at_call 20; refine HAt.out.mono ?_; rintro e w8 ⟨fo, fc, rfl, g8⟩; obtain ⟨h8, hu8, gu8⟩ := HEnd.out w8 fo fc g8; obtain ⟨U8, hU8⟩ : ∃ U8, f9U w8 W.heap.size fo fc = U8 := ⟨_, rfl⟩; rw [hU8] at hu8 gu8; simp only [f9U, setAll] at hU8; unfold fdZ at h8; obtain ⟨c0, c1, c2, c3, c4, c5, c6⟩ := cell7 h8; have x0 := frz h8 0; have x1 := frz h8 1; have x2 := frz h8 2; have x3 := frz h8 3; have x4 := frz h8 4; have x5 := frz h8 5; have x6 := frz h8 6; have HU8 := hidM hu8; have HG8 := hidM gu8; clear g8 h8 hu8 gu8)
    (try simp only [Exit.inBlock, Exit.then])
    refine bodyPost_ret (results_cell27t rfl rfl (by with_reducible exact HU8.out) (by kernel_rfl)) rfl ?_
    exact ⟨fo, fc, rfl, HG8.out⟩
  · obtain ⟨A6, hA6⟩ : ∃ A6, V.drew.alloc (.cells #[.string ⟨#[]⟩, .bool false, .int .i64 0, .int .i64 0, .int .i64 0, .int .i64 0, .slice none 0 0] 27) = A6 := ⟨_, rfl⟩
    have g6 : Gr V.drew A6 := by rw [← hA6]; exact gr_alloc V.drew _
    have HG6 := hidM (HVd.out.trans g6 (fun _ _ h => h))
    have hZ6 : A6.heap[V.drew.heap.size]? = some (.cells fdZ 27) := by rw [← hA6]; exact heap_alloc_new V.drew _
    have HZ6 := hidM hZ6
    have HS6 := hidM (HSS.out A6 HG6.out)
    go_simp
    clear g6 hA6 hZ6
    refine hK.out _ _ (HS6.out) (fun hHeld => ?_)
    clear hK Kc
    (try simp only [Act.put]); (try simp only [List.setIfInBounds_toArray]); (try simp only [List.set_cons_succ]); (try simp only [List.set_cons_zero])
    refine wpAnyH_ready (rs := [6]) (by kernel_rfl) (by simp) ?_
    refine AllReadyH.cons (o := { dst := some 40, op := Op.call { callee := Callee.value (Operand.func 19), args := #[Operand.tmp 38, Operand.tmp 39], argTypes := #[3, 23] }, type := 4, pos := "calc.go:25", after := #[{ on := 4, ground := Ground.data }, { on := 5, ground := Ground.data }], guard := none }) rfl (fun Kc hK => ?_) AllReadyH.nil
    go_simp
    go_at_call 19
    refine Calls.mono (H19.out _ HG6.out) ?_
    rintro e' w5 ⟨rfl, g5⟩
    have HG5 := hidM (HG6.out.trans g5 (fun _ _ h => h))
    have HS5 := hidM (HSS.out w5 HG5.out)
    have HZ : Hid (w5.heap[V.heap.size]? = some (.cells fdZ 27) ∧ Gr V w5 ∧ V.heap.size ≤ V.heap.size) := ⟨(g5.block _ (lt_of_heap HZ6.out) id).trans HZ6.out, HG5.out, Nat.le_refl _⟩
    clear g5
    go_wp2_with fail
    refine hK.out _ _ (HS5.out) (fun hHeld => ?_)
    clear hK Kc
    (try simp only [Act.put]); (try simp only [List.setIfInBounds_toArray]); (try simp only [List.set_cons_succ]); (try simp only [List.set_cons_zero])
    refine wpAnyH_take (i := 8) (oi := { dst := some 42, op := Op.build 27 #[(0, Operand.tmp 37), (1, Operand.tmp 40), (2, Operand.tmp 41)], type := 27, pos := "calc.go:25", after := #[{ on := 3, ground := Ground.data }, { on := 6, ground := Ground.data }, { on := 7, ground := Ground.data }], guard := none }) (v := ?v8n1) rfl (by kernel_rfl) (by kernel_rfl) (by kernel_rfl) (fun _ _ _ h => h) (Or.inl ⟨by rfl, ?y8n1⟩) (by assumption) ?r8n1
    case y8n1 => (intro w hSw; obtain ⟨s0, s1, s2, s3, s4, s5⟩ := hSw; go_simp; (try with_reducible rfl))
    (try simp only [Act.put]); (try simp only [List.setIfInBounds_toArray]); (try simp only [List.set_cons_succ]); (try simp only [List.set_cons_zero])
    refine wpAnyH_ready (rs := [10]) (by kernel_rfl) (by simp) ?_
    refine AllReadyH.cons (o := { dst := none, op := Op.store 27 (Operand.tmp 9) (Operand.tmp 42), type := 0, pos := "calc.go:25", after := #[{ on := 9, ground := Ground.data }, { on := 8, ground := Ground.data }, { on := 6, ground := Ground.chain }, { on := 0, ground := Ground.phase }, { on := 1, ground := Ground.phase }, { on := 2, ground := Ground.phase }, { on := 3, ground := Ground.phase }, { on := 4, ground := Ground.phase }, { on := 5, ground := Ground.phase }, { on := 6, ground := Ground.phase }, { on := 7, ground := Ground.phase }, { on := 8, ground := Ground.phase }, { on := 9, ground := Ground.phase }], guard := none }) rfl (fun Kc hK => ?_) AllReadyH.nil
    obtain ⟨hbz, gz⟩ := HZ.out
    obtain ⟨hU9, gU9, hSU, hb4⟩ := HF.out w5 V.heap.size gz.1 gz.2 hbz
    obtain ⟨c0, c1, c2, c3, c4, c5, c6⟩ := cell7 hbz
    have x0 := frz hbz 0
    have x1 := frz hbz 1
    have x2 := frz hbz 2
    have x3 := frz hbz 3
    have x4 := frz hbz 4
    have x5 := frz hbz 5
    have x6 := frz hbz 6
    obtain ⟨U, hU⟩ : ∃ U, fdU w5 V.heap.size = U := ⟨_, rfl⟩
    rw [hU] at hU9 gU9 hSU hb4
    simp only [fdU, setAll] at hU
    have HSU := hidM hSU
    have HU9 := hidM hU9
    have HGU := hidM gU9
    have HB4 := hidM hb4
    clear hbz gz hU9 gU9 hSU hb4 HZ
    go_simp
    refine hK.out _ _ (HSU.out) (fun hHeld => ?_)
    clear hK Kc c0 c1 c2 c3 c4 c5 c6 x0 x1 x2 x3 x4 x5 x6 hU
    (try simp only [Act.put]); (try simp only [List.setIfInBounds_toArray]); (try simp only [List.set_cons_succ]); (try simp only [List.set_cons_zero])
    refine wpAnyH_done (by kernel_rfl) ?_ _
    clear hHeld
    obtain ⟨e0, e1, e2, e3, e4, e5, e6⟩ := cell7 HU9.out
    obtain ⟨B1, hB1⟩ : ∃ B1, U.alloc (.cells #[.string nmA, .bool false, .int .i64 3, .int .i64 0, .int .i64 0, .int .i64 0, .slice none 0 0] 27) = B1 := ⟨_, rfl⟩
    have gB1 : Gr U B1 := by rw [← hB1]; exact gr_alloc U _
    have hB1b : B1.heap[U.heap.size]? = some (.cells #[.string nmA, .bool false, .int .i64 3, .int .i64 0, .int .i64 0, .int .i64 0, .slice none 0 0] 27) := by rw [← hB1]; exact heap_alloc_new U _
    obtain ⟨B2, hB2⟩ : ∃ B2, B1.alloc (.cells #[.int .i64 0] 3) = B2 := ⟨_, rfl⟩
    have gB2 : Gr B1 B2 := by rw [← hB2]; exact gr_alloc B1 _
    have hB2b : B2.heap[B1.heap.size]? = some (.cells #[.int .i64 0] 3) := by rw [← hB2]; exact heap_alloc_new B1 _
    have gB := gB1.trans gB2 (fun _ _ h => h)
    have HAt := hidM (at13 false none 0 U.heap.size B1.heap.size B2 ((HTb.out U HGU.out).gr gB) ((gB2.block _ (lt_of_heap hB1b) id).trans hB1b) (cell1 hB2b))
    have HEnd : Hid (∀ w8 fo fc, Gr B2 w8 → w8.heap[W.heap.size]? = some (.cells fdZ 27) ∧ (f9U w8 W.heap.size fo fc).heap[W.heap.size]? = some (.cells #[.string nmA, .bool false, .int .i64 3, .int .i64 0, .int .i64 0, .int .i64 0, .slice fo 0 fc] 27) ∧ Gr W (f9U w8 W.heap.size fo fc)) := fun w8 fo fc g8 => by
      have g9 := gB.trans g8 (fun _ _ h => h)
      have h8 := (g9.block _ (lt_of_heap HB4.out) id).trans HB4.out
      exact ⟨h8, f9_blk h8, ((HGW.out U HGU.out).trans g9 (fun _ _ h => h)).trans (setAll_kp _ _ _) (fun j hj e => by have e' : j = W.heap.size := e; omega)⟩
    clear gB1 hB1b gB2 hB2b gB
    go_wp2_with (go_at_call 20; refine HAt.out.mono ?_; rintro e w8 ⟨fo, fc, rfl, g8⟩; obtain ⟨h8, hu8, gu8⟩ := HEnd.out w8 fo fc g8; obtain ⟨U8, hU8⟩ : ∃ U8, f9U w8 W.heap.size fo fc = U8 := ⟨_, rfl⟩; rw [hU8] at hu8 gu8; simp only [f9U, setAll] at hU8; unfold fdZ at h8; obtain ⟨c0, c1, c2, c3, c4, c5, c6⟩ := cell7 h8; have x0 := frz h8 0; have x1 := frz h8 1; have x2 := frz h8 2; have x3 := frz h8 3; have x4 := frz h8 4; have x5 := frz h8 5; have x6 := frz h8 6; have HU8 := hidM hu8; have HG8 := hidM gu8; clear g8 h8 hu8 gu8)
    (try simp only [Exit.inBlock, Exit.then])
    refine bodyPost_ret (results_cell27t rfl rfl (by with_reducible exact HU8.out) (by kernel_rfl)) rfl ?_
    exact ⟨fo, fc, rfl, HG8.out⟩
end Go.Proofs.YtcedjdkldiffdaaGreatDoor.Kit
namespace Go.Proofs
open Go.Shelf
def Tryz.laysNm221_ren : Go.Shelf.Ren := ⟨fun | 21 => 222 | 27 => 261 | 28 => 262 | 35 => 281 | 39 => 289 | n => n, fun | 22 => 65 | 3 => 3 | 4 => 4 | 0 => 0 | n => n, fun | n => n⟩
theorem Tryz.laysNm221 : Go.Proofs.Lays2.n21 Tryz.prog Tryz.laysNm221_ren := {
  mixed := by kernel_rfl
  f21 := Tryz.func222.trans (congrArg some (by kernel_rfl))
  f27 := Tryz.func261.trans (congrArg some (by kernel_rfl))
  f28 := Tryz.func262.trans (congrArg some (by kernel_rfl))
  f35 := Tryz.func281.trans (congrArg some (by kernel_rfl))
  f39 := Tryz.func289.trans (congrArg some (by kernel_rfl))
  t0 := Tryz.underlying0
  a0 := Tryz.isAgg0
  z0 := Tryz.sizeOf0
  v0 := Tryz.zeroValue0
  t3 := Tryz.underlying3
  a3 := Tryz.isAgg3
  z3 := Tryz.sizeOf3
  v3 := Tryz.zeroValue3
  t4 := Tryz.underlying4
  a4 := Tryz.isAgg4
  z4 := Tryz.sizeOf4
  v4 := Tryz.zeroValue4
  t22 := Tryz.underlying65
  a22 := Tryz.isAgg65
  z22 := Tryz.sizeOf65
  v22 := Tryz.zeroValue65
  i3 := by kernel_rfl }
end Go.Proofs
namespace Go.Proofs.YtcedjdkldiffdaaGreatDoor.Kit
open Go.RowKit Go.Shelf Go.Deep
open Go.Proofs.YtcedjdkldiffdaaGreatDoor.Kd (Ans AnsV cell5 cell2)
open Go.Proofs.YtcedjdkldiffdaaGreatDoor.Ink (OwnRow)
set_option linter.unusedVariables false
set_option linter.unusedSimpArgs false
attribute [local go_sem] run_store_func
theorem kp_setCells (b : Nat) : ∀ (vs : List Value) (o : Nat) (w : World), Keeps w (w.setCells b o vs) (fun z => z = b)
  | [], _, w => Keeps.refl w _
  | v :: vs, o, w => by
    have h : Keeps w (w.setCell ⟨b, o, none⟩ v) (fun z => z = b) := (Keeps.refl w (fun z => z = b)).setCell (p := ⟨b, o, none⟩) (fun _ => rfl) _
    exact h.trans (kp_setCells b vs (o + 1) _) (fun _ _ h => h)
theorem insert98 (b vb : Nat) (x y : Int) (W : World) (h0 : W.cell? ⟨b, 0, none⟩ = some (.int .i64 x)) (hv : W.cell? ⟨vb, 0, none⟩ = some (.int .i64 y)) :
    Calls Tryz.prog 222 #[.slice (some ⟨b, 0, none⟩) 1 1, .int .i64 0, .slice (some ⟨vb, 0, none⟩) 1 1] W fun e w' => ∃ g c, e = .returned (.slice (some ⟨g, 0, none⟩) 2 c) ∧ Gr W w' ∧ w'.cell? ⟨g, 0, none⟩ = some (.int .i64 y) ∧ w'.cell? ⟨g, 1, none⟩ = some (.int .i64 x) := by
  have h := Any2.slices_Insert_int_grow Tryz.laysNm221 b 0 1 1 0 vb 0 1 1 [.int .i64 x] [.int .i64 y] W (by decide) (by decide) (by decide) (by decide) (by decide) rfl rfl
    (fun j v hj => by
      match j, hj with
      | 0, hj => cases hj; exact h0
      | j + 1, hj => simp at hj)
    (fun j v hj => by
      match j, hj with
      | 0, hj => cases hj; exact hv
      | j + 1, hj => simp at hj)
    (fun v hv => by simp at hv; subst hv; rfl) (fun v hv => by simp at hv; subst hv; rfl)
  refine Calls.mono h ?_
  rintro e w' ⟨rfl, hw⟩
  refine ⟨_, _, rfl, ?_⟩
  generalize hR : ((([Value.int .i64 x].take 0).toArray ++ Builtin.zeroCells (Value.int .i64 0).cells (1 + 1 - 0) ++ Builtin.zeroCells (Value.int .i64 0).cells (grownCap W (1 + 1) 1 (Tryz.laysNm221_ren.t 3) - (1 + 1))) : Array Value) = R at hw
  have hsz : 2 ≤ R.size := by
    rw [← hR]
    simp [Builtin.zeroCells, Value.cells]
  obtain ⟨A, hA⟩ : ∃ A, W.alloc (.cells R (Tryz.laysNm221_ren.t 3)) = A := ⟨_, rfl⟩
  rw [hA] at hw
  have gA : Gr W A := by rw [← hA]; exact gr_alloc W _
  have hb : A.heap[W.heap.size]? = some (.cells R (Tryz.laysNm221_ren.t 3)) := by rw [← hA]; exact heap_alloc_new W _
  have hd : (w' : World) = ((A.drew.setCell ⟨W.heap.size, 0, none⟩ (.int .i64 y)).drew).setCell ⟨W.heap.size, 1, none⟩ (.int .i64 x) := hw
  have e1 := heap_setCell_same A.drew W.heap.size 0 _ _ (.int .i64 y) hb
  have e2 := heap_setCell_same (A.drew.setCell ⟨W.heap.size, 0, none⟩ (.int .i64 y)).drew W.heap.size 1 _ _ (.int .i64 x) e1
  rw [← hd] at e2
  refine ⟨?_, ?_, ?_⟩
  · rw [hd]
    exact Keeps.setCell (p := ⟨W.heap.size, 1, none⟩) ((Keeps.setCell (p := ⟨W.heap.size, 0, none⟩) gA.drew (fun h => by simp at h) _).drew) (fun h => by simp at h) _
  · have q0 : 0 < R.size := by omega
    simp only [World.cell?, e2]
    simp [Array.getElem?_setIfInBounds, q0]
  · have q1 : 1 < R.size := by omega
    simp only [World.cell?, e2]
    simp [Array.getElem?_setIfInBounds, q1]
theorem needs308 (W : World) : Calls Tryz.prog 465 #[.agg #[.int .i64 1, .bool true], .int .i64 2] W fun e w' => ∃ g, e = .returned (.tuple #[.slice (some ⟨g, 0, none⟩) 1 1, .int .i64 (-9223372036854775808)]) ∧ Gr W w' ∧ W.heap.size ≤ g ∧ w'.cell? ⟨g, 0, none⟩ = some (.int .i64 2) := by
  obtain ⟨A, hA⟩ : ∃ A, W.alloc (.cells #[.int .i64 1, .bool true] 285) = A := ⟨_, rfl⟩
  have gA : Gr W A := by rw [← hA]; exact gr_alloc W _
  have hb : A.heap[W.heap.size]? = some (.cells #[.int .i64 1, .bool true] 285) := by rw [← hA]; exact heap_alloc_new W _
  obtain ⟨e0, e1⟩ := cell2 hb
  have HG := hidM gA
  clear gA hb
  go_enter Tryz.func465, Tryz.ntmps465
  go_wp2_with fail
  go_ret2
  exact ⟨_, rfl, HG.out.alloc _, HG.out.size, cell1 (heap_alloc_new A _)⟩
theorem wrong266 (l : Value) (q : Value) (W : World) : Calls Tryz.prog 423 #[.agg #[], l, q] W fun e w' => e = .returned (.tuple #[.int .i64 0, .int .i64 0]) ∧ Gr W w' := by
  go_enter Tryz.func423, Tryz.ntmps423
  go_wp2_with fail
  go_ret2
  exact ⟨rfl, gr_alloc _ _⟩
theorem wrong267 (l : Value) (q : Value) (W : World) : Calls Tryz.prog 424 #[.agg #[], l, q] W fun e w' => e = .returned (.tuple #[.int .i64 0, .int .i64 0]) ∧ Gr W w' := by
  go_enter Tryz.func424, Tryz.ntmps424
  go_wp2_with fail
  go_ret2
  exact ⟨rfl, gr_alloc _ _⟩
theorem weight310 (l q v : Value) (r : Int) (W : World) : Calls Tryz.prog 467 #[.agg #[.int .i64 1, .bool true], l, q, .int .i64 r, v] W fun e w' => e = .returned (.int .i64 16) ∧ Gr W w' := by
  go_enter Tryz.func467, Tryz.ntmps467
  go_wp2_with fail
  go_ret
  exact ⟨rfl, gr_alloc _ _⟩
theorem sum72 (z : Nat) (c : Nat) (W : World) (h0 : W.cell? ⟨z, 0, none⟩ = some (.int .i64 16)) (h1 : W.cell? ⟨z, 1, none⟩ = some (.int .i64 16)) : Calls Tryz.prog 139 #[.slice (some ⟨z, 0, none⟩) 2 c] W fun e w' => e = .returned (.int .i64 32) ∧ w' = W := by
  have H : Hid (∀ k, k < 2 → W.cell? ⟨z, k, none⟩ = some (.int .i64 16)) := fun k hk => by
    have : k = 0 ∨ k = 1 := by omega
    rcases this with rfl | rfl
    · exact h0
    · exact h1
  clear h0 h1
  go_enter Tryz.func139, Tryz.ntmps139
  go_wp2_with fail
  go_loopw [8, 3] (fun i s wr => ∃ k : Nat, k ≤ 2 ∧ i = .int .i64 k ∧ s = .int .i64 ((16 * k : Nat) : Int) ∧ wr = W) (fun i _ _ => 2 - (intOf i).toNat)
  case atStart => exact ⟨0, by omega, rfl, rfl, rfl⟩
  case round =>
    obtain ⟨k, hk, rfl, rfl, rfl⟩ := hrel
    by_cases hlt : k < 2
    · have c1 := H.out k hlt
      have w1 : IntKind.i64.wrap (((16 * k : Nat) : Int) + 16) = ((16 * (k + 1) : Nat) : Int) := by rw [IntKind.wrap_i64]; omega
      generalize ((16 * k : Nat) : Int) = y at w1 ⊢
      go_wp2_with fail
      go_roundw
      case rel => exact ⟨k + 1, by omega, by go_num, by first | rfl | rw [w1], trivial⟩
      case measure => simp [intOf]; omega
    · obtain rfl : k = 2 := by omega
      go_wp2_with fail
      go_ret
      exact ⟨rfl, rfl⟩
end Go.Proofs.YtcedjdkldiffdaaGreatDoor.Kit
