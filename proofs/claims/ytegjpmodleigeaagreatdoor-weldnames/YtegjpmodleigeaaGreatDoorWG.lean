import Derived.Test.YtegjpmodleigeaaGreatDoorWE
set_option maxRecDepth 100000
set_option maxHeartbeats 4000000
namespace Go.Proofs.YtegjpmodleigeaaGreatDoor.Kit
open Go.RowKit Go.Shelf Go.Deep
open Go.Proofs.YtegjpmodleigeaaGreatDoor.Kd (Ans AnsV cell5 cell2)
set_option linter.unusedVariables false
set_option linter.unusedSimpArgs false
attribute [local go_sem] run_store_func
theorem mk30 (w : World) : (Instr.makeSlice 30 (.int .i64 1) (.int .i64 1)).run Tryz.prog w = .ok (.slice (some ⟨w.heap.size, 0, none⟩) 1 1) (w.alloc (.cells #[.int .i64 0, .int .i64 0, .int .i64 0, .slice none 0 0, .slice none 0 0, .slice none 0 0] 32)) := by kernel_rfl
/-- an array of numbers that was built, as it lies -/
def DatX (w : World) (lowb : Nat) (bo : Option Addr) (xs : List Int) : Prop := ∃ qb v2, bo = some ⟨qb, 0, none⟩ ∧ lowb ≤ qb ∧ lowb ≤ v2 ∧ w.cell? ⟨qb, 0, none⟩ = some (.slice none 0 0) ∧ w.cell? ⟨qb, 1, none⟩ = some (.slice (some ⟨v2, 0, none⟩) xs.length xs.length) ∧ ∀ k y, (leAll xs)[k]? = some y → w.cell? ⟨v2, k, none⟩ = some (.int .u8 y)
def dnU (w : World) (db L : Nat) (bv : Value) : World := setAll w db [(0, .int .i64 L), (1, .int .i64 0), (2, .int .i64 0), (3, bv), (4, .slice none 0 0), (5, .slice none 0 0)]
/-- behind the round of done -/
def DoneI (W X wr : World) (pl p db bb : Nat) (xs : List Int) : Prop := Keeps X wr (fun z => z = p ∨ z = db) ∧ ∃ bo bc, wr.heap[db]? = some (.cells (dC xs.length 0 (.slice bo 2 bc)) 32) ∧ DatX wr (W.heap.size + 1) bo xs
theorem results_cell43 {fn : Func} {t : Tmp} {tmps : Array Value} {g : Nat} {cs : Array Value} {w : World} (h : fn.results = #[.cell t 43]) (ht : tmps.getD t undef = .pointer (some ⟨g, 0, none⟩)) (hg : w.heap[g]? = some (.cells cs 43 (0, 0))) (hi : (Tryz.prog.info? 43).map (·.size) = some cs.size) :
    (results fn tmps).run Tryz.prog w = .ok (.agg cs) w := by
  have hl := run_loadVar_row (P := Tryz.prog) w g 43 43 cs (0, 0) _ hg Tryz.underlying43 rfl hi
  unfold results
  rw [h]
  simp only [Array.mapM_eq_mapM_toList, List.mapM_cons, List.mapM_nil, ht]
  simp [asAddr, hl]
theorem done20 (B pl pc p n m t : Nat) (nu : Bool) (fo : Option Addr) (fc : Nat) (xs : List Int) (W : World) (h : Pil B W pl pc p n m t nu fo fc xs) (hL : xs.length ≤ 1000) : Calls Tryz.prog 20 #[.pointer (some ⟨pl, 0, none⟩)] W fun e w' => ∃ db bo bc, e = .returned (.agg #[.int .i64 (xs.length : Nat), .slice (some ⟨db, 0, none⟩) 1 1]) ∧ Keeps W w' (fun z => z = p) ∧ W.heap.size ≤ db ∧ w'.heap[db]? = some (.cells (dC xs.length 0 (.slice bo 2 bc)) 32) ∧ DatX w' W.heap.size bo xs := by
  obtain ⟨A, hA⟩ : ∃ A, W.alloc (.cells #[.int .i64 0, .slice none 0 0] 43) = A := ⟨_, rfl⟩
  have gA : Gr W A := by rw [← hA]; exact gr_alloc W _
  have bA : A.heap[W.heap.size]? = some (.cells #[.int .i64 0, .slice none 0 0] 43) := by rw [← hA]; exact heap_alloc_new W _
  have HS : Hid (∀ u, Gr A u → u.cell? ⟨pl, 0, none⟩ = some (.int .i64 (xs.length : Nat)) ∧ u.cell? ⟨pl, 1, none⟩ = some (.slice (some ⟨pc, 0, none⟩) 1 1)) := fun u g => cell2 ((h.gr (gA.trans g (fun _ _ h => h))).hl)
  have HRest : Hid (∀ db bb X, (Gr A X ∧ X.heap[db]? = some (.cells (dC 0 0 (.slice none 0 0)) 32) ∧ X.heap[bb]? = some (.cells #[.int .i64 (xs.length : Nat), .slice (some ⟨db, 0, none⟩) 1 1] 43) ∧ A.heap.size ≤ db ∧ A.heap.size ≤ bb) → (X.cell? ⟨pl, 0, none⟩ = some (.int .i64 (xs.length : Nat)) ∧ X.cell? ⟨pl, 1, none⟩ = some (.slice (some ⟨pc, 0, none⟩) 1 1)) ∧ X.cell? ⟨pc, 0, none⟩ = some (.pointer (some ⟨p, 0, none⟩)) ∧ X.heap[bb]? = some (.cells #[.int .i64 (xs.length : Nat), .slice (some ⟨db, 0, none⟩) 1 1] 43) ∧ (Calls Tryz.prog 29 #[.pointer (some ⟨p, 0, none⟩)] X.drew fun e w' => ∃ bo bc, e = .returned (.tuple #[.agg #[.int .i64 xs.length, .int .i64 0, .int .i64 0, .slice bo 2 bc, .slice none 0 0, .slice none 0 0], .int .i64 0]) ∧ (w'.heap[db]? = some (.cells #[.int .i64 0, .int .i64 0, .int .i64 0, .slice none 0 0, .slice none 0 0, .slice none 0 0] 32) ∧ w'.cell? ⟨bb, 1, none⟩ = some (.slice (some ⟨db, 0, none⟩) 1 1) ∧ (dnU w' db xs.length (.slice bo 2 bc)).cell? ⟨bb, 1, none⟩ = some (.slice (some ⟨db, 0, none⟩) 1 1) ∧ DoneI W X (dnU w' db xs.length (.slice bo 2 bc)) pl p db bb xs)) ∧ (∀ wr, DoneI W X wr pl p db bb xs → wr.heap[bb]? = some (.cells #[.int .i64 (xs.length : Nat), .slice (some ⟨db, 0, none⟩) 1 1] 43) ∧ wr.heap[W.heap.size]? = some (.cells #[.int .i64 0, .slice none 0 0] 43) ∧ (setAll wr W.heap.size [(0, .int .i64 (xs.length : Nat)), (1, .slice (some ⟨db, 0, none⟩) 1 1)]).heap[W.heap.size]? = some (.cells #[.int .i64 (xs.length : Nat), .slice (some ⟨db, 0, none⟩) 1 1] 43) ∧ (Keeps W (setAll wr W.heap.size [(0, .int .i64 (xs.length : Nat)), (1, .slice (some ⟨db, 0, none⟩) 1 1)]) (fun z => z = p) ∧ ∃ bo bc, W.heap.size ≤ db ∧ (setAll wr W.heap.size [(0, .int .i64 (xs.length : Nat)), (1, .slice (some ⟨db, 0, none⟩) 1 1)]).heap[db]? = some (.cells (dC xs.length 0 (.slice bo 2 bc)) 32) ∧ DatX (setAll wr W.heap.size [(0, .int .i64 (xs.length : Nat)), (1, .slice (some ⟨db, 0, none⟩) 1 1)]) W.heap.size bo xs))) := fun db bb X ⟨g, hd, hb, ld, lb⟩ => by
    have gW := gA.trans g (fun _ _ h => h)
    have hP := h.gr gW
    have gd : Gr X X.drew := gr_drew
    have hPd := hP.gr gd
    obtain ⟨vo, vc, lo, lc, hn⟩ := hPd.nd
    have lW := lt_of_heap bA
    have hlp := Nat.lt_of_lt_of_le (lt_of_heap h.hp) (Nat.le_refl _)
    have nbd : bb ≠ db := fun e => by subst e; rw [hb] at hd; simp at hd
    refine ⟨cell2 hP.hl, cell1 hP.hc, hb, ?_, fun wr ⟨k, bo, bc, e1, e2⟩ => ?_⟩
    · refine (done9 B p n m t nu fo fc _ _ vo xs.length vc (xs.map fun _ => true) lo lc xs X.drew hPd.hp hn (by omega)).mono ?_
      rintro e w' ⟨bo, bc, rfl, k1, U, gU, kU, hD⟩
      have hoff : offs (xs.map fun _ => true) = 0 := by unfold offs; simp
      have npd : ¬ (db = p) := fun e => by omega
      have npb : ¬ (bb = p) := fun e => by omega
      have hd1 : w'.heap[db]? = some (.cells (dC 0 0 (.slice none 0 0)) 32) := (k1.block _ (lt_of_heap (W := X) hd) npd).trans hd
      have hb1 : w'.heap[bb]? = _ := (k1.block _ (lt_of_heap (W := X) hb) npb).trans hb
      have ks := setAll_kp db [(0, .int .i64 (xs.length : Nat)), (1, .int .i64 0), (2, .int .i64 0), (3, .slice bo 2 bc), (4, .slice none 0 0), (5, .slice none 0 0)] w'
      have hset := setAll_blk db 32 [(0, .int .i64 (xs.length : Nat)), (1, .int .i64 0), (2, .int .i64 0), (3, .slice bo 2 bc), (4, .slice none 0 0), (5, .slice none 0 0)] w' _ hd1
      refine ⟨bo, bc, by rw [hoff]; rfl, hd1, (cell2 hb1).2, (cell2 ((ks.block _ (lt_of_heap hb1) nbd).trans hb1)).2, ?_, bo, bc, hset, ?_⟩
      · exact (Keeps.trans (gd.mono fun _ _ h => h.elim) (k1.mono fun _ _ h => Or.inl h) (fun _ _ h => h)).trans (ks.mono fun _ _ h => Or.inr h) (fun _ _ h => h)
      · obtain ⟨val, gg, hM, hrow, hlow, hown, hgl⟩ := hD
        unfold MaskQ at hM
        rw [if_pos hoff] at hM
        subst hM
        obtain ⟨qb, hbo, hc0⟩ := row_cell hrow (k := 0) (by omega)
        obtain ⟨qb2, hbo2, hc1⟩ := row_cell hrow (k := 1) (by omega)
        subst hbo
        cases hbo2
        have hq : X.heap.size ≤ qb := hlow qb rfl
        have hgl' : X.heap.size ≤ gg := hgl
        have ldb := lt_of_heap hd
        have lWX := gW.size
        have tr : ∀ b j v, X.heap.size ≤ b → U.cell? ⟨b, j, none⟩ = some v → (dnU w' db xs.length (.slice (some ⟨qb, 0, none⟩) 2 bc)).cell? ⟨b, j, none⟩ = some v := fun b j v hb' hv => ks.cell' (kU.cell' hv (fun e => by have e' : b = p := e; omega)) (fun e => by have e' : b = db := e; omega)
        exact ⟨qb, gg, rfl, by omega, by omega, tr _ _ _ hq hc0, tr _ _ _ hq hc1, fun k y hy => tr _ _ _ hgl' (hown.cell (by simp [hy]))⟩
    · have npb : ¬ (bb = p ∨ bb = db) := fun e => e.elim (fun e => by omega) nbd
      have hb1 := (k.block _ (lt_of_heap hb) npb).trans hb
      have bX := (g.block _ (lt_of_heap bA) id).trans bA
      have sA : A.heap.size = W.heap.size + 1 := by rw [← hA]; simp
      have bw := (k.block _ (lt_of_heap bX) (fun e => e.elim (fun e => by omega) (fun e => by omega))).trans bX
      have ks := setAll_kp W.heap.size [(0, .int .i64 (xs.length : Nat)), (1, .slice (some ⟨db, 0, none⟩) 1 1)] wr
      obtain ⟨qb, v2, x0, x1, x2, x3, x4, x5⟩ := e2
      refine ⟨hb1, bw, setAll_blk W.heap.size 43 _ wr _ bw, ?_, bo, bc, by omega, (ks.block _ (lt_of_heap e1) (fun e => by have e' : db = W.heap.size := e; omega)).trans e1, qb, v2, x0, by omega, by omega, ks.cell' x3 (fun e => by have e' : qb = W.heap.size := e; omega), ks.cell' x4 (fun e => by have e' : qb = W.heap.size := e; omega), fun k y hy => ks.cell' (x5 k y hy) (fun e => by have e' : v2 = W.heap.size := e; omega)⟩
      exact ((gW.mono fun _ _ h => h.elim).trans k (fun j hj e => e.elim id (fun e => by have e' : j = db := e; omega))).trans ks (fun j hj e => by have e' : j = W.heap.size := e; omega)
  clear h gA bA
  go_enter Tryz.func20, Tryz.ntmps20
  go_wp2_with fail
  clear hA
  refine wp_region_held_drew (S := fun w' => w'.cell? ⟨pl, 0, none⟩ = some (.int .i64 (xs.length : Nat)) ∧ w'.cell? ⟨pl, 1, none⟩ = some (.slice (some ⟨pc, 0, none⟩) 1 1)) (by kernel_rfl) (HS.out _ gr_drew) (fun hHeld => ?_)
  refine wpAnyH_take (i := 0) (oi := { dst := some 6, op := Op.move (Operand.tmp 0), type := 66, pos := "lay.go:42", after := #[], guard := none }) (v := ?v0a1) rfl (by kernel_rfl) (by kernel_rfl) (by kernel_rfl) (fun _ _ _ h => h) (Or.inl ⟨by rfl, ?y0a1⟩) (by assumption) ?r0a1
  case y0a1 => (intro w hSw; obtain ⟨s0, s1⟩ := hSw; go_simp; (try with_reducible rfl))
  (try simp only [Act.put]); (try simp only [List.setIfInBounds_toArray]); (try simp only [List.set_cons_succ]); (try simp only [List.set_cons_zero])
  refine wpAnyH_take (i := 1) (oi := { dst := some 7, op := Op.nilCheck (Operand.tmp 6), type := 0, pos := "lay.go:42", after := #[{ on := 0, ground := Ground.data }], guard := none }) (v := ?v1a2) rfl (by kernel_rfl) (by kernel_rfl) (by kernel_rfl) (fun _ _ _ h => h) (Or.inl ⟨by rfl, ?y1a2⟩) (by assumption) ?r1a2
  case y1a2 => (intro w hSw; obtain ⟨s0, s1⟩ := hSw; go_simp; (try with_reducible rfl))
  (try simp only [Act.put]); (try simp only [List.setIfInBounds_toArray]); (try simp only [List.set_cons_succ]); (try simp only [List.set_cons_zero])
  refine wpAnyH_take (i := 2) (oi := { dst := some 8, op := Op.fieldAddr 78 (Operand.tmp 7) 0, type := 0, pos := "lay.go:42", after := #[{ on := 1, ground := Ground.data }], guard := none }) (v := ?v2a3) rfl (by kernel_rfl) (by kernel_rfl) (by kernel_rfl) (fun _ _ _ h => h) (Or.inl ⟨by rfl, ?y2a3⟩) (by assumption) ?r2a3
  case y2a3 => (intro w hSw; obtain ⟨s0, s1⟩ := hSw; go_simp; (try with_reducible rfl))
  (try simp only [Act.put]); (try simp only [List.setIfInBounds_toArray]); (try simp only [List.set_cons_succ]); (try simp only [List.set_cons_zero])
  refine wpAnyH_take (i := 3) (oi := { dst := some 9, op := Op.load 3 (Operand.tmp 8), type := 3, pos := "lay.go:42", after := #[{ on := 2, ground := Ground.data }], guard := none }) (v := ?v3a4) rfl (by kernel_rfl) (by kernel_rfl) (by kernel_rfl) (fun _ _ _ h => h) (Or.inl ⟨by rfl, ?y3a4⟩) (by assumption) ?r3a4
  case y3a4 => (intro w hSw; obtain ⟨s0, s1⟩ := hSw; go_simp; (try with_reducible rfl))
  (try simp only [Act.put]); (try simp only [List.setIfInBounds_toArray]); (try simp only [List.set_cons_succ]); (try simp only [List.set_cons_zero])
  refine wpAnyH_take (i := 4) (oi := { dst := some 10, op := Op.move (Operand.tmp 0), type := 66, pos := "lay.go:42", after := #[], guard := none }) (v := ?v4a5) rfl (by kernel_rfl) (by kernel_rfl) (by kernel_rfl) (fun _ _ _ h => h) (Or.inl ⟨by rfl, ?y4a5⟩) (by assumption) ?r4a5
  case y4a5 => (intro w hSw; obtain ⟨s0, s1⟩ := hSw; go_simp; (try with_reducible rfl))
  (try simp only [Act.put]); (try simp only [List.setIfInBounds_toArray]); (try simp only [List.set_cons_succ]); (try simp only [List.set_cons_zero])
  refine wpAnyH_take (i := 5) (oi := { dst := some 11, op := Op.nilCheck (Operand.tmp 10), type := 0, pos := "lay.go:42", after := #[{ on := 4, ground := Ground.data }], guard := none }) (v := ?v5a6) rfl (by kernel_rfl) (by kernel_rfl) (by kernel_rfl) (fun _ _ _ h => h) (Or.inl ⟨by rfl, ?y5a6⟩) (by assumption) ?r5a6
  case y5a6 => (intro w hSw; obtain ⟨s0, s1⟩ := hSw; go_simp; (try with_reducible rfl))
  (try simp only [Act.put]); (try simp only [List.setIfInBounds_toArray]); (try simp only [List.set_cons_succ]); (try simp only [List.set_cons_zero])
  refine wpAnyH_take (i := 6) (oi := { dst := some 12, op := Op.fieldAddr 78 (Operand.tmp 11) 1, type := 0, pos := "lay.go:42", after := #[{ on := 5, ground := Ground.data }], guard := none }) (v := ?v6a7) rfl (by kernel_rfl) (by kernel_rfl) (by kernel_rfl) (fun _ _ _ h => h) (Or.inl ⟨by rfl, ?y6a7⟩) (by assumption) ?r6a7
  case y6a7 => (intro w hSw; obtain ⟨s0, s1⟩ := hSw; go_simp; (try with_reducible rfl))
  (try simp only [Act.put]); (try simp only [List.setIfInBounds_toArray]); (try simp only [List.set_cons_succ]); (try simp only [List.set_cons_zero])
  refine wpAnyH_take (i := 7) (oi := { dst := some 13, op := Op.load 76 (Operand.tmp 12), type := 76, pos := "lay.go:42", after := #[{ on := 6, ground := Ground.data }], guard := none }) (v := ?v7a8) rfl (by kernel_rfl) (by kernel_rfl) (by kernel_rfl) (fun _ _ _ h => h) (Or.inl ⟨by rfl, ?y7a8⟩) (by assumption) ?r7a8
  case y7a8 => (intro w hSw; obtain ⟨s0, s1⟩ := hSw; go_simp; (try with_reducible rfl))
  (try simp only [Act.put]); (try simp only [List.setIfInBounds_toArray]); (try simp only [List.set_cons_succ]); (try simp only [List.set_cons_zero])
  refine wpAnyH_take (i := 8) (oi := { dst := some 14, op := Op.call { callee := Callee.builtin Builtin.len, args := #[Operand.tmp 13], argTypes := #[76] }, type := 3, pos := "lay.go:42", after := #[{ on := 7, ground := Ground.data }], guard := none }) (v := ?v8a9) rfl (by kernel_rfl) (by kernel_rfl) (by kernel_rfl) (fun _ _ _ h => h) (Or.inl ⟨by rfl, ?y8a9⟩) (by assumption) ?r8a9
  case y8a9 => (intro w hSw; obtain ⟨s0, s1⟩ := hSw; go_simp; (try with_reducible rfl))
  (try simp only [Act.put]); (try simp only [List.setIfInBounds_toArray]); (try simp only [List.set_cons_succ]); (try simp only [List.set_cons_zero])
  refine wpAnyH_ready (rs := [9, 11]) (by kernel_rfl) (by simp) ?_
  refine (AllReadyH.cons (o := { dst := some 15, op := Op.makeSlice 30 (Operand.tmp 14) (Operand.tmp 14), type := 30, pos := "lay.go:42", after := #[{ on := 8, ground := Ground.data }, { on := 8, ground := Ground.data }], guard := none }) rfl (fun Kc hK => ?_) (AllReadyH.cons (o := { dst := some 3, op := Op.alloc 43, type := 0, pos := "lay.go:42", after := #[], guard := none }) rfl (fun Kc hK => ?_) AllReadyH.nil))
  · have gg := gr_alloc A.drew (.cells (dC 0 0 (.slice none 0 0)) 32)
    have HG1 : Hid (Gr A (A.drew.alloc (.cells (dC 0 0 (.slice none 0 0)) 32))) := Keeps.trans gr_drew gg (fun _ _ h => h)
    have hd : (A.drew.alloc (.cells (dC 0 0 (.slice none 0 0)) 32)).heap[A.heap.size]? = some (.cells (dC 0 0 (.slice none 0 0)) 32) := heap_alloc_new A.drew _
    obtain ⟨X1, hX1⟩ : ∃ X1, A.drew.alloc (.cells (dC 0 0 (.slice none 0 0)) 32) = X1 := ⟨_, rfl⟩
    have hsz : X1.heap.size = A.heap.size + 1 := by rw [← hX1]; simp
    rw [hX1] at HG1 hd gg
    have HD0 := hidM hd
    clear hd gg
    unfold dC at hX1
    have hmk := mk30
    go_simp
    refine hK.out _ _ (HS.out _ HG1.out) (fun hHeld => ?_)
    clear hK Kc hmk
    (try simp only [Act.put]); (try simp only [List.setIfInBounds_toArray]); (try simp only [List.set_cons_succ]); (try simp only [List.set_cons_zero])
    refine wpAnyH_take (i := 10) (oi := { dst := some 16, op := Op.build 43 #[(0, Operand.tmp 9), (1, Operand.tmp 15)], type := 43, pos := "lay.go:42", after := #[{ on := 3, ground := Ground.data }, { on := 9, ground := Ground.data }], guard := none }) (v := ?v10b1) rfl (by kernel_rfl) (by kernel_rfl) (by kernel_rfl) (fun _ _ _ h => h) (Or.inl ⟨by rfl, ?y10b1⟩) (by assumption) ?r10b1
    case y10b1 => (intro w hSw; obtain ⟨s0, s1⟩ := hSw; go_simp; (try with_reducible rfl))
    (try simp only [Act.put]); (try simp only [List.setIfInBounds_toArray]); (try simp only [List.set_cons_succ]); (try simp only [List.set_cons_zero])
    refine wpAnyH_ready (rs := [11]) (by kernel_rfl) (by simp) ?_
    refine (AllReadyH.cons (o := { dst := some 3, op := Op.alloc 43, type := 0, pos := "lay.go:42", after := #[], guard := none }) rfl (fun Kc hK => ?_) AllReadyH.nil)
    have HG2 := hidM (HG1.out.alloc (.cells #[.int .i64 0, .slice none 0 0] 43))
    have HG3 := hidM (HG1.out.alloc (.cells #[.int .i64 (xs.length : Nat), .slice (some ⟨A.heap.size, 0, none⟩) 1 1] 43))
    have HB3 := hidM (heap_alloc_new X1 (.cells #[.int .i64 (xs.length : Nat), .slice (some ⟨A.heap.size, 0, none⟩) 1 1] 43))
    go_simp
    refine hK.out _ _ (HS.out _ HG2.out) (fun hHeld => ?_)
    clear hK Kc
    (try simp only [Act.put]); (try simp only [List.setIfInBounds_toArray]); (try simp only [List.set_cons_succ]); (try simp only [List.set_cons_zero])
    refine wpAnyH_ready (rs := [12]) (by kernel_rfl) (by simp) ?_
    refine (AllReadyH.cons (o := { dst := none, op := Op.store 43 (Operand.tmp 3) (Operand.tmp 16), type := 0, pos := "lay.go:42", after := #[{ on := 11, ground := Ground.data }, { on := 10, ground := Ground.data }, { on := 0, ground := Ground.phase }, { on := 1, ground := Ground.phase }, { on := 2, ground := Ground.phase }, { on := 3, ground := Ground.phase }, { on := 4, ground := Ground.phase }, { on := 5, ground := Ground.phase }, { on := 6, ground := Ground.phase }, { on := 7, ground := Ground.phase }, { on := 8, ground := Ground.phase }, { on := 9, ground := Ground.phase }, { on := 10, ground := Ground.phase }, { on := 11, ground := Ground.phase }], guard := none }) rfl (fun Kc hK => ?_) AllReadyH.nil)
    go_simp
    refine hK.out _ _ (HS.out _ HG3.out) (fun hHeld => ?_)
    clear hK Kc
    (try simp only [Act.put]); (try simp only [List.setIfInBounds_toArray]); (try simp only [List.set_cons_succ]); (try simp only [List.set_cons_zero])
    obtain ⟨X, hX⟩ : ∃ X, X1.alloc (.cells #[.int .i64 (xs.length : Nat), .slice (some ⟨A.heap.size, 0, none⟩) 1 1] 43) = X := ⟨_, rfl⟩
    have gX : Gr X1 X := by rw [← hX]; exact gr_alloc X1 _
    rw [hX] at HG3 HB3 ⊢
    have HX : Hid (Gr A X ∧ X.heap[A.heap.size]? = some (.cells (dC 0 0 (.slice none 0 0)) 32) ∧ X.heap[A.heap.size + 1]? = some (.cells #[.int .i64 (xs.length : Nat), .slice (some ⟨A.heap.size, 0, none⟩) 1 1] 43) ∧ A.heap.size ≤ A.heap.size ∧ A.heap.size ≤ A.heap.size + 1) := ⟨HG3.out, (gX.block _ (lt_of_heap HD0.out) id).trans HD0.out, (by rw [← hsz]; exact HB3.out), Nat.le_refl _, by omega⟩
    clear gX HG1 HG2 HG3 HB3 HD0 hX hX1
    refine wpAnyH_done (by kernel_rfl) ?_ _
    have HR := hidM (HRest.out A.heap.size (A.heap.size + 1) X HX.out)
    clear HX
    obtain ⟨hS2, hp2, hb2, HD, HEnd⟩ := HR.out
    clear HR
    obtain ⟨l0, l1⟩ := hS2
    go_wp2_with fail
    go_loopw [22] (fun j wr => (j = .int .i64 0 ∧ X = wr) ∨ (j = .int .i64 1 ∧ Hid (DoneI W X wr pl p A.heap.size (A.heap.size + 1) xs))) (fun j _ => 1 - (intOf j).toNat)
    case atStart => exact .inl ⟨rfl, rfl⟩
    case round =>
      rcases hrel with ⟨rfl, rfl⟩ | ⟨rfl, HI⟩
      · have HSb : Hid (X.drew.cell? ⟨(A.heap.size + 1), 1, none⟩ = some (.slice (some ⟨A.heap.size, 0, none⟩) 1 1)) := (cell2 hb2).2
        go_wp2_with fail
        go_region_held3 (fun w' => w'.cell? ⟨(A.heap.size + 1), 1, none⟩ = some (.slice (some ⟨A.heap.size, 0, none⟩) 1 1)) (first | with_reducible exact HSb.out | with_reducible exact HS1.out | with_reducible exact HS3.out) ((go_at_call 29; refine HD.mono ?_; rintro e w1 ⟨bo, bc, rfl, hq⟩; obtain ⟨d1, hs1, hs3, hI⟩ := hq; have HS1 := hidM hs1; obtain ⟨y0, y1, y2, y3, y4, y5⟩ := cell6 d1; have z0 := frz d1 0; have z1 := frz d1 1; have z2 := frz d1 2; have z3 := frz d1 3; have z4 := frz d1 4; have z5 := frz d1 5; obtain ⟨U, hU⟩ : ∃ U, dnU w1 A.heap.size xs.length (.slice bo 2 bc) = U := ⟨_, rfl⟩; rw [hU] at hs3 hI; simp only [dnU, setAll] at hU; have HS3 := hidM hs3; have HI1 := hidM hI; clear d1 hs1 hs3 hI))
        go_wp2_with fail
        go_roundw
        case rel => exact .inr ⟨by go_num, HI1⟩
        case measure => simp [intOf]
      · obtain ⟨e0, e1, e2, e3⟩ := HEnd wr HI.out
        obtain ⟨q0, q1⟩ := cell2 e0
        obtain ⟨r0, r1⟩ := cell2 e1
        have z0 := frz e1 0
        have z1 := frz e1 1
        obtain ⟨U, hU⟩ : ∃ U, setAll wr W.heap.size [(0, .int .i64 (xs.length : Nat)), (1, .slice (some ⟨A.heap.size, 0, none⟩) 1 1)] = U := ⟨_, rfl⟩
        rw [hU] at e2 e3
        simp only [setAll] at hU
        have HE2 := hidM e2
        have HE3 := hidM e3
        clear e0 e1 e2 e3 l0 l1 hp2 hb2
        go_wp2_with fail
        (try simp only [Exit.inBlock, Exit.then])
        refine bodyPost_ret (results_cell43 rfl rfl (by with_reducible exact HE2.out) (by kernel_rfl)) rfl ?_
        obtain ⟨k, bo, bc, hx⟩ := HE3.out
        exact ⟨_, bo, bc, rfl, k, hx⟩
  · have HG1 : Hid (Gr A (A.drew.alloc (.cells #[.int .i64 0, .slice none 0 0] 43))) := Keeps.trans gr_drew (gr_alloc A.drew _) (fun _ _ h => h)
    have hd : (A.drew.alloc (.cells #[.int .i64 0, .slice none 0 0] 43)).heap[A.heap.size]? = some (.cells #[.int .i64 0, .slice none 0 0] 43) := heap_alloc_new A.drew _
    obtain ⟨X1, hX1⟩ : ∃ X1, A.drew.alloc (.cells #[.int .i64 0, .slice none 0 0] 43) = X1 := ⟨_, rfl⟩
    have hsz : X1.heap.size = A.heap.size + 1 := by rw [← hX1]; simp
    rw [hX1] at HG1 hd
    have HD0 := hidM hd
    clear hd
    go_simp
    refine hK.out _ _ (HS.out _ HG1.out) (fun hHeld => ?_)
    clear hK Kc
    (try simp only [Act.put]); (try simp only [List.setIfInBounds_toArray]); (try simp only [List.set_cons_succ]); (try simp only [List.set_cons_zero])
    refine wpAnyH_ready (rs := [9]) (by kernel_rfl) (by simp) ?_
    refine (AllReadyH.cons (o := { dst := some 15, op := Op.makeSlice 30 (Operand.tmp 14) (Operand.tmp 14), type := 30, pos := "lay.go:42", after := #[{ on := 8, ground := Ground.data }, { on := 8, ground := Ground.data }], guard := none }) rfl (fun Kc hK => ?_) AllReadyH.nil)
    have hmk := mk30
    have HG2 := hidM (HG1.out.alloc (.cells (dC 0 0 (.slice none 0 0)) 32))
    have HB2 := hidM (heap_alloc_new X1 (.cells (dC 0 0 (.slice none 0 0)) 32))
    obtain ⟨X2, hX2⟩ : ∃ X2, X1.alloc (.cells (dC 0 0 (.slice none 0 0)) 32) = X2 := ⟨_, rfl⟩
    have gX2 : Gr X1 X2 := by rw [← hX2]; exact gr_alloc X1 _
    rw [hX2] at HG2 HB2
    unfold dC at hX2
    have hbb := (gX2.block _ (lt_of_heap HD0.out) id).trans HD0.out
    go_simp
    refine hK.out _ _ (HS.out _ HG2.out) (fun hHeld => ?_)
    clear hK Kc hmk
    (try simp only [Act.put]); (try simp only [List.setIfInBounds_toArray]); (try simp only [List.set_cons_succ]); (try simp only [List.set_cons_zero])
    refine wpAnyH_take (i := 10) (oi := { dst := some 16, op := Op.build 43 #[(0, Operand.tmp 9), (1, Operand.tmp 15)], type := 43, pos := "lay.go:42", after := #[{ on := 3, ground := Ground.data }, { on := 9, ground := Ground.data }], guard := none }) (v := ?v10c1) rfl (by kernel_rfl) (by kernel_rfl) (by kernel_rfl) (fun _ _ _ h => h) (Or.inl ⟨by rfl, ?y10c1⟩) (by assumption) ?r10c1
    case y10c1 => (intro w hSw; obtain ⟨s0, s1⟩ := hSw; go_simp; (try with_reducible rfl))
    (try simp only [Act.put]); (try simp only [List.setIfInBounds_toArray]); (try simp only [List.set_cons_succ]); (try simp only [List.set_cons_zero])
    obtain ⟨y0, y1⟩ := cell2 hbb
    have z0 := frz hbb 0
    have z1 := frz hbb 1
    have hset := setAll_blk A.heap.size 43 [(0, .int .i64 (xs.length : Nat)), (1, .slice (some ⟨A.heap.size + 1, 0, none⟩) 1 1)] X2 _ hbb
    have kset := setAll_kp A.heap.size [(0, .int .i64 (xs.length : Nat)), (1, .slice (some ⟨A.heap.size + 1, 0, none⟩) 1 1)] X2
    obtain ⟨X, hX⟩ : ∃ X, setAll X2 A.heap.size [(0, .int .i64 (xs.length : Nat)), (1, .slice (some ⟨A.heap.size + 1, 0, none⟩) 1 1)] = X := ⟨_, rfl⟩
    rw [hX] at hset kset
    have HX : Hid (Gr A X ∧ X.heap[A.heap.size + 1]? = some (.cells (dC 0 0 (.slice none 0 0)) 32) ∧ X.heap[A.heap.size]? = some (.cells #[.int .i64 (xs.length : Nat), .slice (some ⟨A.heap.size + 1, 0, none⟩) 1 1] 43) ∧ A.heap.size ≤ A.heap.size + 1 ∧ A.heap.size ≤ A.heap.size) := ⟨HG2.out.trans kset (fun j hj e => by have e' : j = A.heap.size := e; omega), (kset.block _ (by have := lt_of_heap HB2.out; omega) (fun e => by have e' : A.heap.size + 1 = A.heap.size := e; omega)).trans (by rw [← hsz]; exact HB2.out), hset, by omega, Nat.le_refl _⟩
    simp only [setAll] at hX
    refine wpAnyH_ready (rs := [12]) (by kernel_rfl) (by simp) ?_
    refine (AllReadyH.cons (o := { dst := none, op := Op.store 43 (Operand.tmp 3) (Operand.tmp 16), type := 0, pos := "lay.go:42", after := #[{ on := 11, ground := Ground.data }, { on := 10, ground := Ground.data }, { on := 0, ground := Ground.phase }, { on := 1, ground := Ground.phase }, { on := 2, ground := Ground.phase }, { on := 3, ground := Ground.phase }, { on := 4, ground := Ground.phase }, { on := 5, ground := Ground.phase }, { on := 6, ground := Ground.phase }, { on := 7, ground := Ground.phase }, { on := 8, ground := Ground.phase }, { on := 9, ground := Ground.phase }, { on := 10, ground := Ground.phase }, { on := 11, ground := Ground.phase }], guard := none }) rfl (fun Kc hK => ?_) AllReadyH.nil)
    go_simp
    refine hK.out _ _ (HS.out _ HX.out.1) (fun hHeld => ?_)
    clear hK Kc y0 y1 z0 z1 hset kset hbb gX2 HG1 HG2 HB2 HD0 hX hX1 hX2
    (try simp only [Act.put]); (try simp only [List.setIfInBounds_toArray]); (try simp only [List.set_cons_succ]); (try simp only [List.set_cons_zero])
    refine wpAnyH_done (by kernel_rfl) ?_ _
    have HR := hidM (HRest.out (A.heap.size + 1) A.heap.size X HX.out)
    clear HX
    obtain ⟨hS2, hp2, hb2, HD, HEnd⟩ := HR.out
    clear HR
    obtain ⟨l0, l1⟩ := hS2
    go_wp2_with fail
    go_loopw [22] (fun j wr => (j = .int .i64 0 ∧ X = wr) ∨ (j = .int .i64 1 ∧ Hid (DoneI W X wr pl p (A.heap.size + 1) A.heap.size xs))) (fun j _ => 1 - (intOf j).toNat)
    case atStart => exact .inl ⟨rfl, rfl⟩
    case round =>
      rcases hrel with ⟨rfl, rfl⟩ | ⟨rfl, HI⟩
      · have HSb : Hid (X.drew.cell? ⟨A.heap.size, 1, none⟩ = some (.slice (some ⟨(A.heap.size + 1), 0, none⟩) 1 1)) := (cell2 hb2).2
        go_wp2_with fail
        go_region_held3 (fun w' => w'.cell? ⟨A.heap.size, 1, none⟩ = some (.slice (some ⟨(A.heap.size + 1), 0, none⟩) 1 1)) (first | with_reducible exact HSb.out | with_reducible exact HS1.out | with_reducible exact HS3.out) ((go_at_call 29; refine HD.mono ?_; rintro e w1 ⟨bo, bc, rfl, hq⟩; obtain ⟨d1, hs1, hs3, hI⟩ := hq; have HS1 := hidM hs1; obtain ⟨y0, y1, y2, y3, y4, y5⟩ := cell6 d1; have z0 := frz d1 0; have z1 := frz d1 1; have z2 := frz d1 2; have z3 := frz d1 3; have z4 := frz d1 4; have z5 := frz d1 5; obtain ⟨U, hU⟩ : ∃ U, dnU w1 (A.heap.size + 1) xs.length (.slice bo 2 bc) = U := ⟨_, rfl⟩; rw [hU] at hs3 hI; simp only [dnU, setAll] at hU; have HS3 := hidM hs3; have HI1 := hidM hI; clear d1 hs1 hs3 hI))
        go_wp2_with fail
        go_roundw
        case rel => exact .inr ⟨by go_num, HI1⟩
        case measure => simp [intOf]
      · obtain ⟨e0, e1, e2, e3⟩ := HEnd wr HI.out
        obtain ⟨q0, q1⟩ := cell2 e0
        obtain ⟨r0, r1⟩ := cell2 e1
        have z0 := frz e1 0
        have z1 := frz e1 1
        obtain ⟨U, hU⟩ : ∃ U, setAll wr W.heap.size [(0, .int .i64 (xs.length : Nat)), (1, .slice (some ⟨(A.heap.size + 1), 0, none⟩) 1 1)] = U := ⟨_, rfl⟩
        rw [hU] at e2 e3
        simp only [setAll] at hU
        have HE2 := hidM e2
        have HE3 := hidM e3
        clear e0 e1 e2 e3 l0 l1 hp2 hb2
        go_wp2_with fail
        (try simp only [Exit.inBlock, Exit.then])
        refine bodyPost_ret (results_cell43 rfl rfl (by with_reducible exact HE2.out) (by kernel_rfl)) rfl ?_
        obtain ⟨k, bo, bc, hx⟩ := HE3.out
        exact ⟨_, bo, bc, rfl, k, hx⟩
end Go.Proofs.YtegjpmodleigeaaGreatDoor.Kit
