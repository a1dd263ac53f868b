import Derived.Test.YteggcdhibcjneaaGreatDoorCY
set_option maxRecDepth 100000
set_option maxHeartbeats 4000000
namespace Go.Proofs.YteggcdhibcjneaaGreatDoor.Kit
variable {nx : Bool}
open Go.RowKit Go.Shelf Go.Deep
open Go.Proofs.YteggcdhibcjneaaGreatDoor.Kd (Ans AnsV cell5 cell2)
open Go.Proofs.YteggcdhibcjneaaGreatDoor.Ink (OwnRow)
set_option linter.unusedVariables false
set_option linter.unusedSimpArgs false
attribute [local go_sem] run_store_func

theorem mk191 (w : World) : (Instr.makeSlice 109 (.int .i64 0) (.int .i64 0)).run Tryz.prog w = .ok (.slice (some ⟨w.heap.size, 0, none⟩) 0 0) (w.alloc (.cells #[] 34)) := by kernel_rfl
theorem mk48 (w : World) : (Instr.makeSlice 34 (.int .i64 2) (.int .i64 2)).run Tryz.prog w = .ok (.slice (some ⟨w.heap.size, 0, none⟩) 2 2) (w.alloc (.cells #[.int .i64 0, .int .i64 0] 3)) := by kernel_rfl
theorem mk48_3 (w : World) : (Instr.makeSlice 34 (.int .i64 3) (.int .i64 3)).run Tryz.prog w = .ok (.slice (some ⟨w.heap.size, 0, none⟩) 3 3) (w.alloc (.cells #[.int .i64 0, .int .i64 0, .int .i64 0] 3)) := by kernel_rfl
theorem parts70_c (c : Value) (qb bc : Nat) (W : World) (q r rc : Nat) (nu : Bool) (ao : Option Addr) (ca : Nat) (v2 c2 : Nat) (h : NdA nx W q r rc nu ao ca 2 0 v2 2 c2) : Calls Tryz.prog 114 #[c, .pointer (some ⟨q, 0, none⟩), .agg (dCo 2 0 (.slice (some ⟨qb, 0, none⟩) 2 bc))] W fun e w' => ∃ g, e = .returned (.slice (some ⟨g, 0, none⟩) 0 0) ∧ Gr W w' := by
  obtain ⟨A, hA⟩ : ∃ A, W.alloc (.cells (dCo 2 0 (.slice (some ⟨qb, 0, none⟩) 2 bc)) 50) = A := ⟨_, rfl⟩
  have gA : Gr W A := by rw [← hA]; exact gr_alloc W _
  have hd : A.heap[W.heap.size]? = some (.cells (dCo 2 0 (.slice (some ⟨qb, 0, none⟩) 2 bc)) 50) := by rw [← hA]; exact heap_alloc_new W _
  obtain ⟨c7, c9, c12⟩ := cellF (h.gr gA).nd
  obtain ⟨B, hB⟩ : ∃ B, A.alloc (.cells #[] 34) = B := ⟨_, rfl⟩
  have gB : Gr A B := by rw [← hB]; exact gr_alloc A _
  obtain ⟨d0, d1, d2, d3, d4, d5⟩ := cell6 ((gB.block _ (lt_of_heap hd) id).trans hd)
  have HC : Hid (Calls Tryz.prog 133 #[.agg #[.int .i64 2, .int .i64 0, .int .i64 0, .slice (some ⟨qb, 0, none⟩) 2 bc, .slice none 0 0, .slice none 0 0]] B fun e w' => ∃ uo uc, e = .returned (.slice uo 0 uc) ∧ Gr B w') := partData95 2 0 (.slice (some ⟨qb, 0, none⟩) 2 bc) B
  have HG := hidM (gA.trans gB (fun _ _ h => h))
  have hmk := mk191
  clear gA hd gB h
  unfold dCo at hA ⊢
  go_enter Tryz.func114, Tryz.ntmps114
  go_wp2_with (go_at_call 133; refine HC.out.mono ?_; rintro e w2 ⟨uo, uc, rfl, g2⟩; have HG2 := hidM (HG.out.trans g2 (fun _ _ h => h)); clear g2)
  go_loopw [19] (fun i u => i = .int .i64 0 ∧ u = w2) (fun i _ => 0)
  case atStart => exact ⟨rfl, rfl⟩
  case round =>
    obtain ⟨rfl, rfl⟩ := hrel
    go_wp2_with fail
    go_ret
    exact ⟨_, rfl, HG2.out⟩
theorem parts70_d (c : Value) (qb bc : Nat) (W : World) (q r rc : Nat) (nu : Bool) (ao : Option Addr) (ca : Nat) (v2 c2 : Nat) (h : NdA nx W q r rc nu ao ca 3 0 v2 3 c2) : Calls Tryz.prog 114 #[c, .pointer (some ⟨q, 0, none⟩), .agg (dCo 3 0 (.slice (some ⟨qb, 0, none⟩) 2 bc))] W fun e w' => ∃ g, e = .returned (.slice (some ⟨g, 0, none⟩) 0 0) ∧ Gr W w' := by
  obtain ⟨A, hA⟩ : ∃ A, W.alloc (.cells (dCo 3 0 (.slice (some ⟨qb, 0, none⟩) 2 bc)) 50) = A := ⟨_, rfl⟩
  have gA : Gr W A := by rw [← hA]; exact gr_alloc W _
  have hd : A.heap[W.heap.size]? = some (.cells (dCo 3 0 (.slice (some ⟨qb, 0, none⟩) 2 bc)) 50) := by rw [← hA]; exact heap_alloc_new W _
  obtain ⟨c7, c9, c12⟩ := cellF (h.gr gA).nd
  obtain ⟨B, hB⟩ : ∃ B, A.alloc (.cells #[] 34) = B := ⟨_, rfl⟩
  have gB : Gr A B := by rw [← hB]; exact gr_alloc A _
  obtain ⟨d0, d1, d2, d3, d4, d5⟩ := cell6 ((gB.block _ (lt_of_heap hd) id).trans hd)
  have HC : Hid (Calls Tryz.prog 133 #[.agg #[.int .i64 3, .int .i64 0, .int .i64 0, .slice (some ⟨qb, 0, none⟩) 2 bc, .slice none 0 0, .slice none 0 0]] B fun e w' => ∃ uo uc, e = .returned (.slice uo 0 uc) ∧ Gr B w') := partData95 3 0 (.slice (some ⟨qb, 0, none⟩) 2 bc) B
  have HG := hidM (gA.trans gB (fun _ _ h => h))
  have hmk := mk191
  clear gA hd gB h
  unfold dCo at hA ⊢
  go_enter Tryz.func114, Tryz.ntmps114
  go_wp2_with (go_at_call 133; refine HC.out.mono ?_; rintro e w2 ⟨uo, uc, rfl, g2⟩; have HG2 := hidM (HG.out.trans g2 (fun _ _ h => h)); clear g2)
  go_loopw [19] (fun i u => i = .int .i64 0 ∧ u = w2) (fun i _ => 0)
  case atStart => exact ⟨rfl, rfl⟩
  case round =>
    obtain ⟨rfl, rfl⟩ := hrel
    go_wp2_with fail
    go_ret
    exact ⟨_, rfl, HG2.out⟩
def wtK (k : Nat) : Array Value := if k = 0 then #[.int .i64 0, .int .i64 0] else if k = 1 then #[.int .i64 16, .int .i64 0] else #[.int .i64 16, .int .i64 16]
def wtK3 (k : Nat) : Array Value := if k = 0 then #[.int .i64 0, .int .i64 0, .int .i64 0] else if k = 1 then #[.int .i64 16, .int .i64 0, .int .i64 0] else if k = 2 then #[.int .i64 16, .int .i64 16, .int .i64 0] else #[.int .i64 16, .int .i64 16, .int .i64 16]
/-- what isOff and weight find while the weights are written -/
def WtI (W : World) (z k : Nat) (wr : World) : Prop := Keeps W wr (fun b => b = z) ∧ wr.heap[z]? = some (.cells (wtK k) 3)
def WtI3 (W : World) (z k : Nat) (wr : World) : Prop := Keeps W wr (fun b => b = z) ∧ wr.heap[z]? = some (.cells (wtK3 k) 3)
theorem weights71_c (l : Nat) (within : Value) (W : World) (q r rc : Nat) (nu : Bool) (ao : Option Addr) (ca : Nat) (v2 c2 : Nat) (h : NdA nx W q r rc nu ao ca 2 0 v2 2 c2) (hl : W.cell? ⟨l, 0, none⟩ = some (.pointer none)) : Calls Tryz.prog 115 #[.pointer (some ⟨l, 0, none⟩), .pointer (some ⟨q, 0, none⟩), within] W fun e w' => ∃ z, e = .returned (.slice (some ⟨z, 0, none⟩) 2 2) ∧ Gr W w' ∧ w'.cell? ⟨z, 0, none⟩ = some (.int .i64 16) ∧ w'.cell? ⟨z, 1, none⟩ = some (.int .i64 16) := by
  obtain ⟨z, hz⟩ : ∃ z, W.heap.size = z := ⟨_, rfl⟩
  obtain ⟨A, hA⟩ : ∃ A, W.alloc (.cells #[.int .i64 0, .int .i64 0] 3) = A := ⟨_, rfl⟩
  have gA : Gr W A := by rw [← hA]; exact gr_alloc W _
  have hb : A.heap[z]? = some (.cells (wtK 0) 3) := by rw [← hA, ← hz]; exact heap_alloc_new W _
  have nq : q ≠ z := by have := lt_of_heap h.nd; omega
  have nr : r ≠ z := by have := block_lt_of_cell h.r1; simp at this; omega
  have nl : l ≠ z := by have := block_lt_of_cell hl; simp at this; omega
  have HI0 : Hid (WtI W z 0 A) := ⟨gA.mono fun _ _ h => h.elim, hb⟩
  have HN : Hid (∀ u, Keeps W u (fun b => b = z) → NdA nx u q r rc nu ao ca 2 0 v2 2 c2 ∧ u.cell? ⟨l, 0, none⟩ = some (.pointer none)) := fun u g => ⟨h.kp g nq nr, g.cell' hl nl⟩
  have HZ := hidM hz
  obtain ⟨a8, a9, a10⟩ := cellN h.nd
  have hmk := mk48
  clear gA hb nq nr nl h hl
  go_enter Tryz.func115, Tryz.ntmps115
  go_wp2_with fail
  clear a8 a9 a10 hA hz
  go_loopw [17] (fun i wr => ∃ k : Nat, k ≤ 2 ∧ i = .int .i64 k ∧ Hid (WtI W z k wr)) (fun i _ => 2 - (intOf i).toNat)
  case atStart => exact ⟨0, by omega, rfl, HI0⟩
  case round =>
    clear HI0
    obtain ⟨k, hk, rfl, HI⟩ := hrel
    have hk3 : k = 0 ∨ k = 1 ∨ k = 2 := by omega
    rcases hk3 with rfl | rfl | rfl
    · obtain ⟨c7, c9, c12⟩ := cellF (HN.out wr HI.out.1).1.nd
      obtain ⟨U, hU⟩ : ∃ U, wr.setCell ⟨z, 0, none⟩ (.int .i64 16) = U := ⟨_, rfl⟩
      have hu : U.heap[z]? = some (.cells (wtK 1) 3) := by rw [← hU, heap_setCell_same wr z 0 _ _ _ HI.out.2]; rfl
      have hk1 : Keeps W U (fun b => b = z) := by rw [← hU]; exact HI.out.1.setCell (p := ⟨z, 0, none⟩) (fun _ => rfl) _
      have HO := hidM (isOff102 0 l U q r rc nu ao ca 2 0 v2 2 c2 (HN.out U hk1).1)
      have HT : Hid (∀ u, Gr U u → WtI W z 1 u) := fun u g => ⟨hk1.trans (g.mono fun _ _ h => h.elim) (fun _ _ h => h), (g.block z (lt_of_heap hu) id).trans hu⟩
      have w0 := cell2 HI.out.2
      have w00 := w0.1
      have f0 := frz HI.out.2 0
      have hmeth := method_weight
      clear w0 hu hk1 HI hmk
      go_wp2_with (first
        | (go_at_call 140; refine HO.out.mono ?_; rintro e w2 ⟨rfl, g2⟩; have HT2 := hidM (HT.out w2 g2); have HG2 := hidM g2; obtain ⟨c7, c9, c12⟩ := cellF (HN.out w2 HT2.out.1).1.nd; clear g2)
        | (go_at_call 263; refine (weight310 _ _ _ _ _).mono ?_; rintro e w3 ⟨rfl, g3⟩; have HT3 := hidM (HT.out w3 (HG2.out.trans g3 (fun _ _ h => h))); have w30 := (cell2 HT3.out.2).1; have f3 := frz HT3.out.2 0; have i3 := set_id (j := 0) (v := .int .i64 16) HT3.out.2 rfl; clear g3))
      go_roundw
      case rel => exact ⟨1, by omega, by go_num, HT3⟩
      case measure => simp [intOf]
    · obtain ⟨c7, c9, c12⟩ := cellF (HN.out wr HI.out.1).1.nd
      obtain ⟨U, hU⟩ : ∃ U, wr.setCell ⟨z, 1, none⟩ (.int .i64 16) = U := ⟨_, rfl⟩
      have hu : U.heap[z]? = some (.cells (wtK 2) 3) := by rw [← hU, heap_setCell_same wr z 1 _ _ _ HI.out.2]; rfl
      have hk1 : Keeps W U (fun b => b = z) := by rw [← hU]; exact HI.out.1.setCell (p := ⟨z, 1, none⟩) (fun _ => rfl) _
      have HO := hidM (isOff102 1 l U q r rc nu ao ca 2 0 v2 2 c2 (HN.out U hk1).1)
      have HT : Hid (∀ u, Gr U u → WtI W z 2 u) := fun u g => ⟨hk1.trans (g.mono fun _ _ h => h.elim) (fun _ _ h => h), (g.block z (lt_of_heap hu) id).trans hu⟩
      have w0 := cell2 HI.out.2
      have w00 := w0.2
      have f0 := frz HI.out.2 1
      have hmeth := method_weight
      clear w0 hu hk1 HI hmk
      go_wp2_with (first
        | (go_at_call 140; refine HO.out.mono ?_; rintro e w2 ⟨rfl, g2⟩; have HT2 := hidM (HT.out w2 g2); have HG2 := hidM g2; obtain ⟨c7, c9, c12⟩ := cellF (HN.out w2 HT2.out.1).1.nd; clear g2)
        | (go_at_call 263; refine (weight310 _ _ _ _ _).mono ?_; rintro e w3 ⟨rfl, g3⟩; have HT3 := hidM (HT.out w3 (HG2.out.trans g3 (fun _ _ h => h))); have w30 := (cell2 HT3.out.2).2; have f3 := frz HT3.out.2 1; have i3 := set_id (j := 1) (v := .int .i64 16) HT3.out.2 rfl; clear g3))
      go_roundw
      case rel => exact ⟨2, by omega, by go_num, HT3⟩
      case measure => simp [intOf]
    · have HE : Hid (Gr W wr ∧ wr.cell? ⟨z, 0, none⟩ = some (.int .i64 16) ∧ wr.cell? ⟨z, 1, none⟩ = some (.int .i64 16)) := ⟨HI.out.1.mono fun j hj e => by have e' : j = z := e; have := HZ.out; omega, cell2 HI.out.2⟩
      clear HI hmk
      go_wp2_with fail
      go_ret
      exact ⟨z, rfl, HE.out⟩
theorem weights71_d (l : Nat) (within : Value) (W : World) (q r rc : Nat) (nu : Bool) (ao : Option Addr) (ca : Nat) (v2 c2 : Nat) (h : NdA nx W q r rc nu ao ca 3 0 v2 3 c2) (hl : W.cell? ⟨l, 0, none⟩ = some (.pointer none)) : Calls Tryz.prog 115 #[.pointer (some ⟨l, 0, none⟩), .pointer (some ⟨q, 0, none⟩), within] W fun e w' => ∃ z, e = .returned (.slice (some ⟨z, 0, none⟩) 3 3) ∧ Gr W w' ∧ w'.cell? ⟨z, 0, none⟩ = some (.int .i64 16) ∧ w'.cell? ⟨z, 1, none⟩ = some (.int .i64 16) ∧ w'.cell? ⟨z, 2, none⟩ = some (.int .i64 16) := by
  obtain ⟨z, hz⟩ : ∃ z, W.heap.size = z := ⟨_, rfl⟩
  obtain ⟨A, hA⟩ : ∃ A, W.alloc (.cells #[.int .i64 0, .int .i64 0, .int .i64 0] 3) = A := ⟨_, rfl⟩
  have gA : Gr W A := by rw [← hA]; exact gr_alloc W _
  have hb : A.heap[z]? = some (.cells (wtK3 0) 3) := by rw [← hA, ← hz]; exact heap_alloc_new W _
  have nq : q ≠ z := by have := lt_of_heap h.nd; omega
  have nr : r ≠ z := by have := block_lt_of_cell h.r1; simp at this; omega
  have nl : l ≠ z := by have := block_lt_of_cell hl; simp at this; omega
  have HI0 : Hid (WtI3 W z 0 A) := ⟨gA.mono fun _ _ h => h.elim, hb⟩
  have HN : Hid (∀ u, Keeps W u (fun b => b = z) → NdA nx u q r rc nu ao ca 3 0 v2 3 c2 ∧ u.cell? ⟨l, 0, none⟩ = some (.pointer none)) := fun u g => ⟨h.kp g nq nr, g.cell' hl nl⟩
  have HZ := hidM hz
  obtain ⟨a8, a9, a10⟩ := cellN h.nd
  have hmk := mk48_3
  clear gA hb nq nr nl h hl
  go_enter Tryz.func115, Tryz.ntmps115
  go_wp2_with fail
  clear a8 a9 a10 hA hz
  go_loopw [17] (fun i wr => ∃ k : Nat, k ≤ 3 ∧ i = .int .i64 k ∧ Hid (WtI3 W z k wr)) (fun i _ => 3 - (intOf i).toNat)
  case atStart => exact ⟨0, by omega, rfl, HI0⟩
  case round =>
    clear HI0
    obtain ⟨k, hk, rfl, HI⟩ := hrel
    have hk3 : k = 0 ∨ k = 1 ∨ k = 2 ∨ k = 3 := by omega
    rcases hk3 with rfl | rfl | rfl | rfl
    · obtain ⟨c7, c9, c12⟩ := cellF (HN.out wr HI.out.1).1.nd
      obtain ⟨U, hU⟩ : ∃ U, wr.setCell ⟨z, 0, none⟩ (.int .i64 16) = U := ⟨_, rfl⟩
      have hu : U.heap[z]? = some (.cells (wtK3 1) 3) := by rw [← hU, heap_setCell_same wr z 0 _ _ _ HI.out.2]; rfl
      have hk1 : Keeps W U (fun b => b = z) := by rw [← hU]; exact HI.out.1.setCell (p := ⟨z, 0, none⟩) (fun _ => rfl) _
      have HO := hidM (isOff102 0 l U q r rc nu ao ca 3 0 v2 3 c2 (HN.out U hk1).1)
      have HT : Hid (∀ u, Gr U u → WtI3 W z 1 u) := fun u g => ⟨hk1.trans (g.mono fun _ _ h => h.elim) (fun _ _ h => h), (g.block z (lt_of_heap hu) id).trans hu⟩
      have w0 := cell3V HI.out.2
      have w00 := w0.1
      have f0 := frz HI.out.2 0
      have hmeth := method_weight
      clear w0 hu hk1 HI hmk
      go_wp2_with (first
        | (go_at_call 140; refine HO.out.mono ?_; rintro e w2 ⟨rfl, g2⟩; have HT2 := hidM (HT.out w2 g2); have HG2 := hidM g2; obtain ⟨c7, c9, c12⟩ := cellF (HN.out w2 HT2.out.1).1.nd; clear g2)
        | (go_at_call 263; refine (weight310 _ _ _ _ _).mono ?_; rintro e w3 ⟨rfl, g3⟩; have HT3 := hidM (HT.out w3 (HG2.out.trans g3 (fun _ _ h => h))); have w30 := (cell3V HT3.out.2).1; have f3 := frz HT3.out.2 0; have i3 := set_id (j := 0) (v := .int .i64 16) HT3.out.2 rfl; clear g3))
      go_roundw
      case rel => exact ⟨1, by omega, by go_num, HT3⟩
      case measure => simp [intOf]
    · obtain ⟨c7, c9, c12⟩ := cellF (HN.out wr HI.out.1).1.nd
      obtain ⟨U, hU⟩ : ∃ U, wr.setCell ⟨z, 1, none⟩ (.int .i64 16) = U := ⟨_, rfl⟩
      have hu : U.heap[z]? = some (.cells (wtK3 2) 3) := by rw [← hU, heap_setCell_same wr z 1 _ _ _ HI.out.2]; rfl
      have hk1 : Keeps W U (fun b => b = z) := by rw [← hU]; exact HI.out.1.setCell (p := ⟨z, 1, none⟩) (fun _ => rfl) _
      have HO := hidM (isOff102 1 l U q r rc nu ao ca 3 0 v2 3 c2 (HN.out U hk1).1)
      have HT : Hid (∀ u, Gr U u → WtI3 W z 2 u) := fun u g => ⟨hk1.trans (g.mono fun _ _ h => h.elim) (fun _ _ h => h), (g.block z (lt_of_heap hu) id).trans hu⟩
      have w0 := cell3V HI.out.2
      have w00 := w0.2.1
      have f0 := frz HI.out.2 1
      have hmeth := method_weight
      clear w0 hu hk1 HI hmk
      go_wp2_with (first
        | (go_at_call 140; refine HO.out.mono ?_; rintro e w2 ⟨rfl, g2⟩; have HT2 := hidM (HT.out w2 g2); have HG2 := hidM g2; obtain ⟨c7, c9, c12⟩ := cellF (HN.out w2 HT2.out.1).1.nd; clear g2)
        | (go_at_call 263; refine (weight310 _ _ _ _ _).mono ?_; rintro e w3 ⟨rfl, g3⟩; have HT3 := hidM (HT.out w3 (HG2.out.trans g3 (fun _ _ h => h))); have w30 := (cell3V HT3.out.2).2.1; have f3 := frz HT3.out.2 1; have i3 := set_id (j := 1) (v := .int .i64 16) HT3.out.2 rfl; clear g3))
      go_roundw
      case rel => exact ⟨2, by omega, by go_num, HT3⟩
      case measure => simp [intOf]
    · obtain ⟨c7, c9, c12⟩ := cellF (HN.out wr HI.out.1).1.nd
      obtain ⟨U, hU⟩ : ∃ U, wr.setCell ⟨z, 2, none⟩ (.int .i64 16) = U := ⟨_, rfl⟩
      have hu : U.heap[z]? = some (.cells (wtK3 3) 3) := by rw [← hU, heap_setCell_same wr z 2 _ _ _ HI.out.2]; rfl
      have hk1 : Keeps W U (fun b => b = z) := by rw [← hU]; exact HI.out.1.setCell (p := ⟨z, 2, none⟩) (fun _ => rfl) _
      have HO := hidM (isOff102 2 l U q r rc nu ao ca 3 0 v2 3 c2 (HN.out U hk1).1)
      have HT : Hid (∀ u, Gr U u → WtI3 W z 3 u) := fun u g => ⟨hk1.trans (g.mono fun _ _ h => h.elim) (fun _ _ h => h), (g.block z (lt_of_heap hu) id).trans hu⟩
      have w0 := cell3V HI.out.2
      have w00 := w0.2.2
      have f0 := frz HI.out.2 2
      have hmeth := method_weight
      clear w0 hu hk1 HI hmk
      go_wp2_with (first
        | (go_at_call 140; refine HO.out.mono ?_; rintro e w2 ⟨rfl, g2⟩; have HT2 := hidM (HT.out w2 g2); have HG2 := hidM g2; obtain ⟨c7, c9, c12⟩ := cellF (HN.out w2 HT2.out.1).1.nd; clear g2)
        | (go_at_call 263; refine (weight310 _ _ _ _ _).mono ?_; rintro e w3 ⟨rfl, g3⟩; have HT3 := hidM (HT.out w3 (HG2.out.trans g3 (fun _ _ h => h))); have w30 := (cell3V HT3.out.2).2.2; have f3 := frz HT3.out.2 2; have i3 := set_id (j := 2) (v := .int .i64 16) HT3.out.2 rfl; clear g3))
      go_roundw
      case rel => exact ⟨3, by omega, by go_num, HT3⟩
      case measure => simp [intOf]
    · have HE : Hid (Gr W wr ∧ wr.cell? ⟨z, 0, none⟩ = some (.int .i64 16) ∧ wr.cell? ⟨z, 1, none⟩ = some (.int .i64 16) ∧ wr.cell? ⟨z, 2, none⟩ = some (.int .i64 16)) := ⟨HI.out.1.mono fun j hj e => by have e' : j = z := e; have := HZ.out; omega, cell3V HI.out.2⟩
      clear HI hmk
      go_wp2_with fail
      go_ret
      exact ⟨z, rfl, HE.out⟩
end Go.Proofs.YteggcdhibcjneaaGreatDoor.Kit
