import Derived.Test.YteggcdhibcjneaaGreatDoorSI
set_option maxRecDepth 100000
set_option maxHeartbeats 4000000
namespace Go.Proofs.YteggcdhibcjneaaGreatDoor.Kit
variable {nx : Bool}
open Go.RowKit Go.Shelf Go.Deep
open Go.Proofs.YteggcdhibcjneaaGreatDoor.Kd (Ans AnsV cell5 cell2)
open Go.Proofs.YteggcdhibcjneaaGreatDoor.Ink (OwnRow)
set_option linter.unusedVariables false
set_option linter.unusedSimpArgs false
attribute [local go_sem] run_store_func

theorem kp_setCells (b : Nat) : ∀ (vs : List Value) (o : Nat) (w : World), Keeps w (w.setCells b o vs) (fun z => z = b)
  | [], _, w => Keeps.refl w _
  | v :: vs, o, w => by
    have h : Keeps w (w.setCell ⟨b, o, none⟩ v) (fun z => z = b) := (Keeps.refl w (fun z => z = b)).setCell (p := ⟨b, o, none⟩) (fun _ => rfl) _
    exact h.trans (kp_setCells b vs (o + 1) _) (fun _ _ h => h)
theorem insert98 (b vb : Nat) (x y : Int) (W : World) (h0 : W.cell? ⟨b, 0, none⟩ = some (.int .i64 x)) (hv : W.cell? ⟨vb, 0, none⟩ = some (.int .i64 y)) :
    Calls Tryz.prog 136 #[.slice (some ⟨b, 0, none⟩) 1 1, .int .i64 0, .slice (some ⟨vb, 0, none⟩) 1 1] W fun e w' => ∃ g c, e = .returned (.slice (some ⟨g, 0, none⟩) 2 c) ∧ Gr W w' ∧ w'.cell? ⟨g, 0, none⟩ = some (.int .i64 y) ∧ w'.cell? ⟨g, 1, none⟩ = some (.int .i64 x) := by
  have h := Any2.slices_Insert_int_grow Tryz.laysNm221 b 0 1 1 0 vb 0 1 1 [.int .i64 x] [.int .i64 y] W (by decide) (by decide) (by decide) (by decide) (by decide) rfl rfl
    (fun j v hj => by
      match j, hj with
      | 0, hj => cases hj; exact h0
      | j + 1, hj => simp at hj)
    (fun j v hj => by
      match j, hj with
      | 0, hj => cases hj; exact hv
      | j + 1, hj => simp at hj)
    (fun v hv => by simp at hv; subst hv; rfl) (fun v hv => by simp at hv; subst hv; rfl)
  refine Calls.mono h ?_
  rintro e w' ⟨rfl, hw⟩
  refine ⟨_, _, rfl, ?_⟩
  generalize hR : ((([Value.int .i64 x].take 0).toArray ++ Builtin.zeroCells (Value.int .i64 0).cells (1 + 1 - 0) ++ Builtin.zeroCells (Value.int .i64 0).cells (grownCap W (1 + 1) 1 (Tryz.laysNm221_ren.t 3) - (1 + 1))) : Array Value) = R at hw
  have hsz : 2 ≤ R.size := by
    rw [← hR]
    simp [Builtin.zeroCells, Value.cells]
  obtain ⟨A, hA⟩ : ∃ A, W.alloc (.cells R (Tryz.laysNm221_ren.t 3)) = A := ⟨_, rfl⟩
  rw [hA] at hw
  have gA : Gr W A := by rw [← hA]; exact gr_alloc W _
  have hb : A.heap[W.heap.size]? = some (.cells R (Tryz.laysNm221_ren.t 3)) := by rw [← hA]; exact heap_alloc_new W _
  have hd : (w' : World) = ((A.drew.setCell ⟨W.heap.size, 0, none⟩ (.int .i64 y)).drew).setCell ⟨W.heap.size, 1, none⟩ (.int .i64 x) := hw
  have e1 := heap_setCell_same A.drew W.heap.size 0 _ _ (.int .i64 y) hb
  have e2 := heap_setCell_same (A.drew.setCell ⟨W.heap.size, 0, none⟩ (.int .i64 y)).drew W.heap.size 1 _ _ (.int .i64 x) e1
  rw [← hd] at e2
  refine ⟨?_, ?_, ?_⟩
  · rw [hd]
    exact Keeps.setCell (p := ⟨W.heap.size, 1, none⟩) ((Keeps.setCell (p := ⟨W.heap.size, 0, none⟩) gA.drew (fun h => by simp at h) _).drew) (fun h => by simp at h) _
  · have q0 : 0 < R.size := by omega
    simp only [World.cell?, e2]
    simp [Array.getElem?_setIfInBounds, q0]
  · have q1 : 1 < R.size := by omega
    simp only [World.cell?, e2]
    simp [Array.getElem?_setIfInBounds, q1]
end Go.Proofs.YteggcdhibcjneaaGreatDoor.Kit
namespace Go.Proofs.YteggcdhibcjneaaGreatDoor.Kit
variable {nx : Bool}
open Go.RowKit Go.Shelf Go.Deep
open Go.Proofs.YteggcdhibcjneaaGreatDoor.Kd (Ans AnsV cell5 cell2)
open Go.Proofs.YteggcdhibcjneaaGreatDoor.Ink (OwnRow)
set_option linter.unusedVariables false
set_option linter.unusedSimpArgs false
attribute [local go_sem] run_store_func

theorem needs308_2 (W : World) : Calls Tryz.prog 261 #[.agg #[.int .i64 1, .bool true], .int .i64 2] W fun e w' => ∃ g, e = .returned (.tuple #[.slice (some ⟨g, 0, none⟩) 1 1, .int .i64 (-9223372036854775808)]) ∧ Gr W w' ∧ W.heap.size ≤ g ∧ w'.cell? ⟨g, 0, none⟩ = some (.int .i64 2) := by
  obtain ⟨A, hA⟩ : ∃ A, W.alloc (.cells #[.int .i64 1, .bool true] 238) = A := ⟨_, rfl⟩
  have gA : Gr W A := by rw [← hA]; exact gr_alloc W _
  have hb : A.heap[W.heap.size]? = some (.cells #[.int .i64 1, .bool true] 238) := by rw [← hA]; exact heap_alloc_new W _
  obtain ⟨e0, e1⟩ := cell2 hb
  have HG := hidM gA
  clear gA hb
  go_enter Tryz.func261, Tryz.ntmps261
  go_wp2_with fail
  go_ret2
  exact ⟨_, rfl, HG.out.alloc _, HG.out.size, cell1 (heap_alloc_new A _)⟩
theorem needs308_3 (W : World) : Calls Tryz.prog 261 #[.agg #[.int .i64 1, .bool true], .int .i64 3] W fun e w' => ∃ g, e = .returned (.tuple #[.slice (some ⟨g, 0, none⟩) 1 1, .int .i64 (-9223372036854775808)]) ∧ Gr W w' ∧ W.heap.size ≤ g ∧ w'.cell? ⟨g, 0, none⟩ = some (.int .i64 3) := by
  obtain ⟨A, hA⟩ : ∃ A, W.alloc (.cells #[.int .i64 1, .bool true] 238) = A := ⟨_, rfl⟩
  have gA : Gr W A := by rw [← hA]; exact gr_alloc W _
  have hb : A.heap[W.heap.size]? = some (.cells #[.int .i64 1, .bool true] 238) := by rw [← hA]; exact heap_alloc_new W _
  obtain ⟨e0, e1⟩ := cell2 hb
  have HG := hidM gA
  clear gA hb
  go_enter Tryz.func261, Tryz.ntmps261
  go_wp2_with fail
  go_ret2
  exact ⟨_, rfl, HG.out.alloc _, HG.out.size, cell1 (heap_alloc_new A _)⟩
theorem wrong266 (l : Value) (q : Value) (W : World) : Calls Tryz.prog 218 #[.agg #[], l, q] W fun e w' => e = .returned (.tuple #[.int .i64 0, .int .i64 0]) ∧ Gr W w' := by
  go_enter Tryz.func218, Tryz.ntmps218
  go_wp2_with fail
  go_ret2
  exact ⟨rfl, gr_alloc _ _⟩
theorem wrong267 (l : Value) (q : Value) (W : World) : Calls Tryz.prog 219 #[.agg #[], l, q] W fun e w' => e = .returned (.tuple #[.int .i64 0, .int .i64 0]) ∧ Gr W w' := by
  go_enter Tryz.func219, Tryz.ntmps219
  go_wp2_with fail
  go_ret2
  exact ⟨rfl, gr_alloc _ _⟩
theorem weight310 (l q v : Value) (r : Int) (W : World) : Calls Tryz.prog 263 #[.agg #[.int .i64 1, .bool true], l, q, .int .i64 r, v] W fun e w' => e = .returned (.int .i64 16) ∧ Gr W w' := by
  go_enter Tryz.func263, Tryz.ntmps263
  go_wp2_with fail
  go_ret
  exact ⟨rfl, gr_alloc _ _⟩
theorem sum72_2 (z : Nat) (c : Nat) (W : World) (h0 : W.cell? ⟨z, 0, none⟩ = some (.int .i64 16)) (h1 : W.cell? ⟨z, 1, none⟩ = some (.int .i64 16)) : Calls Tryz.prog 116 #[.slice (some ⟨z, 0, none⟩) 2 c] W fun e w' => e = .returned (.int .i64 32) ∧ w' = W := by
  have H : Hid (∀ k, k < 2 → W.cell? ⟨z, k, none⟩ = some (.int .i64 16)) := fun k hk => by
    have : k = 0 ∨ k = 1 := by omega
    rcases this with rfl | rfl
    · exact h0
    · exact h1
  clear h0 h1
  go_enter Tryz.func116, Tryz.ntmps116
  go_wp2_with fail
  go_loopw [8, 3] (fun i s wr => ∃ k : Nat, k ≤ 2 ∧ i = .int .i64 k ∧ s = .int .i64 ((16 * k : Nat) : Int) ∧ wr = W) (fun i _ _ => 2 - (intOf i).toNat)
  case atStart => exact ⟨0, by omega, rfl, rfl, rfl⟩
  case round =>
    obtain ⟨k, hk, rfl, rfl, rfl⟩ := hrel
    by_cases hlt : k < 2
    · have c1 := H.out k hlt
      have w1 : IntKind.i64.wrap (((16 * k : Nat) : Int) + 16) = ((16 * (k + 1) : Nat) : Int) := by rw [IntKind.wrap_i64]; omega
      generalize ((16 * k : Nat) : Int) = y at w1 ⊢
      go_wp2_with fail
      go_roundw
      case rel => exact ⟨k + 1, by omega, by go_num, by first | rfl | rw [w1], trivial⟩
      case measure => simp [intOf]; omega
    · obtain rfl : k = 2 := by omega
      go_wp2_with fail
      go_ret
      exact ⟨rfl, rfl⟩
theorem sum72_3 (z : Nat) (c : Nat) (W : World) (h0 : W.cell? ⟨z, 0, none⟩ = some (.int .i64 16)) (h1 : W.cell? ⟨z, 1, none⟩ = some (.int .i64 16)) (h2 : W.cell? ⟨z, 2, none⟩ = some (.int .i64 16)) : Calls Tryz.prog 116 #[.slice (some ⟨z, 0, none⟩) 3 c] W fun e w' => e = .returned (.int .i64 48) ∧ w' = W := by
  have H : Hid (∀ k, k < 3 → W.cell? ⟨z, k, none⟩ = some (.int .i64 16)) := fun k hk => by
    have : k = 0 ∨ k = 1 ∨ k = 2 := by omega
    rcases this with rfl | rfl | rfl
    · exact h0
    · exact h1
    · exact h2
  clear h0 h1 h2
  go_enter Tryz.func116, Tryz.ntmps116
  go_wp2_with fail
  go_loopw [8, 3] (fun i s wr => ∃ k : Nat, k ≤ 3 ∧ i = .int .i64 k ∧ s = .int .i64 ((16 * k : Nat) : Int) ∧ wr = W) (fun i _ _ => 3 - (intOf i).toNat)
  case atStart => exact ⟨0, by omega, rfl, rfl, rfl⟩
  case round =>
    obtain ⟨k, hk, rfl, rfl, rfl⟩ := hrel
    by_cases hlt : k < 3
    · have c1 := H.out k hlt
      have w1 : IntKind.i64.wrap (((16 * k : Nat) : Int) + 16) = ((16 * (k + 1) : Nat) : Int) := by rw [IntKind.wrap_i64]; omega
      generalize ((16 * k : Nat) : Int) = y at w1 ⊢
      go_wp2_with fail
      go_roundw
      case rel => exact ⟨k + 1, by omega, by go_num, by first | rfl | rw [w1], trivial⟩
      case measure => simp [intOf]; omega
    · obtain rfl : k = 3 := by omega
      go_wp2_with fail
      go_ret
      exact ⟨rfl, rfl⟩
end Go.Proofs.YteggcdhibcjneaaGreatDoor.Kit
