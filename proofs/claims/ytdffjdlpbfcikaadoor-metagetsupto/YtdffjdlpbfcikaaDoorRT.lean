import Derived.Test.YtdffjdlpbfcikaaDoorRL
import Derived.Recover
import Derived.Defers
namespace Go.Proofs.YtdffjdlpbfcikaaDoor.Kit
open Go.RowKit Go.Shelf Go.Deep
set_option linter.unusedVariables false
attribute [local go_sem] run_store_func

/-! ### the deferred read$1 26 -/
set_option maxRecDepth 100000 in
theorem catch_idle (q r : Addr) (w : World) :
    CallsD Tryd.prog 26 #[.pointer (some q), .pointer (some r)] .returning w fun e u' w' => e = .returned (.tuple #[]) ∧ u' = .returning ∧ w' = w := by
  refine callsD_of_wpS Tryd.func26 rfl fun c₀ cs hu => ?_
  apply wpS_seq
  apply wpS_region
  simp [wpOpsS, go_sem, recoverD, hu, Tryd.ntmps26, Exit.thenS]
  refine wpS_of_wp ?_
  go_wp2
  cases c₀
  simp_all [bodyPostS, results, Tryd.results26]
theorem put3f_box {V : World} {Y t : Nat} {x0 x1 x2 : Value} (y0 y1 y2 : Value) (h : V.heap[Y]? = some (.cells #[x0, x1, x2] t (0, 0))) : (((V.setCell ⟨Y, 0, none⟩ y0).setCell ⟨Y, 1, none⟩ y1).setCell ⟨Y, 2, none⟩ y2).heap[Y]? = some (.cells #[y0, y1, y2] t (0, 0)) := by
  have h0 : (V.setCell ⟨Y, 0, none⟩ y0).heap[Y]? = some (.cells #[y0, x1, x2] t (0, 0)) := heap_setCell_same _ Y 0 _ _ y0 h
  have h1 : ((V.setCell ⟨Y, 0, none⟩ y0).setCell ⟨Y, 1, none⟩ y1).heap[Y]? = some (.cells #[y0, y1, x2] t (0, 0)) := heap_setCell_same _ Y 1 _ _ y1 h0
  exact heap_setCell_same _ Y 2 _ _ y2 h1
theorem put3f_keeps (V : World) (Y : Nat) (y0 y1 y2 : Value) : Keeps V (((V.setCell ⟨Y, 0, none⟩ y0).setCell ⟨Y, 1, none⟩ y1).setCell ⟨Y, 2, none⟩ y2) (fun z => z = Y) :=
  (((Keeps.refl V (fun z => z = Y)).setCell (p := ⟨Y, 0, none⟩) (fun _ => rfl) _).setCell (p := ⟨Y, 1, none⟩) (fun _ => rfl) _).setCell (p := ⟨Y, 2, none⟩) (fun _ => rfl) _
theorem fault_end {V : World} {h x t u : Nat} {y0 y1 y2 y3 y4 y5 y6 y7 y8 z0 z1 z2 : Value} (p0 p1 p2 p3 p4 p5 p6 p7 p8 q0 q1 q2 : Value) (hne : h ≠ x) (v9 : V.heap[h]? = some (.cells #[y0, y1, y2, y3, y4, y5, y6, y7, y8] t (0, 0))) (v3 : V.heap[x]? = some (.cells #[z0, z1, z2] u (0, 0))) :
    ((((((((((((V.setCell ⟨h, 0, none⟩ p0).setCell ⟨h, 1, none⟩ p1).setCell ⟨h, 2, none⟩ p2).setCell ⟨h, 3, none⟩ p3).setCell ⟨h, 4, none⟩ p4).setCell ⟨h, 5, none⟩ p5).setCell ⟨h, 6, none⟩ p6).setCell ⟨h, 7, none⟩ p7).setCell ⟨h, 8, none⟩ p8).setCell ⟨x, 0, none⟩ q0).setCell ⟨x, 1, none⟩ q1).setCell ⟨x, 2, none⟩ q2).heap[h]? = some (.cells #[p0, p1, p2, p3, p4, p5, p6, p7, p8] t (0, 0)) ∧ ((((((((((((V.setCell ⟨h, 0, none⟩ p0).setCell ⟨h, 1, none⟩ p1).setCell ⟨h, 2, none⟩ p2).setCell ⟨h, 3, none⟩ p3).setCell ⟨h, 4, none⟩ p4).setCell ⟨h, 5, none⟩ p5).setCell ⟨h, 6, none⟩ p6).setCell ⟨h, 7, none⟩ p7).setCell ⟨h, 8, none⟩ p8).setCell ⟨x, 0, none⟩ q0).setCell ⟨x, 1, none⟩ q1).setCell ⟨x, 2, none⟩ q2).heap[x]? = some (.cells #[q0, q1, q2] u (0, 0)) ∧ Keeps V ((((((((((((V.setCell ⟨h, 0, none⟩ p0).setCell ⟨h, 1, none⟩ p1).setCell ⟨h, 2, none⟩ p2).setCell ⟨h, 3, none⟩ p3).setCell ⟨h, 4, none⟩ p4).setCell ⟨h, 5, none⟩ p5).setCell ⟨h, 6, none⟩ p6).setCell ⟨h, 7, none⟩ p7).setCell ⟨h, 8, none⟩ p8).setCell ⟨x, 0, none⟩ q0).setCell ⟨x, 1, none⟩ q1).setCell ⟨x, 2, none⟩ q2) (fun z => z = h ∨ z = x) := by
  have k9 := put9_keeps V h p0 p1 p2 p3 p4 p5 p6 p7 p8
  have b9 := put9_box p0 p1 p2 p3 p4 p5 p6 p7 p8 v9
  have b3 := (k9.block x (lt_of_heap v3) (fun e => hne e.symm)).trans v3
  have k3 := put3f_keeps (((((((((V.setCell ⟨h, 0, none⟩ p0).setCell ⟨h, 1, none⟩ p1).setCell ⟨h, 2, none⟩ p2).setCell ⟨h, 3, none⟩ p3).setCell ⟨h, 4, none⟩ p4).setCell ⟨h, 5, none⟩ p5).setCell ⟨h, 6, none⟩ p6).setCell ⟨h, 7, none⟩ p7).setCell ⟨h, 8, none⟩ p8) x q0 q1 q2
  have b3' := put3f_box q0 q1 q2 b3
  exact ⟨(k3.block h (lt_of_heap b9) hne).trans b9, b3', (k9.mono (T := fun z => z = h ∨ z = x) fun _ _ h => .inl h).trans (k3.mono (T := fun z => z = h ∨ z = x) fun _ _ h => .inr h) (fun _ _ h => h)⟩
theorem heap_drew (W : World) (i : Nat) : W.drew.heap[i]? = W.heap[i]? := rfl
set_option maxRecDepth 100000 in
set_option maxHeartbeats 1000000 in
theorem catch_fault (h x : Nat) (er : Int × Nat) (older : List PanicEntry) (w : World) (y0 y1 y2 y3 y4 y5 y6 y7 y8 z0 z1 z2 : Value) (hne : h ≠ x) (h9 : w.heap[h]? = some (.cells #[y0, y1, y2, y3, y4, y5, y6, y7, y8] 30 (0, 0))) (h3 : w.heap[x]? = some (.cells #[z0, z1, z2] 34 (0, 0))) :
    CallsD Tryd.prog 26 #[.pointer (some ⟨h, 0, none⟩), .pointer (some ⟨x, 0, none⟩)] (.panicking ({ v := flt er, recovered := false } :: older)) w fun e u' w' => e = .returned (.tuple #[]) ∧ u' = .panicking ({ v := flt er, recovered := true } :: older) ∧ w'.heap[h]? = some (.cells #[.int .i64 0, .slice none 0 0, .slice none 0 0, .int .i64 0, .bool false, .int .i64 0, .int .i64 0, .slice none 0 0, .slice none 0 0] 30 (0, 0)) ∧ w'.heap[x]? = some (.cells #[.int .i64 er.1, .slice none 0 0, .int .i64 (er.2 : Int)] 34 (0, 0)) ∧ Keeps w w' (fun z => z = h ∨ z = x) := by
  unfold flt
  have hta : ∀ (v : Value) (W : World), (Instr.typeAssert (.iface 34 v) 20 34 true).run Tryd.prog W = .ok (.tuple #[v, .bool true]) W := fun v W => rfl
  obtain ⟨e1, he1⟩ : ∃ e, e = er.1 := ⟨_, rfl⟩
  obtain ⟨e2, he2⟩ : ∃ e : Int, e = (er.2 : Int) := ⟨_, rfl⟩
  rw [← he1, ← he2]
  clear he1 he2
  obtain ⟨n, hn⟩ : ∃ n, n = w.heap.size := ⟨_, rfl⟩
  obtain ⟨V, hV⟩ : ∃ V, w.alloc (.cells #[.int .i64 e1, .slice none 0 0, .int .i64 e2] 34) = V := ⟨_, rfl⟩
  have gV : Gr w V := by rw [← hV]; exact gr_alloc w _
  have hnew : V.heap[n]? = some (.cells #[.int .i64 e1, .slice none 0 0, .int .i64 e2] 34 (0, 0)) := by rw [hn, ← hV]; exact heap_alloc_new w _
  have v9 := (gV.block h (lt_of_heap h9) id).trans h9
  have v3 := (gV.block x (lt_of_heap h3) id).trans h3
  have l9 := lt_of_heap h9
  have l3 := lt_of_heap h3
  have n1 : ¬ h = n := by omega
  have n2 : ¬ x = n := by omega
  have n3 : ¬ x = h := fun e => hne e.symm
  have n4 : ¬ n = h := by omega
  have n5 : ¬ n = x := by omega
  have a0 : V.cell? ⟨h, 0, none⟩ = some y0 := by simp [World.cell?, v9]
  have fa0 : V.frozen? ⟨h, 0, none⟩ = false := frz v9 0
  have a1 : V.cell? ⟨h, 1, none⟩ = some y1 := by simp [World.cell?, v9]
  have fa1 : V.frozen? ⟨h, 1, none⟩ = false := frz v9 1
  have a2 : V.cell? ⟨h, 2, none⟩ = some y2 := by simp [World.cell?, v9]
  have fa2 : V.frozen? ⟨h, 2, none⟩ = false := frz v9 2
  have a3 : V.cell? ⟨h, 3, none⟩ = some y3 := by simp [World.cell?, v9]
  have fa3 : V.frozen? ⟨h, 3, none⟩ = false := frz v9 3
  have a4 : V.cell? ⟨h, 4, none⟩ = some y4 := by simp [World.cell?, v9]
  have fa4 : V.frozen? ⟨h, 4, none⟩ = false := frz v9 4
  have a5 : V.cell? ⟨h, 5, none⟩ = some y5 := by simp [World.cell?, v9]
  have fa5 : V.frozen? ⟨h, 5, none⟩ = false := frz v9 5
  have a6 : V.cell? ⟨h, 6, none⟩ = some y6 := by simp [World.cell?, v9]
  have fa6 : V.frozen? ⟨h, 6, none⟩ = false := frz v9 6
  have a7 : V.cell? ⟨h, 7, none⟩ = some y7 := by simp [World.cell?, v9]
  have fa7 : V.frozen? ⟨h, 7, none⟩ = false := frz v9 7
  have a8 : V.cell? ⟨h, 8, none⟩ = some y8 := by simp [World.cell?, v9]
  have fa8 : V.frozen? ⟨h, 8, none⟩ = false := frz v9 8
  have b0 : V.cell? ⟨x, 0, none⟩ = some z0 := by simp [World.cell?, v3]
  have fb0 : V.frozen? ⟨x, 0, none⟩ = false := frz v3 0
  have b1 : V.cell? ⟨x, 1, none⟩ = some z1 := by simp [World.cell?, v3]
  have fb1 : V.frozen? ⟨x, 1, none⟩ = false := frz v3 1
  have b2 : V.cell? ⟨x, 2, none⟩ = some z2 := by simp [World.cell?, v3]
  have fb2 : V.frozen? ⟨x, 2, none⟩ = false := frz v3 2
  have c0 : V.cell? ⟨n, 0, none⟩ = some (.int .i64 e1) := by simp [World.cell?, hnew]
  have c1 : V.cell? ⟨n, 1, none⟩ = some (.slice none 0 0) := by simp [World.cell?, hnew]
  have c2 : V.cell? ⟨n, 2, none⟩ = some (.int .i64 e2) := by simp [World.cell?, hnew]
  have E := fault_end (.int .i64 0) (.slice none 0 0) (.slice none 0 0) (.int .i64 0) (.bool false) (.int .i64 0) (.int .i64 0) (.slice none 0 0) (.slice none 0 0) (.int .i64 e1) (.slice none 0 0) (.int .i64 e2) hne v9 v3
  have HE : Hid (_ ∧ _ ∧ _) := ⟨E.1, E.2.1, ((gV.mono (T := fun z => z = h ∨ z = x) fun _ _ h => h.elim).trans E.2.2 (fun _ _ h => h)).drew⟩
  have HN := hidM hn
  clear h9 h3 v9 v3 hnew gV hne l9 l3 E
  refine callsD_of_wpS Tryd.func26 rfl fun c₀ cs hu => ?_
  change Code.wpS _ _ _ { tmps := #[.pointer (some ⟨h, 0, none⟩), .pointer (some ⟨x, 0, none⟩), undef, undef, undef, undef, undef, undef, undef, undef, undef, undef, undef], defers := [] } _ _
  apply wpS_seq
  apply wpS_region
  simp [wpOpsS, go_sem, recoverD, hu, Exit.thenS]
  refine wpS_of_wp ?_
  go_wp2
  rw [← HN.out]
  clear hn hV
  go_region
  clear a0 a1 a2 a3 a4 a5 a6 a7 a8 b0 b1 b2 c0 c1 c2 fa0 fa1 fa2 fa3 fa4 fa5 fa6 fa7 fa8 fb0 fb1 fb2
  generalize ((((((((((((V.setCell ⟨h, 0, none⟩ (.int .i64 0)).setCell ⟨h, 1, none⟩ (.slice none 0 0)).setCell ⟨h, 2, none⟩ (.slice none 0 0)).setCell ⟨h, 3, none⟩ (.int .i64 0)).setCell ⟨h, 4, none⟩ (.bool false)).setCell ⟨h, 5, none⟩ (.int .i64 0)).setCell ⟨h, 6, none⟩ (.int .i64 0)).setCell ⟨h, 7, none⟩ (.slice none 0 0)).setCell ⟨h, 8, none⟩ (.slice none 0 0)).setCell ⟨x, 0, none⟩ (.int .i64 e1)).setCell ⟨x, 1, none⟩ (.slice none 0 0)).setCell ⟨x, 2, none⟩ (.int .i64 e2)) = U at HE ⊢
  (try simp only [Exit.inBlock])
  (try go_wp2_with fail)
  (try simp only [bodyPostS])
  refine ⟨trivial, _, rfl, _, results_none (fn := Tryd.f26) rfl _ _ _, rfl, rfl, ?_⟩
  have HE' := HE.out
  exact HE'
end Go.Proofs.YtdffjdlpbfcikaaDoor.Kit
