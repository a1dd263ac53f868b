import Derived.Test.YtffmppnlddphaaaDoorLL
namespace Go.Proofs.YtffmppnlddphaaaDoor.Kit
open Go.RowKit Go.Shelf Go.Deep
set_option linter.unusedVariables false
attribute [local go_sem] run_store_func

set_option maxRecDepth 100000 in
set_option maxHeartbeats 2000000 in
theorem checkFieldR_walk (f0 : ByteArray) (f1 : Bool) (f2 f3 f4 f5 : Int) (ao : Option Addr) (f6 ca : Nat) (w : World) (Q : Int → Option Addr → Nat → Nat → Int → World → Prop)
    (hck : ∀ W g, Gr w W → w.heap.size ≤ g → W.heap[g]? = some (.cells #[.string f0, .bool f1, .int .i64 f2, .int .i64 f3, .int .i64 f4, .int .i64 f5, .slice ao f6 ca] 37) → Calls Tryd.prog 12 #[.agg #[.slice (some ⟨g, 0, none⟩) 1 1, .slice none 0 0]] W fun e w' => ∃ er vo vn vc tt, e = .returned (.agg #[.int .i64 er, .slice vo vn vc, .int .i64 tt]) ∧ Gr W w' ∧ Q er vo vn vc tt w')
    (hpos : ∀ er vo vn vc tt A, Q er vo vn vc tt A → vn ≤ vc ∧ (0 < vn → ∃ g, vo = some ⟨g, 0, none⟩)) :
    Calls Tryd.prog 14 #[.agg #[.string f0, .bool f1, .int .i64 f2, .int .i64 f3, .int .i64 f4, .int .i64 f5, .slice ao f6 ca]] w (CutR w Q) := by
  have HC := hidM hck
  have HP := hidM hpos
  clear hck hpos
  obtain ⟨W0, hW0⟩ : ∃ W0, (w.alloc (.cells #[.string f0, .bool f1, .int .i64 f2, .int .i64 f3, .int .i64 f4, .int .i64 f5, .slice ao f6 ca] 37)).alloc (.cells #[.int .i64 0, .slice none 0 0, .int .i64 0] 32) = W0 := ⟨_, rfl⟩
  have g0 : Gr w W0 := by rw [← hW0]; exact (gr_alloc w _).alloc _
  have r0 : W0.heap[w.heap.size + 1]? = some (.cells #[.int .i64 0, .slice none 0 0, .int .i64 0] 32) := by
    have := World.alloc_heap_new (w.alloc (.cells #[.string f0, .bool f1, .int .i64 f2, .int .i64 f3, .int .i64 f4, .int .i64 f5, .slice ao f6 ca] 37)) (.cells #[.int .i64 0, .slice none 0 0, .int .i64 0] 32)
    rw [World.size_alloc] at this
    rw [← hW0]
    exact this
  have x0 : W0.heap[w.heap.size]? = some (.cells #[.string f0, .bool f1, .int .i64 f2, .int .i64 f3, .int .i64 f4, .int .i64 f5, .slice ao f6 ca] 37) := by
    rw [← hW0]; exact (Below.heap_alloc _ _ _ (by simp)).trans (World.alloc_heap_new w _)
  obtain ⟨v0, v1, v2, v3, v4, v5, v6⟩ := cell7 x0
  simp only [Nat.zero_add] at v1 v2 v3 v4 v5 v6
  have H0 := hidM (And.intro g0 r0)
  clear g0 r0 x0
  go_enter Tryd.func14, Tryd.ntmps14
  obtain ⟨W1, hW1⟩ : ∃ W1, W0.alloc (.cells #[.string f0, .bool f1, .int .i64 f2, .int .i64 f3, .int .i64 f4, .int .i64 f5, .slice ao f6 ca] 37) = W1 := ⟨_, rfl⟩
  have hx : W1.heap[W0.heap.size]? = some (.cells #[.string f0, .bool f1, .int .i64 f2, .int .i64 f3, .int .i64 f4, .int .i64 f5, .slice ao f6 ca] 37) := by rw [← hW1]; exact World.alloc_heap_new W0 _
  have g1 : Gr W0 W1 := by rw [← hW1]; exact gr_alloc W0 _
  have HA := HC.out W1 W0.heap.size (H0.out.1.trans g1 (fun _ _ h => h)) (by have := H0.out.1.size; omega) hx
  have H1 : Hid (Gr w W1 ∧ W1.heap[w.heap.size + 1]? = some (.cells #[.int .i64 0, .slice none 0 0, .int .i64 0] 32)) := ⟨H0.out.1.trans g1 (fun _ _ h => h), (g1.block _ (lt_of_heap H0.out.2) id).trans H0.out.2⟩
  have HCA := hidM HA
  clear HA HC H0 g1 hx
  go_wp2_with (go_at_call 12; refine Hid.out ?_)
  unfold Hid
  refine Calls.mono HCA.out ?_
  rintro e A ⟨er, vo, vn, vc, tt, rfl, gA, hq⟩
  obtain ⟨p1, p4⟩ := HP.out _ _ _ _ _ _ hq
  obtain ⟨W2, hW2⟩ : ∃ W2, A.alloc (.cells #[.int .i64 er, .slice vo vn vc, .int .i64 tt] 32) = W2 := ⟨_, rfl⟩
  have x2 : W2.heap[A.heap.size]? = some (.cells #[.int .i64 er, .slice vo vn vc, .int .i64 tt] 32) := by rw [← hW2]; exact World.alloc_heap_new A _
  have gA2 : Gr A W2 := by rw [← hW2]; exact gr_alloc A _
  have rA : A.heap[w.heap.size + 1]? = some (.cells #[.int .i64 0, .slice none 0 0, .int .i64 0] 32) := (gA.block _ (lt_of_heap H1.out.2) id).trans H1.out.2
  have r2 : W2.heap[w.heap.size + 1]? = some (.cells #[.int .i64 0, .slice none 0 0, .int .i64 0] 32) := (gA2.block _ (lt_of_heap rA) id).trans rA
  have hXR : A.heap.size ≠ w.heap.size + 1 := by have := lt_of_heap rA; omega
  have gw2 : Gr w W2 := (H1.out.1.trans gA (fun _ _ h => h)).trans gA2 (fun _ _ h => h)
  obtain ⟨c0, c1, c2⟩ := cell3 x2
  obtain ⟨y0, y1, y2⟩ := cell3 r2
  have z1 := frz x2 1
  have y3 := frz r2 0
  have y4 := frz r2 1
  have y5 := frz r2 2
  clear hW0 hW1 v0 v1 v2 v3 v4 v5 v6
  by_cases he : vn = 0
  · have HV := hidM he
    have hvI : ¬ (0 : Int) < (vn : Int) := by omega
    clear he
    have e3 := setc (j := 2) (setc (j := 1) (setc (j := 0) r2 (.int .i64 er)) (.slice vo vn vc)) (.int .i64 tt)
    have k3 : Keeps W2 _ (fun b => b = w.heap.size + 1) := keep1 (j := 2) (keep1 (j := 1) (keep1 (j := 0) (Keeps.refl W2 (fun b => b = w.heap.size + 1)) (.int .i64 er)) (.slice vo vn vc)) (.int .i64 tt)
    have HE := hidM (And.intro e3 (And.intro k3 (And.intro gw2 (And.intro gA2 (And.intro rA hq)))))
    clear e3 k3 gw2 gA2 rA hq gA x2 r2 z1 p1 p4 HP HCA H1
    go_wp2_with fail
    obtain ⟨e3, k3, gw2, gA2, rA, hq⟩ := HE.out
    obtain ⟨u0, u1, u2⟩ := cell3 (e3.trans (by simp : _ = some (Obj.cells #[.int .i64 er, .slice vo vn vc, .int .i64 tt] 32 (0, 0))))
    refine bodyPost_ret (v := .agg #[.int .i64 er, .slice vo vn vc, .int .i64 tt]) ?_ rfl ⟨er, vo, vn, vc, tt, A, vo, vn, vc, hq, rfl, gw2.trans k3 (fun j hj h => by omega), ?_, .inl ⟨HV.out, rfl, rfl, rfl⟩⟩
    · simp [results, Tryd.f14, go_sem, u0, u1, u2]
    · intro q c hql hqc
      refine (k3.block q (by have := gA2.size; omega) fun h => ?_).trans (gA2.block q hql id)
      rw [h, rA] at hqc
      simp at hqc
  · have hvp : 0 < vn := by omega
    obtain ⟨g', rfl⟩ := p4 hvp
    have hvI0 : (0 : Int) < (vn : Int) := by omega
    have hvI : (1 : Int) ≤ (vn : Int) := by omega
    have hvI2 : (vn : Int) ≤ (vc : Int) := by omega
    have fin : Hid (∀ vo' vc' W5, (1 < vn → vo' = some ⟨g', 1, none⟩) → W5 = (((W2.setCell ⟨A.heap.size, 1, none⟩ (.slice vo' (vn - 1) vc')).setCell ⟨w.heap.size + 1, 0, none⟩ (.int .i64 er)).setCell ⟨w.heap.size + 1, 1, none⟩ (.slice vo' (vn - 1) vc')).setCell ⟨w.heap.size + 1, 2, none⟩ (.int .i64 tt) →
        W5.heap[w.heap.size + 1]? = some (.cells #[.int .i64 er, .slice vo' (vn - 1) vc', .int .i64 tt] 32) ∧ CutR w Q (.returned (.agg #[.int .i64 er, .slice vo' (vn - 1) vc', .int .i64 tt])) W5) := by
      intro vo' vc' W5 hv5 e
      have r3 : (W2.setCell ⟨A.heap.size, 1, none⟩ (.slice vo' (vn - 1) vc')).heap[w.heap.size + 1]? = some (.cells #[.int .i64 0, .slice none 0 0, .int .i64 0] 32) := (heap_setCell_other W2 ⟨A.heap.size, 1, none⟩ _ _ (Ne.symm hXR)).trans r2
      have e3 := setc (j := 2) (setc (j := 1) (setc (j := 0) r3 (.int .i64 er)) (.slice vo' (vn - 1) vc')) (.int .i64 tt)
      rw [← e] at e3
      have k3 : Keeps W2 W5 (fun b => b = A.heap.size ∨ b = w.heap.size + 1) := by
        rw [e]
        exact ((((Keeps.refl W2 _).setCell (p := ⟨A.heap.size, 1, none⟩) (fun _ => .inl rfl) _).setCell (p := ⟨w.heap.size + 1, 0, none⟩) (fun _ => .inr rfl) _).setCell (p := ⟨w.heap.size + 1, 1, none⟩) (fun _ => .inr rfl) _).setCell (p := ⟨w.heap.size + 1, 2, none⟩) (fun _ => .inr rfl) _
      refine ⟨e3.trans (by simp), er, _, vn, vc, tt, A, vo', vn - 1, vc', hq, rfl, gw2.trans k3 (fun j hj h => by have := lt_of_heap rA; have := (H1.out.1.trans gA (fun _ _ h => h)).size; omega), ?_, .inr ⟨hvp, g', rfl, rfl, hv5⟩⟩
      intro q c hql hqc
      refine (k3.block q (by have := gA2.size; omega) fun h => ?_).trans (gA2.block q hql id)
      rcases h with h | h
      · omega
      · rw [h, rA] at hqc
        simp at hqc
    clear gw2 gA2 rA hq gA x2 r2 p4 HP HCA H1
    go_wp2_with fail
    case inl =>
      obtain ⟨e3, hcut⟩ := fin.out (some ⟨g', 0, none⟩) 0 _ (fun h => by omega) rfl
      obtain ⟨u0, u1, u2⟩ := cell3 e3
      refine bodyPost_ret (v := .agg #[.int .i64 er, .slice (some ⟨g', 0, none⟩) (vn - 1) 0, .int .i64 tt]) ?_ rfl hcut
      simp [results, Tryd.f14, go_sem, u0, u1, u2]
    case inr =>
      obtain ⟨e3, hcut⟩ := fin.out (some ⟨g', 1, none⟩) (vc - 1) _ (fun h => rfl) rfl
      obtain ⟨u0, u1, u2⟩ := cell3 e3
      refine bodyPost_ret (v := .agg #[.int .i64 er, .slice (some ⟨g', 1, none⟩) (vn - 1) (vc - 1), .int .i64 tt]) ?_ rfl hcut
      simp [results, Tryd.f14, go_sem, u0, u1, u2]
end Go.Proofs.YtffmppnlddphaaaDoor.Kit
