import Derived.Test.YtcfdkadhclickaaDoorLK
namespace Go.Proofs.YtcfdkadhclickaaDoor.Kit
open Go.RowKit Go.Shelf Go.Deep
set_option linter.unusedVariables false
attribute [local go_sem] run_store_func

/-- a fault without the first number of its way -/
def CutR (w : World) (Q : Int → Option Addr → Nat → Nat → Int → World → Prop) (e : Ending) (w' : World) : Prop :=
  ∃ er vo vn vc tt A vo' vn' vc', Q er vo vn vc tt A ∧ e = .returned (.agg #[.int .i64 er, .slice vo' vn' vc', .int .i64 tt]) ∧ Gr w w' ∧ (∀ q c, q < A.heap.size → A.heap[q]? = some (.cells c 3) → w'.heap[q]? = A.heap[q]?) ∧
    ((vn = 0 ∧ vo' = vo ∧ vn' = vn ∧ vc' = vc) ∨ (0 < vn ∧ ∃ g, vo = some ⟨g, 0, none⟩ ∧ vn' = vn - 1 ∧ (1 < vn → vo' = some ⟨g, 1, none⟩)))
set_option maxRecDepth 100000 in
set_option maxHeartbeats 2000000 in
theorem checkField_walk (f0 : ByteArray) (f1 : Bool) (f2 f3 f4 f5 : Int) (ao : Option Addr) (f6 ca : Nat) (w : World) (Q : Int → Option Addr → Nat → Nat → Int → World → Prop)
    (hck : ∀ W g, Gr w W → w.heap.size ≤ g → W.heap[g]? = some (.cells #[.string f0, .bool f1, .int .i64 f2, .int .i64 f3, .int .i64 f4, .int .i64 f5, .slice ao f6 ca] 26) → Calls Tryd.prog 68 #[.agg #[.slice (some ⟨g, 0, none⟩) 1 1, .slice none 0 0]] W fun e w' => ∃ er vo vn vc tt, e = .returned (.agg #[.int .i64 er, .slice vo vn vc, .int .i64 tt]) ∧ Gr W w' ∧ Q er vo vn vc tt w')
    (hpos : ∀ er vo vn vc tt A, Q er vo vn vc tt A → vn ≤ vc ∧ (er = 0 → vn = 0) ∧ (er ≠ 0 → 0 < vn ∧ ∃ g, vo = some ⟨g, 0, none⟩)) :
    Calls Tryd.prog 46 #[.agg #[.string f0, .bool f1, .int .i64 f2, .int .i64 f3, .int .i64 f4, .int .i64 f5, .slice ao f6 ca]] w (CutR w Q) := by
  have HC := hidM hck
  have HP := hidM hpos
  clear hck hpos
  obtain ⟨W0, hW0⟩ : ∃ W0, (w.alloc (.cells #[.string f0, .bool f1, .int .i64 f2, .int .i64 f3, .int .i64 f4, .int .i64 f5, .slice ao f6 ca] 26)).alloc (.cells #[.int .i64 0, .slice none 0 0, .int .i64 0] 72) = W0 := ⟨_, rfl⟩
  have g0 : Gr w W0 := by rw [← hW0]; exact (gr_alloc w _).alloc _
  have r0 : W0.heap[w.heap.size + 1]? = some (.cells #[.int .i64 0, .slice none 0 0, .int .i64 0] 72) := by
    have := World.alloc_heap_new (w.alloc (.cells #[.string f0, .bool f1, .int .i64 f2, .int .i64 f3, .int .i64 f4, .int .i64 f5, .slice ao f6 ca] 26)) (.cells #[.int .i64 0, .slice none 0 0, .int .i64 0] 72)
    rw [World.size_alloc] at this
    rw [← hW0]
    exact this
  have x0 : W0.heap[w.heap.size]? = some (.cells #[.string f0, .bool f1, .int .i64 f2, .int .i64 f3, .int .i64 f4, .int .i64 f5, .slice ao f6 ca] 26) := by
    rw [← hW0]; exact (Below.heap_alloc _ _ _ (by simp)).trans (World.alloc_heap_new w _)
  obtain ⟨v0, v1, v2, v3, v4, v5, v6⟩ := cell7 x0
  simp only [Nat.zero_add] at v1 v2 v3 v4 v5 v6
  have H0 := hidM (And.intro g0 r0)
  clear g0 r0 x0
  go_enter Tryd.func46, Tryd.ntmps46
  go_wp2_with (go_at_call 69; refine Hid.out ?_)
  unfold Hid
  refine Calls.mono (alone_any f0 f1 f2 f3 f4 f5 ao f6 ca W0) ?_
  rintro e W1 ⟨g, rfl, g1, hg, hx⟩
  have HA := HC.out W1 g (H0.out.1.trans g1 (fun _ _ h => h)) (by have := H0.out.1.size; omega) hx
  have H1 : Hid (Gr w W1 ∧ W1.heap[w.heap.size + 1]? = some (.cells #[.int .i64 0, .slice none 0 0, .int .i64 0] 72)) := ⟨H0.out.1.trans g1 (fun _ _ h => h), (g1.block _ (lt_of_heap H0.out.2) id).trans H0.out.2⟩
  have HCA := hidM HA
  clear HA HC H0 g1 hg hx v0 v1 v2 v3 v4 v5 v6 hW0
  go_wp2_with (go_at_call 68; refine Hid.out ?_)
  unfold Hid
  refine Calls.mono HCA.out ?_
  rintro e A ⟨er, vo, vn, vc, tt, rfl, gA, hq⟩
  obtain ⟨p1, p3, p4⟩ := HP.out _ _ _ _ _ _ hq
  obtain ⟨W2, hW2⟩ : ∃ W2, A.alloc (.cells #[.int .i64 er, .slice vo vn vc, .int .i64 tt] 72) = W2 := ⟨_, rfl⟩
  have x2 : W2.heap[A.heap.size]? = some (.cells #[.int .i64 er, .slice vo vn vc, .int .i64 tt] 72) := by rw [← hW2]; exact World.alloc_heap_new A _
  have gA2 : Gr A W2 := by rw [← hW2]; exact gr_alloc A _
  have rA : A.heap[w.heap.size + 1]? = some (.cells #[.int .i64 0, .slice none 0 0, .int .i64 0] 72) := (gA.block _ (lt_of_heap H1.out.2) id).trans H1.out.2
  have r2 : W2.heap[w.heap.size + 1]? = some (.cells #[.int .i64 0, .slice none 0 0, .int .i64 0] 72) := (gA2.block _ (lt_of_heap rA) id).trans rA
  have hXR : A.heap.size ≠ w.heap.size + 1 := by have := lt_of_heap rA; omega
  have gw2 : Gr w W2 := (H1.out.1.trans gA (fun _ _ h => h)).trans gA2 (fun _ _ h => h)
  obtain ⟨c0, c1, c2⟩ := cell3 x2
  obtain ⟨y0, y1, y2⟩ := cell3 r2
  have z1 := frz x2 1
  have y3 := frz r2 0
  have y4 := frz r2 1
  have y5 := frz r2 2
  by_cases he : er = 0
  · subst he
    have HV := hidM (p3 rfl)
    have e3 := setc (j := 2) (setc (j := 1) (setc (j := 0) r2 (.int .i64 0)) (.slice vo vn vc)) (.int .i64 tt)
    have k3 : Keeps W2 _ (fun b => b = w.heap.size + 1) := keep1 (j := 2) (keep1 (j := 1) (keep1 (j := 0) (Keeps.refl W2 (fun b => b = w.heap.size + 1)) (.int .i64 0)) (.slice vo vn vc)) (.int .i64 tt)
    have HE := hidM (And.intro e3 (And.intro k3 (And.intro gw2 (And.intro gA2 (And.intro rA hq)))))
    clear e3 k3 gw2 gA2 rA hq gA x2 r2 z1 p1 p3 p4 HP HCA H1
    go_wp2_with fail
    obtain ⟨e3, k3, gw2, gA2, rA, hq⟩ := HE.out
    obtain ⟨u0, u1, u2⟩ := cell3 (e3.trans (by simp : _ = some (Obj.cells #[.int .i64 0, .slice vo vn vc, .int .i64 tt] 72 (0, 0))))
    refine bodyPost_ret (v := .agg #[.int .i64 0, .slice vo vn vc, .int .i64 tt]) ?_ rfl ⟨0, vo, vn, vc, tt, A, vo, vn, vc, hq, rfl, gw2.trans k3 (fun j hj h => by omega), ?_, .inl ⟨HV.out, rfl, rfl, rfl⟩⟩
    · simp [results, Tryd.f46, go_sem, u0, u1, u2]
    · intro q c hql hqc
      refine (k3.block q (by have := gA2.size; omega) fun h => ?_).trans (gA2.block q hql id)
      rw [h, rA] at hqc
      simp at hqc
  · have heb := beqF he
    obtain ⟨hvp, g', rfl⟩ := p4 he
    have hvI : (1 : Int) ≤ (vn : Int) := by omega
    have hvI2 : (vn : Int) ≤ (vc : Int) := by omega
    have fin : Hid (∀ vo' vc' W5, (1 < vn → vo' = some ⟨g', 1, none⟩) → W5 = (((W2.setCell ⟨A.heap.size, 1, none⟩ (.slice vo' (vn - 1) vc')).setCell ⟨w.heap.size + 1, 0, none⟩ (.int .i64 er)).setCell ⟨w.heap.size + 1, 1, none⟩ (.slice vo' (vn - 1) vc')).setCell ⟨w.heap.size + 1, 2, none⟩ (.int .i64 tt) →
        W5.heap[w.heap.size + 1]? = some (.cells #[.int .i64 er, .slice vo' (vn - 1) vc', .int .i64 tt] 72) ∧ CutR w Q (.returned (.agg #[.int .i64 er, .slice vo' (vn - 1) vc', .int .i64 tt])) W5) := by
      intro vo' vc' W5 hv5 e
      have r3 : (W2.setCell ⟨A.heap.size, 1, none⟩ (.slice vo' (vn - 1) vc')).heap[w.heap.size + 1]? = some (.cells #[.int .i64 0, .slice none 0 0, .int .i64 0] 72) := (heap_setCell_other W2 ⟨A.heap.size, 1, none⟩ _ _ (Ne.symm hXR)).trans r2
      have e3 := setc (j := 2) (setc (j := 1) (setc (j := 0) r3 (.int .i64 er)) (.slice vo' (vn - 1) vc')) (.int .i64 tt)
      rw [← e] at e3
      have k3 : Keeps W2 W5 (fun b => b = A.heap.size ∨ b = w.heap.size + 1) := by
        rw [e]
        exact ((((Keeps.refl W2 _).setCell (p := ⟨A.heap.size, 1, none⟩) (fun _ => .inl rfl) _).setCell (p := ⟨w.heap.size + 1, 0, none⟩) (fun _ => .inr rfl) _).setCell (p := ⟨w.heap.size + 1, 1, none⟩) (fun _ => .inr rfl) _).setCell (p := ⟨w.heap.size + 1, 2, none⟩) (fun _ => .inr rfl) _
      refine ⟨e3.trans (by simp), er, _, vn, vc, tt, A, vo', vn - 1, vc', hq, rfl, gw2.trans k3 (fun j hj h => by have := lt_of_heap rA; have := (H1.out.1.trans gA (fun _ _ h => h)).size; omega), ?_, .inr ⟨hvp, g', rfl, rfl, hv5⟩⟩
      intro q c hql hqc
      refine (k3.block q (by have := gA2.size; omega) fun h => ?_).trans (gA2.block q hql id)
      rcases h with h | h
      · omega
      · rw [h, rA] at hqc
        simp at hqc
    clear gw2 gA2 rA hq gA x2 r2 p3 p4 HP HCA H1
    go_wp2_with fail
    case inl =>
      obtain ⟨e3, hcut⟩ := fin.out (some ⟨g', 0, none⟩) 0 _ (fun h => by omega) rfl
      obtain ⟨u0, u1, u2⟩ := cell3 e3
      refine bodyPost_ret (v := .agg #[.int .i64 er, .slice (some ⟨g', 0, none⟩) (vn - 1) 0, .int .i64 tt]) ?_ rfl hcut
      simp [results, Tryd.f46, go_sem, u0, u1, u2]
    case inr =>
      obtain ⟨e3, hcut⟩ := fin.out (some ⟨g', 1, none⟩) (vc - 1) _ (fun h => rfl) rfl
      obtain ⟨u0, u1, u2⟩ := cell3 e3
      refine bodyPost_ret (v := .agg #[.int .i64 er, .slice (some ⟨g', 1, none⟩) (vn - 1) (vc - 1), .int .i64 tt]) ?_ rfl hcut
      simp [results, Tryd.f46, go_sem, u0, u1, u2]
end Go.Proofs.YtcfdkadhclickaaDoor.Kit
namespace Go.Proofs.YtcfdkadhclickaaDoor.Kit
open Go.RowKit Go.Shelf Go.Deep
set_option linter.unusedVariables false
attribute [local go_sem] run_store_func

set_option maxRecDepth 100000 in
set_option maxHeartbeats 2000000 in
theorem checkFieldR_walk (f0 : ByteArray) (f1 : Bool) (f2 f3 f4 f5 : Int) (ao : Option Addr) (f6 ca : Nat) (w : World) (Q : Int → Option Addr → Nat → Nat → Int → World → Prop)
    (hck : ∀ W g, Gr w W → w.heap.size ≤ g → W.heap[g]? = some (.cells #[.string f0, .bool f1, .int .i64 f2, .int .i64 f3, .int .i64 f4, .int .i64 f5, .slice ao f6 ca] 26) → Calls Tryd.prog 71 #[.agg #[.slice (some ⟨g, 0, none⟩) 1 1, .slice none 0 0]] W fun e w' => ∃ er vo vn vc tt, e = .returned (.agg #[.int .i64 er, .slice vo vn vc, .int .i64 tt]) ∧ Gr W w' ∧ Q er vo vn vc tt w')
    (hpos : ∀ er vo vn vc tt A, Q er vo vn vc tt A → vn ≤ vc ∧ (0 < vn → ∃ g, vo = some ⟨g, 0, none⟩)) :
    Calls Tryd.prog 48 #[.agg #[.string f0, .bool f1, .int .i64 f2, .int .i64 f3, .int .i64 f4, .int .i64 f5, .slice ao f6 ca]] w (CutR w Q) := by
  have HC := hidM hck
  have HP := hidM hpos
  clear hck hpos
  obtain ⟨W0, hW0⟩ : ∃ W0, (w.alloc (.cells #[.string f0, .bool f1, .int .i64 f2, .int .i64 f3, .int .i64 f4, .int .i64 f5, .slice ao f6 ca] 26)).alloc (.cells #[.int .i64 0, .slice none 0 0, .int .i64 0] 72) = W0 := ⟨_, rfl⟩
  have g0 : Gr w W0 := by rw [← hW0]; exact (gr_alloc w _).alloc _
  have r0 : W0.heap[w.heap.size + 1]? = some (.cells #[.int .i64 0, .slice none 0 0, .int .i64 0] 72) := by
    have := World.alloc_heap_new (w.alloc (.cells #[.string f0, .bool f1, .int .i64 f2, .int .i64 f3, .int .i64 f4, .int .i64 f5, .slice ao f6 ca] 26)) (.cells #[.int .i64 0, .slice none 0 0, .int .i64 0] 72)
    rw [World.size_alloc] at this
    rw [← hW0]
    exact this
  have x0 : W0.heap[w.heap.size]? = some (.cells #[.string f0, .bool f1, .int .i64 f2, .int .i64 f3, .int .i64 f4, .int .i64 f5, .slice ao f6 ca] 26) := by
    rw [← hW0]; exact (Below.heap_alloc _ _ _ (by simp)).trans (World.alloc_heap_new w _)
  obtain ⟨v0, v1, v2, v3, v4, v5, v6⟩ := cell7 x0
  simp only [Nat.zero_add] at v1 v2 v3 v4 v5 v6
  have H0 := hidM (And.intro g0 r0)
  clear g0 r0 x0
  go_enter Tryd.func48, Tryd.ntmps48
  obtain ⟨W1, hW1⟩ : ∃ W1, W0.alloc (.cells #[.string f0, .bool f1, .int .i64 f2, .int .i64 f3, .int .i64 f4, .int .i64 f5, .slice ao f6 ca] 26) = W1 := ⟨_, rfl⟩
  have hx : W1.heap[W0.heap.size]? = some (.cells #[.string f0, .bool f1, .int .i64 f2, .int .i64 f3, .int .i64 f4, .int .i64 f5, .slice ao f6 ca] 26) := by rw [← hW1]; exact World.alloc_heap_new W0 _
  have g1 : Gr W0 W1 := by rw [← hW1]; exact gr_alloc W0 _
  have HA := HC.out W1 W0.heap.size (H0.out.1.trans g1 (fun _ _ h => h)) (by have := H0.out.1.size; omega) hx
  have H1 : Hid (Gr w W1 ∧ W1.heap[w.heap.size + 1]? = some (.cells #[.int .i64 0, .slice none 0 0, .int .i64 0] 72)) := ⟨H0.out.1.trans g1 (fun _ _ h => h), (g1.block _ (lt_of_heap H0.out.2) id).trans H0.out.2⟩
  have HCA := hidM HA
  clear HA HC H0 g1 hx
  go_wp2_with (go_at_call 71; refine Hid.out ?_)
  unfold Hid
  refine Calls.mono HCA.out ?_
  rintro e A ⟨er, vo, vn, vc, tt, rfl, gA, hq⟩
  obtain ⟨p1, p4⟩ := HP.out _ _ _ _ _ _ hq
  obtain ⟨W2, hW2⟩ : ∃ W2, A.alloc (.cells #[.int .i64 er, .slice vo vn vc, .int .i64 tt] 72) = W2 := ⟨_, rfl⟩
  have x2 : W2.heap[A.heap.size]? = some (.cells #[.int .i64 er, .slice vo vn vc, .int .i64 tt] 72) := by rw [← hW2]; exact World.alloc_heap_new A _
  have gA2 : Gr A W2 := by rw [← hW2]; exact gr_alloc A _
  have rA : A.heap[w.heap.size + 1]? = some (.cells #[.int .i64 0, .slice none 0 0, .int .i64 0] 72) := (gA.block _ (lt_of_heap H1.out.2) id).trans H1.out.2
  have r2 : W2.heap[w.heap.size + 1]? = some (.cells #[.int .i64 0, .slice none 0 0, .int .i64 0] 72) := (gA2.block _ (lt_of_heap rA) id).trans rA
  have hXR : A.heap.size ≠ w.heap.size + 1 := by have := lt_of_heap rA; omega
  have gw2 : Gr w W2 := (H1.out.1.trans gA (fun _ _ h => h)).trans gA2 (fun _ _ h => h)
  obtain ⟨c0, c1, c2⟩ := cell3 x2
  obtain ⟨y0, y1, y2⟩ := cell3 r2
  have z1 := frz x2 1
  have y3 := frz r2 0
  have y4 := frz r2 1
  have y5 := frz r2 2
  clear hW0 hW1 v0 v1 v2 v3 v4 v5 v6
  by_cases he : vn = 0
  · have HV := hidM he
    have hvI : ¬ (0 : Int) < (vn : Int) := by omega
    clear he
    have e3 := setc (j := 2) (setc (j := 1) (setc (j := 0) r2 (.int .i64 er)) (.slice vo vn vc)) (.int .i64 tt)
    have k3 : Keeps W2 _ (fun b => b = w.heap.size + 1) := keep1 (j := 2) (keep1 (j := 1) (keep1 (j := 0) (Keeps.refl W2 (fun b => b = w.heap.size + 1)) (.int .i64 er)) (.slice vo vn vc)) (.int .i64 tt)
    have HE := hidM (And.intro e3 (And.intro k3 (And.intro gw2 (And.intro gA2 (And.intro rA hq)))))
    clear e3 k3 gw2 gA2 rA hq gA x2 r2 z1 p1 p4 HP HCA H1
    go_wp2_with fail
    obtain ⟨e3, k3, gw2, gA2, rA, hq⟩ := HE.out
    obtain ⟨u0, u1, u2⟩ := cell3 (e3.trans (by simp : _ = some (Obj.cells #[.int .i64 er, .slice vo vn vc, .int .i64 tt] 72 (0, 0))))
    refine bodyPost_ret (v := .agg #[.int .i64 er, .slice vo vn vc, .int .i64 tt]) ?_ rfl ⟨er, vo, vn, vc, tt, A, vo, vn, vc, hq, rfl, gw2.trans k3 (fun j hj h => by omega), ?_, .inl ⟨HV.out, rfl, rfl, rfl⟩⟩
    · simp [results, Tryd.f48, go_sem, u0, u1, u2]
    · intro q c hql hqc
      refine (k3.block q (by have := gA2.size; omega) fun h => ?_).trans (gA2.block q hql id)
      rw [h, rA] at hqc
      simp at hqc
  · have hvp : 0 < vn := by omega
    obtain ⟨g', rfl⟩ := p4 hvp
    have hvI0 : (0 : Int) < (vn : Int) := by omega
    have hvI : (1 : Int) ≤ (vn : Int) := by omega
    have hvI2 : (vn : Int) ≤ (vc : Int) := by omega
    have fin : Hid (∀ vo' vc' W5, (1 < vn → vo' = some ⟨g', 1, none⟩) → W5 = (((W2.setCell ⟨A.heap.size, 1, none⟩ (.slice vo' (vn - 1) vc')).setCell ⟨w.heap.size + 1, 0, none⟩ (.int .i64 er)).setCell ⟨w.heap.size + 1, 1, none⟩ (.slice vo' (vn - 1) vc')).setCell ⟨w.heap.size + 1, 2, none⟩ (.int .i64 tt) →
        W5.heap[w.heap.size + 1]? = some (.cells #[.int .i64 er, .slice vo' (vn - 1) vc', .int .i64 tt] 72) ∧ CutR w Q (.returned (.agg #[.int .i64 er, .slice vo' (vn - 1) vc', .int .i64 tt])) W5) := by
      intro vo' vc' W5 hv5 e
      have r3 : (W2.setCell ⟨A.heap.size, 1, none⟩ (.slice vo' (vn - 1) vc')).heap[w.heap.size + 1]? = some (.cells #[.int .i64 0, .slice none 0 0, .int .i64 0] 72) := (heap_setCell_other W2 ⟨A.heap.size, 1, none⟩ _ _ (Ne.symm hXR)).trans r2
      have e3 := setc (j := 2) (setc (j := 1) (setc (j := 0) r3 (.int .i64 er)) (.slice vo' (vn - 1) vc')) (.int .i64 tt)
      rw [← e] at e3
      have k3 : Keeps W2 W5 (fun b => b = A.heap.size ∨ b = w.heap.size + 1) := by
        rw [e]
        exact ((((Keeps.refl W2 _).setCell (p := ⟨A.heap.size, 1, none⟩) (fun _ => .inl rfl) _).setCell (p := ⟨w.heap.size + 1, 0, none⟩) (fun _ => .inr rfl) _).setCell (p := ⟨w.heap.size + 1, 1, none⟩) (fun _ => .inr rfl) _).setCell (p := ⟨w.heap.size + 1, 2, none⟩) (fun _ => .inr rfl) _
      refine ⟨e3.trans (by simp), er, _, vn, vc, tt, A, vo', vn - 1, vc', hq, rfl, gw2.trans k3 (fun j hj h => by have := lt_of_heap rA; have := (H1.out.1.trans gA (fun _ _ h => h)).size; omega), ?_, .inr ⟨hvp, g', rfl, rfl, hv5⟩⟩
      intro q c hql hqc
      refine (k3.block q (by have := gA2.size; omega) fun h => ?_).trans (gA2.block q hql id)
      rcases h with h | h
      · omega
      · rw [h, rA] at hqc
        simp at hqc
    clear gw2 gA2 rA hq gA x2 r2 p4 HP HCA H1
    go_wp2_with fail
    case inl =>
      obtain ⟨e3, hcut⟩ := fin.out (some ⟨g', 0, none⟩) 0 _ (fun h => by omega) rfl
      obtain ⟨u0, u1, u2⟩ := cell3 e3
      refine bodyPost_ret (v := .agg #[.int .i64 er, .slice (some ⟨g', 0, none⟩) (vn - 1) 0, .int .i64 tt]) ?_ rfl hcut
      simp [results, Tryd.f48, go_sem, u0, u1, u2]
    case inr =>
      obtain ⟨e3, hcut⟩ := fin.out (some ⟨g', 1, none⟩) (vc - 1) _ (fun h => rfl) rfl
      obtain ⟨u0, u1, u2⟩ := cell3 e3
      refine bodyPost_ret (v := .agg #[.int .i64 er, .slice (some ⟨g', 1, none⟩) (vn - 1) (vc - 1), .int .i64 tt]) ?_ rfl hcut
      simp [results, Tryd.f48, go_sem, u0, u1, u2]
end Go.Proofs.YtcfdkadhclickaaDoor.Kit
namespace Go.Proofs.YtcfdkadhclickaaDoor.Kit
open Go.RowKit Go.Shelf Go.Deep

theorem nodes_path : ∀ (d : Nat) (l : List FT) (path : List Nat) (inD : Bool) (x : LS), x ∈ nodes d l path inD → path.length < x.path.length
  | 0, _, _, _, _, h => by simp [nodes] at h
  | d + 1, l, path, inD, x, h => by
    rw [nodes] at h
    obtain ⟨i, _, hi⟩ := List.mem_flatMap.1 h
    rcases List.mem_cons.1 hi with rfl | hi
    · simp
    · have := nodes_path d _ _ _ x hi
      simp at this
      omega
/-- the way of a fault of the fields is never empty; without one it is -/
theorem FaultIs.way {d : Nat} {fs : List FT} {er : Int} {p : List Nat} {k : Int} (h : FaultIs (0, 0) (nodes d fs [] false) er p k) : (er = 0 → p = []) ∧ (er ≠ 0 → p ≠ []) := by
  rcases h with ⟨a, _⟩ | ⟨_, _, rfl, rfl, _⟩ | ⟨_, L, x, h1, _, h3, rfl, rfl, _⟩
  · exact absurd rfl a
  · exact ⟨fun _ => rfl, fun h => absurd rfl h⟩
  · refine ⟨fun h => absurd h h3, fun _ e => ?_⟩
    have := nodes_path d fs [] false x (h1.subset (by simp))
    rw [e] at this
    simp at this
theorem ints_tail {W W' : World} {vo vo' : Option Addr} {vn vc : Nat} {p : List Nat} (h : W.ownsRow 0 3 1 (.slice vo vn vc) vn (ints p)) (hl : p.length = vn) (hk : ∀ q c, q < W.heap.size → W.heap[q]? = some (.cells c 3) → W'.heap[q]? = W.heap[q]?)
    (hv : ∃ g, vo = some ⟨g, 0, none⟩ ∧ (1 < vn → vo' = some ⟨g, 1, none⟩)) : IntsAt W' vo' p.tail := by
  intro hne
  have hlt : 1 < vn := by
    cases p with
    | nil => simp at hne
    | cons a t => cases t with
      | nil => simp at hne
      | cons b t => simp at hl; omega
  obtain ⟨g, rfl, hv⟩ := hv
  refine ⟨g, 1, hv hlt, fun j hj => ?_⟩
  have hg : W'.heap[g]? = W.heap[g]? := by
    rcases h.2 with ⟨e, _⟩ | ⟨g', cap, cur, e, _, hgg, _⟩
    · cases e
    · cases e
      exact hk g cur (Array.getElem?_eq_some_iff.1 hgg).1 hgg
  have hj' : j + 1 < p.length := by simp at hj; omega
  rw [World.cell?_of_block (w := W) hg, h.cellAt (1 + j) (by omega)]
  simp [ints, Nat.add_comm 1 j, hj']
/-- a fault as CheckField answers it -/
def FieldR (W : World) (N : List LS) (e : Ending) (w' : World) : Prop := ∃ er p vo vc tt, e = .returned (.agg #[.int .i64 er, .slice vo p.tail.length vc, .int .i64 tt]) ∧ Gr W w' ∧ FaultIs (0, 0) N er p tt ∧ IntsAt w' vo p.tail
theorem CutR.field {w w' : World} {N : List LS} {e : Ending} (h : CutR w (FaultQ (0, 0) N) e w') : FieldR w N e w' := by
  obtain ⟨er, vo, vn, vc, tt, A, vo', vn', vc', ⟨p, h1, h2, h3⟩, rfl, hg, hk, h⟩ := h
  rcases h with ⟨h0, rfl, rfl, rfl⟩ | ⟨hp, g, e1, rfl, e3⟩
  · obtain rfl : p = [] := List.eq_nil_of_length_eq_zero (by omega)
    subst h0
    exact ⟨er, [], vo', vc', tt, rfl, hg, h2, fun h => absurd rfl h⟩
  · refine ⟨er, p, vo', vc', tt, ?_, hg, h2, ints_tail h3 h1 hk ⟨g, e1, e3⟩⟩
    rw [List.length_tail, h1]
end Go.Proofs.YtcfdkadhclickaaDoor.Kit
namespace Go.Proofs.YtcfdkadhclickaaDoor.Kit
open Go.RowKit Go.Shelf Go.Deep

theorem own_pos {W : World} {vo : Option Addr} {vn vc : Nat} {xs : List Value} (h : W.ownsRow 0 3 1 (.slice vo vn vc) vn xs) : vn ≤ vc ∧ (0 < vn → ∃ g, vo = some ⟨g, 0, none⟩) := by
  rcases h.2 with ⟨e, h0⟩ | ⟨g, cap, cur, e, _, _, h1, _⟩
  · subst h0; exact ⟨Nat.zero_le _, fun h => absurd h (Nat.lt_irrefl 0)⟩
  · cases e; exact ⟨h1, fun _ => ⟨g, rfl⟩⟩
theorem lists_one : listsE ([] : List FT).length.succ [] = (0, 0) := by simp [listsE]
theorem notes_none (W : World) : NotesAt W none [] := ⟨by simp [big], fun h => absurd rfl h⟩
theorem checkField_any (S : Nat → Prop) (d : Nat) (f : FT) (ao : Option Addr) (ca : Nat) (w : World) (hT : Tab w) (hr : RowAt S w d ao f.kids) (hca : f.kids.length ≤ ca) (hd : d + 1 ≤ big) (hS : ∀ b, S b → b < w.heap.size) :
    Calls Tryd.prog 46 #[.agg #[.string f.name, .bool f.nul, .int .i64 f.kind, .int .i64 f.width, .int .i64 f.id, .int .i64 f.index, .slice ao f.kids.length ca]] w (FieldR w (nodes (d + 1) [f] [] false)) := by
  refine Calls.mono (checkField_walk _ _ _ _ _ _ _ _ _ w (FaultQ (0, 0) (nodes (d + 1) [f] [] false)) ?_ ?_) fun e w' h => h.field
  · intro W g gW hg hx
    have hrow := row_alone hx (hr.kept fun b h => gW.block b (hS b h) id) hca
    have h := check_fault (w := W) (fo := some ⟨g, 0, none⟩) (no := none) (cf := 1) (cn := 0) (fs := [f]) (ns := []) (hT.gr gW) hrow (by simp) hd (fun c h => h.elim (fun h => Nat.lt_of_lt_of_le (hS c h) gW.size) fun h => by rw [h]; exact lt_of_heap hx) (notes_none W) W (Keeps.refl _ _)
    exact h
  · rintro er vo vn vc tt A ⟨p, h1, h2, h3⟩
    have h4 := own_pos h3
    refine ⟨h4.1, fun h => by rw [← h1, h2.way.1 h]; rfl, fun h => ?_⟩
    have : 0 < vn := by rw [← h1]; exact List.length_pos_iff.2 (h2.way.2 h)
    exact ⟨this, h4.2 this⟩
theorem checkFieldR_any (S : Nat → Prop) (d : Nat) (f : FT) (ao : Option Addr) (ca : Nat) (w : World) (hr : RowAt S w d ao f.kids) (hca : f.kids.length ≤ ca) (hS : ∀ b, S b → b < w.heap.size) :
    Calls Tryd.prog 48 #[.agg #[.string f.name, .bool f.nul, .int .i64 f.kind, .int .i64 f.width, .int .i64 f.id, .int .i64 f.index, .slice ao f.kids.length ca]] w (FieldR w (grown [] (nodesC (d + 1) [f] [] false))) := by
  refine Calls.mono (checkFieldR_walk _ _ _ _ _ _ _ _ _ w (FaultQ (0, 0) (grown [] (nodesC (d + 1) [f] [] false))) ?_ ?_) fun e w' h => h.field
  · intro W g gW hg hx
    have hrow := row_alone hx (hr.kept fun b h => gW.block b (hS b h) id) hca
    have h := checkR_fault (w := W) (fo := some ⟨g, 0, none⟩) (no := none) (cf := 1) (cn := 0) (fs := [f]) (ns := []) hrow (by simp) (fun c h => h.elim (fun h => Nat.lt_of_lt_of_le (hS c h) gW.size) fun h => by rw [h]; exact lt_of_heap hx) (notes_none W) W (Keeps.refl _ _)
    exact h
  · rintro er vo vn vc tt A ⟨p, h1, h2, h3⟩
    exact own_pos h3
end Go.Proofs.YtcfdkadhclickaaDoor.Kit
