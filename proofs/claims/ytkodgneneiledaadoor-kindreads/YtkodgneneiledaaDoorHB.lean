import Derived.Test.YtkodgneneiledaaDoorHA
namespace Go.Proofs.YtkodgneneiledaaDoor.Kit
open Go.RowKit Go.Shelf Go.Deep
set_option linter.unusedVariables false
attribute [local go_sem] run_store_func

theorem cell7 {W : World} {B t : Nat} {x0 x1 x2 x3 x4 x5 x6 : Value} (h : W.heap[B]? = some (.cells #[x0, x1, x2, x3, x4, x5, x6] t)) : W.cell? ⟨B, 0, none⟩ = some x0 ∧ W.cell? ⟨B, 0 + 1, none⟩ = some x1 ∧ W.cell? ⟨B, 0 + 2, none⟩ = some x2 ∧ W.cell? ⟨B, 0 + 3, none⟩ = some x3 ∧ W.cell? ⟨B, 0 + 4, none⟩ = some x4 ∧ W.cell? ⟨B, 0 + 5, none⟩ = some x5 ∧ W.cell? ⟨B, 0 + 6, none⟩ = some x6 := by simp [World.cell?, h]
set_option maxRecDepth 100000 in
set_option maxHeartbeats 2000000 in
theorem alone_any (f0 : ByteArray) (f1 : Bool) (f2 f3 f4 f5 : Int) (ao : Option Addr) (f6 ca : Nat) (w : World) :
    Calls Tryd.prog 44 #[.agg #[.string f0, .bool f1, .int .i64 f2, .int .i64 f3, .int .i64 f4, .int .i64 f5, .slice ao f6 ca]] w fun e w' => ∃ g, e = .returned (.agg #[.slice (some ⟨g, 0, none⟩) 1 1, .slice none 0 0]) ∧ Gr w w' ∧ w.heap.size ≤ g ∧ w'.heap[g]? = some (.cells #[.string f0, .bool f1, .int .i64 f2, .int .i64 f3, .int .i64 f4, .int .i64 f5, .slice ao f6 ca] 41) := by
  go_enter Tryd.func44, Tryd.ntmps44
  go_wp2
  obtain ⟨A, hA⟩ : ∃ A, A = w.alloc (.cells #[.string f0, .bool f1, .int .i64 f2, .int .i64 f3, .int .i64 f4, .int .i64 f5, .slice ao f6 ca] 41) := ⟨_, rfl⟩
  have hsA : A.heap.size = w.heap.size + 1 := by rw [hA]; simp
  rw [← hA]
  have x1 : ((A.alloc (.cells #[.slice (some ⟨w.heap.size + 1 + 1, 0, none⟩) 1 1, .slice none 0 0] 26)).alloc (.cells #[.string f0, .bool f1, .int .i64 f2, .int .i64 f3, .int .i64 f4, .int .i64 f5, .slice ao f6 ca] 41)).heap[w.heap.size + 1]? = some (.cells #[.slice (some ⟨w.heap.size + 1 + 1, 0, none⟩) 1 1, .slice none 0 0] 26) := by
    have := World.alloc_heap_new A (.cells #[.slice (some ⟨w.heap.size + 1 + 1, 0, none⟩) 1 1, .slice none 0 0] 26)
    rw [hsA] at this
    exact (Below.heap_alloc _ _ _ (by simp [hsA])).trans this
  have x2 : ((A.alloc (.cells #[.slice (some ⟨w.heap.size + 1 + 1, 0, none⟩) 1 1, .slice none 0 0] 26)).alloc (.cells #[.string f0, .bool f1, .int .i64 f2, .int .i64 f3, .int .i64 f4, .int .i64 f5, .slice ao f6 ca] 41)).heap[w.heap.size + 1 + 1]? = some (.cells #[.string f0, .bool f1, .int .i64 f2, .int .i64 f3, .int .i64 f4, .int .i64 f5, .slice ao f6 ca] 41) := by
    have := World.alloc_heap_new (A.alloc (.cells #[.slice (some ⟨w.heap.size + 1 + 1, 0, none⟩) 1 1, .slice none 0 0] 26)) (.cells #[.string f0, .bool f1, .int .i64 f2, .int .i64 f3, .int .i64 f4, .int .i64 f5, .slice ao f6 ca] 41)
    rw [World.size_alloc, hsA] at this
    exact this
  have hg : Gr w ((A.alloc (.cells #[.slice (some ⟨w.heap.size + 1 + 1, 0, none⟩) 1 1, .slice none 0 0] 26)).alloc (.cells #[.string f0, .bool f1, .int .i64 f2, .int .i64 f3, .int .i64 f4, .int .i64 f5, .slice ao f6 ca] 41)) := by rw [hA]; exact ((gr_alloc w _).alloc _).alloc _
  generalize ((A.alloc (.cells #[.slice (some ⟨w.heap.size + 1 + 1, 0, none⟩) 1 1, .slice none 0 0] 26)).alloc (.cells #[.string f0, .bool f1, .int .i64 f2, .int .i64 f3, .int .i64 f4, .int .i64 f5, .slice ao f6 ca] 41)) = W5 at *
  have v0 : W5.cell? ⟨w.heap.size + 1, 0, none⟩ = some (.slice (some ⟨w.heap.size + 1 + 1, 0, none⟩) 1 1) := by simp [World.cell?, x1]
  have v1 : W5.cell? ⟨w.heap.size + 1, 1, none⟩ = some (.slice none 0 0) := by simp [World.cell?, x1]
  refine bodyPost_ret (v := .agg #[.slice (some ⟨w.heap.size + 1 + 1, 0, none⟩) 1 1, .slice none 0 0]) ?_ rfl ⟨_, rfl, hg, by omega, x2⟩
  simp [results, Tryd.f44, go_sem, v0, v1]
set_option maxRecDepth 100000 in
set_option maxHeartbeats 2000000 in
theorem one_any (s : ByteArray) (w : World) :
    Calls Tryd.prog 9 #[.string s] w fun e w' => e = .returned (.agg #[.string s, .bool false, .int .i64 6, .int .i64 0, .int .i64 0, .int .i64 0, .slice none 0 0]) ∧ Gr w w' := by
  go_enter Tryd.func9, Tryd.ntmps9
  go_wp2
  have x2 := World.alloc_heap_new w (.cells #[.string s, .bool false, .int .i64 6, .int .i64 0, .int .i64 0, .int .i64 0, .slice none 0 0] 41)
  have hg := gr_alloc w (.cells #[.string s, .bool false, .int .i64 6, .int .i64 0, .int .i64 0, .int .i64 0, .slice none 0 0] 41)
  generalize w.alloc (.cells #[.string s, .bool false, .int .i64 6, .int .i64 0, .int .i64 0, .int .i64 0, .slice none 0 0] 41) = W5 at *
  obtain ⟨v0, v1, v2, v3, v4, v5, v6⟩ := cell7 x2
  refine bodyPost_ret (v := .agg #[.string s, .bool false, .int .i64 6, .int .i64 0, .int .i64 0, .int .i64 0, .slice none 0 0]) ?_ rfl ⟨rfl, hg⟩
  simp [results, Tryd.f9, go_sem, v0, v1, v2, v3, v4, v5, v6]
/-- the row of a field alone -/
theorem row_alone {S : Nat → Prop} {W : World} {d g : Nat} {f : FT} {ao : Option Addr} {ca : Nat} (hg : W.heap[g]? = some (.cells #[.string f.name, .bool f.nul, .int .i64 f.kind, .int .i64 f.width, .int .i64 f.id, .int .i64 f.index, .slice ao f.kids.length ca] 41)) (hr : RowAt S W d ao f.kids) (hca : f.kids.length ≤ ca) :
    RowAt (fun b => S b ∨ b = g) W (d + 1) (some ⟨g, 0, none⟩) [f] := by
  refine ⟨by simp [big], fun _ => ⟨g, 0, rfl, .inr rfl, fun i hi => ?_⟩⟩
  obtain rfl : i = 0 := by simp at hi; omega
  obtain ⟨v0, v1, v2, v3, v4, v5, v6⟩ := cell7 hg
  exact ⟨ao, ca, ⟨v0, v1, v2, v3, v4, v5, v6⟩, hca, hr.mono fun b h => .inl h⟩
set_option maxRecDepth 100000 in
set_option maxHeartbeats 2000000 in
theorem fieldMayBe_ok (S : Nat → Prop) (d : Nat) (f : FT) (ao : Option Addr) (ca : Nat) (w : World) (hT : Tab w) (hr : RowAt S w d ao f.kids) (hca : f.kids.length ≤ ca) (hd : d + 1 ≤ big) (hS : ∀ b, S b → b < w.heap.size) (hA : AllR (nodes (d + 1) [f] [] false)) :
    ∀ W, Gr w W → Calls Tryd.prog 23 #[.agg #[.string f.name, .bool f.nul, .int .i64 f.kind, .int .i64 f.width, .int .i64 f.id, .int .i64 f.index, .slice ao f.kids.length ca]] W fun e w' => e = .returned (.bool true) ∧ Gr W w' := by
  intro W g
  have HM : Hid (∀ (W1 : World) (b : Nat), Gr W W1 → W.heap.size ≤ b → W1.heap[b]? = some (.cells #[.string f.name, .bool f.nul, .int .i64 f.kind, .int .i64 f.width, .int .i64 f.id, .int .i64 f.index, .slice ao f.kids.length ca] 41) → Calls Tryd.prog 17 #[.agg #[.slice (some ⟨b, 0, none⟩) 1 1, .slice none 0 0]] W1 fun e w' => e = .returned (.bool true) ∧ Gr W1 w') := by
    intro W1 b g1 hb hx
    have g' : Gr w W1 := g.trans g1 (fun _ _ h => h)
    have hrow := row_alone hx (hr.kept fun b h => g'.block b (hS b h) id) hca
    have hl := look_ok (w := W1) (fo := some ⟨b, 0, none⟩) (no := none) (cf := 1) (cn := 0) (fs := [f]) (ns := []) (hT.gr g') hrow (by simp) hd (fun c h => h.elim (fun h => Nat.lt_of_lt_of_le (hS c h) g'.size) fun h => by rw [h]; exact lt_of_heap hx) ⟨by simp [big], fun h => absurd rfl h⟩ (by simp [listsE]) hA
    exact maybe_walk _ _ _ _ _ _ 0 _ W1 (check_walk _ _ _ _ _ _ 0 _ (fun _ _ _ _ => True) (fun _ _ _ _ _ _ _ _ _ _ => trivial) W1 hl) W1 (Keeps.refl _ _)
  have hal := alone_any f.name f.nul f.kind f.width f.id f.index ao f.kids.length ca (W.alloc (.cells #[.string f.name, .bool f.nul, .int .i64 f.kind, .int .i64 f.width, .int .i64 f.id, .int .i64 f.index, .slice ao f.kids.length ca] 41))
  have HA := hidM hal
  clear hal hr hca hA g
  generalize f.name = f0 at *
  generalize f.nul = f1 at *
  generalize f.kind = f2 at *
  generalize f.width = f3 at *
  generalize f.id = f4 at *
  generalize f.index = f5 at *
  generalize f.kids.length = f6 at *
  go_enter Tryd.func23, Tryd.ntmps23
  go_wp2_with (go_at_call 44; refine Hid.out ?_)
  unfold Hid
  refine Calls.mono HA.out ?_
  rintro e W1 ⟨b, rfl, hg1, hb, hx⟩
  have HC := hidM (HM.out W1 b ((gr_alloc W _).trans hg1 (fun _ _ h => h)) (by simp at hb; omega) hx)
  have HG := hidM ((gr_alloc W _).trans hg1 (fun _ _ h => h))
  clear hg1 hb hx HM HA
  go_wp2_with (go_at_call 17; refine Hid.out ?_)
  unfold Hid
  refine Calls.mono HC.out ?_
  rintro e W2 ⟨rfl, hg2⟩
  have HE := hidM (HG.out.trans hg2 (fun _ _ h => h))
  clear hg2
  go_wp2_with fail
  go_ret
  exact ⟨rfl, HE.out⟩
end Go.Proofs.YtkodgneneiledaaDoor.Kit
