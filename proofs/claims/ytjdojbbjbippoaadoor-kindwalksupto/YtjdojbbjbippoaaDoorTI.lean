import Derived.Test.YtjdojbbjbippoaaDoorTC
import Derived.Test.YtjdojbbjbippoaaDoorMF
namespace Go.Proofs.YtjdojbbjbippoaaDoor.Kit
open Go.RowKit Go.Shelf Go.Deep
set_option linter.unusedVariables false
attribute [local go_sem] run_store_func

/-- what Walk hands out: an iterator over a copy of the fields, or over none -/
structure WalkQ (W : World) (D : Nat) (l : List FT) (e : Ending) (w' : World) (K : Nat) (vo : Option Addr) (vc : Nat) : Prop where
  e : e = .returned (.func (.func 23) #[] #[.pointer (some ⟨K, 0, none⟩)])
  g : Gr W w'
  k : w'.heap[K]? = some (.cells #[.slice vo l.length vc] 22)
  kn : W.heap.size ≤ K
  le : l.length ≤ vc
  row : RowAt (NewB W w') w' D vo l

set_option maxRecDepth 100000 in
set_option maxHeartbeats 2000000 in
theorem walk_any (S : Nat → Prop) (D : Nat) (fo no : Option Addr) (cf nn cn : Nat) (fs : List FT) (r : Bool) (w : World) (hm : Ans 21 #[.agg #[.slice fo fs.length cf, .slice no nn cn]] r w) (hr : RowAt S w D fo fs) (hS : ∀ b, S b → b < w.heap.size) :
    ∀ W, Gr w W → Calls Tryd.prog 7 #[.agg #[.slice fo fs.length cf, .slice no nn cn]] W fun e w' => ∃ K vo vc, WalkQ W D (if r then fs else []) e w' K vo vc := by
  intro W g
  have HM := hidM (hm.gr g)
  unfold Ans at HM
  have hcop : ∀ U, Gr W U → Calls Tryd.prog 22 #[.slice fo fs.length cf] U fun e w' => ∃ vo vc, e = .returned (.slice vo fs.length vc) ∧ CopQ U D fs.length fs vo vc w' := fun U g' => by
    have g2 := g.trans g' (fun _ _ h => h)
    exact copied_any D S U fo cf fs (hr.kept fun b hb => g2.block b (hS b hb) id) (fun b hb => by have := hS b hb; have := g2.size; omega)
  have HC := hidM hcop
  clear hm hr hS g hcop
  obtain ⟨W2, hW2⟩ : ∃ W2, (W.alloc (.cells #[.slice fo fs.length cf, .slice no nn cn] 25)).alloc (.cells #[.slice none 0 0] 22) = W2 := ⟨_, rfl⟩
  have x1 : W2.heap[W.heap.size]? = some (.cells #[.slice fo fs.length cf, .slice no nn cn] 25) := by
    rw [← hW2]; exact (Below.heap_alloc _ _ _ (by simp)).trans (World.alloc_heap_new W _)
  have x2 : W2.heap[W.heap.size + 1]? = some (.cells #[.slice none 0 0] 22) := by
    rw [← hW2]
    have := World.alloc_heap_new (W.alloc (.cells #[.slice fo fs.length cf, .slice no nn cn] 25)) (.cells #[.slice none 0 0] 22)
    rwa [World.size_alloc] at this
  have hg2 : Gr W W2 := by rw [← hW2]; exact (gr_alloc W _).alloc _
  obtain ⟨p0, p1⟩ := cell2 x1
  have HX := hidM (And.intro hg2 (And.intro x1 x2))
  clear x1 x2 hg2
  go_enter Tryd.func7, Tryd.ntmps7
  go_wp2_with (go_at_call 21; refine Hid.out ?_)
  unfold Hid
  try rw [hW2]
  refine Calls.mono (HM.out _ HX.out.1) ?_
  rintro e W3 ⟨rfl, hg3⟩
  have y1 := (hg3.block _ (lt_of_heap HX.out.2.1) id).trans HX.out.2.1
  have y2 := (hg3.block _ (lt_of_heap HX.out.2.2) id).trans HX.out.2.2
  have hgW3 := HX.out.1.trans hg3 (fun _ _ h => h)
  have HY := hidM (And.intro hgW3 (And.intro y1 y2))
  obtain ⟨q0, q1⟩ := cell2 y1
  clear p0 p1 hg3 hgW3 y1 y2 hW2
  cases r with
  | false =>
    go_wp2_with fail
    go_ret
    exact ⟨W.heap.size + 1, none, 0, rfl, HY.out.1, HY.out.2.2, by omega, Nat.le_refl _, row_none _ _ _ _⟩
  | true =>
    go_wp2_with (go_at_call 22; refine Hid.out ?_)
    unfold Hid
    refine Calls.mono (HC.out _ HY.out.1) ?_
    rintro e W4 ⟨vo, vc, rfl, hq⟩
    have y2 := (hq.g.block _ (lt_of_heap HY.out.2.2) id).trans HY.out.2.2
    have f0 := frz y2 0
    have c0 := cell1 y2
    have s0 := setc (j := 0) y2 (.slice vo fs.length vc)
    have kk := keep1 (j := 0) (Keeps.refl W4 (fun b => b = W.heap.size + 1)) (.slice vo fs.length vc)
    have hz3 := lt_of_heap HY.out.2.2
    have HE : Hid (WalkQ W D fs (.returned (.func (.func 23) #[] #[.pointer (some ⟨W.heap.size + 1, 0, none⟩)])) (W4.setCell ⟨W.heap.size + 1, 0, none⟩ (.slice vo fs.length vc)) (W.heap.size + 1) vo vc) := by
      have hgr := (HY.out.1.trans hq.g (fun _ _ h => h)).trans kk (fun j hj e => by omega)
      refine ⟨rfl, hgr, s0.trans (by simp), by omega, hq.le, ?_⟩
      exact (hq.row.kept fun b hb => kk.block b hb.2 (fun e => by have := hb.1; omega)).mono fun b hb => ⟨by have := hb.1; omega, by have := hb.2; have := kk.size; omega⟩
    clear y2 s0 kk hq q0 q1
    go_wp2_with fail
    go_ret
    exact ⟨_, vo, vc, HE.out⟩
end Go.Proofs.YtjdojbbjbippoaaDoor.Kit
