import Derived.Test.YtchhnchddledlaaDoorVN
namespace Go.Proofs.YtchhnchddledlaaDoor.Kit
open Go.RowKit Go.Shelf Go.Deep
set_option linter.unusedVariables false

/-! ### Ink.Bytes -/
theorem size5' : (Tryd.prog.info? 5).map (·.size) = some 1 := by kernel_rfl
theorem splice_all {α : Type} (L cs : List α) (h : cs.length = L.length) : splice L 0 cs = cs := by
  simp [splice, ← h]
set_option maxRecDepth 100000 in
set_option maxHeartbeats 2000000 in
theorem inkBytes_any {w W : World} {K : Nat} {bs : List UInt8} (h : InkAt w W K bs) (hbs : bs.length ≤ 65536) : Calls Tryd.prog 11 #[.pointer (some ⟨K, 0, none⟩)] W fun e w' => e = .returned (.slice (some ⟨W.heap.size, 0, none⟩) bs.length bs.length) ∧ w'.heap[W.heap.size]? = some (.cells (bv bs).toArray 5 (0, 0)) ∧ Below W.heap.size W w' := by
  obtain ⟨ao, n, cap, h0, hown, -⟩ := h.ex
  have hl : bs.length = n := by have := hown.1; simpa [bv] using this
  subst hl
  have HW := hidM hown
  have hlt := lt_of_heap h0
  have c0 := (ce2 h0).1
  have h0a : ∀ o, (W.alloc o).cell? ⟨K, 0, none⟩ = some (.slice ao bs.length cap) := fun o => (((Keeps.refl W (fun _ => False)).alloc o).cell hlt id).trans c0
  clear h h0 hown hlt
  have hmk := run_make_row' (P := Tryd.prog) 30 5 (.int .u8 0) 1 Tryd.underlying30 info5 rfl .i64 .i64 bs.length (by omega) (by omega)
  obtain ⟨cs, hcs⟩ : ∃ cs : List Value, cs = bv bs := ⟨_, rfl⟩
  have HC : Hid (cs = bv bs) := hcs
  clear hcs
  obtain ⟨cur, hcur⟩ : ∃ cur : List Value, cur = (madeCells #[.int .u8 0] bs.length).toList := ⟨_, rfl⟩
  have HCur : Hid (cur = (madeCells #[.int .u8 0] bs.length).toList) := hcur
  clear hcur
  go_enter Tryd.func11, Tryd.ntmps11
  go_wp2_with (with_reducible show wpList Tryd.prog _ _ (Oper.mk (some 15) _ _ _ _ _ :: _) _ _; refine wpList_copy_splice rfl (.tmp 10) (.tmp 14) 30 30 rfl 5 Tryd.underlying30 size5' _ _ _ _ _ _ rfl rfl W.heap.size 0 cur 5 ?hg cs ?hn ?hpos ?hfit ?h1 W.heap.size W ?hb (Nat.le_refl _) ?_)
  case hg => rw [HCur.out]; simpa using heap_alloc_new W _
  case hn => rw [HC.out]; simp [bv]
  case hpos =>
    intro hp
    have hown := HW.out
    rw [HC.out]
    rcases hown.2 with ⟨h, h'⟩ | ⟨g, cap', cur', h, _⟩
    · rw [HC.out] at hp; simp [bv] at hp h'; simp [h'] at hp
    · simp only [Value.slice.injEq] at h
      refine ⟨⟨g, 0, none⟩, h.1, fun j v hj => ?_⟩
      have hc := hown.cells (g := g) (by simp [Value.ownBlock, h.1]) j v hj
      exact ((Keeps.refl W (fun _ => False)).alloc _).cell' hc id
  case hfit => rw [HC.out, HCur.out]; simp [size_madeCells, bv]
  case h1 =>
    intro v hv
    rw [HC.out] at hv
    obtain ⟨z, _, rfl⟩ := List.mem_map.1 hv
    rfl
  case hb => exact (Below.refl _ _).alloc (Nat.le_refl _) _
  intro w1 HG1 hB1
  have HO : Hid (w1.heap[W.heap.size]? = some (.cells (bv bs).toArray 5 (0, 0))) := by
    have := HG1.out
    rw [splice_all _ _ (by rw [HC.out, HCur.out]; simp [size_madeCells, bv]), HC.out] at this
    exact this
  clear HG1
  go_wp2
  go_ret
  exact ⟨rfl, HO.out, hB1⟩
end Go.Proofs.YtchhnchddledlaaDoor.Kit
