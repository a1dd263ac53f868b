import Derived.Test.YtjdojbbjbippoaaDoorKB
import Derived.Deep.RegionHeld3
namespace Go.Proofs.YtjdojbbjbippoaaDoor.Kit
open Go.RowKit Go.Shelf Go.Deep
set_option linter.unusedVariables false
attribute [local go_sem] run_store_func

theorem allocs6 (W : World) (o0 o1 o2 o3 o4 o5 : Obj) :
    ((((((W.alloc o0).alloc o1).alloc o2).alloc o3).alloc o4).alloc o5).heap[W.heap.size]? = some o0 ∧ ((((((W.alloc o0).alloc o1).alloc o2).alloc o3).alloc o4).alloc o5).heap[W.heap.size + 1]? = some o1 ∧
    ((((((W.alloc o0).alloc o1).alloc o2).alloc o3).alloc o4).alloc o5).heap[W.heap.size + 3]? = some o3 ∧ ((((((W.alloc o0).alloc o1).alloc o2).alloc o3).alloc o4).alloc o5).heap[W.heap.size + 4]? = some o4 ∧
    ((((((W.alloc o0).alloc o1).alloc o2).alloc o3).alloc o4).alloc o5).heap[W.heap.size + 5]? = some o5 ∧ Gr W ((((((W.alloc o0).alloc o1).alloc o2).alloc o3).alloc o4).alloc o5) := by
  have al : ∀ {W : World} {b : Nat} {x : Obj} (o : Obj), W.heap[b]? = some x → (W.alloc o).heap[b]? = some x := fun {W b x} o h => (Below.heap_alloc W o b (lt_of_heap h)).trans h
  have an : ∀ (W : World) (o : Obj) (n : Nat), W.heap.size = n → (W.alloc o).heap[n]? = some o := fun W o n h => by subst h; exact World.alloc_heap_new W o
  refine ⟨al _ (al _ (al _ (al _ (al _ (an _ _ _ rfl))))), al _ (al _ (al _ (al _ (an _ _ _ (by simp))))), al _ (al _ (an _ _ _ (by simp))), al _ (an _ _ _ (by simp)), an _ _ _ (by simp), (((((gr_alloc W o0).alloc o1).alloc o2).alloc o3).alloc o4).alloc o5⟩
/-- what awake holds -/
structure AH (w W : World) (A K B X Y g : Nat) (vc : Nat) : Prop where
  gr : Gr w W
  aw : AW W K B
  a : W.heap[A]? = some (.cells #[.string ⟨#[97]⟩, .bool false, .int .i64 6, .int .i64 0, .int .i64 0, .int .i64 0, .slice none 0 0] 38)
  s : W.heap[X]? = some (.cells #[.slice (some ⟨B, 0, none⟩) 2 2, .slice none 0 0] 25)
  x : W.heap[Y]? = some (.cells #[.int .i64 31, .slice (some ⟨g, 0, none⟩) 1 vc, .int .i64 0] 48)
  p : W.cell? ⟨g, 0, none⟩ = some (.int .i64 1)
theorem AH.kept {w W W' : World} {A K B X Y g : Nat} {vc : Nat} (h : AH w W A K B X Y g vc) (k : Gr W W') : AH w W' A K B X Y g vc :=
  ⟨h.gr.trans k (fun _ _ h => h), h.aw.gr k, (k.block _ (lt_of_heap h.a) id).trans h.a, (k.block _ (lt_of_heap h.s) id).trans h.s, (k.block _ (lt_of_heap h.x) id).trans h.x, k.cell' h.p id⟩
theorem ah_of {w W : World} {A K B X Y g : Nat} {vc : Nat} (h : AH w W A K B X Y g vc) : Hid (AH w W A K B X Y g vc) ∧ W.cell? ⟨A, 0, none⟩ = some (.string ⟨#[97]⟩) ∧ W.cell? ⟨A, 1, none⟩ = some (.bool false) ∧ W.cell? ⟨A, 2, none⟩ = some (.int .i64 6) ∧ W.cell? ⟨A, 3, none⟩ = some (.int .i64 0) ∧ W.cell? ⟨A, 4, none⟩ = some (.int .i64 0) ∧ W.cell? ⟨A, 5, none⟩ = some (.int .i64 0) ∧ W.cell? ⟨A, 6, none⟩ = some (.slice none 0 0) ∧ W.cell? ⟨X, 0, none⟩ = some (.slice (some ⟨B, 0, none⟩) 2 2) ∧ W.cell? ⟨X, 1, none⟩ = some (.slice none 0 0) ∧ W.cell? ⟨Y, 0, none⟩ = some (.int .i64 31) ∧ W.cell? ⟨Y, 1, none⟩ = some (.slice (some ⟨g, 0, none⟩) 1 vc) ∧ W.cell? ⟨g, 0, none⟩ = some (.int .i64 1) := by
  obtain ⟨v0, v1, v2, v3, v4, v5, v6⟩ := cell7 h.a
  obtain ⟨y0, y1, y2⟩ := cell3 h.x
  exact ⟨h, v0, by simpa using v1, by simpa using v2, by simpa using v3, by simpa using v4, by simpa using v5, by simpa using v6, by simp [World.cell?, h.s], by simp [World.cell?, h.s], y0, y1, h.p⟩
theorem ah_kept {w W W' : World} {A K B X Y g : Nat} {vc : Nat} (h : Hid (AH w W A K B X Y g vc) ∧ W.cell? ⟨A, 0, none⟩ = some (.string ⟨#[97]⟩) ∧ W.cell? ⟨A, 1, none⟩ = some (.bool false) ∧ W.cell? ⟨A, 2, none⟩ = some (.int .i64 6) ∧ W.cell? ⟨A, 3, none⟩ = some (.int .i64 0) ∧ W.cell? ⟨A, 4, none⟩ = some (.int .i64 0) ∧ W.cell? ⟨A, 5, none⟩ = some (.int .i64 0) ∧ W.cell? ⟨A, 6, none⟩ = some (.slice none 0 0) ∧ W.cell? ⟨X, 0, none⟩ = some (.slice (some ⟨B, 0, none⟩) 2 2) ∧ W.cell? ⟨X, 1, none⟩ = some (.slice none 0 0) ∧ W.cell? ⟨Y, 0, none⟩ = some (.int .i64 31) ∧ W.cell? ⟨Y, 1, none⟩ = some (.slice (some ⟨g, 0, none⟩) 1 vc) ∧ W.cell? ⟨g, 0, none⟩ = some (.int .i64 1)) (k : Hid (Gr W W')) : Hid (AH w W' A K B X Y g vc) ∧ W'.cell? ⟨A, 0, none⟩ = some (.string ⟨#[97]⟩) ∧ W'.cell? ⟨A, 1, none⟩ = some (.bool false) ∧ W'.cell? ⟨A, 2, none⟩ = some (.int .i64 6) ∧ W'.cell? ⟨A, 3, none⟩ = some (.int .i64 0) ∧ W'.cell? ⟨A, 4, none⟩ = some (.int .i64 0) ∧ W'.cell? ⟨A, 5, none⟩ = some (.int .i64 0) ∧ W'.cell? ⟨A, 6, none⟩ = some (.slice none 0 0) ∧ W'.cell? ⟨X, 0, none⟩ = some (.slice (some ⟨B, 0, none⟩) 2 2) ∧ W'.cell? ⟨X, 1, none⟩ = some (.slice none 0 0) ∧ W'.cell? ⟨Y, 0, none⟩ = some (.int .i64 31) ∧ W'.cell? ⟨Y, 1, none⟩ = some (.slice (some ⟨g, 0, none⟩) 1 vc) ∧ W'.cell? ⟨g, 0, none⟩ = some (.int .i64 1) := ah_of (h.1.out.kept k.out)
theorem ah_aw {w W : World} {A K B X Y g : Nat} {vc : Nat} (h : Hid (AH w W A K B X Y g vc) ∧ W.cell? ⟨A, 0, none⟩ = some (.string ⟨#[97]⟩) ∧ W.cell? ⟨A, 1, none⟩ = some (.bool false) ∧ W.cell? ⟨A, 2, none⟩ = some (.int .i64 6) ∧ W.cell? ⟨A, 3, none⟩ = some (.int .i64 0) ∧ W.cell? ⟨A, 4, none⟩ = some (.int .i64 0) ∧ W.cell? ⟨A, 5, none⟩ = some (.int .i64 0) ∧ W.cell? ⟨A, 6, none⟩ = some (.slice none 0 0) ∧ W.cell? ⟨X, 0, none⟩ = some (.slice (some ⟨B, 0, none⟩) 2 2) ∧ W.cell? ⟨X, 1, none⟩ = some (.slice none 0 0) ∧ W.cell? ⟨Y, 0, none⟩ = some (.int .i64 31) ∧ W.cell? ⟨Y, 1, none⟩ = some (.slice (some ⟨g, 0, none⟩) 1 vc) ∧ W.cell? ⟨g, 0, none⟩ = some (.int .i64 1)) : AW W K B := h.1.out.aw
set_option maxRecDepth 100000 in
set_option maxHeartbeats 4000000 in
theorem awake_any (w : World) (hT : Tab w) : Calls Tryd.prog 4 #[] w fun e w' => e = .returned (.bool true) ∧ Gr w w' := by
  have HT := hidM hT
  clear hT
  go_enter Tryd.func4, Tryd.ntmps4
  go_wp2_with (first | (go_at_call 12; refine (one_any _ _).mono ?_; rintro e W1 ⟨rfl, hg1⟩) | (go_at_call 13; refine Hid.out ?_))
  unfold Hid
  obtain ⟨h0, h1, h3, h4, h5, hg6⟩ := allocs6 W1 (.cells #[.string ⟨#[97]⟩, .bool false, .int .i64 6, .int .i64 0, .int .i64 0, .int .i64 0, .slice none 0 0] 38) (.cells #[.string ⟨#[97]⟩, .bool false, .int .i64 6, .int .i64 0, .int .i64 0, .int .i64 0, .slice none 0 0] 38) (.cells #[.string ⟨#[108]⟩, .bool true, .int .i64 15, .int .i64 0, .int .i64 0, .int .i64 0, .slice (some ⟨W1.heap.size + 1, 0, none⟩) 1 1] 38) (.cells #[.string ⟨#[97]⟩, .bool false, .int .i64 6, .int .i64 0, .int .i64 0, .int .i64 0, .slice none 0 0, .string ⟨#[108]⟩, .bool true, .int .i64 15, .int .i64 0, .int .i64 0, .int .i64 0, .slice (some ⟨W1.heap.size + 1, 0, none⟩) 1 1] 38) (.cells #[.slice (some ⟨W1.heap.size + 1 + 1 + 1, 0, none⟩) 2 2, .slice none 0 0] 25) (.cells #[.string ⟨#[97]⟩, .bool false, .int .i64 6, .int .i64 0, .int .i64 0, .int .i64 0, .slice none 0 0, .string ⟨#[97]⟩, .bool false, .int .i64 6, .int .i64 0, .int .i64 0, .int .i64 0, .slice none 0 0] 38)
  generalize ((((((W1.alloc (.cells #[.string ⟨#[97]⟩, .bool false, .int .i64 6, .int .i64 0, .int .i64 0, .int .i64 0, .slice none 0 0] 38)).alloc (.cells #[.string ⟨#[97]⟩, .bool false, .int .i64 6, .int .i64 0, .int .i64 0, .int .i64 0, .slice none 0 0] 38)).alloc (.cells #[.string ⟨#[108]⟩, .bool true, .int .i64 15, .int .i64 0, .int .i64 0, .int .i64 0, .slice (some ⟨W1.heap.size + 1, 0, none⟩) 1 1] 38)).alloc (.cells #[.string ⟨#[97]⟩, .bool false, .int .i64 6, .int .i64 0, .int .i64 0, .int .i64 0, .slice none 0 0, .string ⟨#[108]⟩, .bool true, .int .i64 15, .int .i64 0, .int .i64 0, .int .i64 0, .slice (some ⟨W1.heap.size + 1, 0, none⟩) 1 1] 38)).alloc (.cells #[.slice (some ⟨W1.heap.size + 1 + 1 + 1, 0, none⟩) 2 2, .slice none 0 0] 25)).alloc (.cells #[.string ⟨#[97]⟩, .bool false, .int .i64 6, .int .i64 0, .int .i64 0, .int .i64 0, .slice none 0 0, .string ⟨#[97]⟩, .bool false, .int .i64 6, .int .i64 0, .int .i64 0, .int .i64 0, .slice none 0 0] 38)) = W6 at *
  have hT6 : Tab W6 := (HT.out.gr hg1).gr hg6
  have hAW : AW W6 (W1.heap.size + 1) (W1.heap.size + 3) := ⟨hT6, h1, h3⟩
  have hgw := hg1.trans hg6 (fun _ _ h => h)
  clear hg1 hg6 h1 h3
  rw [show W1.heap.size + 1 + 1 + 1 + 1 + 1 = W1.heap.size + 5 from rfl, show W1.heap.size + 1 + 1 + 1 + 1 = W1.heap.size + 4 from rfl, show W1.heap.size + 1 + 1 + 1 = W1.heap.size + 3 from rfl]
  obtain ⟨A, hA⟩ : ∃ A, A = W1.heap.size := ⟨_, rfl⟩
  obtain ⟨K, hK⟩ : ∃ K, K = W1.heap.size + 1 := ⟨_, rfl⟩
  obtain ⟨B, hB⟩ : ∃ B, B = W1.heap.size + 3 := ⟨_, rfl⟩
  obtain ⟨X, hX⟩ : ∃ X, X = W1.heap.size + 4 := ⟨_, rfl⟩
  obtain ⟨C, hC⟩ : ∃ C, C = W1.heap.size + 5 := ⟨_, rfl⟩
  rw [show W1.heap.size + 1 + 1 + 1 = W1.heap.size + 3 from rfl] at h4
  rw [← hB, ← hX] at h4
  rw [← hC] at h5
  rw [← hK, ← hB] at hAW
  rw [← hA] at h0
  rw [← hC, ← hX, ← hB, ← hK, ← hA]
  refine Calls.mono (check_aa C hT6 h5 W6 (Keeps.refl _ _)) ?_
  rintro e W7 ⟨vo, vn, vc, rfl, hg7, rfl, ho⟩
  obtain ⟨g, cap, e⟩ := ownsRow_succ (k := 0) ho
  simp only [Value.slice.injEq] at e
  obtain ⟨rfl, -, -⟩ := e
  have hp : W7.cell? ⟨g, 0, none⟩ = some (.int .i64 1) := by rw [ho.cellAt 0 (by decide)]; rfl
  obtain ⟨W8, hW8⟩ : ∃ W8, W7.alloc (.cells #[.int .i64 31, .slice (some ⟨g, 0, none⟩) 1 vc, .int .i64 0] 48) = W8 := ⟨_, rfl⟩
  have hg8 : Gr W6 W8 := by rw [← hW8]; exact hg7.alloc _
  have h8 : AH w W8 A K B X W7.heap.size g vc := ⟨hgw.trans hg8 (fun _ _ h => h), hAW.gr hg8, (hg8.block _ (lt_of_heap h0) id).trans h0, (hg8.block _ (lt_of_heap h4) id).trans h4, by rw [← hW8]; exact World.alloc_heap_new W7 _, by rw [← hW8]; exact (gr_alloc W7 _).cell' hp id⟩
  have H8 := hidM h8
  have hs7 := (hg7.block _ (lt_of_heap h4) id).trans h4
  have y0' : W7.cell? ⟨X, 0, none⟩ = some (.slice (some ⟨B, 0, none⟩) 2 2) := by simp [World.cell?, hs7]
  have y1' : W7.cell? ⟨X, 1, none⟩ = some (.slice none 0 0) := by simp [World.cell?, hs7]
  have y0 : ∀ o, (W7.alloc o).cell? ⟨X, 0, none⟩ = some (.slice (some ⟨B, 0, none⟩) 2 2) := fun o => (gr_alloc W7 o).cell' y0' id
  have y1 : ∀ o, (W7.alloc o).cell? ⟨X, 1, none⟩ = some (.slice none 0 0) := fun o => (gr_alloc W7 o).cell' y1' id
  have H88 := hidM hW8
  clear h0 h4 h5 hT6 hAW hgw hA hK hB hX hC hg7 ho hp hg8 h8 y0' y1' hs7 hW8
  go_wp2_with (go_at_call 14; refine Hid.out ?_)
  unfold Hid
  rw [H88.out]
  refine Calls.mono (H8.out.aw.print W8 (Keeps.refl _ _)) ?_
  rintro e W9 ⟨rfl, hg9⟩
  have H9 := hidM (H8.out.kept hg9)
  clear y0 y1 H8 hg9 H88
  generalize W7.heap.size = Y at *
  have hjt : ((joinB [tA, tL]).toList == [97, 32, 105, 110, 116, 54, 52, 44, 32, 108, 32, 108, 105, 115, 116, 40, 97, 32, 105, 110, 116, 54, 52, 41, 63]) = true := by rw [text_s]; decide
  generalize joinB [tA, tL] = jt at *
  go_wp2_with fail
  have HIN : Hid (Hid (AH w W9.drew A K B X Y g vc) ∧ W9.drew.cell? ⟨A, 0, none⟩ = some (.string ⟨#[97]⟩) ∧ W9.drew.cell? ⟨A, 1, none⟩ = some (.bool false) ∧ W9.drew.cell? ⟨A, 2, none⟩ = some (.int .i64 6) ∧ W9.drew.cell? ⟨A, 3, none⟩ = some (.int .i64 0) ∧ W9.drew.cell? ⟨A, 4, none⟩ = some (.int .i64 0) ∧ W9.drew.cell? ⟨A, 5, none⟩ = some (.int .i64 0) ∧ W9.drew.cell? ⟨A, 6, none⟩ = some (.slice none 0 0) ∧ W9.drew.cell? ⟨X, 0, none⟩ = some (.slice (some ⟨B, 0, none⟩) 2 2) ∧ W9.drew.cell? ⟨X, 1, none⟩ = some (.slice none 0 0) ∧ W9.drew.cell? ⟨Y, 0, none⟩ = some (.int .i64 31) ∧ W9.drew.cell? ⟨Y, 1, none⟩ = some (.slice (some ⟨g, 0, none⟩) 1 vc) ∧ W9.drew.cell? ⟨g, 0, none⟩ = some (.int .i64 1)) := ah_of (H9.out.kept gr_drew)
  clear H9
  have hfl : ∀ vo vn vc w, (Instr.field 48 (.agg #[.int .i64 0, .slice vo vn vc, .int .i64 0]) 0).run Tryd.prog w = .ok (.int .i64 0) w := fun vo vn vc w => by kernel_rfl
  go_region_held3 (fun w' => Hid (AH w w' A K B X Y g vc) ∧ w'.cell? ⟨A, 0, none⟩ = some (.string ⟨#[97]⟩) ∧ w'.cell? ⟨A, 1, none⟩ = some (.bool false) ∧ w'.cell? ⟨A, 2, none⟩ = some (.int .i64 6) ∧ w'.cell? ⟨A, 3, none⟩ = some (.int .i64 0) ∧ w'.cell? ⟨A, 4, none⟩ = some (.int .i64 0) ∧ w'.cell? ⟨A, 5, none⟩ = some (.int .i64 0) ∧ w'.cell? ⟨A, 6, none⟩ = some (.slice none 0 0) ∧ w'.cell? ⟨X, 0, none⟩ = some (.slice (some ⟨B, 0, none⟩) 2 2) ∧ w'.cell? ⟨X, 1, none⟩ = some (.slice none 0 0) ∧ w'.cell? ⟨Y, 0, none⟩ = some (.int .i64 31) ∧ w'.cell? ⟨Y, 1, none⟩ = some (.slice (some ⟨g, 0, none⟩) 1 vc) ∧ w'.cell? ⟨g, 0, none⟩ = some (.int .i64 1)) (first | with_reducible exact HIN.out | with_reducible assumption | with_reducible exact ah_kept (by assumption) hk5 | with_reducible exact ah_kept (by assumption) hk4 | with_reducible exact ah_kept (by assumption) hk3 | with_reducible exact ah_kept (by assumption) hk2 | with_reducible exact ah_kept (by assumption) hk1)
    (first
      | (go_at_call 13; refine Calls.mono ((ah_aw (by assumption)).check _ (Keeps.refl _ _)) ?_; rintro e v1 ⟨vo1, vn1, vc1, rfl, hk1, -⟩; replace hk1 := hidM hk1)
      | (go_at_call 15; refine Calls.mono ((ah_aw (by assumption)).count _ (Keeps.refl _ _)) ?_; rintro e v2 ⟨rfl, hk2⟩; replace hk2 := hidM hk2)
      | (go_at_call 16; refine Calls.mono ((ah_aw (by assumption)).find _ (Keeps.refl _ _)) ?_; rintro e v3 ⟨rfl, hk3⟩; replace hk3 := hidM hk3)
      | (go_at_call 12; refine Calls.mono (one_any _ _) ?_; rintro e v4 ⟨rfl, hk4⟩; replace hk4 := hidM hk4)
      | (go_at_call 17; refine Calls.mono (alike_ab (ah_aw (by assumption)).tab _ (Keeps.refl _ _)) ?_; rintro e v5 ⟨rfl, hk5⟩; replace hk5 := hidM hk5))
  rename_i hHeld
  have HG := hidM hHeld.1.out.gr
  clear hHeld hk1 hk2 hk3 hk4 hk5 HIN
  go_wp2_with fail
  go_ret
  exact ⟨rfl, HG.out⟩
end Go.Proofs.YtjdojbbjbippoaaDoor.Kit
