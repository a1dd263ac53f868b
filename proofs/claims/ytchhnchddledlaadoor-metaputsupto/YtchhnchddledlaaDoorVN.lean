import Derived.Test.YtchhnchddledlaaDoorVM
import Derived.Laws.CopyOwn
namespace Go.Proofs.YtchhnchddledlaaDoor.Kit
open Go.RowKit Go.Shelf Go.Deep
set_option linter.unusedVariables false

/-! ### the pen's small ones -/
set_option maxRecDepth 100000 in
set_option maxHeartbeats 2000000 in
theorem penNumber_any {w W : World} {K : Nat} {bs : List UInt8} (h : InkAt w W K bs) (x wd : Nat) (hx : x ≤ 1000000000000) (hw : wd = 1 ∨ wd = 2 ∨ wd = 4) (hm : bs.length + wd ≤ 65536) : Calls Tryd.prog 21 #[.agg #[.pointer (some ⟨K, 0, none⟩)], .int .i64 (x : Int), .int .i64 (wd : Int)] W fun e w' => e = .returned (.tuple #[]) ∧ InkAt w w' K (bs ++ numB x wd) ∧ KU K W w' := by
  have HI := hidM (h.kept (gr_alloc W (.cells #[.pointer (some ⟨K, 0, none⟩)] 40)))
  have H30 := hidM (inkNumber_any HI.out x wd hx hw hm)
  have HU := hidM (KU.gr (K := K) (gr_alloc W (.cells #[.pointer (some ⟨K, 0, none⟩)] 40)))
  have hwr : IntKind.u64.wrap (x : Int) = (x : Int) := by rw [IntKind.wrap_u64]; omega
  clear h
  go_enter Tryd.func21, Tryd.ntmps21
  go_wp2_with (go_at_call 30; refine Hid.out ?_)
  unfold Hid
  refine Calls.mono H30.out ?_
  rintro e W1 ⟨rfl, hI1, hU1⟩
  have HF := hidM (And.intro hI1 (HU.out.trans hU1))
  clear hI1 hU1 HU H30 HI
  go_wp2_with fail
  go_end0
  exact ⟨rfl, HF.out⟩
set_option maxRecDepth 100000 in
set_option maxHeartbeats 2000000 in
theorem penFlag_any {w W : World} {K : Nat} {bs : List UInt8} (h : InkAt w W K bs) (b : Bool) (hm : bs.length + 1 ≤ 65536) : Calls Tryd.prog 23 #[.agg #[.pointer (some ⟨K, 0, none⟩)], .bool b] W fun e w' => e = .returned (.tuple #[]) ∧ InkAt w w' K (bs ++ flgB b) ∧ KU K W w' := by
  have HI := hidM (h.kept (gr_alloc W (.cells #[.pointer (some ⟨K, 0, none⟩)] 40)))
  have HU := hidM (KU.gr (K := K) (gr_alloc W (.cells #[.pointer (some ⟨K, 0, none⟩)] 40)))
  clear h
  cases b
  · have H21 := hidM (penNumber_any HI.out 0 1 (by omega) (.inl rfl) hm)
    go_enter Tryd.func23, Tryd.ntmps23
    go_wp2_with (go_at_call 21; refine Hid.out ?_)
    unfold Hid
    refine Calls.mono H21.out ?_
    rintro e W1 ⟨rfl, hI1, hU1⟩
    have HF := hidM (And.intro hI1 (HU.out.trans hU1))
    clear hI1 hU1 HU H21 HI
    go_wp2_with fail
    go_end0
    exact ⟨rfl, HF.out⟩
  · have H21 := hidM (penNumber_any HI.out 1 1 (by omega) (.inl rfl) hm)
    go_enter Tryd.func23, Tryd.ntmps23
    go_wp2_with (go_at_call 21; refine Hid.out ?_)
    unfold Hid
    refine Calls.mono H21.out ?_
    rintro e W1 ⟨rfl, hI1, hU1⟩
    have HF := hidM (And.intro hI1 (HU.out.trans hU1))
    clear hI1 hU1 HU H21 HI
    go_wp2_with fail
    go_end0
    exact ⟨rfl, HF.out⟩
set_option maxRecDepth 100000 in
set_option maxHeartbeats 2000000 in
theorem penText_any {w W : World} {K : Nat} {bs : List UInt8} (h : InkAt w W K bs) (s : ByteArray) (wd : Nat) (hw : wd = 1 ∨ wd = 2 ∨ wd = 4) (hm : bs.length + (wd + s.size) ≤ 65536) : Calls Tryd.prog 32 #[.agg #[.pointer (some ⟨K, 0, none⟩)], .string s, .int .i64 (wd : Int)] W fun e w' => e = .returned (.tuple #[]) ∧ InkAt w w' K (bs ++ txtB s wd) ∧ KU K W w' := by
  have HI := hidM (h.kept (gr_alloc W (.cells #[.pointer (some ⟨K, 0, none⟩)] 40)))
  have HU := hidM (KU.gr (K := K) (gr_alloc W (.cells #[.pointer (some ⟨K, 0, none⟩)] 40)))
  have HL : Hid (W.heap.size ≠ K) := by obtain ⟨vo, n, vc, h1, -⟩ := h.ex; have := lt_of_heap h1; exact fun e => by omega
  have HP := hidM (heap_alloc_new W (.cells #[.pointer (some ⟨K, 0, none⟩)] 40))
  clear h
  have H21 := hidM (penNumber_any HI.out s.size wd (by omega) hw (by omega))
  go_enter Tryd.func32, Tryd.ntmps32
  go_wp2_with (go_at_call 21; refine Hid.out ?_)
  unfold Hid
  refine Calls.mono H21.out ?_
  rintro e W1 ⟨rfl, hI1, hU1⟩
  have hP1 := hU1.2 _ _ _ HP.out (by decide) HL.out
  have z0 : W1.cell? ⟨W.heap.size, 0, none⟩ = some (.pointer (some ⟨K, 0, none⟩)) := by simp [World.cell?, hP1]
  have H43 := hidM (inkText_any hI1 s (by simp [numB_len]; omega))
  have HU1 := hidM (HU.out.trans hU1)
  clear hI1 hU1 HU H21 HI hP1 HP HL
  go_wp2_with (go_at_call 43; refine Hid.out ?_)
  unfold Hid
  refine Calls.mono H43.out ?_
  rintro e W2 ⟨rfl, hI2, hU2⟩
  have HF := hidM (And.intro hI2 (HU1.out.trans hU2))
  clear hI2 hU2 HU1 H43 z0
  go_wp2_with fail
  go_end0
  exact ⟨rfl, by have := HF.out.1; simpa [txtB, List.append_assoc] using this, HF.out.2⟩
end Go.Proofs.YtchhnchddledlaaDoor.Kit
