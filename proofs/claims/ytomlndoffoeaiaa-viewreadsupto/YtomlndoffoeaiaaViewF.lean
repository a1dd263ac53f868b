import Derived.Test.YtomlndoffoeaiaaViewE
namespace Go.Proofs.Ytomlndoffoeaiaa.Kit
open Go.RowKit Go.Deep

/-- what a part is -/
def PartOk (e : Ending) (ao : Option Addr) (n a m : Nat) (place : Int) (q : Option Nat) : Prop :=
  ∃ ao' cap', e = .returned (.tuple #[viewV ao' m cap' place q, .int .i64 0]) ∧ SForm ao' m cap' ∧ (∀ W l, BytesAt W ao n l → BytesAt W ao' m ((l.drop a).take m)) ∧ ∀ b off, ao' = some ⟨b, off, none⟩ → 0 < m → ∃ off0, ao = some ⟨b, off0, none⟩

theorem partOk_some (b off n cap a m : Nat) (place : Int) (q : Option Nat) (hc : n ≤ cap) (hcap : cap ≤ 9223372036854775807) (h : a + m ≤ n) : PartOk (.returned (.tuple #[viewV (some ⟨b, off + a, none⟩) m (cap - a) place q, .int .i64 0])) (some ⟨b, off, none⟩) n a m place q := by
  obtain ⟨ao', cap', e, hs, hsub⟩ := readOk_some b off n cap a m m hc hcap h rfl
  simp only [Ending.returned.injEq, Value.tuple.injEq, Array.mk.injEq, List.cons.injEq, Value.slice.injEq, and_true, true_and] at e
  obtain ⟨rfl, rfl⟩ := e
  refine ⟨_, _, rfl, hs, hsub, fun b' off' e _ => ?_⟩
  simp only [Option.some.injEq, Addr.mk.injEq, and_true] at e
  exact ⟨off, by rw [e.1]⟩
theorem partOk_end (ao : Option Addr) (n a : Nat) (place : Int) (q : Option Nat) : PartOk (.returned (.tuple #[viewV ao 0 0 place q, .int .i64 0])) ao n a 0 place q :=
  ⟨_, _, rfl, ⟨Nat.le_refl _, by omega, .inl rfl⟩, fun _ _ _ h => absurd h (by omega), fun _ _ _ h => absurd h (by omega)⟩
theorem keeps_three0 {w w1 : World} (hk : Keeps w w1 (fun _ => False)) (x y z : Value) : Keeps w (((w1.setCell ⟨w.heap.size + 1, 0, none⟩ x).setCell ⟨w.heap.size + 1, 1, none⟩ y).setCell ⟨w.heap.size + 1, 2, none⟩ z) (fun _ => False) := by
  have n1 : ∀ j : Nat, (⟨w.heap.size + 1, j, none⟩ : Addr).block < w.heap.size → False := fun j h => by simp at h; omega
  exact ((hk.setCell (p := ⟨w.heap.size + 1, 0, none⟩) (n1 0) x).setCell (p := ⟨w.heap.size + 1, 1, none⟩) (n1 1) y).setCell (p := ⟨w.heap.size + 1, 2, none⟩) (n1 2) z
theorem keeps_three {w w1 : World} (hk : Keeps w w1 (fun _ => False)) (x y z : Value) : Keeps w ((((w1.setCell ⟨w.heap.size + 1, 0, none⟩ x).setCell ⟨w.heap.size + 1, 1, none⟩ y).setCell ⟨w.heap.size + 1, 2, none⟩ z).drew) (fun _ => False) := by
  have n1 : ∀ j : Nat, (⟨w.heap.size + 1, j, none⟩ : Addr).block < w.heap.size → False := fun j h => by simp at h; omega
  exact (((hk.setCell (p := ⟨w.heap.size + 1, 0, none⟩) (n1 0) x).setCell (p := ⟨w.heap.size + 1, 1, none⟩) (n1 1) y).setCell (p := ⟨w.heap.size + 1, 2, none⟩) (n1 2) z).drew

set_option maxRecDepth 100000 in
set_option maxHeartbeats 2000000 in
theorem part_some (b off n cap : Nat) (place : Int) (q : Option Nat) (a m : Nat) (w : World) (hc : n ≤ cap) (hcap : cap ≤ 9223372036854775807) (h : a + m ≤ n) (hpl : PlaceOk place n) :
    Calls Try.prog 17 #[viewV (some ⟨b, off, none⟩) n cap place q, .int .i64 a, .int .i64 m] w fun e w' => PartOk e (some ⟨b, off, none⟩) n a m (place + a) q ∧ Keeps w w' (fun _ => False) := by
  have HP : Hid (PlaceOk place n) := hpl
  have wa : IntKind.i64.wrap (place + (a : Int)) = place + a := by have := hpl.1; have := hpl.2; rw [IntKind.wrap_i64]; omega
  clear hpl
  unfold viewV
  go_enter Try.func17, Try.ntmps17
  go_wp2_with fail
  go_at_call 50
  refine (end_in _ n cap place q a m _ (by omega) (by omega) (by omega) (by omega)).mono ?_
  rintro e w1 ⟨rfl, K1⟩
  have HK1 : Hid (Keeps w w1 (fun _ => False)) := (((Keeps.refl w _).alloc _).alloc _).trans K1 fun _ _ h => h
  obtain ⟨b0, b1, b2⟩ := box3 (w := w) (((Keeps.refl _ (fun _ => False)).alloc _).trans K1 fun _ _ h => h) id
  have hrow : w1.heap[w.heap.size + 1]? = some (.cells #[.slice none 0 0, .int .i64 0, .pointer none] 37 (0, 0)) := by
    rw [K1.block (w.heap.size + 1) (by simp) id]
    exact heap_alloc2_new w _ _
  have r0 : w1.cell? ⟨w.heap.size + 1, 0, none⟩ = some (.slice none 0 0) := by rw [cell_of_row _ _ 0 _ _ _ hrow]; rfl
  have r1 : w1.cell? ⟨w.heap.size + 1, 1, none⟩ = some (.int .i64 0) := by rw [cell_of_row _ _ 1 _ _ _ hrow]; rfl
  have r2 : w1.cell? ⟨w.heap.size + 1, 2, none⟩ = some (.pointer none) := by rw [cell_of_row _ _ 2 _ _ _ hrow]; rfl
  have f0 : ∀ j, w1.frozen? ⟨w.heap.size + 1, j, none⟩ = false := fun j => frozen_of_row _ _ j _ _ hrow
  clear K1
  by_cases hca : cap = a
  · obtain rfl : m = 0 := by omega
    have i2 : (a : Int) ≤ (cap : Int) := by omega
    have i0 : (0 : Int) ≤ (a : Int) := by omega
    go_wp2
    go_region
    all_goals go_wp2
    all_goals
      refine bodyPost_ret (v := .tuple #[.agg #[.slice (some ⟨b, off, none⟩) 0 0, .int .i64 (place + a), .pointer (q.map fun b => ⟨b, 0, none⟩)], .int .i64 0]) (by simp [results, Try.results17, go_sem, r0, r1, r2]) rfl ⟨partOk_end (some ⟨b, off, none⟩) n a (place + a) q, ?_⟩
      exact keeps_three HK1.out _ _ _
  · have i1 : (a : Int) ≤ (a : Int) + (m : Int) := by omega
    have i2 : (a : Int) + (m : Int) ≤ (cap : Int) := by omega
    have i0 : (0 : Int) ≤ (a : Int) := by omega
    go_wp2
    go_region
    all_goals go_wp2
    all_goals
      refine bodyPost_ret (v := .tuple #[.agg #[.slice (some ⟨b, off + a, none⟩) m (cap - a), .int .i64 (place + a), .pointer (q.map fun b => ⟨b, 0, none⟩)], .int .i64 0]) (by simp [results, Try.results17, go_sem, r0, r1, r2]) rfl ⟨partOk_some b off n cap a m (place + a) q hc hcap h, ?_⟩
      exact keeps_three HK1.out _ _ _

set_option maxRecDepth 100000 in
set_option maxHeartbeats 2000000 in
theorem part_zero (ao : Option Addr) (place : Int) (q : Option Nat) (w : World) (hpl : PlaceOk place 0) :
    Calls Try.prog 17 #[viewV ao 0 0 place q, .int .i64 0, .int .i64 0] w fun e w' => PartOk e ao 0 0 0 place q ∧ Keeps w w' (fun _ => False) := by
  have wa : IntKind.i64.wrap place = place := by have := hpl.1; have := hpl.2; rw [IntKind.wrap_i64]; omega
  clear hpl
  unfold viewV
  go_enter Try.func17, Try.ntmps17
  go_wp2_with fail
  go_at_call 50
  refine (end_in _ 0 0 place q 0 0 _ (by omega) (by omega) (by omega) (by omega)).mono ?_
  rintro e w1 ⟨rfl, K1⟩
  have HK1 : Hid (Keeps w w1 (fun _ => False)) := (((Keeps.refl w _).alloc _).alloc _).trans K1 fun _ _ h => h
  obtain ⟨b0, b1, b2⟩ := box3 (w := w) (((Keeps.refl _ (fun _ => False)).alloc _).trans K1 fun _ _ h => h) id
  have hrow : w1.heap[w.heap.size + 1]? = some (.cells #[.slice none 0 0, .int .i64 0, .pointer none] 37 (0, 0)) := by
    rw [K1.block (w.heap.size + 1) (by simp) id]
    exact heap_alloc2_new w _ _
  have r0 : w1.cell? ⟨w.heap.size + 1, 0, none⟩ = some (.slice none 0 0) := by rw [cell_of_row _ _ 0 _ _ _ hrow]; rfl
  have r1 : w1.cell? ⟨w.heap.size + 1, 1, none⟩ = some (.int .i64 0) := by rw [cell_of_row _ _ 1 _ _ _ hrow]; rfl
  have r2 : w1.cell? ⟨w.heap.size + 1, 2, none⟩ = some (.pointer none) := by rw [cell_of_row _ _ 2 _ _ _ hrow]; rfl
  have f0 : ∀ j, w1.frozen? ⟨w.heap.size + 1, j, none⟩ = false := fun j => frozen_of_row _ _ j _ _ hrow
  clear K1
  cases ao with
  | none =>
    go_wp2
    go_region
    all_goals go_wp2
    all_goals
      refine bodyPost_ret (v := .tuple #[.agg #[.slice none 0 0, .int .i64 place, .pointer (q.map fun b => ⟨b, 0, none⟩)], .int .i64 0]) (by simp [results, Try.results17, go_sem, r0, r1, r2]) rfl ⟨partOk_end none 0 0 place q, ?_⟩
      exact keeps_three HK1.out _ _ _
  | some ad =>
    go_wp2
    go_region
    all_goals go_wp2
    all_goals
      refine bodyPost_ret (v := .tuple #[.agg #[.slice (some ad) 0 0, .int .i64 place, .pointer (q.map fun b => ⟨b, 0, none⟩)], .int .i64 0]) (by simp [results, Try.results17, go_sem, r0, r1, r2]) rfl ⟨partOk_end (some ad) 0 0 place q, ?_⟩
      exact keeps_three HK1.out _ _ _

theorem part_in (ao : Option Addr) (n cap : Nat) (place : Int) (q : Option Nat) (a m : Nat) (w : World) (hs : SForm ao n cap) (h : a + m ≤ n) (hpl : PlaceOk place n) :
    Calls Try.prog 17 #[viewV ao n cap place q, .int .i64 a, .int .i64 m] w fun e w' => PartOk e ao n a m (place + a) q ∧ Keeps w w' (fun _ => False) := by
  obtain ⟨h1, h2, h3⟩ := hs
  by_cases h0 : cap = 0
  · obtain rfl : n = 0 := by omega
    obtain rfl : a = 0 := by omega
    obtain rfl : m = 0 := by omega
    subst h0
    simpa using part_zero ao place q w hpl
  · obtain ⟨b, off, rfl⟩ := h3.resolve_left h0
    exact part_some b off n cap place q a m w h1 h2 h hpl

set_option maxRecDepth 100000 in
set_option maxHeartbeats 1000000 in
theorem part_out (ao : Option Addr) (n cap : Nat) (place : Int) (q : Option Nat) (a m : Int) (w : World) (h : ¬ (0 ≤ a ∧ 0 ≤ m ∧ a + m ≤ n)) :
    Calls Try.prog 17 #[viewV ao n cap place q, .int .i64 a, .int .i64 m] w fun e w' => e = .returned (.tuple #[viewV none 0 0 0 none, .int .i64 2]) ∧ Keeps w w' (fun _ => False) := by
  have HH : Hid (¬ (0 ≤ a ∧ 0 ≤ m ∧ a + m ≤ n)) := h
  clear h
  unfold viewV
  go_enter Try.func17, Try.ntmps17
  go_wp2_with fail
  go_at_call 50
  refine (end_out _ n cap place q a m _ HH.out).mono ?_
  rintro e w1 ⟨⟨x, rfl⟩, K1⟩
  have HK1 : Hid (Keeps w w1 (fun _ => False)) := (((Keeps.refl w _).alloc _).alloc _).trans K1 fun _ _ h => h
  have hrow : w1.heap[w.heap.size + 1]? = some (.cells #[.slice none 0 0, .int .i64 0, .pointer none] 37 (0, 0)) := by
    rw [K1.block (w.heap.size + 1) (by simp) id]
    exact heap_alloc2_new w _ _
  have r0 : w1.cell? ⟨w.heap.size + 1, 0, none⟩ = some (.slice none 0 0) := by rw [cell_of_row _ _ 0 _ _ _ hrow]; rfl
  have r1 : w1.cell? ⟨w.heap.size + 1, 1, none⟩ = some (.int .i64 0) := by rw [cell_of_row _ _ 1 _ _ _ hrow]; rfl
  have r2 : w1.cell? ⟨w.heap.size + 1, 2, none⟩ = some (.pointer none) := by rw [cell_of_row _ _ 2 _ _ _ hrow]; rfl
  have f0 : ∀ j, w1.frozen? ⟨w.heap.size + 1, j, none⟩ = false := fun j => frozen_of_row _ _ j _ _ hrow
  clear K1 hrow
  go_wp2
  refine bodyPost_ret (v := .tuple #[.agg #[.slice none 0 0, .int .i64 0, .pointer none], .int .i64 2]) (by simp [results, Try.results17, go_sem, r0, r1, r2]) rfl ⟨rfl, ?_⟩
  exact keeps_three0 HK1.out _ _ _
end Go.Proofs.Ytomlndoffoeaiaa.Kit
