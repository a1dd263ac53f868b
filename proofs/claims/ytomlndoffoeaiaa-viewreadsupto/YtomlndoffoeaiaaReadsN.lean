import Derived.Test.YtomlndoffoeaiaaReadsL
namespace Go.Proofs.Ytomlndoffoeaiaa.Kit
open Go.RowKit Go.Deep
set_option linter.unusedVariables false

theorem vlen_exact (ao : Option Addr) (n cap : Nat) (place : Int) (q : Option Nat) (w : World) :
    Calls Try.prog 16 #[viewV ao n cap place q] w fun e w' => e = .returned (.int .i64 n) ∧ w' = w.alloc (.cells #[.slice ao n cap, .int .i64 place, .pointer (q.map fun b => ⟨b, 0, none⟩)] 37) := by
  unfold viewV
  go_enter Try.func16, Try.ntmps16
  go_wp2
  go_ret
  exact ⟨rfl, rfl⟩

theorem boxCells3 {w : World} {B ty : Nat} {x y z : Value} (hB : w.heap[B]? = some (.cells #[x, y, z] ty (0, 0))) : w.cell? ⟨B, 0, none⟩ = some x ∧ w.cell? ⟨B, 1, none⟩ = some y ∧ w.cell? ⟨B, 2, none⟩ = some z := by
  refine ⟨?_, ?_, ?_⟩
  · rw [cell_of_row _ _ 0 _ _ _ hB]; rfl
  · rw [cell_of_row _ _ 1 _ _ _ hB]; rfl
  · rw [cell_of_row _ _ 2 _ _ _ hB]; rfl

set_option maxHeartbeats 2000000 in
theorem part_err (ao : Option Addr) (n cap : Nat) (place : Int) (q : Option Nat) (ao' : Option Addr) (n' cap' : Nat) (place' who : Int) (m : Nat) (o a b : Int) (w : World)
    (h1 : ∀ w, Calls Try.prog 17 #[viewV ao n cap place q, .int .i64 a, .int .i64 b] w fun e w' => e = .returned (.tuple #[viewV none 0 0 0 none, .int .i64 2]) ∧ Keeps w w' (fun _ => False))
    (h2 : ∀ w, Calls Try.prog 59 #[refV ao' n' cap' place', .int .i64 a, .int .i64 b] w fun e w' => e = .returned (.tuple #[refV none 0 0 0, .int .i64 2]) ∧ Keeps w w' (fun _ => False)) :
    Calls Try.prog 40 #[.pointer (some ⟨m, 0, none⟩), seenV ao n cap place q ao' n' cap' place' who, opV 1 o a b] w fun e w' => e = .returned (.bool true) ∧ Keeps w w' (fun _ => False) := by
  have H1 : Hid (∀ w, Calls Try.prog 17 #[viewV ao n cap place q, .int .i64 a, .int .i64 b] w fun e w' => e = .returned (.tuple #[viewV none 0 0 0 none, .int .i64 2]) ∧ Keeps w w' (fun _ => False)) := h1
  have H2 : Hid (∀ w, Calls Try.prog 59 #[refV ao' n' cap' place', .int .i64 a, .int .i64 b] w fun e w' => e = .returned (.tuple #[refV none 0 0 0, .int .i64 2]) ∧ Keeps w w' (fun _ => False)) := h2
  clear h1 h2
  unfold seenV opV
  go_enter Try.func40, Try.ntmps40
  go_wp2_with fail
  have B := Boxes.start w #[.slice ao n cap, .int .i64 place, .pointer (q.map fun b => ⟨b, 0, none⟩), .slice ao' n' cap', .int .i64 place', .int .i64 who] #[.int .i64 1, .int .i64 o, .int .i64 a, .int .i64 b]
  go_at_call 17
  refine (H1.out _).mono ?_
  rintro e w1 ⟨rfl, K1⟩
  unfold viewV
  have HB : Hid (Boxes w w1 #[.slice ao n cap, .int .i64 place, .pointer (q.map fun b => ⟨b, 0, none⟩), .slice ao' n' cap', .int .i64 place', .int .i64 who] #[.int .i64 1, .int .i64 o, .int .i64 a, .int .i64 b] (fun _ => False)) := B.next K1 fun _ e => e.elim
  have P := fun x => (HB.out.next ((Keeps.refl w1 (fun _ => False)).alloc x) fun _ e => e.elim).cells
  have p3 := fun x => (P x).1.2.2.2.1
  have p4 := fun x => (P x).1.2.2.2.2.1
  have o2 := fun x => (P x).2.2.2.1
  have o3 := fun x => (P x).2.2.2.2
  clear B K1 P
  go_wp2_with fail
  go_at_call 59
  obtain ⟨W1, hW1⟩ : ∃ W1, W1 = w1.alloc (.cells #[.slice none 0 0, .int .i64 0, .pointer none] 37) := ⟨_, rfl⟩
  rw [← hW1]
  obtain ⟨V, hV⟩ : ∃ V, V = w1.heap.size := ⟨_, rfl⟩
  have HV : Hid (W1.heap[V]? = some (.cells #[.slice none 0 0, .int .i64 0, .pointer none] 37 (0, 0))) := by rw [hV, hW1]; exact heap_alloc_new w1 _
  have HK1 : Hid (Keeps w W1 (fun _ => False)) := by rw [hW1]; exact HB.out.keep.alloc _
  rw [← hV]
  clear hW1 hV HB p3 p4 o2 o3
  refine (H2.out _).mono ?_
  rintro e w2 ⟨rfl, K2⟩
  unfold refV
  have HK2 : Hid (Keeps w w2 (fun _ => False)) := HK1.out.trans K2 fun _ _ e => e
  have HV2 : Hid (w2.heap[V]? = some (.cells #[.slice none 0 0, .int .i64 0, .pointer none] 37 (0, 0))) := by rw [← HV.out]; exact K2.block _ (Array.getElem?_eq_some_iff.1 HV.out).1 id
  clear HV HK1 K2
  obtain ⟨W2, hW2⟩ : ∃ W2, W2 = w2.alloc (.cells #[.slice none 0 0, .int .i64 0] 91) := ⟨_, rfl⟩
  obtain ⟨R, hR⟩ : ∃ R, R = w2.heap.size := ⟨_, rfl⟩
  have HK3 : Hid (Keeps w W2 (fun _ => False)) := by rw [hW2]; exact HK2.out.alloc _
  have hR0 : W2.cell? ⟨R, 0, none⟩ = some (.slice none 0 0) := by
    have h := heap_alloc_new w2 (.cells #[.slice none 0 0, .int .i64 0] 91)
    rw [hR, hW2, cell_of_row _ _ 0 _ _ _ h]; rfl
  have hV3 : W2.heap[V]? = some (.cells #[.slice none 0 0, .int .i64 0, .pointer none] 37 (0, 0)) := by rw [← HV2.out, hW2]; exact ((Keeps.refl w2 (fun _ => False)).alloc _).block _ (Array.getElem?_eq_some_iff.1 HV2.out).1 id
  obtain ⟨v0, v1, v2⟩ := boxCells3 hV3
  go_wp2_with fail
  rw [← hW2, ← hR]
  clear hW2 hR hV3 HV2 HK2
  have r0 : ∀ x, (W2.alloc x).cell? ⟨R, 0, none⟩ = some (.slice none 0 0) := fun x => ((Keeps.refl W2 (fun _ => False)).alloc x).cell' hR0 id
  go_region_with ((go_at_call 16; refine (vlen_exact none 0 0 0 none _).mono ?_; rintro e w9 ⟨rfl, rfl⟩))
  all_goals (go_wp2; go_ret; first | exact ⟨by go_simp, HK3.out.alloc _⟩ | exact ⟨by go_simp, (HK3.out.drew.alloc _)⟩ | exact ⟨by go_simp, (HK3.out.alloc _).drew⟩)
end Go.Proofs.Ytomlndoffoeaiaa.Kit
namespace Go.Proofs.Ytomlndoffoeaiaa.Kit
open Go.RowKit Go.Deep
set_option linter.unusedVariables false

theorem boxCells2 {w : World} {B ty : Nat} {x y : Value} (hB : w.heap[B]? = some (.cells #[x, y] ty (0, 0))) : w.cell? ⟨B, 0, none⟩ = some x ∧ w.cell? ⟨B, 1, none⟩ = some y := by
  refine ⟨?_, ?_⟩
  · rw [cell_of_row _ _ 0 _ _ _ hB]; rfl
  · rw [cell_of_row _ _ 1 _ _ _ hB]; rfl
theorem Keeps.row {w w' : World} {S : Nat → Prop} {B : Nat} {x : Obj} (k : Keeps w w' S) (h : w.heap[B]? = some x) (hn : ¬ S B) : w'.heap[B]? = some x := by
  rw [← h]; exact k.block _ (Array.getElem?_eq_some_iff.1 h).1 hn

set_option maxRecDepth 100000 in
set_option maxHeartbeats 4000000 in
theorem part_full (ao : Option Addr) (n cap : Nat) (place : Int) (q : Option Nat) (ao' : Option Addr) (n' cap' : Nat) (place' who : Int) (m : Nat) (o a b : Int) (k1 : Nat) (pl1 pl2 : Int) (P1 P2 : Option Addr → Nat → Prop) (w : World)
    (cs : Array Value) (al : Option Addr) (nl cl : Nat) (hrow : w.heap[m]? = some (.cells cs 87 (0, 0))) (hcs : cs[2]? = some (.slice al nl cl)) (hfull : 40 ≤ nl)
    (h1 : ∀ w, Calls Try.prog 17 #[viewV ao n cap place q, .int .i64 a, .int .i64 b] w fun e w' => (∃ ao1 cap1, e = .returned (.tuple #[viewV ao1 k1 cap1 pl1 q, .int .i64 0]) ∧ P1 ao1 cap1) ∧ Keeps w w' (fun _ => False))
    (h2 : ∀ w, Calls Try.prog 59 #[refV ao' n' cap' place', .int .i64 a, .int .i64 b] w fun e w' => (∃ ao2 cap2, e = .returned (.tuple #[refV ao2 k1 cap2 pl2, .int .i64 0]) ∧ P2 ao2 cap2) ∧ Keeps w w' (fun _ => False)) :
    Calls Try.prog 40 #[.pointer (some ⟨m, 0, none⟩), seenV ao n cap place q ao' n' cap' place' who, opV 1 o a b] w fun e w' => e = .returned (.bool true) ∧ Keeps w w' (fun _ => False) := by
  have H1 : Hid (∀ w, Calls Try.prog 17 #[viewV ao n cap place q, .int .i64 a, .int .i64 b] w fun e w' => (∃ ao1 cap1, e = .returned (.tuple #[viewV ao1 k1 cap1 pl1 q, .int .i64 0]) ∧ P1 ao1 cap1) ∧ Keeps w w' (fun _ => False)) := h1
  have H2 : Hid (∀ w, Calls Try.prog 59 #[refV ao' n' cap' place', .int .i64 a, .int .i64 b] w fun e w' => (∃ ao2 cap2, e = .returned (.tuple #[refV ao2 k1 cap2 pl2, .int .i64 0]) ∧ P2 ao2 cap2) ∧ Keeps w w' (fun _ => False)) := h2
  have HM : Hid (w.heap[m]? = some (.cells cs 87 (0, 0)) ∧ cs[2]? = some (.slice al nl cl)) := ⟨hrow, hcs⟩
  clear h1 h2 hrow hcs
  unfold seenV opV
  go_enter Try.func40, Try.ntmps40
  go_wp2_with fail
  have B := Boxes.start w #[.slice ao n cap, .int .i64 place, .pointer (q.map fun b => ⟨b, 0, none⟩), .slice ao' n' cap', .int .i64 place', .int .i64 who] #[.int .i64 1, .int .i64 o, .int .i64 a, .int .i64 b]
  go_at_call 17
  refine (H1.out _).mono ?_
  rintro e w1 ⟨⟨ao1, cap1, rfl, q1⟩, K1⟩
  have HP1 : Hid (P1 ao1 cap1) := q1
  unfold viewV
  have HB : Hid (Boxes w w1 #[.slice ao n cap, .int .i64 place, .pointer (q.map fun b => ⟨b, 0, none⟩), .slice ao' n' cap', .int .i64 place', .int .i64 who] #[.int .i64 1, .int .i64 o, .int .i64 a, .int .i64 b] (fun _ => False)) := B.next K1 fun _ e => e.elim
  have P := fun x => (HB.out.next ((Keeps.refl w1 (fun _ => False)).alloc x) fun _ e => e.elim).cells
  have p3 := fun x => (P x).1.2.2.2.1
  have p4 := fun x => (P x).1.2.2.2.2.1
  have o2 := fun x => (P x).2.2.2.1
  have o3 := fun x => (P x).2.2.2.2
  clear B K1 P q1
  go_wp2_with fail
  go_at_call 59
  obtain ⟨W1, hW1⟩ : ∃ W1, W1 = w1.alloc (.cells #[.slice ao1 k1 cap1, .int .i64 pl1, .pointer (q.map fun b => ⟨b, 0, none⟩)] 37) := ⟨_, rfl⟩
  rw [← hW1]
  obtain ⟨V, hV⟩ : ∃ V, V = w1.heap.size := ⟨_, rfl⟩
  have HV : Hid (W1.heap[V]? = some (.cells #[.slice ao1 k1 cap1, .int .i64 pl1, .pointer (q.map fun b => ⟨b, 0, none⟩)] 37 (0, 0))) := by rw [hV, hW1]; exact heap_alloc_new w1 _
  have HB1 : Hid (Boxes w W1 #[.slice ao n cap, .int .i64 place, .pointer (q.map fun b => ⟨b, 0, none⟩), .slice ao' n' cap', .int .i64 place', .int .i64 who] #[.int .i64 1, .int .i64 o, .int .i64 a, .int .i64 b] (fun _ => False)) := by rw [hW1]; exact HB.out.next ((Keeps.refl w1 (fun _ => False)).alloc _) fun _ e => e.elim
  have HVn : Hid (w.heap.size ≤ V) := by rw [hV]; exact HB.out.keep.size
  rw [← hV]
  clear hW1 hV HB p3 p4 o2 o3
  refine (H2.out _).mono ?_
  rintro e w2 ⟨⟨ao2, cap2, rfl, q2⟩, K2⟩
  have HP2 : Hid (P2 ao2 cap2) := q2
  unfold refV
  obtain ⟨W2, hW2⟩ : ∃ W2, W2 = w2.alloc (.cells #[.slice ao2 k1 cap2, .int .i64 pl2] 91) := ⟨_, rfl⟩
  obtain ⟨R, hR⟩ : ∃ R, R = w2.heap.size := ⟨_, rfl⟩
  have KA : Keeps W1 W2 (fun _ => False) := by rw [hW2]; exact K2.alloc _
  have HB2 : Hid (Boxes w W2 #[.slice ao n cap, .int .i64 place, .pointer (q.map fun b => ⟨b, 0, none⟩), .slice ao' n' cap', .int .i64 place', .int .i64 who] #[.int .i64 1, .int .i64 o, .int .i64 a, .int .i64 b] (fun _ => False)) := HB1.out.next KA fun _ e => e.elim
  have HR2 : Hid (W2.heap[R]? = some (.cells #[.slice ao2 k1 cap2, .int .i64 pl2] 91 (0, 0))) := by rw [hR, hW2]; exact heap_alloc_new w2 _
  have HRn : Hid (w.heap.size ≤ R) := by rw [hR]; exact Nat.le_trans HB1.out.keep.size K2.size
  have HV2 : Hid (W2.heap[V]? = some (.cells #[.slice ao1 k1 cap1, .int .i64 pl1, .pointer (q.map fun b => ⟨b, 0, none⟩)] 37 (0, 0))) := KA.row HV.out id
  have hl : W2.cell? ⟨m, 2, none⟩ = some (.slice al nl cl) := by rw [cell_of_row _ m 2 _ _ _ (HB2.out.keep.row HM.out.1 id)]; exact HM.out.2
  obtain ⟨v0, v1, v2⟩ := boxCells3 HV2.out
  obtain ⟨r0, r1⟩ := boxCells2 HR2.out
  have hl' := hl
  rw [hW2] at hl'
  clear K2 KA HB1 HV q2
  have hnl : ¬ ((nl : Int) < 40) := by omega
  go_wp2_with fail
  rw [← hW2, ← hR]
  clear hW2 hR hl' hnl
  have r2 : ∀ x, (W2.alloc x).cell? ⟨R, 0, none⟩ = some (.slice ao2 k1 cap2) := fun x => ((Keeps.refl W2 (fun _ => False)).alloc x).cell' r0 id
  have HK3 : Hid (Keeps w W2 (fun _ => False)) := HB2.out.keep
  go_region_with ((go_at_call 16; refine (vlen_exact ao1 k1 cap1 pl1 q _).mono ?_; rintro e w9 ⟨rfl, rfl⟩))
  all_goals (go_wp2; go_ret; first | exact ⟨by go_simp, HK3.out.alloc _⟩ | exact ⟨by go_simp, (HK3.out.drew.alloc _)⟩ | exact ⟨by go_simp, (HK3.out.alloc _).drew⟩)
end Go.Proofs.Ytomlndoffoeaiaa.Kit
