import Derived.Test.YtfepbpibhcfjdaaDoorHC
import Derived.Test.YtfepbpibhcfjdaaDoorJA
namespace Go.Proofs.YtfepbpibhcfjdaaDoor.Kit
open Go.RowKit Go.Shelf Go.Deep
set_option linter.unusedVariables false
attribute [local go_sem] run_store_func

set_option maxRecDepth 100000 in
set_option maxHeartbeats 1000000 in
theorem isBracketed_any (k : Int) (w : World) : Calls Tryd.prog 69 #[.int .i64 k] w fun e w' => e = .returned (.bool (decide (14 ≤ k))) ∧ w' = w := by
  go_enter Tryd.func69, Tryd.ntmps69
  go_wp2
  go_ret
  exact ⟨rfl, rfl⟩
set_option maxRecDepth 100000 in
set_option maxHeartbeats 2000000 in
theorem typeText_plain (k : Nat) (hk : k < 14) (f3 f4 f5 : Int) (ao : Option Addr) (f6 ca : Nat) (w : World) (hT : Tab w) :
    ∀ W, Gr w W → Calls Tryd.prog 50 #[.agg #[.int .i64 (k : Int), .int .i64 f3, .int .i64 f4, .int .i64 f5, .slice ao f6 ca]] W fun e w' => e = .returned (.string ⟨(wordK k).toArray⟩) ∧ Gr W w' := by
  intro W g
  have hr := (hT.gr g).2 k (by omega)
  have b0 : ∀ o, (W.alloc o).cell? ⟨0, k * 5, none⟩ = some (.string ⟨(wordK k).toArray⟩) := fun o => (gr_alloc W o).cell' hr.c0 (fun h => h)
  generalize wordK k = wd at *
  have hb := fun w => isBracketed_any (k : Int) w
  rw [show decide ((14 : Int) ≤ (k : Int)) = false from decide_eq_false (by omega)] at hb
  have hk21 : k < 21 := by omega
  clear hr hT g
  go_enter Tryd.func50, Tryd.ntmps50
  go_wp2_with (go_at_call 69; refine (hb _).mono ?_; rintro e w' ⟨rfl, rfl⟩)
  go_ret
  exact ⟨rfl, gr_alloc _ _⟩
theorem ft_of {w : World} {B : Nat} {f0 : ByteArray} {f1 : Bool} {f2 f3 f4 f5 : Int} {ao : Option Addr} {f6 ca : Nat} {W : World} (g : Gr w W) (h : W.heap[B]? = some (.cells #[.string f0, .bool f1, .int .i64 f2, .int .i64 f3, .int .i64 f4, .int .i64 f5, .slice ao f6 ca] 35)) : Hid (Gr w W ∧ W.heap[B]? = some (.cells #[.string f0, .bool f1, .int .i64 f2, .int .i64 f3, .int .i64 f4, .int .i64 f5, .slice ao f6 ca] 35)) ∧ W.cell? ⟨B, 0, none⟩ = some (.string f0) ∧ W.cell? ⟨B, 2, none⟩ = some (.int .i64 f2) ∧ W.cell? ⟨B, 3, none⟩ = some (.int .i64 f3) ∧ W.cell? ⟨B, 4, none⟩ = some (.int .i64 f4) ∧ W.cell? ⟨B, 5, none⟩ = some (.int .i64 f5) ∧ W.cell? ⟨B, 6, none⟩ = some (.slice ao f6 ca) := by
  obtain ⟨v0, v1, v2, v3, v4, v5, v6⟩ := cell7 h
  exact ⟨⟨g, h⟩, v0, by simpa using v2, by simpa using v3, by simpa using v4, by simpa using v5, by simpa using v6⟩
theorem ft_kept {w : World} {B : Nat} {f0 : ByteArray} {f1 : Bool} {f2 f3 f4 f5 : Int} {ao : Option Addr} {f6 ca : Nat} {W W' : World} (h : Hid (Gr w W ∧ W.heap[B]? = some (.cells #[.string f0, .bool f1, .int .i64 f2, .int .i64 f3, .int .i64 f4, .int .i64 f5, .slice ao f6 ca] 35)) ∧ W.cell? ⟨B, 0, none⟩ = some (.string f0) ∧ W.cell? ⟨B, 2, none⟩ = some (.int .i64 f2) ∧ W.cell? ⟨B, 3, none⟩ = some (.int .i64 f3) ∧ W.cell? ⟨B, 4, none⟩ = some (.int .i64 f4) ∧ W.cell? ⟨B, 5, none⟩ = some (.int .i64 f5) ∧ W.cell? ⟨B, 6, none⟩ = some (.slice ao f6 ca)) (k : Hid (Gr W W')) : Hid (Gr w W' ∧ W'.heap[B]? = some (.cells #[.string f0, .bool f1, .int .i64 f2, .int .i64 f3, .int .i64 f4, .int .i64 f5, .slice ao f6 ca] 35)) ∧ W'.cell? ⟨B, 0, none⟩ = some (.string f0) ∧ W'.cell? ⟨B, 2, none⟩ = some (.int .i64 f2) ∧ W'.cell? ⟨B, 3, none⟩ = some (.int .i64 f3) ∧ W'.cell? ⟨B, 4, none⟩ = some (.int .i64 f4) ∧ W'.cell? ⟨B, 5, none⟩ = some (.int .i64 f5) ∧ W'.cell? ⟨B, 6, none⟩ = some (.slice ao f6 ca) :=
  ft_of (h.1.out.1.trans k.out (fun _ _ h => h)) ((k.out.block _ (lt_of_heap h.1.out.2) (fun h => h)).trans h.1.out.2)
theorem ft_gr {w : World} {B : Nat} {f0 : ByteArray} {f1 : Bool} {f2 f3 f4 f5 : Int} {ao : Option Addr} {f6 ca : Nat} {W : World} (h : Hid (Gr w W ∧ W.heap[B]? = some (.cells #[.string f0, .bool f1, .int .i64 f2, .int .i64 f3, .int .i64 f4, .int .i64 f5, .slice ao f6 ca] 35)) ∧ W.cell? ⟨B, 0, none⟩ = some (.string f0) ∧ W.cell? ⟨B, 2, none⟩ = some (.int .i64 f2) ∧ W.cell? ⟨B, 3, none⟩ = some (.int .i64 f3) ∧ W.cell? ⟨B, 4, none⟩ = some (.int .i64 f4) ∧ W.cell? ⟨B, 5, none⟩ = some (.int .i64 f5) ∧ W.cell? ⟨B, 6, none⟩ = some (.slice ao f6 ca)) : Gr w W := h.1.out.1
set_option maxRecDepth 100000 in
set_option maxHeartbeats 2000000 in
theorem fieldText_walk (f0 : ByteArray) (f1 : Bool) (f2 f3 f4 f5 : Int) (ao : Option Addr) (f6 ca : Nat) (t : ByteArray) (w : World) (hf0 : f0.size ≤ 1000000000000) (ht : t.size ≤ 1000000000000)
    (h : ∀ W, Gr w W → Calls Tryd.prog 50 #[.agg #[.int .i64 f2, .int .i64 f3, .int .i64 f4, .int .i64 f5, .slice ao f6 ca]] W fun e w' => e = .returned (.string t) ∧ Gr W w') :
    ∀ W, Gr w W → Calls Tryd.prog 29 #[.agg #[.string f0, .bool f1, .int .i64 f2, .int .i64 f3, .int .i64 f4, .int .i64 f5, .slice ao f6 ca]] W fun e w' => e = .returned (.string (if f1 then f0 ++ ⟨#[32]⟩ ++ t ++ ⟨#[63]⟩ else f0 ++ ⟨#[32]⟩ ++ t)) ∧ Gr W w' := by
  intro W g
  have H : Hid (∀ W', Gr W W' → Calls Tryd.prog 50 #[.agg #[.int .i64 f2, .int .i64 f3, .int .i64 f4, .int .i64 f5, .slice ao f6 ca]] W' fun e w' => e = .returned (.string t) ∧ Gr W' w') := fun W' g' => h W' (g.trans g' (fun _ _ h => h))
  clear h g
  have x1 := World.alloc_heap_new W (.cells #[.string f0, .bool f1, .int .i64 f2, .int .i64 f3, .int .i64 f4, .int .i64 f5, .slice ao f6 ca] 35)
  have hg0 := gr_alloc W (.cells #[.string f0, .bool f1, .int .i64 f2, .int .i64 f3, .int .i64 f4, .int .i64 f5, .slice ao f6 ca] 35)
  go_enter Tryd.func29, Tryd.ntmps29
  go_wp2_with fail
  generalize W.alloc (.cells #[.string f0, .bool f1, .int .i64 f2, .int .i64 f3, .int .i64 f4, .int .i64 f5, .slice ao f6 ca] 35) = W0 at *
  obtain ⟨B, hB⟩ : ∃ B, B = W.heap.size := ⟨_, rfl⟩
  rw [← hB] at x1 ⊢
  have HIN : Hid (Hid (Gr W W0.drew ∧ W0.drew.heap[B]? = some (.cells #[.string f0, .bool f1, .int .i64 f2, .int .i64 f3, .int .i64 f4, .int .i64 f5, .slice ao f6 ca] 35)) ∧ W0.drew.cell? ⟨B, 0, none⟩ = some (.string f0) ∧ W0.drew.cell? ⟨B, 2, none⟩ = some (.int .i64 f2) ∧ W0.drew.cell? ⟨B, 3, none⟩ = some (.int .i64 f3) ∧ W0.drew.cell? ⟨B, 4, none⟩ = some (.int .i64 f4) ∧ W0.drew.cell? ⟨B, 5, none⟩ = some (.int .i64 f5) ∧ W0.drew.cell? ⟨B, 6, none⟩ = some (.slice ao f6 ca)) := ft_of (hg0.drew) x1
  have h1 : f0.size + 1 ≤ 9223372036854775807 := by omega
  have h2 : f0.size + 1 + t.size ≤ 9223372036854775807 := by omega
  have h3 : f0.size + 1 + t.size + 1 ≤ 9223372036854775807 := by omega
  have h4 : (f0 ++ (⟨#[32]⟩ : ByteArray)).size = f0.size + 1 := by rw [ByteArray.size_append]; rfl
  have h5 : (f0 ++ (⟨#[32]⟩ : ByteArray) ++ t).size = f0.size + 1 + t.size := by rw [ByteArray.size_append, h4]
  have n1 : ¬ (9223372036854775807 < f0.size + 1) := by omega
  have n2 : ¬ (9223372036854775807 < f0.size + 1 + t.size) := by omega
  have n3 : ¬ (9223372036854775807 < f0.size + 1 + t.size + 1) := by omega
  have b1 : ∀ w, (binOp .add 9 (.string f0) (.string ⟨#[32]⟩)).run Tryd.prog w = .ok (.string (f0 ++ ⟨#[32]⟩)) w := fun w => by simp [go_sem, binOp, n1]
  have b2 : ∀ w, (binOp .add 9 (.string (f0 ++ ⟨#[32]⟩)) (.string t)).run Tryd.prog w = .ok (.string (f0 ++ ⟨#[32]⟩ ++ t)) w := fun w => by simp [go_sem, binOp, h4, n2]
  have b3 : ∀ w, (binOp .add 9 (.string (f0 ++ ⟨#[32]⟩ ++ t)) (.string ⟨#[63]⟩)).run Tryd.prog w = .ok (.string (f0 ++ ⟨#[32]⟩ ++ t ++ ⟨#[63]⟩)) w := fun w => by simp [go_sem, binOp, h5, n3]
  have m1 : f0.size + (⟨#[32]⟩ : ByteArray).size ≤ 9223372036854775807 := by show f0.size + 1 ≤ _; omega
  have m2 : (f0 ++ (⟨#[32]⟩ : ByteArray)).size + t.size ≤ 9223372036854775807 := by rw [h4]; omega
  have m3 := fun w => run_string_add_sum (P := Tryd.prog) w f0 ⟨#[32]⟩ m1
  have m4 := fun w => run_string_add_sum (P := Tryd.prog) w (f0 ++ ⟨#[32]⟩) t m2
  clear hg0 x1 hB h3 h5 n1 n2 n3 b1 b2
  go_region_held3 (fun w' => Hid (Gr W w' ∧ w'.heap[B]? = some (.cells #[.string f0, .bool f1, .int .i64 f2, .int .i64 f3, .int .i64 f4, .int .i64 f5, .slice ao f6 ca] 35)) ∧ w'.cell? ⟨B, 0, none⟩ = some (.string f0) ∧ w'.cell? ⟨B, 2, none⟩ = some (.int .i64 f2) ∧ w'.cell? ⟨B, 3, none⟩ = some (.int .i64 f3) ∧ w'.cell? ⟨B, 4, none⟩ = some (.int .i64 f4) ∧ w'.cell? ⟨B, 5, none⟩ = some (.int .i64 f5) ∧ w'.cell? ⟨B, 6, none⟩ = some (.slice ao f6 ca)) (first | with_reducible exact HIN.out | with_reducible assumption | with_reducible exact ft_kept (by assumption) hk1) (first | (go_at_call 50; refine Calls.mono (H.out _ (ft_gr (by assumption))) ?_; rintro e v1 ⟨rfl, hk1⟩; replace hk1 := hidM hk1))
  all_goals
    rename_i hHeld
    have HG := hidM hHeld.1.out.1
    have q1 : v1.cell? ⟨B, 1, none⟩ = some (.bool f1) := by simp [World.cell?, hHeld.1.out.2]
    clear hHeld hk1 HIN H
    cases f1 with
    | true =>
      go_wp2_with fail
      go_ret
      exact ⟨rfl, HG.out⟩
    | false =>
      go_wp2_with fail
      go_ret
      exact ⟨rfl, HG.out⟩
end Go.Proofs.YtfepbpibhcfjdaaDoor.Kit
