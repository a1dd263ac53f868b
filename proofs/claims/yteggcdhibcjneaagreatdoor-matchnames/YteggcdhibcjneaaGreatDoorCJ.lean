import Derived.Test.YteggcdhibcjneaaGreatDoorCB
set_option maxRecDepth 100000
set_option maxHeartbeats 4000000
namespace Go.Proofs.YteggcdhibcjneaaGreatDoor.Kit
variable {nx : Bool}
open Go.RowKit Go.Shelf Go.Deep
open Go.Proofs.YteggcdhibcjneaaGreatDoor.Kd (Ans AnsV cell5 cell2)
open Go.Proofs.YteggcdhibcjneaaGreatDoor.Ink (OwnRow)
set_option linter.unusedVariables false
set_option linter.unusedSimpArgs false
attribute [local go_sem] run_store_func

/-- a node of array in memory -/
def ndC (nx : Bool) (nu : Bool) (ao : Option Addr) (ca : Nat) (L N : Int) (bv : Value) : Array Value := #[.string (nmB nx), .bool nu, .int .i64 3, .int .i64 0, .int .i64 0, .int .i64 0, .slice ao 0 ca, .iface 238 (.agg #[.int .i64 1, .bool true]), .int .i64 L, .int .i64 N, .int .i64 0, bv, .slice none 0 0]
/-- a Data with an offset -/
def dCo (L off : Int) (bv : Value) : Array Value := #[.int .i64 L, .int .i64 off, .int .i64 0, bv, .slice none 0 0, .slice none 0 0]
theorem bare45 (nu : Bool) (ao : Option Addr) (ca L N : Nat) (b : Value) (W : World) (hT : Tab W) : Calls Tryz.prog 88 #[.agg #[.string (nmB nx), .bool nu, .int .i64 3, .int .i64 0, .int .i64 0, .int .i64 0, .slice ao 0 ca], .agg (dCo L N b)] W fun e w' => ∃ q, e = .returned (.pointer (some ⟨q, 0, none⟩)) ∧ Gr W w' ∧ W.heap.size ≤ q ∧ w'.heap[q]? = some (.cells (ndC nx nu ao ca L N (.slice none 0 0)) 143) := by
  obtain ⟨A, hA⟩ : ∃ A, (W.alloc (.cells #[.string (nmB nx), .bool nu, .int .i64 3, .int .i64 0, .int .i64 0, .int .i64 0, .slice ao 0 ca] 47)).alloc (.cells (dCo L N b) 50) = A := ⟨_, rfl⟩
  have gA : Gr W A := by rw [← hA]; exact (gr_alloc W _).trans (gr_alloc _ _) (fun _ _ h => h)
  have hb2 : A.heap[W.heap.size + 1]? = some (.cells (dCo L N b) 50) := by
    have e2 := heap_alloc_new (W.alloc (.cells #[.string (nmB nx), .bool nu, .int .i64 3, .int .i64 0, .int .i64 0, .int .i64 0, .slice ao 0 ca] 47)) (.cells (dCo L N b) 50)
    rw [show (W.alloc (.cells #[.string (nmB nx), .bool nu, .int .i64 3, .int .i64 0, .int .i64 0, .int .i64 0, .slice ao 0 ca] 47)).heap.size = W.heap.size + 1 by simp, hA] at e2
    exact e2
  have hb1 : A.heap[W.heap.size]? = some (.cells #[.string (nmB nx), .bool nu, .int .i64 3, .int .i64 0, .int .i64 0, .int .i64 0, .slice ao 0 ca] 47) := by
    have e1 := heap_alloc_new W (.cells #[.string (nmB nx), .bool nu, .int .i64 3, .int .i64 0, .int .i64 0, .int .i64 0, .slice ao 0 ca] 47)
    rw [← hA]
    exact ((gr_alloc _ _).block _ (lt_of_heap e1) id).trans e1
  have hS : ∀ u, Gr A u → u.cell? ⟨W.heap.size, 0, none⟩ = some (.string (nmB nx)) ∧ u.cell? ⟨W.heap.size, 1, none⟩ = some (.bool nu) ∧ u.cell? ⟨W.heap.size, 2, none⟩ = some (.int .i64 3) ∧ u.cell? ⟨W.heap.size, 3, none⟩ = some (.int .i64 0) ∧ u.cell? ⟨W.heap.size, 4, none⟩ = some (.int .i64 0) ∧ u.cell? ⟨W.heap.size, 5, none⟩ = some (.int .i64 0) ∧ u.cell? ⟨W.heap.size, 6, none⟩ = some (.slice ao 0 ca) ∧ u.cell? ⟨W.heap.size + 1, 0, none⟩ = some (.int .i64 L) ∧ u.cell? ⟨W.heap.size + 1, 1, none⟩ = some (.int .i64 N) ∧ u.cell? ⟨W.heap.size + 1, 2, none⟩ = some (.int .i64 0) := fun u g => by
    obtain ⟨a0, a1, a2, a3, a4, a5, a6⟩ := cell7 ((g.block _ (lt_of_heap hb1) id).trans hb1)
    obtain ⟨d0, d1, d2, -⟩ := cell6 ((g.block _ (lt_of_heap hb2) id).trans hb2)
    exact ⟨a0, a1, a2, a3, a4, a5, a6, d0, d1, d2⟩
  have HS := hidM hS
  have HS0 := hidM (hS A.drew gr_drew)
  have HG := hidM gA
  have HT := hidM (hT.gr gA)
  clear hT gA hb1 hb2 hS
  unfold dCo at hA ⊢
  go_enter Tryz.func88, Tryz.ntmps88
  go_wp2_with fail
  go_region_held3 (fun u => u.cell? ⟨W.heap.size, 0, none⟩ = some (.string (nmB nx)) ∧ u.cell? ⟨W.heap.size, 1, none⟩ = some (.bool nu) ∧ u.cell? ⟨W.heap.size, 2, none⟩ = some (.int .i64 3) ∧ u.cell? ⟨W.heap.size, 3, none⟩ = some (.int .i64 0) ∧ u.cell? ⟨W.heap.size, 4, none⟩ = some (.int .i64 0) ∧ u.cell? ⟨W.heap.size, 5, none⟩ = some (.int .i64 0) ∧ u.cell? ⟨W.heap.size, 6, none⟩ = some (.slice ao 0 ca) ∧ u.cell? ⟨W.heap.size + 1, 0, none⟩ = some (.int .i64 L) ∧ u.cell? ⟨W.heap.size + 1, 1, none⟩ = some (.int .i64 N) ∧ u.cell? ⟨W.heap.size + 1, 2, none⟩ = some (.int .i64 0)) (first | with_reducible exact HS0.out | with_reducible exact HS1.out | exact HS2.out _) ((go_at_call 106; refine (familyOf62 ao ca _ (HT.out.gr gr_drew)).mono ?_; rintro e w1 ⟨rfl, g1⟩; have HG1 : Hid (Gr A w1) := Keeps.trans gr_drew g1 (fun _ _ h => h); have HS1 := hidM (HS.out w1 HG1.out); have HS2 : Hid (∀ o, (w1.alloc o).cell? ⟨W.heap.size, 0, none⟩ = some (.string (nmB nx)) ∧ (w1.alloc o).cell? ⟨W.heap.size, 1, none⟩ = some (.bool nu) ∧ (w1.alloc o).cell? ⟨W.heap.size, 2, none⟩ = some (.int .i64 3) ∧ (w1.alloc o).cell? ⟨W.heap.size, 3, none⟩ = some (.int .i64 0) ∧ (w1.alloc o).cell? ⟨W.heap.size, 4, none⟩ = some (.int .i64 0) ∧ (w1.alloc o).cell? ⟨W.heap.size, 5, none⟩ = some (.int .i64 0) ∧ (w1.alloc o).cell? ⟨W.heap.size, 6, none⟩ = some (.slice ao 0 ca) ∧ (w1.alloc o).cell? ⟨W.heap.size + 1, 0, none⟩ = some (.int .i64 L) ∧ (w1.alloc o).cell? ⟨W.heap.size + 1, 1, none⟩ = some (.int .i64 N) ∧ (w1.alloc o).cell? ⟨W.heap.size + 1, 2, none⟩ = some (.int .i64 0)) := fun o => HS.out _ (HG1.out.alloc o); clear g1))
  go_wp2_with fail
  go_ret
  have h1 := HG.out.size
  have h2 := HG1.out.size
  exact ⟨_, rfl, (HG.out.trans HG1.out (fun _ _ h => h)).alloc _, by omega, heap_alloc_new _ _⟩
end Go.Proofs.YteggcdhibcjneaaGreatDoor.Kit
namespace Go.Proofs.YteggcdhibcjneaaGreatDoor.Kit
variable {nx : Bool}
open Go.RowKit Go.Shelf Go.Deep
open Go.Proofs.YteggcdhibcjneaaGreatDoor.Kd (Ans AnsV cell5 cell2)
open Go.Proofs.YteggcdhibcjneaaGreatDoor.Ink (OwnRow)
set_option linter.unusedVariables false
set_option linter.unusedSimpArgs false
attribute [local go_sem] run_store_func

theorem tooMany66 (r n c : Nat) (W : World) (h : ∀ k, k < n → ∃ (o : Option Addr) (l cc : Nat), W.cell? ⟨r, k, none⟩ = some (.slice o l cc) ∧ l ≤ 65536) (hn : n ≤ 1000) :
    Calls Tryz.prog 110 #[.slice (some ⟨r, 0, none⟩) n c] W fun e w' => e = .returned (.tuple #[.int .i64 0, .int .i64 0]) ∧ w' = W := by
  have H := hidM h
  clear h
  go_enter Tryz.func110, Tryz.ntmps110
  go_wp2_with fail
  go_loopw [8] (fun i wr => ∃ k : Nat, k ≤ n ∧ i = .int .i64 k ∧ wr = W) (fun i _ => n - (intOf i).toNat)
  case atStart => exact ⟨0, by omega, rfl, rfl⟩
  case round =>
    obtain ⟨k, hk, rfl, rfl⟩ := hrel
    by_cases hlt : k < n
    · obtain ⟨o, l, cc, c1, hl⟩ := H.out k hlt
      have hl' : ¬ ((65536 : Int) < (l : Int)) := by omega
      go_wp2_with fail
      go_roundw
      case rel => exact ⟨k + 1, by omega, by go_num, trivial⟩
      case measure => simp [intOf]; omega
    · obtain rfl : k = n := by omega
      go_wp2_with fail
      go_ret2
      exact ⟨rfl, rfl⟩
end Go.Proofs.YteggcdhibcjneaaGreatDoor.Kit
namespace Go.Proofs.YteggcdhibcjneaaGreatDoor.Kit
variable {nx : Bool}
open Go.RowKit Go.Shelf Go.Deep
open Go.Proofs.YteggcdhibcjneaaGreatDoor.Kd (Ans AnsV cell5 cell2)
open Go.Proofs.YteggcdhibcjneaaGreatDoor.Ink (OwnRow)
set_option linter.unusedVariables false
set_option linter.unusedSimpArgs false
attribute [local go_sem] run_store_func

theorem results_tmp3' {fn : Func} {t u v : Tmp} (h : fn.results = #[.tmp t, .tmp u, .tmp v]) (tmps : Array Value) (P : Program) (w : World) :
    (results fn tmps).run P w = .ok (.tuple #[tmps.getD t undef, tmps.getD u undef, tmps.getD v undef]) w := by
  simp [results, h]
theorem shape91 (ao : Option Addr) (ca : Nat) (W : World) (hT : Tab W) : Calls Tryz.prog 129 #[.agg #[.int .i64 3, .int .i64 0, .int .i64 0, .int .i64 0, .slice ao 0 ca]] W fun e w' => e = .returned (.tuple #[.int .i64 2, .int .i64 0, .int .i64 0]) ∧ Gr W w' := by
  obtain ⟨A, hA⟩ : ∃ A, W.alloc (.cells #[.int .i64 3, .int .i64 0, .int .i64 0, .int .i64 0, .slice ao 0 ca] 45) = A := ⟨_, rfl⟩
  have gA : Gr W A := by rw [← hA]; exact gr_alloc W _
  have hb : A.heap[W.heap.size]? = some (.cells #[.int .i64 3, .int .i64 0, .int .i64 0, .int .i64 0, .slice ao 0 ca] 45) := by rw [← hA]; exact heap_alloc_new W _
  have hS : ∀ u, Gr A u → u.cell? ⟨W.heap.size, 0, none⟩ = some (.int .i64 3) ∧ u.cell? ⟨W.heap.size, 4, none⟩ = some (.slice ao 0 ca) ∧ u.cell? ⟨0, 17, none⟩ = some (.int .i64 2) := fun u g => by
    obtain ⟨p0, -, -, -, p4⟩ := cell5 ((g.block _ (lt_of_heap hb) id).trans hb)
    exact ⟨p0, p4, ((hT.gr (gA.trans g (fun _ _ h => h))).2 3 (by decide)).c2⟩
  obtain ⟨e0, e1, e2, e3, e4⟩ := cell5 hb
  have HS := hidM hS
  have HG := hidM gA
  have HT := hidM (hT.gr gA)
  clear gA hb hS hT
  go_enter Tryz.func129, Tryz.ntmps129
  go_wp2_with (go_at_call 151; refine (typeMayBe83 ao ca _ HT.out).mono ?_; rintro e w1 ⟨rfl, g1⟩; have HG1 := hidM g1; have HS0 := hidM (HS.out w1.drew (g1.trans gr_drew (fun _ _ h => h))); clear g1 hA e0 e1 e2 e3 e4)
  go_region_held3 (fun u => u.cell? ⟨W.heap.size, 0, none⟩ = some (.int .i64 3) ∧ u.cell? ⟨W.heap.size, 4, none⟩ = some (.slice ao 0 ca) ∧ u.cell? ⟨0, 17, none⟩ = some (.int .i64 2)) (with_reducible exact HS0.out) (fail)
  obtain ⟨f0, f4, -⟩ := HS0.out
  go_wp2_with fail
  (try simp only [Exit.inBlock, Exit.then])
  refine bodyPost_ret (results_tmp3' rfl _ _ _) rfl ?_
  exact ⟨rfl, (HG.out.trans HG1.out (fun _ _ h => h)).trans gr_drew (fun _ _ h => h)⟩
theorem sum92 (z c a b : Nat) (W : World) (h0 : W.cell? ⟨z, 0, none⟩ = some (.int .i64 a)) (h1 : W.cell? ⟨z, 1, none⟩ = some (.int .i64 b)) (ha : a ≤ 1000000) (hb : b ≤ 1000000) :
    Calls Tryz.prog 130 #[.slice (some ⟨z, 0, none⟩) 2 c] W fun e w' => e = .returned (.tuple #[.int .i64 ((a + b : Nat) : Int), .bool true]) ∧ w' = W := by
  have H0 := hidM h0
  have H1 := hidM h1
  clear h0 h1
  go_enter Tryz.func130, Tryz.ntmps130
  go_wp2_with fail
  go_loopw [9, 4] (fun i s wr => ∃ k : Nat, k ≤ 2 ∧ i = .int .i64 k ∧ s = .int .i64 (if k = 0 then ((0 : Nat) : Int) else if k = 1 then (a : Int) else ((a + b : Nat) : Int)) ∧ wr = W) (fun i _ _ => 2 - (intOf i).toNat)
  case atStart => exact ⟨0, by omega, rfl, rfl, rfl⟩
  case round =>
    obtain ⟨k, hk, rfl, rfl, rfl⟩ := hrel
    have hk3 : k = 0 ∨ k = 1 ∨ k = 2 := by omega
    rcases hk3 with rfl | rfl | rfl
    · have c0 := H0.out
      have w0 : ¬ ((a : Int) < 0) := by omega
      have w1 : ¬ ((9223372036854775807 : Int) < (a : Int)) := by omega
      simp only [if_pos rfl]
      go_wp2_with fail
      go_roundw
      case rel => exact ⟨1, by omega, by go_num, by simp; try (rw [IntKind.wrap_i64]; omega), trivial⟩
      case measure => simp [intOf]
    · have c0 := H1.out
      have w0 : ¬ ((b : Int) < 0) := by omega
      have wr1 : IntKind.i64.wrap (9223372036854775807 - (a : Int)) = 9223372036854775807 - (a : Int) := by rw [IntKind.wrap_i64]; omega
      have w1 : ¬ ((9223372036854775807 : Int) - (a : Int) < (b : Int)) := by omega
      have wr2 : IntKind.i64.wrap ((a : Int) + (b : Int)) = ((a + b : Nat) : Int) := by rw [IntKind.wrap_i64]; omega
      go_wp2_with fail
      go_roundw
      case rel => exact ⟨2, by omega, by go_num, by simp, trivial⟩
      case measure => simp [intOf]
    · go_wp2_with fail
      go_ret2
      exact ⟨by simp, rfl⟩
end Go.Proofs.YteggcdhibcjneaaGreatDoor.Kit
namespace Go.Proofs.YteggcdhibcjneaaGreatDoor.Kit
variable {nx : Bool}
open Go.RowKit Go.Shelf Go.Deep
open Go.Proofs.YteggcdhibcjneaaGreatDoor.Kd (Ans AnsV cell5 cell2)
open Go.Proofs.YteggcdhibcjneaaGreatDoor.Ink (OwnRow)
set_option linter.unusedVariables false
set_option linter.unusedSimpArgs false
attribute [local go_sem] run_store_func

theorem wrongShape64 (ao : Option Addr) (ca L N : Nat) (bo : Option Addr) (bc : Nat) (W : World) (hT : Tab W) : Calls Tryz.prog 108 #[.agg #[.int .i64 3, .int .i64 0, .int .i64 0, .int .i64 0, .slice ao 0 ca], .agg (dCo L N (.slice bo 2 bc))] W fun e w' => e = .returned (.int .i64 0) ∧ Gr W w' := by
  obtain ⟨A, hA⟩ : ∃ A, (W.alloc (.cells #[.int .i64 3, .int .i64 0, .int .i64 0, .int .i64 0, .slice ao 0 ca] 45)).alloc (.cells (dCo L N (.slice bo 2 bc)) 50) = A := ⟨_, rfl⟩
  have gA : Gr W A := by rw [← hA]; exact (gr_alloc W _).trans (gr_alloc _ _) (fun _ _ h => h)
  have hb2 : A.heap[W.heap.size + 1]? = some (.cells (dCo L N (.slice bo 2 bc)) 50) := by
    have e2 := heap_alloc_new (W.alloc (.cells #[.int .i64 3, .int .i64 0, .int .i64 0, .int .i64 0, .slice ao 0 ca] 45)) (.cells (dCo L N (.slice bo 2 bc)) 50)
    rw [show (W.alloc (.cells #[.int .i64 3, .int .i64 0, .int .i64 0, .int .i64 0, .slice ao 0 ca] 45)).heap.size = W.heap.size + 1 by simp, hA] at e2
    exact e2
  have hb1 : A.heap[W.heap.size]? = some (.cells #[.int .i64 3, .int .i64 0, .int .i64 0, .int .i64 0, .slice ao 0 ca] 45) := by
    have e1 := heap_alloc_new W (.cells #[.int .i64 3, .int .i64 0, .int .i64 0, .int .i64 0, .slice ao 0 ca] 45)
    rw [← hA]
    exact ((gr_alloc _ _).block _ (lt_of_heap e1) id).trans e1
  obtain ⟨e0, e1, e2, e3, e4⟩ := cell5 hb1
  have HB2 := hidM hb2
  have HG := hidM gA
  have HT := hidM (hT.gr gA)
  clear gA hb1 hb2 hT
  unfold dCo at hA ⊢
  go_enter Tryz.func108, Tryz.ntmps108
  go_wp2_with (go_at_call 129; refine (shape91 ao ca _ HT.out).mono ?_; rintro e w1 ⟨rfl, g1⟩; have HG1 := hidM g1; obtain ⟨d0, d1, d2, d3, d4, d5⟩ := cell6 ((g1.block _ (lt_of_heap HB2.out) id).trans HB2.out); clear g1 hA e0 e1 e2 e3 e4)
  go_ret
  exact ⟨rfl, HG.out.trans HG1.out (fun _ _ h => h)⟩
theorem cellN {W : World} {q : Nat} {nu : Bool} {ao : Option Addr} {ca : Nat} {L N : Int} {bv : Value} (h : W.heap[q]? = some (.cells (ndC nx nu ao ca L N bv) 143)) : W.cell? ⟨q, 8, none⟩ = some (.int .i64 L) ∧ W.cell? ⟨q, 9, none⟩ = some (.int .i64 N) ∧ W.cell? ⟨q, 10, none⟩ = some (.int .i64 0) := by
  refine ⟨?_, ?_, ?_⟩ <;> simp [World.cell?, h, ndC]
theorem wrongNumbers65 (q : Nat) (nu : Bool) (ao : Option Addr) (ca L N : Nat) (bv : Value) (W : World) (h : W.heap[q]? = some (.cells (ndC nx nu ao ca L N bv) 143)) (hL : L ≤ 2000) (hN : N ≤ 2000) : Calls Tryz.prog 109 #[.pointer (some ⟨q, 0, none⟩)] W fun e w' => e = .returned (.int .i64 0) ∧ Gr W w' := by
  have hS : ∀ u, Gr W u → u.cell? ⟨q, 8, none⟩ = some (.int .i64 L) ∧ u.cell? ⟨q, 9, none⟩ = some (.int .i64 N) ∧ u.cell? ⟨q, 10, none⟩ = some (.int .i64 0) := fun u g => cellN ((g.block _ (lt_of_heap h) id).trans h)
  have HS := hidM hS
  have HS0 := hidM (hS W.drew gr_drew)
  have b1 : ¬ ((L : Int) < 0) := by omega
  have b2 : ¬ ((N : Int) < 0) := by omega
  have b4 : ¬ ((4096 : Int) < ((L + N : Nat) : Int)) := by omega
  have gdd : Gr W W.drew.drew := Keeps.trans gr_drew gr_drew (fun _ _ h => h)
  have HS1 := hidM (hS W.drew.drew gdd)
  have HS2 : Hid (∀ o, (W.drew.drew.alloc o).cell? ⟨q, 8, none⟩ = some (.int .i64 L) ∧ (W.drew.drew.alloc o).cell? ⟨q, 9, none⟩ = some (.int .i64 N) ∧ (W.drew.drew.alloc o).cell? ⟨q, 10, none⟩ = some (.int .i64 0)) := fun o => hS _ (gdd.alloc o)
  have HGd := hidM gdd
  have HC : Hid (Calls Tryz.prog 130 #[.slice (some ⟨W.drew.drew.heap.size, 0, none⟩) 2 2] (W.drew.drew.alloc (.cells #[.int .i64 L, .int .i64 N] 3)) fun e w' => e = .returned (.tuple #[.int .i64 ((L + N : Nat) : Int), .bool true]) ∧ w' = W.drew.drew.alloc (.cells #[.int .i64 L, .int .i64 N] 3)) := by
    have hh := heap_alloc_new W.drew.drew (.cells #[.int .i64 L, .int .i64 N] 3)
    obtain ⟨z0, z1⟩ := cell2 hh
    have h := sum92 W.drew.drew.heap.size 2 L N _ z0 z1 (by omega) (by omega)
    exact h
  clear h hS gdd
  go_enter Tryz.func109, Tryz.ntmps109
  go_wp2_with fail
  go_region_held3 (fun u => u.cell? ⟨q, 8, none⟩ = some (.int .i64 L) ∧ u.cell? ⟨q, 9, none⟩ = some (.int .i64 N) ∧ u.cell? ⟨q, 10, none⟩ = some (.int .i64 0)) (with_reducible exact HS0.out) (fail)
  go_wp2_with fail
  go_region_held3 (fun u => u.cell? ⟨q, 8, none⟩ = some (.int .i64 L) ∧ u.cell? ⟨q, 9, none⟩ = some (.int .i64 N) ∧ u.cell? ⟨q, 10, none⟩ = some (.int .i64 0)) (first | with_reducible exact HS1.out | exact HS2.out _) ((go_at_call 130; refine HC.out.mono ?_; rintro e w2 ⟨rfl, rfl⟩))
  go_wp2_with fail
  go_ret
  exact ⟨rfl, HGd.out.alloc _⟩
end Go.Proofs.YteggcdhibcjneaaGreatDoor.Kit
namespace Go.Proofs.YteggcdhibcjneaaGreatDoor.Kit
variable {nx : Bool}
open Go.RowKit Go.Shelf Go.Deep
open Go.Proofs.YteggcdhibcjneaaGreatDoor.Kd (Ans AnsV cell5 cell2)
open Go.Proofs.YteggcdhibcjneaaGreatDoor.Ink (OwnRow)
set_option linter.unusedVariables false
set_option linter.unusedSimpArgs false
attribute [local go_sem] run_store_func

theorem kind118 (q : Nat) (nu : Bool) (ao : Option Addr) (ca : Nat) (L N : Int) (bv : Value) (W : World) (h : W.heap[q]? = some (.cells (ndC nx nu ao ca L N bv) 143)) : Calls Tryz.prog 154 #[.pointer (some ⟨q, 0, none⟩)] W fun e w' => e = .returned (.int .i64 3) ∧ w' = W := by
  have c2 : W.cell? ⟨q, 2, none⟩ = some (.int .i64 3) := by simp [World.cell?, h, ndC]
  clear h
  go_enter Tryz.func154, Tryz.ntmps154
  go_wp2_with fail
  go_ret
  exact ⟨rfl, rfl⟩
theorem masked97 (q : Nat) (nu : Bool) (ao : Option Addr) (ca : Nat) (L N : Int) (bv : Value) (W : World) (h : W.heap[q]? = some (.cells (ndC nx nu ao ca L N bv) 143)) : Calls Tryz.prog 135 #[.pointer (some ⟨q, 0, none⟩)] W fun e w' => e = .returned (.bool true) ∧ w' = W := by
  have HC := hidM (kind118 q nu ao ca L N bv W h)
  clear h
  go_enter Tryz.func135, Tryz.ntmps135
  go_wp2_with (go_at_call 154; refine HC.out.mono ?_; rintro e w2 ⟨rfl, rfl⟩)
  go_ret
  exact ⟨rfl, rfl⟩
theorem end96 (q : Nat) (nu : Bool) (ao : Option Addr) (ca L N : Nat) (bv : Value) (W : World) (h : W.heap[q]? = some (.cells (ndC nx nu ao ca L N bv) 143)) (hL : L ≤ 2000) (hN : N ≤ 2000) : Calls Tryz.prog 134 #[.pointer (some ⟨q, 0, none⟩)] W fun e w' => e = .returned (.int .i64 ((N : Int) + (L : Int))) ∧ w' = W.drew := by
  obtain ⟨a1, a2, a3⟩ := cellN h
  have HS0 : Hid (W.drew.cell? ⟨q, 8, none⟩ = some (.int .i64 L) ∧ W.drew.cell? ⟨q, 9, none⟩ = some (.int .i64 N)) := ⟨a1, a2⟩
  have hw : IntKind.i64.wrap ((N : Int) + (L : Int)) = (N : Int) + (L : Int) := by rw [IntKind.wrap_i64]; omega
  clear h a1 a2 a3
  go_enter Tryz.func134, Tryz.ntmps134
  go_wp2_with fail
  go_region_held3 (fun u => u.cell? ⟨q, 8, none⟩ = some (.int .i64 L) ∧ u.cell? ⟨q, 9, none⟩ = some (.int .i64 N)) (with_reducible exact HS0.out) (fail)
  go_wp2_with fail
  go_ret
  exact ⟨rfl, rfl⟩
end Go.Proofs.YteggcdhibcjneaaGreatDoor.Kit
namespace Go.Proofs.YteggcdhibcjneaaGreatDoor.Kit
variable {nx : Bool}
open Go.RowKit Go.Shelf Go.Deep
open Go.Proofs.YteggcdhibcjneaaGreatDoor.Kd (Ans AnsV cell5 cell2)
open Go.Proofs.YteggcdhibcjneaaGreatDoor.Ink (OwnRow)
set_option linter.unusedVariables false
set_option linter.unusedSimpArgs false
attribute [local go_sem] run_store_func

theorem results_cell236 {fn : Func} {t : Tmp} {tmps : Array Value} {g : Nat} {cs : Array Value} {w : World} (h : fn.results = #[.cell t 247]) (ht : tmps.getD t undef = .pointer (some ⟨g, 0, none⟩)) (hg : w.heap[g]? = some (.cells cs 247 (0, 0))) (hi : (Tryz.prog.info? 247).map (·.size) = some cs.size) :
    (results fn tmps).run Tryz.prog w = .ok (.agg cs) w := by
  have hl := run_loadVar_row (P := Tryz.prog) w g 247 247 cs (0, 0) _ hg Tryz.underlying247 rfl hi
  unfold results
  rw [h]
  simp only [Array.mapM_eq_mapM_toList, List.mapM_cons, List.mapM_nil, ht]
  simp [asAddr, hl]
theorem viewOf93 (vo : Option Addr) (n vc : Nat) (W : World) : Calls Tryz.prog 131 #[.slice vo n vc] W fun e w' => e = .returned (.agg #[.slice vo n vc, .int .i64 0, .pointer none]) ∧ Gr W w' := by
  have HB := hidM (heap_alloc_new W (.cells #[.slice vo n vc, .int .i64 0, .pointer none] 247))
  go_enter Tryz.func131, Tryz.ntmps131
  go_wp2_with fail
  (try simp only [Exit.inBlock, Exit.then])
  refine bodyPost_ret (results_cell236 rfl rfl (by with_reducible exact HB.out) (by kernel_rfl)) rfl ?_
  exact ⟨rfl, gr_alloc _ _⟩
theorem len100 (vo : Option Addr) (n vc : Nat) (W : World) : Calls Tryz.prog 138 #[.agg #[.slice vo n vc, .int .i64 0, .pointer none]] W fun e w' => e = .returned (.int .i64 n) ∧ Gr W w' := by
  go_enter Tryz.func138, Tryz.ntmps138
  go_wp2_with fail
  go_ret
  exact ⟨rfl, gr_alloc _ _⟩
end Go.Proofs.YteggcdhibcjneaaGreatDoor.Kit
namespace Go.Proofs.YteggcdhibcjneaaGreatDoor.Kit
variable {nx : Bool}
open Go.RowKit Go.Shelf Go.Deep
open Go.Proofs.YteggcdhibcjneaaGreatDoor.Kd (Ans AnsV cell5 cell2)
open Go.Proofs.YteggcdhibcjneaaGreatDoor.Ink (OwnRow)
set_option linter.unusedVariables false
set_option linter.unusedSimpArgs false
attribute [local go_sem] run_store_func

theorem grow124 (W : World) : Calls Tryz.prog 167 #[.slice none 0 0, .int .i64 0] W fun e w' => e = .returned (.slice none 0 0) ∧ w' = W := by
  go_enter Tryz.func167, Tryz.ntmps167
  go_wp2_with fail
  go_ret
  exact ⟨rfl, rfl⟩
theorem parts116 (ao : Option Addr) (ca : Nat) (W : World) (hT : Tab W) (h37 : ∀ u, Gr W u → Calls Tryz.prog 77 #[.slice ao 0 ca] u fun e w' => ∃ vo vc, e = .returned (.slice vo 0 vc) ∧ Gr u w') : Calls Tryz.prog 152 #[.agg #[.int .i64 3, .int .i64 0, .int .i64 0, .int .i64 0, .slice ao 0 ca]] W fun e w' => ∃ vo vc, e = .returned (.slice vo 0 vc) ∧ Gr W w' := by
  obtain ⟨A, hA⟩ : ∃ A, W.alloc (.cells #[.int .i64 3, .int .i64 0, .int .i64 0, .int .i64 0, .slice ao 0 ca] 45) = A := ⟨_, rfl⟩
  have gA : Gr W A := by rw [← hA]; exact gr_alloc W _
  have hb : A.heap[W.heap.size]? = some (.cells #[.int .i64 3, .int .i64 0, .int .i64 0, .int .i64 0, .slice ao 0 ca] 45) := by rw [← hA]; exact heap_alloc_new W _
  obtain ⟨e0, e1, e2, e3, e4⟩ := cell5 hb
  have HB := hidM hb
  have HG := hidM gA
  have HT := hidM (hT.gr gA)
  have H37 := hidM h37
  clear gA hb hT h37
  go_enter Tryz.func152, Tryz.ntmps152
  go_wp2_with (first
    | (go_at_call 151; refine (typeMayBe83 ao ca _ HT.out).mono ?_; rintro e w1 ⟨rfl, g1⟩; have HG1 := hidM (HG.out.trans g1 (fun _ _ h => h)); clear hA e0 e1 e2 e3 e4; obtain ⟨e0, e1, e2, e3, e4⟩ := cell5 ((g1.block _ (lt_of_heap HB.out) id).trans HB.out); have HB1 := hidM ((g1.block _ (lt_of_heap HB.out) id).trans HB.out); clear g1)
    | (go_at_call 77; refine (H37.out _ HG1.out).mono ?_; rintro e w2 ⟨vo, vc, rfl, g2⟩; have HG2 := hidM (HG1.out.trans g2 (fun _ _ h => h)); clear e0 e1 e2 e3 e4; obtain ⟨e0, e1, e2, e3, e4⟩ := cell5 ((g2.block _ (lt_of_heap HB1.out) id).trans HB1.out); clear g2))
  go_ret
  exact ⟨vo, vc, rfl, HG2.out⟩
theorem partFields94 (ao : Option Addr) (ca : Nat) (W : World) (hT : Tab W) (h37 : ∀ u, Gr W u → Calls Tryz.prog 77 #[.slice ao 0 ca] u fun e w' => ∃ vo vc, e = .returned (.slice vo 0 vc) ∧ Gr u w') : Calls Tryz.prog 132 #[.agg #[.int .i64 3, .int .i64 0, .int .i64 0, .int .i64 0, .slice ao 0 ca]] W fun e w' => ∃ vo vc, e = .returned (.slice vo 0 vc) ∧ Gr W w' := by
  obtain ⟨A, hA⟩ : ∃ A, W.alloc (.cells #[.int .i64 3, .int .i64 0, .int .i64 0, .int .i64 0, .slice ao 0 ca] 45) = A := ⟨_, rfl⟩
  have gA : Gr W A := by rw [← hA]; exact gr_alloc W _
  have hb : A.heap[W.heap.size]? = some (.cells #[.int .i64 3, .int .i64 0, .int .i64 0, .int .i64 0, .slice ao 0 ca] 45) := by rw [← hA]; exact heap_alloc_new W _
  obtain ⟨e0, e1, e2, e3, e4⟩ := cell5 hb
  have HG := hidM gA
  have HC := hidM (parts116 ao ca A (hT.gr gA) (fun u g => h37 u (gA.trans g (fun _ _ h => h))))
  clear gA hb hT h37
  go_enter Tryz.func132, Tryz.ntmps132
  go_wp2_with (go_at_call 152; refine HC.out.mono ?_; rintro e w2 ⟨vo, vc, rfl, g2⟩; have HG2 := hidM (HG.out.trans g2 (fun _ _ h => h)); clear g2)
  go_ret
  exact ⟨vo, vc, rfl, HG2.out⟩
end Go.Proofs.YteggcdhibcjneaaGreatDoor.Kit
namespace Go.Proofs.YteggcdhibcjneaaGreatDoor.Kit
variable {nx : Bool}
open Go.RowKit Go.Shelf Go.Deep
open Go.Proofs.YteggcdhibcjneaaGreatDoor.Kd (Ans AnsV cell5 cell2)
open Go.Proofs.YteggcdhibcjneaaGreatDoor.Ink (OwnRow)
set_option linter.unusedVariables false
set_option linter.unusedSimpArgs false
attribute [local go_sem] run_store_func

theorem copied37 (ao : Option Addr) (ca : Nat) (W : World) : Calls Tryz.prog 77 #[.slice ao 0 ca] W fun e w' => ∃ vo vc, e = .returned (.slice vo 0 vc) ∧ Gr W w' := by
  refine (Kd.copied_any 0 (fun _ => False) W ao ca [] rfl (fun _ h => h.elim)).mono ?_
  rintro e w' ⟨vo, vc, he, hq⟩
  exact ⟨vo, vc, he, hq.1⟩
theorem info29 : (Tryz.prog.info? 50).map (fun i => (i.zero, i.size, i.bytes)) = some (some (.agg (dCo 0 0 (.slice none 0 0))), 6, 96) := by kernel_rfl
theorem cz31 : (Value.agg (dCo 0 0 (.slice none 0 0))).cells.size = 6 := by kernel_rfl
theorem concat117 (z c : Nat) (W : World) (h0 : W.cell? ⟨z, 0, none⟩ = some (.slice none 0 0)) (h1 : W.cell? ⟨z, 1, none⟩ = some (.slice none 0 0)) :
    Calls Tryz.prog 153 #[.slice (some ⟨z, 0, none⟩) 2 c] W fun e w' => ∃ uo uc, e = .returned (.slice uo 0 uc) ∧ Gr W w' := by
  have H : Hid (∀ k, k < 2 → W.cell? ⟨z, k, none⟩ = some (.slice none 0 0)) := fun k hk => by
    have : k = 0 ∨ k = 1 := by omega
    rcases this with rfl | rfl
    · exact h0
    · exact h1
  clear h0 h1
  go_enter Tryz.func153, Tryz.ntmps153
  go_wp2_with fail
  go_loopw [11, 3] (fun i s wr => ∃ k : Nat, k ≤ 2 ∧ i = .int .i64 k ∧ s = .int .i64 0 ∧ wr = W) (fun i _ _ => 2 - (intOf i).toNat)
  case atStart => exact ⟨0, by omega, rfl, rfl, rfl⟩
  case round =>
    obtain ⟨k, hk, rfl, rfl, rfl⟩ := hrel
    by_cases hlt : k < 2
    · have c1 := H.out k hlt
      go_wp2_with fail
      go_roundw
      case rel => exact ⟨k + 1, by omega, by go_num, by simp, trivial⟩
      case measure => simp [intOf]; omega
    · obtain rfl : k = 2 := by omega
      go_wp2_with (go_at_call 167; refine (grow124 _).mono ?_; rintro e w2 ⟨rfl, rfl⟩)
      go_loopw [27, 6] (fun i s wr => ∃ (k : Nat) (uo : Option Addr) (uc : Nat), k ≤ 2 ∧ i = .int .i64 k ∧ s = .slice uo 0 uc ∧ Hid (wr.ownsRow 0 50 6 (.slice uo 0 uc) 0 [] ∧ Gr w2 wr ∧ ∀ g, (Value.slice uo 0 uc).ownBlock = some g → w2.heap.size ≤ g)) (fun i _ _ => 2 - (intOf i).toNat)
      case atStart => exact ⟨0, none, 0, by omega, rfl, rfl, ⟨rfl, .inl ⟨rfl, rfl⟩⟩, Keeps.refl _ _, fun g e => by simp [Value.ownBlock] at e⟩
      case round =>
        obtain ⟨k, uo, uc, hk, rfl, rfl, HI⟩ := hrel
        obtain ⟨ho, hg, hl⟩ := HI.out
        have HO := hidM ho
        have HG := hidM hg
        have HL := hidM hl
        clear ho hg hl HI
        by_cases hlt : k < 2
        · have c1 := HG.out.cell' (H.out k hlt) id
          go_wp2_with (at_builtin; refine Hid.out ?_)
          unfold Hid
          refine wpList_append_anyN (P := Tryz.prog) wr rfl (.tmp 31) (.tmp 32) 31 31 rfl 50 (.agg (dCo 0 0 (.slice none 0 0))) 6 96 Tryz.underlying31 info29 cz31 (.slice uo 0 uc) 0 [] rfl HO.out (.slice none 0 0) 0 [] rfl (Src.ofNil (w := wr) Tryz.underlying31 0) (by omega) (by omega) ?_
          intro v' w3 ha1 ha2 ha3
          obtain ⟨ko, kc, rfl⟩ := own_formN ha1
          have HN : Hid (w3.ownsRow 0 50 6 (.slice ko 0 kc) 0 [] ∧ Gr w2 w3 ∧ ∀ g, (Value.slice ko 0 kc).ownBlock = some g → w2.heap.size ≤ g) := by
            refine ⟨ha1, HG.out.trans (Keeps.ofGrown ha2) (fun j hj e => ?_), fun g e => ?_⟩
            · have := HL.out j e
              omega
            · rcases ha3 with e2 | e2
              · exact HL.out g (e2 ▸ e)
              · exact Nat.le_trans HG.out.size (e2 g e)
          clear ha1 ha2 ha3 c1
          go_wp2_with fail
          go_roundw
          case rel => exact ⟨k + 1, ko, kc, by omega, by go_num, rfl, HN⟩
          case measure => simp [intOf]; omega
        · obtain rfl : k = 2 := by omega
          go_wp2_with fail
          go_ret
          exact ⟨uo, uc, rfl, HG.out⟩
end Go.Proofs.YteggcdhibcjneaaGreatDoor.Kit
