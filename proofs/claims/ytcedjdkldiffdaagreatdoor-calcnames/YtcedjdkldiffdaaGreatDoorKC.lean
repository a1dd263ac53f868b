import Derived.Test.YtcedjdkldiffdaaGreatDoorKB
set_option maxRecDepth 100000
set_option maxHeartbeats 4000000
namespace Go.Proofs.YtcedjdkldiffdaaGreatDoor.Kit
open Go.RowKit Go.Shelf Go.Deep
open Go.Proofs.YtcedjdkldiffdaaGreatDoor.Kd (Ans AnsV cell5 cell2)
open Go.Proofs.YtcedjdkldiffdaaGreatDoor.Ink (OwnRow)
set_option linter.unusedVariables false
set_option linter.unusedSimpArgs false
attribute [local go_sem] run_store_func
theorem mk58 (w : World) : (Instr.makeSlice 58 (.int .i64 2) (.int .i64 2)).run Tryz.prog w = .ok (.slice (some ⟨w.heap.size, 0, none⟩) 2 2) (w.alloc (.cells #[.int .i64 0, .int .i64 0, .int .i64 0, .int .i64 0, .slice none 0 0, .int .i64 0, .int .i64 0, .int .i64 0, .int .i64 0, .slice none 0 0] 25)) := by kernel_rfl
def fdZ : Array Value := #[.string ⟨#[]⟩, .bool false, .int .i64 0, .int .i64 0, .int .i64 0, .int .i64 0, .slice none 0 0]
/-- a field of numbers stored into its cells -/
def fdU (w : World) (b : Nat) : World := setAll w b [(0, .string nmA), (1, .bool false), (2, .int .i64 3), (3, .int .i64 0), (4, .int .i64 0), (5, .int .i64 0), (6, .slice none 0 0)]
theorem fd_blk {w : World} {b : Nat} (h : w.heap[b]? = some (.cells fdZ 27)) : (fdU w b).heap[b]? = some (.cells fdC 27) := by
  unfold fdU
  rw [setAll_blk b 27 _ _ _ h]
  simp [setsA, fdZ, fdC]
def tyK (k : Nat) : Array Value := if k = 0 then #[.int .i64 0, .int .i64 0, .int .i64 0, .int .i64 0, .slice none 0 0, .int .i64 0, .int .i64 0, .int .i64 0, .int .i64 0, .slice none 0 0] else if k = 1 then #[.int .i64 3, .int .i64 0, .int .i64 0, .int .i64 0, .slice none 0 0, .int .i64 0, .int .i64 0, .int .i64 0, .int .i64 0, .slice none 0 0] else ty2
def t5U0 (w : World) (b : Nat) : World := setAll w b [(0, .int .i64 3), (1, .int .i64 0), (2, .int .i64 0), (3, .int .i64 0), (4, .slice none 0 0)]
def t5U1 (w : World) (b : Nat) : World := setAll w b [(5, .int .i64 3), (6, .int .i64 0), (7, .int .i64 0), (8, .int .i64 0), (9, .slice none 0 0)]
theorem t5_0 {w : World} {b : Nat} (h : w.heap[b]? = some (.cells (tyK 0) 25)) : (t5U0 w b).heap[b]? = some (.cells (tyK 1) 25) := by
  unfold t5U0
  rw [setAll_blk b 25 _ _ _ h]
  simp [setsA, tyK]
theorem t5_1 {w : World} {b : Nat} (h : w.heap[b]? = some (.cells (tyK 1) 25)) : (t5U1 w b).heap[b]? = some (.cells (tyK 2) 25) := by
  unfold t5U1
  rw [setAll_blk b 25 _ _ _ h]
  simp [setsA, tyK, ty2]
def PtI (W : World) (z k : Nat) (wr : World) : Prop := Keeps W wr (fun b => b = z) ∧ wr.heap[z]? = some (.cells (tyK k) 25)
theorem types18 (b c : Nat) (W : World) (hb : W.heap[b]? = some (.cells fd2 27)) : Calls Tryz.prog 18 #[.slice (some ⟨b, 0, none⟩) 2 c] W fun e w' => ∃ z, e = .returned (.slice (some ⟨z, 0, none⟩) 2 2) ∧ Gr W w' ∧ W.heap.size ≤ z ∧ w'.heap[z]? = some (.cells ty2 25) := by
  obtain ⟨z, hz⟩ : ∃ z, W.heap.size = z := ⟨_, rfl⟩
  obtain ⟨A, hA⟩ : ∃ A, W.alloc (.cells (tyK 0) 25) = A := ⟨_, rfl⟩
  have gA : Gr W A := by rw [← hA]; exact gr_alloc W _
  have hbA : A.heap[z]? = some (.cells (tyK 0) 25) := by rw [← hA, ← hz]; exact heap_alloc_new W _
  have nb : b ≠ z := by have := lt_of_heap hb; omega
  have HI0 : Hid (PtI W z 0 A) := ⟨gA.mono fun _ _ h => h.elim, hbA⟩
  have HB : Hid (∀ u, Keeps W u (fun b => b = z) → u.heap[b]? = some (.cells fd2 27)) := fun u g => (g.block b (lt_of_heap hb) nb).trans hb
  have HC : Hid (∀ u, Calls Tryz.prog 10 #[.agg #[.string nmA, .bool false, .int .i64 3, .int .i64 0, .int .i64 0, .int .i64 0, .slice none 0 0]] u fun e w' => e = .returned (.agg #[.int .i64 3, .int .i64 0, .int .i64 0, .int .i64 0, .slice none 0 0]) ∧ Gr u w') := plain10
  have HZ := hidM hz
  have hmk := mk58
  clear gA hbA nb hb
  simp only [tyK, if_pos] at hA
  go_enter Tryz.func18, Tryz.ntmps18
  go_wp2_with fail
  clear hA hz
  go_loopw [11] (fun i wr => ∃ k : Nat, k ≤ 2 ∧ i = .int .i64 k ∧ Hid (PtI W z k wr)) (fun i _ => 2 - (intOf i).toNat)
  case atStart => exact ⟨0, by omega, rfl, HI0⟩
  case round =>
    clear HI0 hmk
    obtain ⟨k, hk, rfl, HI⟩ := hrel
    have hk3 : k = 0 ∨ k = 1 ∨ k = 2 := by omega
    rcases hk3 with rfl | rfl | rfl
    · obtain ⟨⟨a0, a1, a2, a3, a4, a5, a6⟩, -⟩ := cell14 (HB.out wr HI.out.1)
      obtain ⟨A2, hA2⟩ : ∃ A2, wr.alloc (.cells fdZ 27) = A2 := ⟨_, rfl⟩
      have g2 : Gr wr A2 := by rw [← hA2]; exact gr_alloc wr _
      have b2 : A2.heap[wr.heap.size]? = some (.cells fdZ 27) := by rw [← hA2]; exact heap_alloc_new wr _
      obtain ⟨y0, y1, y2, y3, y4, y5, y6⟩ := cell7 b2
      have z0 := frz b2 0
      have z1 := frz b2 1
      have z2 := frz b2 2
      have z3 := frz b2 3
      have z4 := frz b2 4
      have z5 := frz b2 5
      have z6 := frz b2 6
      have hV0 := fd_blk b2
      have gV0 : Gr wr (fdU A2 wr.heap.size) := g2.trans (setAll_kp _ _ _) (fun j hj e => by have e' : j = wr.heap.size := e; omega)
      obtain ⟨V, hV⟩ : ∃ V, fdU A2 wr.heap.size = V := ⟨_, rfl⟩
      rw [hV] at hV0 gV0
      simp only [fdU, setAll] at hV
      obtain ⟨v0, v1, v2, v3, v4, v5, v6⟩ := cell7 hV0
      have HT : Hid (∀ w2, Gr V w2 → w2.heap[z]? = some (.cells (tyK 0) 25) ∧ PtI W z 1 (t5U0 w2 z)) := fun w2 g => by
        have gw := gV0.trans g (fun _ _ h => h)
        have hz2 := (gw.block z (lt_of_heap HI.out.2) id).trans HI.out.2
        exact ⟨hz2, (HI.out.1.trans (gw.mono fun _ _ h => h.elim) (fun _ _ h => h)).trans (setAll_kp _ _ _) (fun _ _ h => h), t5_0 hz2⟩
      unfold fdZ at hA2
      clear g2 b2 hV0 gV0 HI
      go_wp2_with (go_at_call 10; refine (HC.out _).mono ?_; rintro e w2 ⟨rfl, g3⟩; obtain ⟨hz2, hp⟩ := HT.out w2 g3; clear g3 v0 v1 v2 v3 v4 v5 v6 y0 y1 y2 y3 y4 y5 y6 z0 z1 z2 z3 z4 z5 z6 hV hA2; obtain ⟨⟨c0, c1, c2, c3, c4⟩, -⟩ := cellT10 hz2; have x0 := frz hz2 0; have x1 := frz hz2 1; have x2 := frz hz2 2; have x3 := frz hz2 3; have x4 := frz hz2 4; obtain ⟨U, hU⟩ : ∃ U, t5U0 w2 z = U := ⟨_, rfl⟩; rw [hU] at hp; simp only [t5U0, setAll] at hU; have HP := hidM hp; clear hp hz2)
      go_roundw
      case rel => exact ⟨1, by omega, by go_num, HP⟩
      case measure => simp [intOf]
    · obtain ⟨-, a0, a1, a2, a3, a4, a5, a6⟩ := cell14 (HB.out wr HI.out.1)
      obtain ⟨A2, hA2⟩ : ∃ A2, wr.alloc (.cells fdZ 27) = A2 := ⟨_, rfl⟩
      have g2 : Gr wr A2 := by rw [← hA2]; exact gr_alloc wr _
      have b2 : A2.heap[wr.heap.size]? = some (.cells fdZ 27) := by rw [← hA2]; exact heap_alloc_new wr _
      obtain ⟨y0, y1, y2, y3, y4, y5, y6⟩ := cell7 b2
      have z0 := frz b2 0
      have z1 := frz b2 1
      have z2 := frz b2 2
      have z3 := frz b2 3
      have z4 := frz b2 4
      have z5 := frz b2 5
      have z6 := frz b2 6
      have hV0 := fd_blk b2
      have gV0 : Gr wr (fdU A2 wr.heap.size) := g2.trans (setAll_kp _ _ _) (fun j hj e => by have e' : j = wr.heap.size := e; omega)
      obtain ⟨V, hV⟩ : ∃ V, fdU A2 wr.heap.size = V := ⟨_, rfl⟩
      rw [hV] at hV0 gV0
      simp only [fdU, setAll] at hV
      obtain ⟨v0, v1, v2, v3, v4, v5, v6⟩ := cell7 hV0
      have HT : Hid (∀ w2, Gr V w2 → w2.heap[z]? = some (.cells (tyK 1) 25) ∧ PtI W z 2 (t5U1 w2 z)) := fun w2 g => by
        have gw := gV0.trans g (fun _ _ h => h)
        have hz2 := (gw.block z (lt_of_heap HI.out.2) id).trans HI.out.2
        exact ⟨hz2, (HI.out.1.trans (gw.mono fun _ _ h => h.elim) (fun _ _ h => h)).trans (setAll_kp _ _ _) (fun _ _ h => h), t5_1 hz2⟩
      unfold fdZ at hA2
      clear g2 b2 hV0 gV0 HI
      go_wp2_with (go_at_call 10; refine (HC.out _).mono ?_; rintro e w2 ⟨rfl, g3⟩; obtain ⟨hz2, hp⟩ := HT.out w2 g3; clear g3 v0 v1 v2 v3 v4 v5 v6 y0 y1 y2 y3 y4 y5 y6 z0 z1 z2 z3 z4 z5 z6 hV hA2; obtain ⟨-, c0, c1, c2, c3, c4⟩ := cellT10 hz2; have x0 := frz hz2 5; have x1 := frz hz2 6; have x2 := frz hz2 7; have x3 := frz hz2 8; have x4 := frz hz2 9; obtain ⟨U, hU⟩ : ∃ U, t5U1 w2 z = U := ⟨_, rfl⟩; rw [hU] at hp; simp only [t5U1, setAll] at hU; have HP := hidM hp; clear hp hz2)
      go_roundw
      case rel => exact ⟨2, by omega, by go_num, HP⟩
      case measure => simp [intOf]
    · have HE : Hid (Gr W wr ∧ W.heap.size ≤ z ∧ wr.heap[z]? = some (.cells ty2 25)) := ⟨HI.out.1.mono fun j hj e => by have e' : j = z := e; have := HZ.out; omega, Nat.le_of_eq HZ.out, HI.out.2⟩
      clear HI
      go_wp2_with fail
      go_ret
      exact ⟨z, rfl, HE.out⟩
theorem results_cell25t {fn : Func} {t u : Tmp} {tmps : Array Value} {g : Nat} {cs : Array Value} {w : World} (h : fn.results = #[.cell t 25, .tmp u]) (ht : tmps.getD t undef = .pointer (some ⟨g, 0, none⟩)) (hg : w.heap[g]? = some (.cells cs 25 (0, 0))) (hi : (Tryz.prog.info? 25).map (·.size) = some cs.size) :
    (results fn tmps).run Tryz.prog w = .ok (.tuple #[.agg cs, tmps.getD u undef]) w := by
  have hl := run_loadVar_row (P := Tryz.prog) w g 25 25 cs (0, 0) _ hg Tryz.underlying25 rfl hi
  unfold results
  rw [h]
  simp only [Array.mapM_eq_mapM_toList, List.mapM_cons, List.mapM_nil, ht]
  simp [asAddr, hl]
def t2U (w : World) (b : Nat) : World := setAll w b [(0, .int .i64 2), (1, .int .i64 0), (2, .int .i64 0), (3, .int .i64 0), (4, .slice none 0 0)]
theorem outcome17 (tb : Nat) (W : World) (hT : Tab W) (ht : W.heap[tb]? = some (.cells ty2 25)) : Calls Tryz.prog 17 #[.int .i64 3, .slice (some ⟨tb, 0, none⟩) 2 2] W fun e w' => e = .returned (.tuple #[.agg tyC, .bool true]) ∧ Gr W w' := by
  obtain ⟨A0, hA0⟩ : ∃ A0, W.alloc (.cells tyZ 25) = A0 := ⟨_, rfl⟩
  have g0 : Gr W A0 := by rw [← hA0]; exact gr_alloc W _
  have b0 : A0.heap[W.heap.size]? = some (.cells tyZ 25) := by rw [← hA0]; exact heap_alloc_new W _
  have z0 : A0.heap.size = W.heap.size + 1 := by rw [← hA0]; simp
  obtain ⟨A1, hA1⟩ : ∃ A1, A0.alloc (.cells tyZ 25) = A1 := ⟨_, rfl⟩
  have g1 : Gr A0 A1 := by rw [← hA1]; exact gr_alloc A0 _
  have b1 : A1.heap[A0.heap.size]? = some (.cells tyZ 25) := by rw [← hA1]; exact heap_alloc_new A0 _
  obtain ⟨y0, y1, y2, y3, y4⟩ := cell5 b1
  have x0 := frz b1 0
  have x1 := frz b1 1
  have x2 := frz b1 2
  have x3 := frz b1 3
  have x4 := frz b1 4
  obtain ⟨⟨a0, a1, a2, a3, a4⟩, -⟩ := cellT10 (((g0.trans g1 (fun _ _ h => h)).block tb (lt_of_heap ht) id).trans ht)
  obtain ⟨⟨d0, d1, d2, d3, d4⟩, -⟩ := cellT10 ((g0.block tb (lt_of_heap ht) id).trans ht)
  obtain ⟨V, hV⟩ : ∃ V, t2U A1 A0.heap.size = V := ⟨_, rfl⟩
  have gV : Gr A0 V := by rw [← hV]; exact g1.trans (setAll_kp _ _ _) (fun j hj e => by have e' : j = A0.heap.size := e; omega)
  have gW : Gr W V := g0.trans gV (fun _ _ h => h)
  have hbV := (gV.block _ (lt_of_heap b0) id).trans b0
  have hS : ∀ u, Gr W u → u.cell? ⟨tb, 0, none⟩ = some (.int .i64 3) ∧ u.cell? ⟨tb, 1, none⟩ = some (.int .i64 0) ∧ u.cell? ⟨tb, 2, none⟩ = some (.int .i64 0) ∧ u.cell? ⟨tb, 3, none⟩ = some (.int .i64 0) ∧ u.cell? ⟨tb, 4, none⟩ = some (.slice none 0 0) := fun u g => (cellT10 ((g.block tb (lt_of_heap ht) id).trans ht)).1
  have HS0 := hidM (hS V.drew gW.drew)
  have HC := hidM (areAlike42 tb V.drew (hT.gr gW.drew) ((gW.drew.block tb (lt_of_heap ht) id).trans ht))
  have HT : Hid (∀ w2, Gr V.drew w2 → (w2.cell? ⟨tb, 0, none⟩ = some (.int .i64 3) ∧ w2.cell? ⟨tb, 1, none⟩ = some (.int .i64 0) ∧ w2.cell? ⟨tb, 2, none⟩ = some (.int .i64 0) ∧ w2.cell? ⟨tb, 3, none⟩ = some (.int .i64 0) ∧ w2.cell? ⟨tb, 4, none⟩ = some (.slice none 0 0)) ∧ w2.heap[W.heap.size]? = some (.cells tyZ 25) ∧ (tyU w2 W.heap.size).heap[W.heap.size]? = some (.cells tyC 25) ∧ Gr W (tyU w2 W.heap.size) ∧ ((tyU w2 W.heap.size).cell? ⟨tb, 0, none⟩ = some (.int .i64 3) ∧ (tyU w2 W.heap.size).cell? ⟨tb, 1, none⟩ = some (.int .i64 0) ∧ (tyU w2 W.heap.size).cell? ⟨tb, 2, none⟩ = some (.int .i64 0) ∧ (tyU w2 W.heap.size).cell? ⟨tb, 3, none⟩ = some (.int .i64 0) ∧ (tyU w2 W.heap.size).cell? ⟨tb, 4, none⟩ = some (.slice none 0 0))) := fun w2 g => by
    have g' := gW.drew.trans g (fun _ _ h => h)
    have h2 := (g.block _ (lt_of_heap (W := V.drew) hbV) id).trans hbV
    have gU : Gr W (tyU w2 W.heap.size) := g'.trans (setAll_kp _ _ _) (fun j hj e => by have e' : j = W.heap.size := e; omega)
    exact ⟨hS w2 g', h2, ty_blk h2, gU, hS _ gU⟩
  clear g0 b0 z0 g1 b1 gV gW hbV hS hT ht
  unfold tyZ at hA0 hA1
  simp only [t2U, setAll] at hV
  go_enter Tryz.func17, Tryz.ntmps17
  go_wp2_with fail
  clear y0 y1 y2 y3 y4 x0 x1 x2 x3 x4 a0 a1 a2 a3 a4 d0 d1 d2 d3 d4 hA0 hA1 hV
  refine wp_region_held_drew (S := fun w' => w'.cell? ⟨tb, 0, none⟩ = some (.int .i64 3) ∧ w'.cell? ⟨tb, 1, none⟩ = some (.int .i64 0) ∧ w'.cell? ⟨tb, 2, none⟩ = some (.int .i64 0) ∧ w'.cell? ⟨tb, 3, none⟩ = some (.int .i64 0) ∧ w'.cell? ⟨tb, 4, none⟩ = some (.slice none 0 0)) (by kernel_rfl) (HS0.out) (fun hHeld => ?_)
  refine wpAnyH_take (i := 0) (oi := { dst := some 19, op := Op.move (Operand.tmp 1), type := 58, pos := "types.go:29", after := #[], guard := none }) (v := ?v0h1) rfl (by kernel_rfl) (by kernel_rfl) (by kernel_rfl) (fun _ _ _ h => h) (Or.inl ⟨by rfl, ?y0h1⟩) (by assumption) ?r0h1
  case y0h1 => (intro w hSw; obtain ⟨s0, s1, s2, s3, s4⟩ := hSw; go_simp; (try with_reducible rfl))
  (try simp only [Act.put]); (try simp only [List.setIfInBounds_toArray]); (try simp only [List.set_cons_succ]); (try simp only [List.set_cons_zero])
  refine wpAnyH_take (i := 1) (oi := { dst := some 20, op := Op.indexAddr 58 (Operand.tmp 19) (Operand.const (Value.int IntKind.i64 0)), type := 0, pos := "types.go:29", after := #[{ on := 0, ground := Ground.data }], guard := none }) (v := ?v1h2) rfl (by kernel_rfl) (by kernel_rfl) (by kernel_rfl) (fun _ _ _ h => h) (Or.inl ⟨by rfl, ?y1h2⟩) (by assumption) ?r1h2
  case y1h2 => (intro w hSw; obtain ⟨s0, s1, s2, s3, s4⟩ := hSw; go_simp; (try with_reducible rfl))
  (try simp only [Act.put]); (try simp only [List.setIfInBounds_toArray]); (try simp only [List.set_cons_succ]); (try simp only [List.set_cons_zero])
  refine wpAnyH_take (i := 2) (oi := { dst := some 21, op := Op.load 25 (Operand.tmp 20), type := 25, pos := "types.go:29", after := #[{ on := 1, ground := Ground.data }], guard := none }) (v := ?v2h3) rfl (by kernel_rfl) (by kernel_rfl) (by kernel_rfl) (fun _ _ _ h => h) (Or.inl ⟨by rfl, ?y2h3⟩) (by assumption) ?r2h3
  case y2h3 => (intro w hSw; obtain ⟨s0, s1, s2, s3, s4⟩ := hSw; go_simp; (try with_reducible rfl))
  (try simp only [Act.put]); (try simp only [List.setIfInBounds_toArray]); (try simp only [List.set_cons_succ]); (try simp only [List.set_cons_zero])
  refine wpAnyH_take (i := 3) (oi := { dst := some 22, op := Op.move (Operand.tmp 1), type := 58, pos := "types.go:29", after := #[], guard := none }) (v := ?v3h4) rfl (by kernel_rfl) (by kernel_rfl) (by kernel_rfl) (fun _ _ _ h => h) (Or.inl ⟨by rfl, ?y3h4⟩) (by assumption) ?r3h4
  case y3h4 => (intro w hSw; obtain ⟨s0, s1, s2, s3, s4⟩ := hSw; go_simp; (try with_reducible rfl))
  (try simp only [Act.put]); (try simp only [List.setIfInBounds_toArray]); (try simp only [List.set_cons_succ]); (try simp only [List.set_cons_zero])
  refine wpAnyH_ready (rs := [4]) (by kernel_rfl) (by simp) ?_
  refine AllReadyH.cons (o := { dst := some 23, op := Op.call { callee := Callee.value (Operand.func 42), args := #[Operand.tmp 22], argTypes := #[58] }, type := 4, pos := "types.go:29", after := #[{ on := 3, ground := Ground.data }], guard := none }) rfl (fun Kc hK => ?_) AllReadyH.nil
  go_simp
  go_at_call 42
  refine Calls.mono (HC.out) ?_
  rintro e' w2 ⟨rfl, g2⟩; obtain ⟨hs2, hz2, hu2, hg2, hsU⟩ := HT.out w2 g2; have HS2 := hidM hs2; have HSU := hidM hsU; have HU2 := hidM hu2; have HG2 := hidM hg2; have HZ2 := hidM hz2; clear g2 hs2 hsU hu2 hg2 hz2
  go_wp2_with fail
  refine hK.out _ _ (HS2.out) (fun hHeld => ?_)
  clear hK Kc
  (try simp only [Act.put]); (try simp only [List.setIfInBounds_toArray]); (try simp only [List.set_cons_succ]); (try simp only [List.set_cons_zero])
  refine wpAnyH_take (i := 5) (oi := { dst := some 24, op := Op.move (Operand.tmp 23), type := 4, pos := "types.go:29", after := #[{ on := 4, ground := Ground.data }, { on := 4, ground := Ground.chain }], guard := none }) (v := ?v5h5) rfl (by kernel_rfl) (by kernel_rfl) (by kernel_rfl) (fun _ _ _ h => h) (Or.inl ⟨by rfl, ?y5h5⟩) (by assumption) ?r5h5
  case y5h5 => (intro w hSw; obtain ⟨s0, s1, s2, s3, s4⟩ := hSw; go_simp; (try with_reducible rfl))
  (try simp only [Act.put]); (try simp only [List.setIfInBounds_toArray]); (try simp only [List.set_cons_succ]); (try simp only [List.set_cons_zero])
  refine wpAnyH_take (i := 6) (oi := { dst := some 25, op := Op.move (Operand.tmp 6), type := 3, pos := "types.go:29", after := #[{ on := 5, ground := Ground.guard }], guard := some (5, true) }) (v := ?v6h6) rfl (by kernel_rfl) (by kernel_rfl) (by kernel_rfl) (fun _ _ _ h => h) (Or.inl ⟨by rfl, ?y6h6⟩) (by assumption) ?r6h6
  case y6h6 => (intro w hSw; obtain ⟨s0, s1, s2, s3, s4⟩ := hSw; go_simp; (try with_reducible rfl))
  (try simp only [Act.put]); (try simp only [List.setIfInBounds_toArray]); (try simp only [List.set_cons_succ]); (try simp only [List.set_cons_zero])
  refine wpAnyH_ready (rs := [7]) (by kernel_rfl) (by simp) ?_
  refine AllReadyH.cons (o := { dst := some 26, op := Op.call { callee := Callee.value (Operand.func 43), args := #[Operand.tmp 25], argTypes := #[3] }, type := 4, pos := "types.go:29", after := #[{ on := 6, ground := Ground.data }, { on := 5, ground := Ground.chain }, { on := 5, ground := Ground.guard }], guard := some (5, true) }) rfl (fun Kc hK => ?_) AllReadyH.nil
  go_simp
  go_at_call 43
  refine Calls.mono (whole43 _) ?_
  rintro e' w3 ⟨rfl, hw⟩; replace hw := hw.symm; subst hw
  go_wp2_with fail
  refine hK.out _ _ (HS2.out) (fun hHeld => ?_)
  clear hK Kc
  (try simp only [Act.put]); (try simp only [List.setIfInBounds_toArray]); (try simp only [List.set_cons_succ]); (try simp only [List.set_cons_zero])
  refine wpAnyH_take (i := 8) (oi := { dst := some 27, op := Op.move (Operand.tmp 26), type := 4, pos := "types.go:29", after := #[{ on := 7, ground := Ground.data }, { on := 7, ground := Ground.chain }, { on := 5, ground := Ground.guard }], guard := some (5, true) }) (v := ?v8h7) rfl (by kernel_rfl) (by kernel_rfl) (by kernel_rfl) (fun _ _ _ h => h) (Or.inl ⟨by rfl, ?y8h7⟩) (by assumption) ?r8h7
  case y8h7 => (intro w hSw; obtain ⟨s0, s1, s2, s3, s4⟩ := hSw; go_simp; (try with_reducible rfl))
  (try simp only [Act.put]); (try simp only [List.setIfInBounds_toArray]); (try simp only [List.set_cons_succ]); (try simp only [List.set_cons_zero])
  refine wpAnyH_take (i := 9) (oi := { dst := some 28, op := Op.move (Operand.tmp 6), type := 3, pos := "types.go:29", after := #[{ on := 8, ground := Ground.guard }, { on := 13, ground := Ground.gcOnly Departure.lateStores }], guard := some (8, false) }) (v := undef) rfl (by kernel_rfl) (by kernel_rfl) (by kernel_rfl) (fun _ _ _ h => h) (Or.inr ⟨by kernel_rfl, rfl⟩) (by assumption) ?r9h8
  (try simp only [Act.put]); (try simp only [List.setIfInBounds_toArray]); (try simp only [List.set_cons_succ]); (try simp only [List.set_cons_zero])
  refine wpAnyH_take (i := 10) (oi := { dst := some 29, op := Op.binOp BinOp.eql 3 (Operand.tmp 28) (Operand.const (Value.int IntKind.i64 11)) 3, type := 4, pos := "types.go:29", after := #[{ on := 9, ground := Ground.data }, { on := 8, ground := Ground.guard }, { on := 13, ground := Ground.gcOnly Departure.lateStores }], guard := some (8, false) }) (v := undef) rfl (by kernel_rfl) (by kernel_rfl) (by kernel_rfl) (fun _ _ _ h => h) (Or.inr ⟨by kernel_rfl, rfl⟩) (by assumption) ?r10h9
  (try simp only [Act.put]); (try simp only [List.setIfInBounds_toArray]); (try simp only [List.set_cons_succ]); (try simp only [List.set_cons_zero])
  refine wpAnyH_take (i := 11) (oi := { dst := some 30, op := Op.pick (Operand.tmp 27) (Operand.const (Value.bool true)) (Operand.tmp 29), type := 4, pos := "types.go:29", after := #[{ on := 8, ground := Ground.data }, { on := 10, ground := Ground.data }, { on := 5, ground := Ground.guard }, { on := 13, ground := Ground.gcOnly Departure.lateStores }], guard := some (5, true) }) (v := ?v11h10) rfl (by kernel_rfl) (by kernel_rfl) (by kernel_rfl) (fun _ _ _ h => h) (Or.inl ⟨by rfl, ?y11h10⟩) (by assumption) ?r11h10
  case y11h10 => (intro w hSw; obtain ⟨s0, s1, s2, s3, s4⟩ := hSw; go_simp; (try with_reducible rfl))
  (try simp only [Act.put]); (try simp only [List.setIfInBounds_toArray]); (try simp only [List.set_cons_succ]); (try simp only [List.set_cons_zero])
  refine wpAnyH_take (i := 12) (oi := { dst := some 31, op := Op.pick (Operand.tmp 24) (Operand.tmp 30) (Operand.const (Value.bool false)), type := 4, pos := "types.go:29", after := #[{ on := 5, ground := Ground.data }, { on := 11, ground := Ground.data }, { on := 13, ground := Ground.gcOnly Departure.lateStores }], guard := none }) (v := ?v12h11) rfl (by kernel_rfl) (by kernel_rfl) (by kernel_rfl) (fun _ _ _ h => h) (Or.inl ⟨by rfl, ?y12h11⟩) (by assumption) ?r12h11
  case y12h11 => (intro w hSw; obtain ⟨s0, s1, s2, s3, s4⟩ := hSw; go_simp; (try with_reducible rfl))
  (try simp only [Act.put]); (try simp only [List.setIfInBounds_toArray]); (try simp only [List.set_cons_succ]); (try simp only [List.set_cons_zero])
  refine wpAnyH_ready (rs := [13]) (by kernel_rfl) (by simp) ?_
  refine AllReadyH.cons (o := { dst := none, op := Op.store 25 (Operand.tmp 4) (Operand.tmp 21), type := 0, pos := "types.go:29", after := #[{ on := 2, ground := Ground.data }, { on := 8, ground := Ground.chain }, { on := 0, ground := Ground.phase }, { on := 1, ground := Ground.phase }, { on := 2, ground := Ground.phase }, { on := 3, ground := Ground.textOnly Departure.lateStores }, { on := 4, ground := Ground.textOnly Departure.lateStoresUnsure }, { on := 5, ground := Ground.textOnly Departure.lateStores }, { on := 6, ground := Ground.textOnly Departure.lateStores }, { on := 7, ground := Ground.textOnly Departure.lateStoresUnsure }, { on := 8, ground := Ground.textOnly Departure.lateStores }, { on := 9, ground := Ground.textOnly Departure.lateStores }, { on := 10, ground := Ground.textOnly Departure.lateStores }, { on := 11, ground := Ground.textOnly Departure.lateStores }, { on := 12, ground := Ground.textOnly Departure.lateStores }], guard := none }) rfl (fun Kc hK => ?_) AllReadyH.nil
  obtain ⟨c0, c1, c2, c3, c4⟩ := cell5 HZ2.out
  have x0 := frz HZ2.out 0
  have x1 := frz HZ2.out 1
  have x2 := frz HZ2.out 2
  have x3 := frz HZ2.out 3
  have x4 := frz HZ2.out 4
  obtain ⟨U, hU⟩ : ∃ U, tyU w2 W.heap.size = U := ⟨_, rfl⟩
  rw [hU] at HU2 HG2 HSU
  simp only [tyU, setAll] at hU
  go_simp
  refine hK.out _ _ (HSU.out) (fun hHeld => ?_)
  clear hK Kc
  (try simp only [Act.put]); (try simp only [List.setIfInBounds_toArray]); (try simp only [List.set_cons_succ]); (try simp only [List.set_cons_zero])
  refine wpAnyH_take (i := 14) (oi := { dst := some 5, op := Op.assign (Operand.tmp 31), type := 4, pos := "types.go:29", after := #[{ on := 12, ground := Ground.data }, { on := 13, ground := Ground.chain }, { on := 0, ground := Ground.phase }, { on := 1, ground := Ground.phase }, { on := 2, ground := Ground.phase }, { on := 3, ground := Ground.phase }, { on := 4, ground := Ground.phase }, { on := 5, ground := Ground.phase }, { on := 6, ground := Ground.phase }, { on := 7, ground := Ground.phase }, { on := 8, ground := Ground.phase }, { on := 9, ground := Ground.phase }, { on := 10, ground := Ground.phase }, { on := 11, ground := Ground.phase }, { on := 12, ground := Ground.phase }, { on := 13, ground := Ground.phase }], guard := none }) (v := ?v14h12) rfl (by kernel_rfl) (by kernel_rfl) (by kernel_rfl) (fun _ _ _ h => h) (Or.inl ⟨by rfl, ?y14h12⟩) (by assumption) ?r14h12
  case y14h12 => (intro w hSw; obtain ⟨s0, s1, s2, s3, s4⟩ := hSw; go_simp; (try with_reducible rfl))
  (try simp only [Act.put]); (try simp only [List.setIfInBounds_toArray]); (try simp only [List.set_cons_succ]); (try simp only [List.set_cons_zero])
  refine wpAnyH_done (by kernel_rfl) ?_ _
  go_wp2_with fail
  (try simp only [Exit.inBlock, Exit.then])
  refine bodyPost_ret (results_cell25t rfl rfl (by with_reducible exact HU2.out) (by kernel_rfl)) rfl ?_
  exact ⟨rfl, HG2.out⟩
end Go.Proofs.YtcedjdkldiffdaaGreatDoor.Kit
