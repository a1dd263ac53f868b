import Derived.Test.YtcedjdkldiffdaaGreatDoorCX
set_option maxRecDepth 100000
set_option maxHeartbeats 4000000
namespace Go.Proofs.YtcedjdkldiffdaaGreatDoor.Kit
open Go.RowKit Go.Shelf Go.Deep
open Go.Proofs.YtcedjdkldiffdaaGreatDoor.Kd (Ans AnsV cell5 cell2)
open Go.Proofs.YtcedjdkldiffdaaGreatDoor.Ink (OwnRow)
set_option linter.unusedVariables false
set_option linter.unusedSimpArgs false
attribute [local go_sem] run_store_func
theorem countNulls101 (qb bc : Nat) (W : World) (q r rc : Nat) (nu : Bool) (ao : Option Addr) (ca : Nat) (v2 c2 : Nat) (h : NdA W q r rc nu ao ca 2 0 v2 2 c2) (hb : W.cell? ⟨qb, 0, none⟩ = some (.slice none 0 0)) : Calls Tryz.prog 225 #[.pointer (some ⟨q, 0, none⟩), .agg (dC 2 0 (.slice (some ⟨qb, 0, none⟩) 2 bc))] W fun e w' => e = .returned (.int .i64 0) ∧ Gr W w' := by
  obtain ⟨A, hA⟩ : ∃ A, W.alloc (.cells (dC 2 0 (.slice (some ⟨qb, 0, none⟩) 2 bc)) 32) = A := ⟨_, rfl⟩
  have gA : Gr W A := by rw [← hA]; exact gr_alloc W _
  have hd : A.heap[W.heap.size]? = some (.cells (dC 2 0 (.slice (some ⟨qb, 0, none⟩) 2 bc)) 32) := by rw [← hA]; exact heap_alloc_new W _
  have hS : ∀ u, Gr A u → u.cell? ⟨W.heap.size, 0, none⟩ = some (.int .i64 2) ∧ u.cell? ⟨W.heap.size, 1, none⟩ = some (.int .i64 0) ∧ u.cell? ⟨W.heap.size, 3, none⟩ = some (.slice (some ⟨qb, 0, none⟩) 2 bc) ∧ u.cell? ⟨qb, 0, none⟩ = some (.slice none 0 0) := fun u g => by
    obtain ⟨d0, d1, d2, d3, d4, d5⟩ := cell6 ((g.block _ (lt_of_heap hd) id).trans hd)
    exact ⟨d0, d1, d3, g.cell' (gA.cell' hb id) id⟩
  obtain ⟨d0, d1, d3, qb0⟩ := hS A (Keeps.refl _ _)
  have HM := hidM (masked97 q nu ao ca (2 : Nat) (0 : Nat) (.slice (some ⟨r, 0, none⟩) 2 rc) A (h.gr gA).nd)
  have HK := hidM (kind118 q nu ao ca (2 : Nat) (0 : Nat) (.slice (some ⟨r, 0, none⟩) 2 rc) A (h.gr gA).nd)
  have HS0 := hidM (hS A.drew gr_drew)
  have HSS := hidM hS
  have HG := hidM gA
  clear gA hd hS h hb
  unfold dC at hA ⊢
  go_enter Tryz.func225, Tryz.ntmps225
  go_wp2_with (first
    | (go_at_call 260; refine HK.out.mono ?_; rintro e w1 ⟨rfl, rfl⟩)
    | (go_at_call 221; refine HM.out.mono ?_; rintro e w1 ⟨rfl, rfl⟩))
  go_ret
  exact ⟨rfl, HG.out⟩
theorem wrongNulls69 (qb bc : Nat) (W : World) (q r rc : Nat) (nu : Bool) (ao : Option Addr) (ca : Nat) (v2 c2 : Nat) (hnu : nu = false) (h : NdA W q r rc nu ao ca 2 0 v2 2 c2) (hb : W.cell? ⟨qb, 0, none⟩ = some (.slice none 0 0)) : Calls Tryz.prog 136 #[.pointer (some ⟨q, 0, none⟩), .agg (dC 2 0 (.slice (some ⟨qb, 0, none⟩) 2 bc))] W fun e w' => e = .returned (.int .i64 0) ∧ Gr W w' := by
  subst hnu
  obtain ⟨A, hA⟩ : ∃ A, W.alloc (.cells (dC 2 0 (.slice (some ⟨qb, 0, none⟩) 2 bc)) 32) = A := ⟨_, rfl⟩
  have gA : Gr W A := by rw [← hA]; exact gr_alloc W _
  have hd : A.heap[W.heap.size]? = some (.cells (dC 2 0 (.slice (some ⟨qb, 0, none⟩) 2 bc)) 32) := by rw [← hA]; exact heap_alloc_new W _
  have hS : ∀ u, Gr A u → u.cell? ⟨q, 10, none⟩ = some (.int .i64 0) ∧ u.cell? ⟨q, 1, none⟩ = some (.bool false) ∧ u.cell? ⟨W.heap.size, 0, none⟩ = some (.int .i64 2) ∧ u.cell? ⟨W.heap.size, 1, none⟩ = some (.int .i64 0) ∧ u.cell? ⟨W.heap.size, 2, none⟩ = some (.int .i64 0) ∧ u.cell? ⟨W.heap.size, 3, none⟩ = some (.slice (some ⟨qb, 0, none⟩) 2 bc) ∧ u.cell? ⟨W.heap.size, 4, none⟩ = some (.slice none 0 0) ∧ u.cell? ⟨W.heap.size, 5, none⟩ = some (.slice none 0 0) := fun u g => by
    obtain ⟨d0, d1, d2, d3, d4, d5⟩ := cell6 ((g.block _ (lt_of_heap hd) id).trans hd)
    have hn := (h.gr (gA.trans g (fun _ _ h => h))).nd
    exact ⟨(cellN hn).2.2, by simp [World.cell?, hn, ndC], d0, d1, d2, d3, d4, d5⟩
  have HC : Hid (Calls Tryz.prog 225 #[.pointer (some ⟨q, 0, none⟩), .agg #[.int .i64 2, .int .i64 0, .int .i64 0, .slice (some ⟨qb, 0, none⟩) 2 bc, .slice none 0 0, .slice none 0 0]] A.drew fun e w' => e = .returned (.int .i64 0) ∧ Gr A.drew w') := countNulls101 qb bc A.drew q r rc false ao ca v2 c2 (h.gr gA.drew) (gA.drew.cell' hb id)
  have HS0 := hidM (hS A.drew gr_drew)
  have HGd : Hid (Gr A A.drew) := gr_drew
  have HSS := hidM hS
  have HG := hidM gA
  clear gA hd hS h hb
  unfold dC at hA ⊢
  go_enter Tryz.func136, Tryz.ntmps136
  go_wp2_with fail
  clear hA
  refine wp_region_held_drew (S := fun w' => w'.cell? ⟨q, 10, none⟩ = some (.int .i64 0) ∧ w'.cell? ⟨q, 1, none⟩ = some (.bool false) ∧ w'.cell? ⟨W.heap.size, 0, none⟩ = some (.int .i64 2) ∧ w'.cell? ⟨W.heap.size, 1, none⟩ = some (.int .i64 0) ∧ w'.cell? ⟨W.heap.size, 2, none⟩ = some (.int .i64 0) ∧ w'.cell? ⟨W.heap.size, 3, none⟩ = some (.slice (some ⟨qb, 0, none⟩) 2 bc) ∧ w'.cell? ⟨W.heap.size, 4, none⟩ = some (.slice none 0 0) ∧ w'.cell? ⟨W.heap.size, 5, none⟩ = some (.slice none 0 0)) (by kernel_rfl) (HS0.out) (fun hHeld => ?_)
  refine wpAnyH_take (i := 0) (oi := { dst := some 5, op := Op.move (Operand.tmp 0), type := 91, pos := "check.go:136", after := #[], guard := none }) (v := ?v0g1) rfl (by kernel_rfl) (by kernel_rfl) (by kernel_rfl) (fun _ _ _ h => h) (Or.inl ⟨by rfl, ?y0g1⟩) (by assumption) ?r0g1
  case y0g1 => (intro w hSw; obtain ⟨s0, s1, s2, s3, s4, s5, s6, s7⟩ := hSw; go_simp; (try with_reducible rfl))
  (try simp only [Act.put]); (try simp only [List.setIfInBounds_toArray]); (try simp only [List.set_cons_succ]); (try simp only [List.set_cons_zero])
  refine wpAnyH_take (i := 1) (oi := { dst := some 6, op := Op.nilCheck (Operand.tmp 5), type := 0, pos := "check.go:136", after := #[{ on := 0, ground := Ground.data }], guard := none }) (v := ?v1g2) rfl (by kernel_rfl) (by kernel_rfl) (by kernel_rfl) (fun _ _ _ h => h) (Or.inl ⟨by rfl, ?y1g2⟩) (by assumption) ?r1g2
  case y1g2 => (intro w hSw; obtain ⟨s0, s1, s2, s3, s4, s5, s6, s7⟩ := hSw; go_simp; (try with_reducible rfl))
  (try simp only [Act.put]); (try simp only [List.setIfInBounds_toArray]); (try simp only [List.set_cons_succ]); (try simp only [List.set_cons_zero])
  refine wpAnyH_take (i := 2) (oi := { dst := some 7, op := Op.fieldAddr 99 (Operand.tmp 6) 4, type := 0, pos := "check.go:136", after := #[{ on := 1, ground := Ground.data }], guard := none }) (v := ?v2g3) rfl (by kernel_rfl) (by kernel_rfl) (by kernel_rfl) (fun _ _ _ h => h) (Or.inl ⟨by rfl, ?y2g3⟩) (by assumption) ?r2g3
  case y2g3 => (intro w hSw; obtain ⟨s0, s1, s2, s3, s4, s5, s6, s7⟩ := hSw; go_simp; (try with_reducible rfl))
  (try simp only [Act.put]); (try simp only [List.setIfInBounds_toArray]); (try simp only [List.set_cons_succ]); (try simp only [List.set_cons_zero])
  refine wpAnyH_take (i := 3) (oi := { dst := some 8, op := Op.load 3 (Operand.tmp 7), type := 3, pos := "check.go:136", after := #[{ on := 2, ground := Ground.data }], guard := none }) (v := ?v3g4) rfl (by kernel_rfl) (by kernel_rfl) (by kernel_rfl) (fun _ _ _ h => h) (Or.inl ⟨by rfl, ?y3g4⟩) (by assumption) ?r3g4
  case y3g4 => (intro w hSw; obtain ⟨s0, s1, s2, s3, s4, s5, s6, s7⟩ := hSw; go_simp; (try with_reducible rfl))
  (try simp only [Act.put]); (try simp only [List.setIfInBounds_toArray]); (try simp only [List.set_cons_succ]); (try simp only [List.set_cons_zero])
  refine wpAnyH_take (i := 4) (oi := { dst := some 9, op := Op.move (Operand.tmp 0), type := 91, pos := "check.go:136", after := #[], guard := none }) (v := ?v4g5) rfl (by kernel_rfl) (by kernel_rfl) (by kernel_rfl) (fun _ _ _ h => h) (Or.inl ⟨by rfl, ?y4g5⟩) (by assumption) ?r4g5
  case y4g5 => (intro w hSw; obtain ⟨s0, s1, s2, s3, s4, s5, s6, s7⟩ := hSw; go_simp; (try with_reducible rfl))
  (try simp only [Act.put]); (try simp only [List.setIfInBounds_toArray]); (try simp only [List.set_cons_succ]); (try simp only [List.set_cons_zero])
  refine wpAnyH_take (i := 5) (oi := { dst := some 10, op := Op.load 32 (Operand.tmp 3), type := 32, pos := "check.go:136", after := #[], guard := none }) (v := ?v5g6) rfl (by kernel_rfl) (by kernel_rfl) (by kernel_rfl) (fun _ _ _ h => h) (Or.inl ⟨by rfl, ?y5g6⟩) (by assumption) ?r5g6
  case y5g6 => (intro w hSw; obtain ⟨s0, s1, s2, s3, s4, s5, s6, s7⟩ := hSw; go_simp; (try with_reducible rfl))
  (try simp only [Act.put]); (try simp only [List.setIfInBounds_toArray]); (try simp only [List.set_cons_succ]); (try simp only [List.set_cons_zero])
  refine wpAnyH_ready (rs := [6]) (by kernel_rfl) (by simp) ?_
  refine AllReadyH.cons (o := { dst := some 11, op := Op.call { callee := Callee.value (Operand.func 225), args := #[Operand.tmp 9, Operand.tmp 10], argTypes := #[91, 32] }, type := 3, pos := "check.go:136", after := #[{ on := 4, ground := Ground.data }, { on := 5, ground := Ground.data }], guard := none }) rfl (fun Kc hK => ?_) AllReadyH.nil
  go_simp
  go_at_call 225
  refine Calls.mono (HC.out) ?_
  rintro e' w8 ⟨rfl, g8⟩; have HG8 := hidM (HGd.out.trans g8 (fun _ _ h => h)); have HS8 := hidM (HSS.out w8 HG8.out); clear g8
  go_wp2_with fail
  refine hK.out _ _ (HS8.out) (fun hHeld => ?_)
  clear hK Kc
  (try simp only [Act.put]); (try simp only [List.setIfInBounds_toArray]); (try simp only [List.set_cons_succ]); (try simp only [List.set_cons_zero])
  refine wpAnyH_take (i := 7) (oi := { dst := some 12, op := Op.binOp BinOp.neq 3 (Operand.tmp 8) (Operand.tmp 11) 3, type := 4, pos := "check.go:136", after := #[{ on := 3, ground := Ground.data }, { on := 6, ground := Ground.data }], guard := none }) (v := ?v7g7) rfl (by kernel_rfl) (by kernel_rfl) (by kernel_rfl) (fun _ _ _ h => h) (Or.inl ⟨by rfl, ?y7g7⟩) (by assumption) ?r7g7
  case y7g7 => (intro w hSw; obtain ⟨s0, s1, s2, s3, s4, s5, s6, s7⟩ := hSw; go_simp; (try with_reducible rfl))
  (try simp only [Act.put]); (try simp only [List.setIfInBounds_toArray]); (try simp only [List.set_cons_succ]); (try simp only [List.set_cons_zero])
  refine wpAnyH_take (i := 8) (oi := { dst := some 13, op := Op.move (Operand.tmp 12), type := 4, pos := "check.go:136", after := #[{ on := 7, ground := Ground.data }, { on := 6, ground := Ground.chain }], guard := none }) (v := ?v8g8) rfl (by kernel_rfl) (by kernel_rfl) (by kernel_rfl) (fun _ _ _ h => h) (Or.inl ⟨by rfl, ?y8g8⟩) (by assumption) ?r8g8
  case y8g8 => (intro w hSw; obtain ⟨s0, s1, s2, s3, s4, s5, s6, s7⟩ := hSw; go_simp; (try with_reducible rfl))
  (try simp only [Act.put]); (try simp only [List.setIfInBounds_toArray]); (try simp only [List.set_cons_succ]); (try simp only [List.set_cons_zero])
  refine wpAnyH_take (i := 9) (oi := { dst := some 14, op := Op.move (Operand.tmp 0), type := 91, pos := "check.go:136", after := #[{ on := 8, ground := Ground.guard }], guard := some (8, false) }) (v := ?v9g9) rfl (by kernel_rfl) (by kernel_rfl) (by kernel_rfl) (fun _ _ _ h => h) (Or.inl ⟨by rfl, ?y9g9⟩) (by assumption) ?r9g9
  case y9g9 => (intro w hSw; obtain ⟨s0, s1, s2, s3, s4, s5, s6, s7⟩ := hSw; go_simp; (try with_reducible rfl))
  (try simp only [Act.put]); (try simp only [List.setIfInBounds_toArray]); (try simp only [List.set_cons_succ]); (try simp only [List.set_cons_zero])
  refine wpAnyH_take (i := 10) (oi := { dst := some 15, op := Op.nilCheck (Operand.tmp 14), type := 0, pos := "check.go:136", after := #[{ on := 9, ground := Ground.data }, { on := 8, ground := Ground.guard }], guard := some (8, false) }) (v := ?v10g10) rfl (by kernel_rfl) (by kernel_rfl) (by kernel_rfl) (fun _ _ _ h => h) (Or.inl ⟨by rfl, ?y10g10⟩) (by assumption) ?r10g10
  case y10g10 => (intro w hSw; obtain ⟨s0, s1, s2, s3, s4, s5, s6, s7⟩ := hSw; go_simp; (try with_reducible rfl))
  (try simp only [Act.put]); (try simp only [List.setIfInBounds_toArray]); (try simp only [List.set_cons_succ]); (try simp only [List.set_cons_zero])
  refine wpAnyH_take (i := 11) (oi := { dst := some 16, op := Op.fieldAddr 99 (Operand.tmp 15) 4, type := 0, pos := "check.go:136", after := #[{ on := 10, ground := Ground.data }, { on := 8, ground := Ground.guard }], guard := some (8, false) }) (v := ?v11g11) rfl (by kernel_rfl) (by kernel_rfl) (by kernel_rfl) (fun _ _ _ h => h) (Or.inl ⟨by rfl, ?y11g11⟩) (by assumption) ?r11g11
  case y11g11 => (intro w hSw; obtain ⟨s0, s1, s2, s3, s4, s5, s6, s7⟩ := hSw; go_simp; (try with_reducible rfl))
  (try simp only [Act.put]); (try simp only [List.setIfInBounds_toArray]); (try simp only [List.set_cons_succ]); (try simp only [List.set_cons_zero])
  refine wpAnyH_take (i := 12) (oi := { dst := some 17, op := Op.load 3 (Operand.tmp 16), type := 3, pos := "check.go:136", after := #[{ on := 11, ground := Ground.data }, { on := 8, ground := Ground.guard }], guard := some (8, false) }) (v := ?v12g12) rfl (by kernel_rfl) (by kernel_rfl) (by kernel_rfl) (fun _ _ _ h => h) (Or.inl ⟨by rfl, ?y12g12⟩) (by assumption) ?r12g12
  case y12g12 => (intro w hSw; obtain ⟨s0, s1, s2, s3, s4, s5, s6, s7⟩ := hSw; go_simp; (try with_reducible rfl))
  (try simp only [Act.put]); (try simp only [List.setIfInBounds_toArray]); (try simp only [List.set_cons_succ]); (try simp only [List.set_cons_zero])
  refine wpAnyH_take (i := 13) (oi := { dst := some 18, op := Op.binOp BinOp.gtr 3 (Operand.tmp 17) (Operand.const (Value.int IntKind.i64 0)) 3, type := 4, pos := "check.go:136", after := #[{ on := 12, ground := Ground.data }, { on := 8, ground := Ground.guard }], guard := some (8, false) }) (v := ?v13g13) rfl (by kernel_rfl) (by kernel_rfl) (by kernel_rfl) (fun _ _ _ h => h) (Or.inl ⟨by rfl, ?y13g13⟩) (by assumption) ?r13g13
  case y13g13 => (intro w hSw; obtain ⟨s0, s1, s2, s3, s4, s5, s6, s7⟩ := hSw; go_simp; (try with_reducible rfl))
  (try simp only [Act.put]); (try simp only [List.setIfInBounds_toArray]); (try simp only [List.set_cons_succ]); (try simp only [List.set_cons_zero])
  refine wpAnyH_take (i := 14) (oi := { dst := some 19, op := Op.move (Operand.tmp 18), type := 4, pos := "check.go:136", after := #[{ on := 13, ground := Ground.data }, { on := 8, ground := Ground.chain }, { on := 8, ground := Ground.guard }], guard := some (8, false) }) (v := ?v14g14) rfl (by kernel_rfl) (by kernel_rfl) (by kernel_rfl) (fun _ _ _ h => h) (Or.inl ⟨by rfl, ?y14g14⟩) (by assumption) ?r14g14
  case y14g14 => (intro w hSw; obtain ⟨s0, s1, s2, s3, s4, s5, s6, s7⟩ := hSw; go_simp; (try with_reducible rfl))
  (try simp only [Act.put]); (try simp only [List.setIfInBounds_toArray]); (try simp only [List.set_cons_succ]); (try simp only [List.set_cons_zero])
  refine wpAnyH_take (i := 15) (oi := { dst := some 20, op := Op.move (Operand.tmp 0), type := 91, pos := "check.go:136", after := #[{ on := 14, ground := Ground.guard }], guard := some (14, true) }) (v := undef) rfl (by kernel_rfl) (by kernel_rfl) (by kernel_rfl) (fun _ _ _ h => h) (Or.inr ⟨by kernel_rfl, rfl⟩) (by assumption) ?r15g15
  (try simp only [Act.put]); (try simp only [List.setIfInBounds_toArray]); (try simp only [List.set_cons_succ]); (try simp only [List.set_cons_zero])
  refine wpAnyH_take (i := 16) (oi := { dst := some 21, op := Op.nilCheck (Operand.tmp 20), type := 0, pos := "check.go:136", after := #[{ on := 15, ground := Ground.data }, { on := 14, ground := Ground.guard }], guard := some (14, true) }) (v := undef) rfl (by kernel_rfl) (by kernel_rfl) (by kernel_rfl) (fun _ _ _ h => h) (Or.inr ⟨by kernel_rfl, rfl⟩) (by assumption) ?r16g16
  (try simp only [Act.put]); (try simp only [List.setIfInBounds_toArray]); (try simp only [List.set_cons_succ]); (try simp only [List.set_cons_zero])
  refine wpAnyH_take (i := 17) (oi := { dst := some 22, op := Op.fieldAddr 99 (Operand.tmp 21) 0, type := 0, pos := "check.go:136", after := #[{ on := 16, ground := Ground.data }, { on := 14, ground := Ground.guard }], guard := some (14, true) }) (v := undef) rfl (by kernel_rfl) (by kernel_rfl) (by kernel_rfl) (fun _ _ _ h => h) (Or.inr ⟨by kernel_rfl, rfl⟩) (by assumption) ?r17g17
  (try simp only [Act.put]); (try simp only [List.setIfInBounds_toArray]); (try simp only [List.set_cons_succ]); (try simp only [List.set_cons_zero])
  refine wpAnyH_take (i := 18) (oi := { dst := some 23, op := Op.fieldAddr 27 (Operand.tmp 22) 1, type := 0, pos := "check.go:136", after := #[{ on := 17, ground := Ground.data }, { on := 14, ground := Ground.guard }], guard := some (14, true) }) (v := undef) rfl (by kernel_rfl) (by kernel_rfl) (by kernel_rfl) (fun _ _ _ h => h) (Or.inr ⟨by kernel_rfl, rfl⟩) (by assumption) ?r18g18
  (try simp only [Act.put]); (try simp only [List.setIfInBounds_toArray]); (try simp only [List.set_cons_succ]); (try simp only [List.set_cons_zero])
  refine wpAnyH_take (i := 19) (oi := { dst := some 24, op := Op.load 4 (Operand.tmp 23), type := 4, pos := "check.go:136", after := #[{ on := 18, ground := Ground.data }, { on := 14, ground := Ground.guard }], guard := some (14, true) }) (v := undef) rfl (by kernel_rfl) (by kernel_rfl) (by kernel_rfl) (fun _ _ _ h => h) (Or.inr ⟨by kernel_rfl, rfl⟩) (by assumption) ?r19g19
  (try simp only [Act.put]); (try simp only [List.setIfInBounds_toArray]); (try simp only [List.set_cons_succ]); (try simp only [List.set_cons_zero])
  refine wpAnyH_take (i := 20) (oi := { dst := some 25, op := Op.unOp UnOp.not 4 (Operand.tmp 24), type := 4, pos := "check.go:136", after := #[{ on := 19, ground := Ground.data }, { on := 14, ground := Ground.guard }], guard := some (14, true) }) (v := undef) rfl (by kernel_rfl) (by kernel_rfl) (by kernel_rfl) (fun _ _ _ h => h) (Or.inr ⟨by kernel_rfl, rfl⟩) (by assumption) ?r20g20
  (try simp only [Act.put]); (try simp only [List.setIfInBounds_toArray]); (try simp only [List.set_cons_succ]); (try simp only [List.set_cons_zero])
  refine wpAnyH_take (i := 21) (oi := { dst := some 26, op := Op.pick (Operand.tmp 19) (Operand.tmp 25) (Operand.const (Value.bool false)), type := 4, pos := "check.go:136", after := #[{ on := 14, ground := Ground.data }, { on := 20, ground := Ground.data }, { on := 8, ground := Ground.guard }], guard := some (8, false) }) (v := ?v21g21) rfl (by kernel_rfl) (by kernel_rfl) (by kernel_rfl) (fun _ _ _ h => h) (Or.inl ⟨by rfl, ?y21g21⟩) (by assumption) ?r21g21
  case y21g21 => (intro w hSw; obtain ⟨s0, s1, s2, s3, s4, s5, s6, s7⟩ := hSw; go_simp; (try with_reducible rfl))
  (try simp only [Act.put]); (try simp only [List.setIfInBounds_toArray]); (try simp only [List.set_cons_succ]); (try simp only [List.set_cons_zero])
  refine wpAnyH_take (i := 22) (oi := { dst := some 27, op := Op.pick (Operand.tmp 13) (Operand.const (Value.bool true)) (Operand.tmp 26), type := 4, pos := "check.go:136", after := #[{ on := 8, ground := Ground.data }, { on := 21, ground := Ground.data }], guard := none }) (v := ?v22g22) rfl (by kernel_rfl) (by kernel_rfl) (by kernel_rfl) (fun _ _ _ h => h) (Or.inl ⟨by rfl, ?y22g22⟩) (by assumption) ?r22g22
  case y22g22 => (intro w hSw; obtain ⟨s0, s1, s2, s3, s4, s5, s6, s7⟩ := hSw; go_simp; (try with_reducible rfl))
  (try simp only [Act.put]); (try simp only [List.setIfInBounds_toArray]); (try simp only [List.set_cons_succ]); (try simp only [List.set_cons_zero])
  refine wpAnyH_done (by kernel_rfl) ?_ _
  go_wp2_with fail
  go_ret
  exact ⟨rfl, HG.out.trans HG8.out (fun _ _ h => h)⟩
theorem mk191 (w : World) : (Instr.makeSlice 205 (.int .i64 0) (.int .i64 0)).run Tryz.prog w = .ok (.slice (some ⟨w.heap.size, 0, none⟩) 0 0) (w.alloc (.cells #[] 65)) := by kernel_rfl
theorem mk48 (w : World) : (Instr.makeSlice 65 (.int .i64 2) (.int .i64 2)).run Tryz.prog w = .ok (.slice (some ⟨w.heap.size, 0, none⟩) 2 2) (w.alloc (.cells #[.int .i64 0, .int .i64 0] 3)) := by kernel_rfl
theorem parts70 (c : Value) (qb bc : Nat) (W : World) (q r rc : Nat) (nu : Bool) (ao : Option Addr) (ca : Nat) (v2 c2 : Nat) (h : NdA W q r rc nu ao ca 2 0 v2 2 c2) : Calls Tryz.prog 137 #[c, .pointer (some ⟨q, 0, none⟩), .agg (dC 2 0 (.slice (some ⟨qb, 0, none⟩) 2 bc))] W fun e w' => ∃ g, e = .returned (.slice (some ⟨g, 0, none⟩) 0 0) ∧ Gr W w' := by
  obtain ⟨A, hA⟩ : ∃ A, W.alloc (.cells (dC 2 0 (.slice (some ⟨qb, 0, none⟩) 2 bc)) 32) = A := ⟨_, rfl⟩
  have gA : Gr W A := by rw [← hA]; exact gr_alloc W _
  have hd : A.heap[W.heap.size]? = some (.cells (dC 2 0 (.slice (some ⟨qb, 0, none⟩) 2 bc)) 32) := by rw [← hA]; exact heap_alloc_new W _
  obtain ⟨c7, c9, c12⟩ := cellF (h.gr gA).nd
  obtain ⟨B, hB⟩ : ∃ B, A.alloc (.cells #[] 65) = B := ⟨_, rfl⟩
  have gB : Gr A B := by rw [← hB]; exact gr_alloc A _
  obtain ⟨d0, d1, d2, d3, d4, d5⟩ := cell6 ((gB.block _ (lt_of_heap hd) id).trans hd)
  have HC : Hid (Calls Tryz.prog 219 #[.agg #[.int .i64 2, .int .i64 0, .int .i64 0, .slice (some ⟨qb, 0, none⟩) 2 bc, .slice none 0 0, .slice none 0 0]] B fun e w' => ∃ uo uc, e = .returned (.slice uo 0 uc) ∧ Gr B w') := partData95 2 0 (.slice (some ⟨qb, 0, none⟩) 2 bc) B
  have HG := hidM (gA.trans gB (fun _ _ h => h))
  have hmk := mk191
  clear gA hd gB h
  unfold dC at hA ⊢
  go_enter Tryz.func137, Tryz.ntmps137
  go_wp2_with (go_at_call 219; refine HC.out.mono ?_; rintro e w2 ⟨uo, uc, rfl, g2⟩; have HG2 := hidM (HG.out.trans g2 (fun _ _ h => h)); clear g2)
  go_loopw [19] (fun i u => i = .int .i64 0 ∧ u = w2) (fun i _ => 0)
  case atStart => exact ⟨rfl, rfl⟩
  case round =>
    obtain ⟨rfl, rfl⟩ := hrel
    go_wp2_with fail
    go_ret
    exact ⟨_, rfl, HG2.out⟩
def wtK (k : Nat) : Array Value := if k = 0 then #[.int .i64 0, .int .i64 0] else if k = 1 then #[.int .i64 16, .int .i64 0] else #[.int .i64 16, .int .i64 16]
/-- what isOff and weight find while the weights are written -/
def WtI (W : World) (z k : Nat) (wr : World) : Prop := Keeps W wr (fun b => b = z) ∧ wr.heap[z]? = some (.cells (wtK k) 3)
theorem weights71 (l : Nat) (within : Value) (W : World) (q r rc : Nat) (nu : Bool) (ao : Option Addr) (ca : Nat) (v2 c2 : Nat) (h : NdA W q r rc nu ao ca 2 0 v2 2 c2) (hl : W.cell? ⟨l, 0, none⟩ = some (.pointer none)) : Calls Tryz.prog 138 #[.pointer (some ⟨l, 0, none⟩), .pointer (some ⟨q, 0, none⟩), within] W fun e w' => ∃ z, e = .returned (.slice (some ⟨z, 0, none⟩) 2 2) ∧ Gr W w' ∧ w'.cell? ⟨z, 0, none⟩ = some (.int .i64 16) ∧ w'.cell? ⟨z, 1, none⟩ = some (.int .i64 16) := by
  obtain ⟨z, hz⟩ : ∃ z, W.heap.size = z := ⟨_, rfl⟩
  obtain ⟨A, hA⟩ : ∃ A, W.alloc (.cells #[.int .i64 0, .int .i64 0] 3) = A := ⟨_, rfl⟩
  have gA : Gr W A := by rw [← hA]; exact gr_alloc W _
  have hb : A.heap[z]? = some (.cells (wtK 0) 3) := by rw [← hA, ← hz]; exact heap_alloc_new W _
  have nq : q ≠ z := by have := lt_of_heap h.nd; omega
  have nr : r ≠ z := by have := block_lt_of_cell h.r0; simp at this; omega
  have nl : l ≠ z := by have := block_lt_of_cell hl; simp at this; omega
  have HI0 : Hid (WtI W z 0 A) := ⟨gA.mono fun _ _ h => h.elim, hb⟩
  have HN : Hid (∀ u, Keeps W u (fun b => b = z) → NdA u q r rc nu ao ca 2 0 v2 2 c2 ∧ u.cell? ⟨l, 0, none⟩ = some (.pointer none)) := fun u g => ⟨h.kp g nq nr, g.cell' hl nl⟩
  have HZ := hidM hz
  obtain ⟨a8, a9, a10⟩ := cellN h.nd
  have hmk := mk48
  clear gA hb nq nr nl h hl
  go_enter Tryz.func138, Tryz.ntmps138
  go_wp2_with fail
  clear a8 a9 a10 hA hz
  go_loopw [17] (fun i wr => ∃ k : Nat, k ≤ 2 ∧ i = .int .i64 k ∧ Hid (WtI W z k wr)) (fun i _ => 2 - (intOf i).toNat)
  case atStart => exact ⟨0, by omega, rfl, HI0⟩
  case round =>
    clear HI0
    obtain ⟨k, hk, rfl, HI⟩ := hrel
    have hk3 : k = 0 ∨ k = 1 ∨ k = 2 := by omega
    rcases hk3 with rfl | rfl | rfl
    · obtain ⟨c7, c9, c12⟩ := cellF (HN.out wr HI.out.1).1.nd
      obtain ⟨U, hU⟩ : ∃ U, wr.setCell ⟨z, 0, none⟩ (.int .i64 16) = U := ⟨_, rfl⟩
      have hu : U.heap[z]? = some (.cells (wtK 1) 3) := by rw [← hU, heap_setCell_same wr z 0 _ _ _ HI.out.2]; rfl
      have hk1 : Keeps W U (fun b => b = z) := by rw [← hU]; exact HI.out.1.setCell (p := ⟨z, 0, none⟩) (fun _ => rfl) _
      have HO := hidM (isOff102 0 l U q r rc nu ao ca 2 0 v2 2 c2 (HN.out U hk1).1)
      have HT : Hid (∀ u, Gr U u → WtI W z 1 u) := fun u g => ⟨hk1.trans (g.mono fun _ _ h => h.elim) (fun _ _ h => h), (g.block z (lt_of_heap hu) id).trans hu⟩
      have w0 := cell2 HI.out.2
      have w00 := w0.1
      have f0 := frz HI.out.2 0
      have hmeth := method_weight
      clear w0 hu hk1 HI hmk
      go_wp2_with (first
        | (go_at_call 226; refine HO.out.mono ?_; rintro e w2 ⟨rfl, g2⟩; have HT2 := hidM (HT.out w2 g2); have HG2 := hidM g2; obtain ⟨c7, c9, c12⟩ := cellF (HN.out w2 HT2.out.1).1.nd; clear g2)
        | (go_at_call 467; refine (weight310 _ _ _ _ _).mono ?_; rintro e w3 ⟨rfl, g3⟩; have HT3 := hidM (HT.out w3 (HG2.out.trans g3 (fun _ _ h => h))); have w30 := (cell2 HT3.out.2).1; have f3 := frz HT3.out.2 0; have i3 := set_id (j := 0) (v := .int .i64 16) HT3.out.2 rfl; clear g3))
      go_roundw
      case rel => exact ⟨1, by omega, by go_num, HT3⟩
      case measure => simp [intOf]
    · obtain ⟨c7, c9, c12⟩ := cellF (HN.out wr HI.out.1).1.nd
      obtain ⟨U, hU⟩ : ∃ U, wr.setCell ⟨z, 1, none⟩ (.int .i64 16) = U := ⟨_, rfl⟩
      have hu : U.heap[z]? = some (.cells (wtK 2) 3) := by rw [← hU, heap_setCell_same wr z 1 _ _ _ HI.out.2]; rfl
      have hk1 : Keeps W U (fun b => b = z) := by rw [← hU]; exact HI.out.1.setCell (p := ⟨z, 1, none⟩) (fun _ => rfl) _
      have HO := hidM (isOff102 1 l U q r rc nu ao ca 2 0 v2 2 c2 (HN.out U hk1).1)
      have HT : Hid (∀ u, Gr U u → WtI W z 2 u) := fun u g => ⟨hk1.trans (g.mono fun _ _ h => h.elim) (fun _ _ h => h), (g.block z (lt_of_heap hu) id).trans hu⟩
      have w0 := cell2 HI.out.2
      have w00 := w0.2
      have f0 := frz HI.out.2 1
      have hmeth := method_weight
      clear w0 hu hk1 HI hmk
      go_wp2_with (first
        | (go_at_call 226; refine HO.out.mono ?_; rintro e w2 ⟨rfl, g2⟩; have HT2 := hidM (HT.out w2 g2); have HG2 := hidM g2; obtain ⟨c7, c9, c12⟩ := cellF (HN.out w2 HT2.out.1).1.nd; clear g2)
        | (go_at_call 467; refine (weight310 _ _ _ _ _).mono ?_; rintro e w3 ⟨rfl, g3⟩; have HT3 := hidM (HT.out w3 (HG2.out.trans g3 (fun _ _ h => h))); have w30 := (cell2 HT3.out.2).2; have f3 := frz HT3.out.2 1; have i3 := set_id (j := 1) (v := .int .i64 16) HT3.out.2 rfl; clear g3))
      go_roundw
      case rel => exact ⟨2, by omega, by go_num, HT3⟩
      case measure => simp [intOf]
    · have HE : Hid (Gr W wr ∧ wr.cell? ⟨z, 0, none⟩ = some (.int .i64 16) ∧ wr.cell? ⟨z, 1, none⟩ = some (.int .i64 16)) := ⟨HI.out.1.mono fun j hj e => by have e' : j = z := e; have := HZ.out; omega, cell2 HI.out.2⟩
      clear HI hmk
      go_wp2_with fail
      go_ret
      exact ⟨z, rfl, HE.out⟩
end Go.Proofs.YtcedjdkldiffdaaGreatDoor.Kit
