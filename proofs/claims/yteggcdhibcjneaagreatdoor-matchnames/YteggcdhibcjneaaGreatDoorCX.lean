import Derived.Test.YteggcdhibcjneaaGreatDoorCW
set_option maxRecDepth 100000
set_option maxHeartbeats 4000000
namespace Go.Proofs.YteggcdhibcjneaaGreatDoor.Kit
variable {nx : Bool}
open Go.RowKit Go.Shelf Go.Deep
open Go.Proofs.YteggcdhibcjneaaGreatDoor.Kd (Ans AnsV cell5 cell2)
open Go.Proofs.YteggcdhibcjneaaGreatDoor.Ink (OwnRow)
set_option linter.unusedVariables false
set_option linter.unusedSimpArgs false
attribute [local go_sem] run_store_func

theorem need_2 (w : World) : Calls Tryz.prog 137 #[.int .i64 2] w fun e w' => e = .returned (.int .i64 1) ∧ w' = w := (Bits.need_pos 2 (by decide) w).mono fun e w' h => ⟨h.1, h.2.symm⟩
theorem need_3 (w : World) : Calls Tryz.prog 137 #[.int .i64 3] w fun e w' => e = .returned (.int .i64 1) ∧ w' = w := (Bits.need_pos 3 (by decide) w).mono fun e w' h => ⟨h.1, h.2.symm⟩
theorem end_2_c (q : Nat) (nu : Bool) (ao : Option Addr) (ca : Nat) (bv : Value) (W : World) (h : W.heap[q]? = some (.cells (ndC nx nu ao ca (2 : Nat) (0 : Nat) bv) 143)) : Calls Tryz.prog 134 #[.pointer (some ⟨q, 0, none⟩)] W fun e w' => e = .returned (.int .i64 2) ∧ Gr W w' := (end96 q nu ao ca 2 0 bv W h (by decide) (by decide)).mono fun e w' h => ⟨h.1, by rw [h.2]; exact gr_drew⟩
theorem end_2_d (q : Nat) (nu : Bool) (ao : Option Addr) (ca : Nat) (bv : Value) (W : World) (h : W.heap[q]? = some (.cells (ndC nx nu ao ca (3 : Nat) (0 : Nat) bv) 143)) : Calls Tryz.prog 134 #[.pointer (some ⟨q, 0, none⟩)] W fun e w' => e = .returned (.int .i64 3) ∧ Gr W w' := (end96 q nu ao ca 3 0 bv W h (by decide) (by decide)).mono fun e w' h => ⟨h.1, by rw [h.2]; exact gr_drew⟩
theorem tooSmall68_c (W : World) (q r rc : Nat) (nu : Bool) (ao : Option Addr) (ca : Nat) (v2 c2 : Nat) (h : NdA nx W q r rc nu ao ca 2 0 v2 2 c2) : Calls Tryz.prog 112 #[.pointer (some ⟨q, 0, none⟩)] W fun e w' => e = .returned (.tuple #[.int .i64 0, .int .i64 0]) ∧ Gr W w' := by
  have HN : Hid (∀ u, Gr W u → NdA nx u q r rc nu ao ca 2 0 v2 2 c2) := fun u g => h.gr g
  have hS : ∀ u, Gr W u → u.cell? ⟨q, 7, none⟩ = some (.iface 238 (.agg #[.int .i64 1, .bool true])) := fun u g => (cellF (h.gr g).nd).1
  have HS0 := hidM (hS W.drew gr_drew)
  have HS := hidM hS
  have hmeth := method_needs
  clear h hS
  go_enter Tryz.func112, Tryz.ntmps112
  go_wp2_with fail
  go_region_held3 (fun u => u.cell? ⟨q, 7, none⟩ = some (.iface 238 (.agg #[.int .i64 1, .bool true]))) (first | with_reducible exact HS0.out | with_reducible exact HS1.out | with_reducible exact HS2.out) (first
    | (go_at_call 134; refine (end_2_c q nu ao ca _ _ (HN.out _ gr_drew).nd).mono ?_; rintro e w1 ⟨rfl, g1⟩; have HG1 : Hid (Gr W w1) := Keeps.trans gr_drew g1 (fun _ _ h => h); have HS1 := hidM (HS.out w1 HG1.out); clear g1)
    | (go_at_call 261; refine (needs308_2 _).mono ?_; rintro e w2 ⟨gg, rfl, g2, hgl, hcg⟩; have HG2 := hidM (HG1.out.trans g2 (fun _ _ h => h)); have HS2 := hidM (HS.out w2 HG2.out); have HCG := hidM hcg; clear g2 hgl hcg))
  clear hmeth
  go_wp2_with (first
    | (go_at_call 135; refine (masked97 q nu ao ca (2 : Nat) (0 : Nat) _ w2 (HN.out w2 HG2.out).nd).mono ?_; rintro e w3 ⟨rfl, rfl⟩)
    | (go_at_call 134; refine (end_2_c q nu ao ca _ _ (HN.out _ HG2.out).nd).mono ?_; rintro e w3 ⟨rfl, g3⟩; have HG3 := hidM (HG2.out.trans g3 (fun _ _ h => h)); have HC3 := hidM (g3.cell' HCG.out id); clear g3)
    | (go_at_call 137; refine (need_2 _).mono ?_; rintro e w4 ⟨rfl, rfl⟩; obtain ⟨V4, hV4⟩ : ∃ V4, w4.alloc (.cells #[.int .i64 1] 3) = V4 := ⟨_, rfl⟩; have g4 : Gr w4 V4 := (by rw [← hV4]; exact gr_alloc w4 _); have HI4 := hidM (insert98 gg w4.heap.size 2 1 V4 (g4.cell' HC3.out id) (by rw [← hV4]; exact cell1 (heap_alloc_new w4 _))); have HG4 := hidM (HG3.out.trans g4 (fun _ _ h => h)); clear g4)
    | (go_at_call 136; refine HI4.out.mono ?_; rintro e w5 ⟨gn, cn, rfl, g5, hn0, hn1⟩; have HG5 := hidM (HG4.out.trans g5 (fun _ _ h => h)); have HCn := hidM (And.intro hn0 hn1); have cr := cellB (HN.out w5 HG5.out).nd; clear g5 hn0 hn1))
  replace HN : Hid (∀ u, Gr w5 u → NdA nx u q r rc nu ao ca 2 0 v2 2 c2) := fun u g => HN.out u (HG5.out.trans g (fun _ _ h => h))
  clear HS HS0 HS1 HS2 HG1 HG2 HG3 HG4 HCG HC3 HI4
  go_loopw [36] (fun i wr => ∃ k : Nat, k ≤ 2 ∧ i = .int .i64 k ∧ Hid (Gr w5 wr)) (fun i _ => 2 - (intOf i).toNat)
  case atStart => exact ⟨0, by omega, rfl, Keeps.refl _ _⟩
  case round =>
    obtain ⟨k, hk, rfl, HI⟩ := hrel
    have hk3 : k = 0 ∨ k = 1 ∨ k = 2 := by omega
    rcases hk3 with rfl | rfl | rfl
    · have cr := cellB (HN.out wr HI.out).nd
      obtain ⟨⟨bo, bc, q0⟩, q1, q2⟩ := And.intro (HN.out wr HI.out).r0 (And.intro (HN.out wr HI.out).r1 (HN.out wr HI.out).r2)
      obtain ⟨V, hV⟩ : ∃ V, wr.alloc (.cells #[.slice bo 0 bc, .int .i64 0, .pointer none] 247) = V := ⟨_, rfl⟩
      have gV : Gr wr V := by rw [← hV]; exact gr_alloc wr _
      have hbv : V.heap[wr.heap.size]? = some (.cells #[.slice bo 0 bc, .int .i64 0, .pointer none] 247) := by rw [← hV]; exact heap_alloc_new wr _
      obtain ⟨y0, y1, y2⟩ := cell3V hbv
      have z1 := frz hbv 1
      have z2 := frz hbv 2
      have i1 := set_id (j := 1) (v := .int .i64 0) hbv rfl
      have i2 := set_id (j := 2) (v := .pointer none) hbv rfl
      have HM := hidM (masked97 q nu ao ca (2 : Nat) (0 : Nat) (.slice (some ⟨r, 0, none⟩) 2 rc) V (HN.out V (HI.out.trans gV (fun _ _ h => h))).nd)
      have HBV := hidM hbv
      have HGV := hidM (HI.out.trans gV (fun _ _ h => h))
      have HSS : Hid (∀ u, Gr V u → u.cell? ⟨wr.heap.size, 0, none⟩ = some (.slice bo 0 bc) ∧ u.cell? ⟨wr.heap.size, 1, none⟩ = some (.int .i64 0) ∧ u.cell? ⟨wr.heap.size, 2, none⟩ = some (.pointer none) ∧ u.cell? ⟨gn, 0, none⟩ = some (.int .i64 1)) := fun u g => by
        obtain ⟨y0, y1, y2⟩ := cell3V ((g.block _ (lt_of_heap hbv) id).trans hbv)
        have gu := (HI.out.trans gV (fun _ _ h => h)).trans g (fun _ _ h => h)
        exact ⟨y0, y1, y2, gu.cell' HCn.out.1 id⟩
      clear gV hbv
      go_wp2_with (first
        | (go_at_call 135; refine HM.out.mono ?_; rintro e w6 ⟨rfl, rfl⟩)
        | (go_at_call 138; refine (len100 _ _ _ _).mono ?_; rintro e w7 ⟨rfl, g7⟩; have HG7 := hidM g7; obtain ⟨y0, y1, y2⟩ := cell3V ((g7.block _ (lt_of_heap HBV.out) id).trans HBV.out); have HS7 := hidM (HSS.out w7.drew (HG7.out.trans gr_drew (fun _ _ h => h))); have HN7 := hidM (HG7.out.trans gr_drew (fun _ _ h => h)); clear g7))
      refine wp_region_held_drew (S := fun w' => w'.cell? ⟨wr.heap.size, 0, none⟩ = some (.slice bo 0 bc) ∧ w'.cell? ⟨wr.heap.size, 1, none⟩ = some (.int .i64 0) ∧ w'.cell? ⟨wr.heap.size, 2, none⟩ = some (.pointer none) ∧ w'.cell? ⟨gn, 0, none⟩ = some (.int .i64 1)) (by kernel_rfl) (HS7.out) (fun hHeld => ?_)
      refine wpAnyH_take (i := 0) (oi := { dst := some 52, op := Op.load 247 (Operand.tmp 7), type := 247, pos := "check.go:122", after := #[], guard := none }) (v := ?v0g01) rfl (by kernel_rfl) (by kernel_rfl) (by kernel_rfl) (fun _ _ _ h => h) (Or.inl ⟨by rfl, ?y0g01⟩) (by assumption) ?r0g01
      case y0g01 => (intro w hSw; obtain ⟨s0, s1, s2, s3⟩ := hSw; go_simp; (try with_reducible rfl))
      (try simp only [Act.put]); (try simp only [List.setIfInBounds_toArray]); (try simp only [List.set_cons_succ]); (try simp only [List.set_cons_zero])
      refine wpAnyH_take (i := 2) (oi := { dst := some 54, op := Op.move (Operand.tmp 4), type := 34, pos := "check.go:122", after := #[], guard := none }) (v := ?v2g02) rfl (by kernel_rfl) (by kernel_rfl) (by kernel_rfl) (fun _ _ _ h => h) (Or.inl ⟨by rfl, ?y2g02⟩) (by assumption) ?r2g02
      case y2g02 => (intro w hSw; obtain ⟨s0, s1, s2, s3⟩ := hSw; go_simp; (try with_reducible rfl))
      (try simp only [Act.put]); (try simp only [List.setIfInBounds_toArray]); (try simp only [List.set_cons_succ]); (try simp only [List.set_cons_zero])
      refine wpAnyH_take (i := 3) (oi := { dst := some 55, op := Op.move (Operand.tmp 6), type := 3, pos := "check.go:122", after := #[], guard := none }) (v := ?v3g03) rfl (by kernel_rfl) (by kernel_rfl) (by kernel_rfl) (fun _ _ _ h => h) (Or.inl ⟨by rfl, ?y3g03⟩) (by assumption) ?r3g03
      case y3g03 => (intro w hSw; obtain ⟨s0, s1, s2, s3⟩ := hSw; go_simp; (try with_reducible rfl))
      (try simp only [Act.put]); (try simp only [List.setIfInBounds_toArray]); (try simp only [List.set_cons_succ]); (try simp only [List.set_cons_zero])
      refine wpAnyH_take (i := 4) (oi := { dst := some 56, op := Op.indexAddr 34 (Operand.tmp 54) (Operand.tmp 55), type := 0, pos := "check.go:122", after := #[{ on := 2, ground := Ground.data }, { on := 3, ground := Ground.data }], guard := none }) (v := ?v4g04) rfl (by kernel_rfl) (by kernel_rfl) (by kernel_rfl) (fun _ _ _ h => h) (Or.inl ⟨by rfl, ?y4g04⟩) (by assumption) ?r4g04
      case y4g04 => (intro w hSw; obtain ⟨s0, s1, s2, s3⟩ := hSw; go_simp; (try with_reducible rfl))
      (try simp only [Act.put]); (try simp only [List.setIfInBounds_toArray]); (try simp only [List.set_cons_succ]); (try simp only [List.set_cons_zero])
      refine wpAnyH_take (i := 5) (oi := { dst := some 57, op := Op.load 3 (Operand.tmp 56), type := 3, pos := "check.go:122", after := #[{ on := 4, ground := Ground.data }], guard := none }) (v := ?v5g05) rfl (by kernel_rfl) (by kernel_rfl) (by kernel_rfl) (fun _ _ _ h => h) (Or.inl ⟨by rfl, ?y5g05⟩) (by assumption) ?r5g05
      case y5g05 => (intro w hSw; obtain ⟨s0, s1, s2, s3⟩ := hSw; go_simp; (try with_reducible rfl))
      (try simp only [Act.put]); (try simp only [List.setIfInBounds_toArray]); (try simp only [List.set_cons_succ]); (try simp only [List.set_cons_zero])
      refine wpAnyH_ready (rs := [1]) (by kernel_rfl) (by simp) ?_
      refine AllReadyH.cons (o := { dst := some 53, op := Op.call { callee := Callee.value (Operand.func 138), args := #[Operand.tmp 52], argTypes := #[247] }, type := 3, pos := "check.go:122", after := #[{ on := 0, ground := Ground.data }], guard := none }) rfl (fun Kc hK => ?_) AllReadyH.nil
      go_simp
      go_at_call 138
      refine Calls.mono (len100 _ _ _ _) ?_
      rintro e' w8 ⟨rfl, g8⟩; have HG8 := hidM (HN7.out.trans g8 (fun _ _ h => h)); have HS8 := hidM (HSS.out w8 HG8.out); clear g8
      go_wp2_with fail
      refine hK.out _ _ (HS8.out) (fun hHeld => ?_)
      clear hK Kc
      (try simp only [Act.put]); (try simp only [List.setIfInBounds_toArray]); (try simp only [List.set_cons_succ]); (try simp only [List.set_cons_zero])
      refine wpAnyH_take (i := 6) (oi := { dst := some 58, op := Op.binOp BinOp.lss 3 (Operand.tmp 53) (Operand.tmp 57) 3, type := 4, pos := "check.go:122", after := #[{ on := 1, ground := Ground.data }, { on := 5, ground := Ground.data }], guard := none }) (v := ?v6g06) rfl (by kernel_rfl) (by kernel_rfl) (by kernel_rfl) (fun _ _ _ h => h) (Or.inl ⟨by rfl, ?y6g06⟩) (by assumption) ?r6g06
      case y6g06 => (intro w hSw; obtain ⟨s0, s1, s2, s3⟩ := hSw; go_simp; (try with_reducible rfl))
      (try simp only [Act.put]); (try simp only [List.setIfInBounds_toArray]); (try simp only [List.set_cons_succ]); (try simp only [List.set_cons_zero])
      refine wpAnyH_take (i := 7) (oi := { dst := some 59, op := Op.move (Operand.tmp 58), type := 4, pos := "check.go:122", after := #[{ on := 6, ground := Ground.data }, { on := 1, ground := Ground.chain }], guard := none }) (v := ?v7g07) rfl (by kernel_rfl) (by kernel_rfl) (by kernel_rfl) (fun _ _ _ h => h) (Or.inl ⟨by rfl, ?y7g07⟩) (by assumption) ?r7g07
      case y7g07 => (intro w hSw; obtain ⟨s0, s1, s2, s3⟩ := hSw; go_simp; (try with_reducible rfl))
      (try simp only [Act.put]); (try simp only [List.setIfInBounds_toArray]); (try simp only [List.set_cons_succ]); (try simp only [List.set_cons_zero])
      refine wpAnyH_take (i := 8) (oi := { dst := some 60, op := Op.move (Operand.tmp 8), type := 4, pos := "check.go:122", after := #[{ on := 7, ground := Ground.guard }], guard := some (7, true) }) (v := ?v8g08) rfl (by kernel_rfl) (by kernel_rfl) (by kernel_rfl) (fun _ _ _ h => h) (Or.inl ⟨by rfl, ?y8g08⟩) (by assumption) ?r8g08
      case y8g08 => (intro w hSw; obtain ⟨s0, s1, s2, s3⟩ := hSw; go_simp; (try with_reducible rfl))
      (try simp only [Act.put]); (try simp only [List.setIfInBounds_toArray]); (try simp only [List.set_cons_succ]); (try simp only [List.set_cons_zero])
      refine wpAnyH_take (i := 9) (oi := { dst := some 61, op := Op.unOp UnOp.not 4 (Operand.tmp 60), type := 4, pos := "check.go:122", after := #[{ on := 8, ground := Ground.data }, { on := 7, ground := Ground.guard }], guard := some (7, true) }) (v := ?v9g09) rfl (by kernel_rfl) (by kernel_rfl) (by kernel_rfl) (fun _ _ _ h => h) (Or.inl ⟨by rfl, ?y9g09⟩) (by assumption) ?r9g09
      case y9g09 => (intro w hSw; obtain ⟨s0, s1, s2, s3⟩ := hSw; go_simp; (try with_reducible rfl))
      (try simp only [Act.put]); (try simp only [List.setIfInBounds_toArray]); (try simp only [List.set_cons_succ]); (try simp only [List.set_cons_zero])
      refine wpAnyH_take (i := 10) (oi := { dst := some 62, op := Op.pick (Operand.tmp 59) (Operand.tmp 61) (Operand.const (Value.bool false)), type := 4, pos := "check.go:122", after := #[{ on := 7, ground := Ground.data }, { on := 9, ground := Ground.data }], guard := none }) (v := ?v10g010) rfl (by kernel_rfl) (by kernel_rfl) (by kernel_rfl) (fun _ _ _ h => h) (Or.inl ⟨by rfl, ?y10g010⟩) (by assumption) ?r10g010
      case y10g010 => (intro w hSw; obtain ⟨s0, s1, s2, s3⟩ := hSw; go_simp; (try with_reducible rfl))
      (try simp only [Act.put]); (try simp only [List.setIfInBounds_toArray]); (try simp only [List.set_cons_succ]); (try simp only [List.set_cons_zero])
      refine wpAnyH_done (by kernel_rfl) ?_ _
      go_wp2_with fail
      go_roundw
      case rel => exact ⟨1, by omega, by go_num, HGV.out.trans HG8.out (fun _ _ h => h)⟩
      case measure => simp [intOf]
    · have cr := cellB (HN.out wr HI.out).nd
      obtain ⟨q0, q1, q2⟩ := And.intro (HN.out wr HI.out).r3 (And.intro (HN.out wr HI.out).r4 (HN.out wr HI.out).r5)
      obtain ⟨V, hV⟩ : ∃ V, wr.alloc (.cells #[.slice (some ⟨v2, 0, none⟩) 2 c2, .int .i64 0, .pointer none] 247) = V := ⟨_, rfl⟩
      have gV : Gr wr V := by rw [← hV]; exact gr_alloc wr _
      have hbv : V.heap[wr.heap.size]? = some (.cells #[.slice (some ⟨v2, 0, none⟩) 2 c2, .int .i64 0, .pointer none] 247) := by rw [← hV]; exact heap_alloc_new wr _
      obtain ⟨y0, y1, y2⟩ := cell3V hbv
      have z1 := frz hbv 1
      have z2 := frz hbv 2
      have i1 := set_id (j := 1) (v := .int .i64 0) hbv rfl
      have i2 := set_id (j := 2) (v := .pointer none) hbv rfl
      have HM := hidM (masked97 q nu ao ca (2 : Nat) (0 : Nat) (.slice (some ⟨r, 0, none⟩) 2 rc) V (HN.out V (HI.out.trans gV (fun _ _ h => h))).nd)
      have HBV := hidM hbv
      have HGV := hidM (HI.out.trans gV (fun _ _ h => h))
      have HSS : Hid (∀ u, Gr V u → u.cell? ⟨wr.heap.size, 0, none⟩ = some (.slice (some ⟨v2, 0, none⟩) 2 c2) ∧ u.cell? ⟨wr.heap.size, 1, none⟩ = some (.int .i64 0) ∧ u.cell? ⟨wr.heap.size, 2, none⟩ = some (.pointer none) ∧ u.cell? ⟨gn, 1, none⟩ = some (.int .i64 2)) := fun u g => by
        obtain ⟨y0, y1, y2⟩ := cell3V ((g.block _ (lt_of_heap hbv) id).trans hbv)
        have gu := (HI.out.trans gV (fun _ _ h => h)).trans g (fun _ _ h => h)
        exact ⟨y0, y1, y2, gu.cell' HCn.out.2 id⟩
      have HS7 := hidM (HSS.out V.drew gr_drew)
      have HN7 := hidM (gr_drew : Gr V V.drew)
      clear gV hbv
      go_wp2_with fail
      refine wp_region_held_drew (S := fun w' => w'.cell? ⟨wr.heap.size, 0, none⟩ = some (.slice (some ⟨v2, 0, none⟩) 2 c2) ∧ w'.cell? ⟨wr.heap.size, 1, none⟩ = some (.int .i64 0) ∧ w'.cell? ⟨wr.heap.size, 2, none⟩ = some (.pointer none) ∧ w'.cell? ⟨gn, 1, none⟩ = some (.int .i64 2)) (by kernel_rfl) (HS7.out) (fun hHeld => ?_)
      refine wpAnyH_take (i := 0) (oi := { dst := some 52, op := Op.load 247 (Operand.tmp 7), type := 247, pos := "check.go:122", after := #[], guard := none }) (v := ?v0g11) rfl (by kernel_rfl) (by kernel_rfl) (by kernel_rfl) (fun _ _ _ h => h) (Or.inl ⟨by rfl, ?y0g11⟩) (by assumption) ?r0g11
      case y0g11 => (intro w hSw; obtain ⟨s0, s1, s2, s3⟩ := hSw; go_simp; (try with_reducible rfl))
      (try simp only [Act.put]); (try simp only [List.setIfInBounds_toArray]); (try simp only [List.set_cons_succ]); (try simp only [List.set_cons_zero])
      refine wpAnyH_take (i := 2) (oi := { dst := some 54, op := Op.move (Operand.tmp 4), type := 34, pos := "check.go:122", after := #[], guard := none }) (v := ?v2g12) rfl (by kernel_rfl) (by kernel_rfl) (by kernel_rfl) (fun _ _ _ h => h) (Or.inl ⟨by rfl, ?y2g12⟩) (by assumption) ?r2g12
      case y2g12 => (intro w hSw; obtain ⟨s0, s1, s2, s3⟩ := hSw; go_simp; (try with_reducible rfl))
      (try simp only [Act.put]); (try simp only [List.setIfInBounds_toArray]); (try simp only [List.set_cons_succ]); (try simp only [List.set_cons_zero])
      refine wpAnyH_take (i := 3) (oi := { dst := some 55, op := Op.move (Operand.tmp 6), type := 3, pos := "check.go:122", after := #[], guard := none }) (v := ?v3g13) rfl (by kernel_rfl) (by kernel_rfl) (by kernel_rfl) (fun _ _ _ h => h) (Or.inl ⟨by rfl, ?y3g13⟩) (by assumption) ?r3g13
      case y3g13 => (intro w hSw; obtain ⟨s0, s1, s2, s3⟩ := hSw; go_simp; (try with_reducible rfl))
      (try simp only [Act.put]); (try simp only [List.setIfInBounds_toArray]); (try simp only [List.set_cons_succ]); (try simp only [List.set_cons_zero])
      refine wpAnyH_take (i := 4) (oi := { dst := some 56, op := Op.indexAddr 34 (Operand.tmp 54) (Operand.tmp 55), type := 0, pos := "check.go:122", after := #[{ on := 2, ground := Ground.data }, { on := 3, ground := Ground.data }], guard := none }) (v := ?v4g14) rfl (by kernel_rfl) (by kernel_rfl) (by kernel_rfl) (fun _ _ _ h => h) (Or.inl ⟨by rfl, ?y4g14⟩) (by assumption) ?r4g14
      case y4g14 => (intro w hSw; obtain ⟨s0, s1, s2, s3⟩ := hSw; go_simp; (try with_reducible rfl))
      (try simp only [Act.put]); (try simp only [List.setIfInBounds_toArray]); (try simp only [List.set_cons_succ]); (try simp only [List.set_cons_zero])
      refine wpAnyH_take (i := 5) (oi := { dst := some 57, op := Op.load 3 (Operand.tmp 56), type := 3, pos := "check.go:122", after := #[{ on := 4, ground := Ground.data }], guard := none }) (v := ?v5g15) rfl (by kernel_rfl) (by kernel_rfl) (by kernel_rfl) (fun _ _ _ h => h) (Or.inl ⟨by rfl, ?y5g15⟩) (by assumption) ?r5g15
      case y5g15 => (intro w hSw; obtain ⟨s0, s1, s2, s3⟩ := hSw; go_simp; (try with_reducible rfl))
      (try simp only [Act.put]); (try simp only [List.setIfInBounds_toArray]); (try simp only [List.set_cons_succ]); (try simp only [List.set_cons_zero])
      refine wpAnyH_ready (rs := [1]) (by kernel_rfl) (by simp) ?_
      refine AllReadyH.cons (o := { dst := some 53, op := Op.call { callee := Callee.value (Operand.func 138), args := #[Operand.tmp 52], argTypes := #[247] }, type := 3, pos := "check.go:122", after := #[{ on := 0, ground := Ground.data }], guard := none }) rfl (fun Kc hK => ?_) AllReadyH.nil
      go_simp
      go_at_call 138
      refine Calls.mono (len100 _ _ _ _) ?_
      rintro e' w8 ⟨rfl, g8⟩; have HG8 := hidM (HN7.out.trans g8 (fun _ _ h => h)); have HS8 := hidM (HSS.out w8 HG8.out); clear g8
      go_wp2_with fail
      refine hK.out _ _ (HS8.out) (fun hHeld => ?_)
      clear hK Kc
      (try simp only [Act.put]); (try simp only [List.setIfInBounds_toArray]); (try simp only [List.set_cons_succ]); (try simp only [List.set_cons_zero])
      refine wpAnyH_take (i := 6) (oi := { dst := some 58, op := Op.binOp BinOp.lss 3 (Operand.tmp 53) (Operand.tmp 57) 3, type := 4, pos := "check.go:122", after := #[{ on := 1, ground := Ground.data }, { on := 5, ground := Ground.data }], guard := none }) (v := ?v6g16) rfl (by kernel_rfl) (by kernel_rfl) (by kernel_rfl) (fun _ _ _ h => h) (Or.inl ⟨by rfl, ?y6g16⟩) (by assumption) ?r6g16
      case y6g16 => (intro w hSw; obtain ⟨s0, s1, s2, s3⟩ := hSw; go_simp; (try with_reducible rfl))
      (try simp only [Act.put]); (try simp only [List.setIfInBounds_toArray]); (try simp only [List.set_cons_succ]); (try simp only [List.set_cons_zero])
      refine wpAnyH_take (i := 7) (oi := { dst := some 59, op := Op.move (Operand.tmp 58), type := 4, pos := "check.go:122", after := #[{ on := 6, ground := Ground.data }, { on := 1, ground := Ground.chain }], guard := none }) (v := ?v7g17) rfl (by kernel_rfl) (by kernel_rfl) (by kernel_rfl) (fun _ _ _ h => h) (Or.inl ⟨by rfl, ?y7g17⟩) (by assumption) ?r7g17
      case y7g17 => (intro w hSw; obtain ⟨s0, s1, s2, s3⟩ := hSw; go_simp; (try with_reducible rfl))
      (try simp only [Act.put]); (try simp only [List.setIfInBounds_toArray]); (try simp only [List.set_cons_succ]); (try simp only [List.set_cons_zero])
      refine wpAnyH_take (i := 8) (oi := { dst := some 60, op := Op.move (Operand.tmp 8), type := 4, pos := "check.go:122", after := #[{ on := 7, ground := Ground.guard }], guard := some (7, true) }) (v := undef) rfl (by kernel_rfl) (by kernel_rfl) (by kernel_rfl) (fun _ _ _ h => h) (Or.inr ⟨by kernel_rfl, rfl⟩) (by assumption) ?r8g18
      (try simp only [Act.put]); (try simp only [List.setIfInBounds_toArray]); (try simp only [List.set_cons_succ]); (try simp only [List.set_cons_zero])
      refine wpAnyH_take (i := 9) (oi := { dst := some 61, op := Op.unOp UnOp.not 4 (Operand.tmp 60), type := 4, pos := "check.go:122", after := #[{ on := 8, ground := Ground.data }, { on := 7, ground := Ground.guard }], guard := some (7, true) }) (v := undef) rfl (by kernel_rfl) (by kernel_rfl) (by kernel_rfl) (fun _ _ _ h => h) (Or.inr ⟨by kernel_rfl, rfl⟩) (by assumption) ?r9g19
      (try simp only [Act.put]); (try simp only [List.setIfInBounds_toArray]); (try simp only [List.set_cons_succ]); (try simp only [List.set_cons_zero])
      refine wpAnyH_take (i := 10) (oi := { dst := some 62, op := Op.pick (Operand.tmp 59) (Operand.tmp 61) (Operand.const (Value.bool false)), type := 4, pos := "check.go:122", after := #[{ on := 7, ground := Ground.data }, { on := 9, ground := Ground.data }], guard := none }) (v := ?v10g110) rfl (by kernel_rfl) (by kernel_rfl) (by kernel_rfl) (fun _ _ _ h => h) (Or.inl ⟨by rfl, ?y10g110⟩) (by assumption) ?r10g110
      case y10g110 => (intro w hSw; obtain ⟨s0, s1, s2, s3⟩ := hSw; go_simp; (try with_reducible rfl))
      (try simp only [Act.put]); (try simp only [List.setIfInBounds_toArray]); (try simp only [List.set_cons_succ]); (try simp only [List.set_cons_zero])
      refine wpAnyH_done (by kernel_rfl) ?_ _
      go_wp2_with fail
      go_roundw
      case rel => exact ⟨2, by omega, by go_num, HGV.out.trans HG8.out (fun _ _ h => h)⟩
      case measure => simp [intOf]
    · obtain ⟨c7, c9, c12⟩ := cellF (HN.out wr HI.out).nd
      go_wp2_with fail
      go_loopw [70] (fun i u => i = .int .i64 0 ∧ u = wr) (fun i _ => 0)
      case atStart => exact ⟨rfl, rfl⟩
      case round =>
        obtain ⟨rfl, rfl⟩ := hrel
        go_wp2_with fail
        go_ret2
        exact ⟨rfl, HG5.out.trans HI.out (fun _ _ h => h)⟩
theorem tooSmall68_d (W : World) (q r rc : Nat) (nu : Bool) (ao : Option Addr) (ca : Nat) (v2 c2 : Nat) (h : NdA nx W q r rc nu ao ca 3 0 v2 3 c2) : Calls Tryz.prog 112 #[.pointer (some ⟨q, 0, none⟩)] W fun e w' => e = .returned (.tuple #[.int .i64 0, .int .i64 0]) ∧ Gr W w' := by
  have HN : Hid (∀ u, Gr W u → NdA nx u q r rc nu ao ca 3 0 v2 3 c2) := fun u g => h.gr g
  have hS : ∀ u, Gr W u → u.cell? ⟨q, 7, none⟩ = some (.iface 238 (.agg #[.int .i64 1, .bool true])) := fun u g => (cellF (h.gr g).nd).1
  have HS0 := hidM (hS W.drew gr_drew)
  have HS := hidM hS
  have hmeth := method_needs
  clear h hS
  go_enter Tryz.func112, Tryz.ntmps112
  go_wp2_with fail
  go_region_held3 (fun u => u.cell? ⟨q, 7, none⟩ = some (.iface 238 (.agg #[.int .i64 1, .bool true]))) (first | with_reducible exact HS0.out | with_reducible exact HS1.out | with_reducible exact HS2.out) (first
    | (go_at_call 134; refine (end_2_d q nu ao ca _ _ (HN.out _ gr_drew).nd).mono ?_; rintro e w1 ⟨rfl, g1⟩; have HG1 : Hid (Gr W w1) := Keeps.trans gr_drew g1 (fun _ _ h => h); have HS1 := hidM (HS.out w1 HG1.out); clear g1)
    | (go_at_call 261; refine (needs308_3 _).mono ?_; rintro e w2 ⟨gg, rfl, g2, hgl, hcg⟩; have HG2 := hidM (HG1.out.trans g2 (fun _ _ h => h)); have HS2 := hidM (HS.out w2 HG2.out); have HCG := hidM hcg; clear g2 hgl hcg))
  clear hmeth
  go_wp2_with (first
    | (go_at_call 135; refine (masked97 q nu ao ca (3 : Nat) (0 : Nat) _ w2 (HN.out w2 HG2.out).nd).mono ?_; rintro e w3 ⟨rfl, rfl⟩)
    | (go_at_call 134; refine (end_2_d q nu ao ca _ _ (HN.out _ HG2.out).nd).mono ?_; rintro e w3 ⟨rfl, g3⟩; have HG3 := hidM (HG2.out.trans g3 (fun _ _ h => h)); have HC3 := hidM (g3.cell' HCG.out id); clear g3)
    | (go_at_call 137; refine (need_3 _).mono ?_; rintro e w4 ⟨rfl, rfl⟩; obtain ⟨V4, hV4⟩ : ∃ V4, w4.alloc (.cells #[.int .i64 1] 3) = V4 := ⟨_, rfl⟩; have g4 : Gr w4 V4 := (by rw [← hV4]; exact gr_alloc w4 _); have HI4 := hidM (insert98 gg w4.heap.size 3 1 V4 (g4.cell' HC3.out id) (by rw [← hV4]; exact cell1 (heap_alloc_new w4 _))); have HG4 := hidM (HG3.out.trans g4 (fun _ _ h => h)); clear g4)
    | (go_at_call 136; refine HI4.out.mono ?_; rintro e w5 ⟨gn, cn, rfl, g5, hn0, hn1⟩; have HG5 := hidM (HG4.out.trans g5 (fun _ _ h => h)); have HCn := hidM (And.intro hn0 hn1); have cr := cellB (HN.out w5 HG5.out).nd; clear g5 hn0 hn1))
  replace HN : Hid (∀ u, Gr w5 u → NdA nx u q r rc nu ao ca 3 0 v2 3 c2) := fun u g => HN.out u (HG5.out.trans g (fun _ _ h => h))
  clear HS HS0 HS1 HS2 HG1 HG2 HG3 HG4 HCG HC3 HI4
  go_loopw [36] (fun i wr => ∃ k : Nat, k ≤ 2 ∧ i = .int .i64 k ∧ Hid (Gr w5 wr)) (fun i _ => 2 - (intOf i).toNat)
  case atStart => exact ⟨0, by omega, rfl, Keeps.refl _ _⟩
  case round =>
    obtain ⟨k, hk, rfl, HI⟩ := hrel
    have hk3 : k = 0 ∨ k = 1 ∨ k = 2 := by omega
    rcases hk3 with rfl | rfl | rfl
    · have cr := cellB (HN.out wr HI.out).nd
      obtain ⟨⟨bo, bc, q0⟩, q1, q2⟩ := And.intro (HN.out wr HI.out).r0 (And.intro (HN.out wr HI.out).r1 (HN.out wr HI.out).r2)
      obtain ⟨V, hV⟩ : ∃ V, wr.alloc (.cells #[.slice bo 0 bc, .int .i64 0, .pointer none] 247) = V := ⟨_, rfl⟩
      have gV : Gr wr V := by rw [← hV]; exact gr_alloc wr _
      have hbv : V.heap[wr.heap.size]? = some (.cells #[.slice bo 0 bc, .int .i64 0, .pointer none] 247) := by rw [← hV]; exact heap_alloc_new wr _
      obtain ⟨y0, y1, y2⟩ := cell3V hbv
      have z1 := frz hbv 1
      have z2 := frz hbv 2
      have i1 := set_id (j := 1) (v := .int .i64 0) hbv rfl
      have i2 := set_id (j := 2) (v := .pointer none) hbv rfl
      have HM := hidM (masked97 q nu ao ca (3 : Nat) (0 : Nat) (.slice (some ⟨r, 0, none⟩) 2 rc) V (HN.out V (HI.out.trans gV (fun _ _ h => h))).nd)
      have HBV := hidM hbv
      have HGV := hidM (HI.out.trans gV (fun _ _ h => h))
      have HSS : Hid (∀ u, Gr V u → u.cell? ⟨wr.heap.size, 0, none⟩ = some (.slice bo 0 bc) ∧ u.cell? ⟨wr.heap.size, 1, none⟩ = some (.int .i64 0) ∧ u.cell? ⟨wr.heap.size, 2, none⟩ = some (.pointer none) ∧ u.cell? ⟨gn, 0, none⟩ = some (.int .i64 1)) := fun u g => by
        obtain ⟨y0, y1, y2⟩ := cell3V ((g.block _ (lt_of_heap hbv) id).trans hbv)
        have gu := (HI.out.trans gV (fun _ _ h => h)).trans g (fun _ _ h => h)
        exact ⟨y0, y1, y2, gu.cell' HCn.out.1 id⟩
      clear gV hbv
      go_wp2_with (first
        | (go_at_call 135; refine HM.out.mono ?_; rintro e w6 ⟨rfl, rfl⟩)
        | (go_at_call 138; refine (len100 _ _ _ _).mono ?_; rintro e w7 ⟨rfl, g7⟩; have HG7 := hidM g7; obtain ⟨y0, y1, y2⟩ := cell3V ((g7.block _ (lt_of_heap HBV.out) id).trans HBV.out); have HS7 := hidM (HSS.out w7.drew (HG7.out.trans gr_drew (fun _ _ h => h))); have HN7 := hidM (HG7.out.trans gr_drew (fun _ _ h => h)); clear g7))
      refine wp_region_held_drew (S := fun w' => w'.cell? ⟨wr.heap.size, 0, none⟩ = some (.slice bo 0 bc) ∧ w'.cell? ⟨wr.heap.size, 1, none⟩ = some (.int .i64 0) ∧ w'.cell? ⟨wr.heap.size, 2, none⟩ = some (.pointer none) ∧ w'.cell? ⟨gn, 0, none⟩ = some (.int .i64 1)) (by kernel_rfl) (HS7.out) (fun hHeld => ?_)
      refine wpAnyH_take (i := 0) (oi := { dst := some 52, op := Op.load 247 (Operand.tmp 7), type := 247, pos := "check.go:122", after := #[], guard := none }) (v := ?v0g01) rfl (by kernel_rfl) (by kernel_rfl) (by kernel_rfl) (fun _ _ _ h => h) (Or.inl ⟨by rfl, ?y0g01⟩) (by assumption) ?r0g01
      case y0g01 => (intro w hSw; obtain ⟨s0, s1, s2, s3⟩ := hSw; go_simp; (try with_reducible rfl))
      (try simp only [Act.put]); (try simp only [List.setIfInBounds_toArray]); (try simp only [List.set_cons_succ]); (try simp only [List.set_cons_zero])
      refine wpAnyH_take (i := 2) (oi := { dst := some 54, op := Op.move (Operand.tmp 4), type := 34, pos := "check.go:122", after := #[], guard := none }) (v := ?v2g02) rfl (by kernel_rfl) (by kernel_rfl) (by kernel_rfl) (fun _ _ _ h => h) (Or.inl ⟨by rfl, ?y2g02⟩) (by assumption) ?r2g02
      case y2g02 => (intro w hSw; obtain ⟨s0, s1, s2, s3⟩ := hSw; go_simp; (try with_reducible rfl))
      (try simp only [Act.put]); (try simp only [List.setIfInBounds_toArray]); (try simp only [List.set_cons_succ]); (try simp only [List.set_cons_zero])
      refine wpAnyH_take (i := 3) (oi := { dst := some 55, op := Op.move (Operand.tmp 6), type := 3, pos := "check.go:122", after := #[], guard := none }) (v := ?v3g03) rfl (by kernel_rfl) (by kernel_rfl) (by kernel_rfl) (fun _ _ _ h => h) (Or.inl ⟨by rfl, ?y3g03⟩) (by assumption) ?r3g03
      case y3g03 => (intro w hSw; obtain ⟨s0, s1, s2, s3⟩ := hSw; go_simp; (try with_reducible rfl))
      (try simp only [Act.put]); (try simp only [List.setIfInBounds_toArray]); (try simp only [List.set_cons_succ]); (try simp only [List.set_cons_zero])
      refine wpAnyH_take (i := 4) (oi := { dst := some 56, op := Op.indexAddr 34 (Operand.tmp 54) (Operand.tmp 55), type := 0, pos := "check.go:122", after := #[{ on := 2, ground := Ground.data }, { on := 3, ground := Ground.data }], guard := none }) (v := ?v4g04) rfl (by kernel_rfl) (by kernel_rfl) (by kernel_rfl) (fun _ _ _ h => h) (Or.inl ⟨by rfl, ?y4g04⟩) (by assumption) ?r4g04
      case y4g04 => (intro w hSw; obtain ⟨s0, s1, s2, s3⟩ := hSw; go_simp; (try with_reducible rfl))
      (try simp only [Act.put]); (try simp only [List.setIfInBounds_toArray]); (try simp only [List.set_cons_succ]); (try simp only [List.set_cons_zero])
      refine wpAnyH_take (i := 5) (oi := { dst := some 57, op := Op.load 3 (Operand.tmp 56), type := 3, pos := "check.go:122", after := #[{ on := 4, ground := Ground.data }], guard := none }) (v := ?v5g05) rfl (by kernel_rfl) (by kernel_rfl) (by kernel_rfl) (fun _ _ _ h => h) (Or.inl ⟨by rfl, ?y5g05⟩) (by assumption) ?r5g05
      case y5g05 => (intro w hSw; obtain ⟨s0, s1, s2, s3⟩ := hSw; go_simp; (try with_reducible rfl))
      (try simp only [Act.put]); (try simp only [List.setIfInBounds_toArray]); (try simp only [List.set_cons_succ]); (try simp only [List.set_cons_zero])
      refine wpAnyH_ready (rs := [1]) (by kernel_rfl) (by simp) ?_
      refine AllReadyH.cons (o := { dst := some 53, op := Op.call { callee := Callee.value (Operand.func 138), args := #[Operand.tmp 52], argTypes := #[247] }, type := 3, pos := "check.go:122", after := #[{ on := 0, ground := Ground.data }], guard := none }) rfl (fun Kc hK => ?_) AllReadyH.nil
      go_simp
      go_at_call 138
      refine Calls.mono (len100 _ _ _ _) ?_
      rintro e' w8 ⟨rfl, g8⟩; have HG8 := hidM (HN7.out.trans g8 (fun _ _ h => h)); have HS8 := hidM (HSS.out w8 HG8.out); clear g8
      go_wp2_with fail
      refine hK.out _ _ (HS8.out) (fun hHeld => ?_)
      clear hK Kc
      (try simp only [Act.put]); (try simp only [List.setIfInBounds_toArray]); (try simp only [List.set_cons_succ]); (try simp only [List.set_cons_zero])
      refine wpAnyH_take (i := 6) (oi := { dst := some 58, op := Op.binOp BinOp.lss 3 (Operand.tmp 53) (Operand.tmp 57) 3, type := 4, pos := "check.go:122", after := #[{ on := 1, ground := Ground.data }, { on := 5, ground := Ground.data }], guard := none }) (v := ?v6g06) rfl (by kernel_rfl) (by kernel_rfl) (by kernel_rfl) (fun _ _ _ h => h) (Or.inl ⟨by rfl, ?y6g06⟩) (by assumption) ?r6g06
      case y6g06 => (intro w hSw; obtain ⟨s0, s1, s2, s3⟩ := hSw; go_simp; (try with_reducible rfl))
      (try simp only [Act.put]); (try simp only [List.setIfInBounds_toArray]); (try simp only [List.set_cons_succ]); (try simp only [List.set_cons_zero])
      refine wpAnyH_take (i := 7) (oi := { dst := some 59, op := Op.move (Operand.tmp 58), type := 4, pos := "check.go:122", after := #[{ on := 6, ground := Ground.data }, { on := 1, ground := Ground.chain }], guard := none }) (v := ?v7g07) rfl (by kernel_rfl) (by kernel_rfl) (by kernel_rfl) (fun _ _ _ h => h) (Or.inl ⟨by rfl, ?y7g07⟩) (by assumption) ?r7g07
      case y7g07 => (intro w hSw; obtain ⟨s0, s1, s2, s3⟩ := hSw; go_simp; (try with_reducible rfl))
      (try simp only [Act.put]); (try simp only [List.setIfInBounds_toArray]); (try simp only [List.set_cons_succ]); (try simp only [List.set_cons_zero])
      refine wpAnyH_take (i := 8) (oi := { dst := some 60, op := Op.move (Operand.tmp 8), type := 4, pos := "check.go:122", after := #[{ on := 7, ground := Ground.guard }], guard := some (7, true) }) (v := ?v8g08) rfl (by kernel_rfl) (by kernel_rfl) (by kernel_rfl) (fun _ _ _ h => h) (Or.inl ⟨by rfl, ?y8g08⟩) (by assumption) ?r8g08
      case y8g08 => (intro w hSw; obtain ⟨s0, s1, s2, s3⟩ := hSw; go_simp; (try with_reducible rfl))
      (try simp only [Act.put]); (try simp only [List.setIfInBounds_toArray]); (try simp only [List.set_cons_succ]); (try simp only [List.set_cons_zero])
      refine wpAnyH_take (i := 9) (oi := { dst := some 61, op := Op.unOp UnOp.not 4 (Operand.tmp 60), type := 4, pos := "check.go:122", after := #[{ on := 8, ground := Ground.data }, { on := 7, ground := Ground.guard }], guard := some (7, true) }) (v := ?v9g09) rfl (by kernel_rfl) (by kernel_rfl) (by kernel_rfl) (fun _ _ _ h => h) (Or.inl ⟨by rfl, ?y9g09⟩) (by assumption) ?r9g09
      case y9g09 => (intro w hSw; obtain ⟨s0, s1, s2, s3⟩ := hSw; go_simp; (try with_reducible rfl))
      (try simp only [Act.put]); (try simp only [List.setIfInBounds_toArray]); (try simp only [List.set_cons_succ]); (try simp only [List.set_cons_zero])
      refine wpAnyH_take (i := 10) (oi := { dst := some 62, op := Op.pick (Operand.tmp 59) (Operand.tmp 61) (Operand.const (Value.bool false)), type := 4, pos := "check.go:122", after := #[{ on := 7, ground := Ground.data }, { on := 9, ground := Ground.data }], guard := none }) (v := ?v10g010) rfl (by kernel_rfl) (by kernel_rfl) (by kernel_rfl) (fun _ _ _ h => h) (Or.inl ⟨by rfl, ?y10g010⟩) (by assumption) ?r10g010
      case y10g010 => (intro w hSw; obtain ⟨s0, s1, s2, s3⟩ := hSw; go_simp; (try with_reducible rfl))
      (try simp only [Act.put]); (try simp only [List.setIfInBounds_toArray]); (try simp only [List.set_cons_succ]); (try simp only [List.set_cons_zero])
      refine wpAnyH_done (by kernel_rfl) ?_ _
      go_wp2_with fail
      go_roundw
      case rel => exact ⟨1, by omega, by go_num, HGV.out.trans HG8.out (fun _ _ h => h)⟩
      case measure => simp [intOf]
    · have cr := cellB (HN.out wr HI.out).nd
      obtain ⟨q0, q1, q2⟩ := And.intro (HN.out wr HI.out).r3 (And.intro (HN.out wr HI.out).r4 (HN.out wr HI.out).r5)
      obtain ⟨V, hV⟩ : ∃ V, wr.alloc (.cells #[.slice (some ⟨v2, 0, none⟩) 3 c2, .int .i64 0, .pointer none] 247) = V := ⟨_, rfl⟩
      have gV : Gr wr V := by rw [← hV]; exact gr_alloc wr _
      have hbv : V.heap[wr.heap.size]? = some (.cells #[.slice (some ⟨v2, 0, none⟩) 3 c2, .int .i64 0, .pointer none] 247) := by rw [← hV]; exact heap_alloc_new wr _
      obtain ⟨y0, y1, y2⟩ := cell3V hbv
      have z1 := frz hbv 1
      have z2 := frz hbv 2
      have i1 := set_id (j := 1) (v := .int .i64 0) hbv rfl
      have i2 := set_id (j := 2) (v := .pointer none) hbv rfl
      have HM := hidM (masked97 q nu ao ca (3 : Nat) (0 : Nat) (.slice (some ⟨r, 0, none⟩) 2 rc) V (HN.out V (HI.out.trans gV (fun _ _ h => h))).nd)
      have HBV := hidM hbv
      have HGV := hidM (HI.out.trans gV (fun _ _ h => h))
      have HSS : Hid (∀ u, Gr V u → u.cell? ⟨wr.heap.size, 0, none⟩ = some (.slice (some ⟨v2, 0, none⟩) 3 c2) ∧ u.cell? ⟨wr.heap.size, 1, none⟩ = some (.int .i64 0) ∧ u.cell? ⟨wr.heap.size, 2, none⟩ = some (.pointer none) ∧ u.cell? ⟨gn, 1, none⟩ = some (.int .i64 3)) := fun u g => by
        obtain ⟨y0, y1, y2⟩ := cell3V ((g.block _ (lt_of_heap hbv) id).trans hbv)
        have gu := (HI.out.trans gV (fun _ _ h => h)).trans g (fun _ _ h => h)
        exact ⟨y0, y1, y2, gu.cell' HCn.out.2 id⟩
      have HS7 := hidM (HSS.out V.drew gr_drew)
      have HN7 := hidM (gr_drew : Gr V V.drew)
      clear gV hbv
      go_wp2_with fail
      refine wp_region_held_drew (S := fun w' => w'.cell? ⟨wr.heap.size, 0, none⟩ = some (.slice (some ⟨v2, 0, none⟩) 3 c2) ∧ w'.cell? ⟨wr.heap.size, 1, none⟩ = some (.int .i64 0) ∧ w'.cell? ⟨wr.heap.size, 2, none⟩ = some (.pointer none) ∧ w'.cell? ⟨gn, 1, none⟩ = some (.int .i64 3)) (by kernel_rfl) (HS7.out) (fun hHeld => ?_)
      refine wpAnyH_take (i := 0) (oi := { dst := some 52, op := Op.load 247 (Operand.tmp 7), type := 247, pos := "check.go:122", after := #[], guard := none }) (v := ?v0g11) rfl (by kernel_rfl) (by kernel_rfl) (by kernel_rfl) (fun _ _ _ h => h) (Or.inl ⟨by rfl, ?y0g11⟩) (by assumption) ?r0g11
      case y0g11 => (intro w hSw; obtain ⟨s0, s1, s2, s3⟩ := hSw; go_simp; (try with_reducible rfl))
      (try simp only [Act.put]); (try simp only [List.setIfInBounds_toArray]); (try simp only [List.set_cons_succ]); (try simp only [List.set_cons_zero])
      refine wpAnyH_take (i := 2) (oi := { dst := some 54, op := Op.move (Operand.tmp 4), type := 34, pos := "check.go:122", after := #[], guard := none }) (v := ?v2g12) rfl (by kernel_rfl) (by kernel_rfl) (by kernel_rfl) (fun _ _ _ h => h) (Or.inl ⟨by rfl, ?y2g12⟩) (by assumption) ?r2g12
      case y2g12 => (intro w hSw; obtain ⟨s0, s1, s2, s3⟩ := hSw; go_simp; (try with_reducible rfl))
      (try simp only [Act.put]); (try simp only [List.setIfInBounds_toArray]); (try simp only [List.set_cons_succ]); (try simp only [List.set_cons_zero])
      refine wpAnyH_take (i := 3) (oi := { dst := some 55, op := Op.move (Operand.tmp 6), type := 3, pos := "check.go:122", after := #[], guard := none }) (v := ?v3g13) rfl (by kernel_rfl) (by kernel_rfl) (by kernel_rfl) (fun _ _ _ h => h) (Or.inl ⟨by rfl, ?y3g13⟩) (by assumption) ?r3g13
      case y3g13 => (intro w hSw; obtain ⟨s0, s1, s2, s3⟩ := hSw; go_simp; (try with_reducible rfl))
      (try simp only [Act.put]); (try simp only [List.setIfInBounds_toArray]); (try simp only [List.set_cons_succ]); (try simp only [List.set_cons_zero])
      refine wpAnyH_take (i := 4) (oi := { dst := some 56, op := Op.indexAddr 34 (Operand.tmp 54) (Operand.tmp 55), type := 0, pos := "check.go:122", after := #[{ on := 2, ground := Ground.data }, { on := 3, ground := Ground.data }], guard := none }) (v := ?v4g14) rfl (by kernel_rfl) (by kernel_rfl) (by kernel_rfl) (fun _ _ _ h => h) (Or.inl ⟨by rfl, ?y4g14⟩) (by assumption) ?r4g14
      case y4g14 => (intro w hSw; obtain ⟨s0, s1, s2, s3⟩ := hSw; go_simp; (try with_reducible rfl))
      (try simp only [Act.put]); (try simp only [List.setIfInBounds_toArray]); (try simp only [List.set_cons_succ]); (try simp only [List.set_cons_zero])
      refine wpAnyH_take (i := 5) (oi := { dst := some 57, op := Op.load 3 (Operand.tmp 56), type := 3, pos := "check.go:122", after := #[{ on := 4, ground := Ground.data }], guard := none }) (v := ?v5g15) rfl (by kernel_rfl) (by kernel_rfl) (by kernel_rfl) (fun _ _ _ h => h) (Or.inl ⟨by rfl, ?y5g15⟩) (by assumption) ?r5g15
      case y5g15 => (intro w hSw; obtain ⟨s0, s1, s2, s3⟩ := hSw; go_simp; (try with_reducible rfl))
      (try simp only [Act.put]); (try simp only [List.setIfInBounds_toArray]); (try simp only [List.set_cons_succ]); (try simp only [List.set_cons_zero])
      refine wpAnyH_ready (rs := [1]) (by kernel_rfl) (by simp) ?_
      refine AllReadyH.cons (o := { dst := some 53, op := Op.call { callee := Callee.value (Operand.func 138), args := #[Operand.tmp 52], argTypes := #[247] }, type := 3, pos := "check.go:122", after := #[{ on := 0, ground := Ground.data }], guard := none }) rfl (fun Kc hK => ?_) AllReadyH.nil
      go_simp
      go_at_call 138
      refine Calls.mono (len100 _ _ _ _) ?_
      rintro e' w8 ⟨rfl, g8⟩; have HG8 := hidM (HN7.out.trans g8 (fun _ _ h => h)); have HS8 := hidM (HSS.out w8 HG8.out); clear g8
      go_wp2_with fail
      refine hK.out _ _ (HS8.out) (fun hHeld => ?_)
      clear hK Kc
      (try simp only [Act.put]); (try simp only [List.setIfInBounds_toArray]); (try simp only [List.set_cons_succ]); (try simp only [List.set_cons_zero])
      refine wpAnyH_take (i := 6) (oi := { dst := some 58, op := Op.binOp BinOp.lss 3 (Operand.tmp 53) (Operand.tmp 57) 3, type := 4, pos := "check.go:122", after := #[{ on := 1, ground := Ground.data }, { on := 5, ground := Ground.data }], guard := none }) (v := ?v6g16) rfl (by kernel_rfl) (by kernel_rfl) (by kernel_rfl) (fun _ _ _ h => h) (Or.inl ⟨by rfl, ?y6g16⟩) (by assumption) ?r6g16
      case y6g16 => (intro w hSw; obtain ⟨s0, s1, s2, s3⟩ := hSw; go_simp; (try with_reducible rfl))
      (try simp only [Act.put]); (try simp only [List.setIfInBounds_toArray]); (try simp only [List.set_cons_succ]); (try simp only [List.set_cons_zero])
      refine wpAnyH_take (i := 7) (oi := { dst := some 59, op := Op.move (Operand.tmp 58), type := 4, pos := "check.go:122", after := #[{ on := 6, ground := Ground.data }, { on := 1, ground := Ground.chain }], guard := none }) (v := ?v7g17) rfl (by kernel_rfl) (by kernel_rfl) (by kernel_rfl) (fun _ _ _ h => h) (Or.inl ⟨by rfl, ?y7g17⟩) (by assumption) ?r7g17
      case y7g17 => (intro w hSw; obtain ⟨s0, s1, s2, s3⟩ := hSw; go_simp; (try with_reducible rfl))
      (try simp only [Act.put]); (try simp only [List.setIfInBounds_toArray]); (try simp only [List.set_cons_succ]); (try simp only [List.set_cons_zero])
      refine wpAnyH_take (i := 8) (oi := { dst := some 60, op := Op.move (Operand.tmp 8), type := 4, pos := "check.go:122", after := #[{ on := 7, ground := Ground.guard }], guard := some (7, true) }) (v := undef) rfl (by kernel_rfl) (by kernel_rfl) (by kernel_rfl) (fun _ _ _ h => h) (Or.inr ⟨by kernel_rfl, rfl⟩) (by assumption) ?r8g18
      (try simp only [Act.put]); (try simp only [List.setIfInBounds_toArray]); (try simp only [List.set_cons_succ]); (try simp only [List.set_cons_zero])
      refine wpAnyH_take (i := 9) (oi := { dst := some 61, op := Op.unOp UnOp.not 4 (Operand.tmp 60), type := 4, pos := "check.go:122", after := #[{ on := 8, ground := Ground.data }, { on := 7, ground := Ground.guard }], guard := some (7, true) }) (v := undef) rfl (by kernel_rfl) (by kernel_rfl) (by kernel_rfl) (fun _ _ _ h => h) (Or.inr ⟨by kernel_rfl, rfl⟩) (by assumption) ?r9g19
      (try simp only [Act.put]); (try simp only [List.setIfInBounds_toArray]); (try simp only [List.set_cons_succ]); (try simp only [List.set_cons_zero])
      refine wpAnyH_take (i := 10) (oi := { dst := some 62, op := Op.pick (Operand.tmp 59) (Operand.tmp 61) (Operand.const (Value.bool false)), type := 4, pos := "check.go:122", after := #[{ on := 7, ground := Ground.data }, { on := 9, ground := Ground.data }], guard := none }) (v := ?v10g110) rfl (by kernel_rfl) (by kernel_rfl) (by kernel_rfl) (fun _ _ _ h => h) (Or.inl ⟨by rfl, ?y10g110⟩) (by assumption) ?r10g110
      case y10g110 => (intro w hSw; obtain ⟨s0, s1, s2, s3⟩ := hSw; go_simp; (try with_reducible rfl))
      (try simp only [Act.put]); (try simp only [List.setIfInBounds_toArray]); (try simp only [List.set_cons_succ]); (try simp only [List.set_cons_zero])
      refine wpAnyH_done (by kernel_rfl) ?_ _
      go_wp2_with fail
      go_roundw
      case rel => exact ⟨2, by omega, by go_num, HGV.out.trans HG8.out (fun _ _ h => h)⟩
      case measure => simp [intOf]
    · obtain ⟨c7, c9, c12⟩ := cellF (HN.out wr HI.out).nd
      go_wp2_with fail
      go_loopw [70] (fun i u => i = .int .i64 0 ∧ u = wr) (fun i _ => 0)
      case atStart => exact ⟨rfl, rfl⟩
      case round =>
        obtain ⟨rfl, rfl⟩ := hrel
        go_wp2_with fail
        go_ret2
        exact ⟨rfl, HG5.out.trans HI.out (fun _ _ h => h)⟩
end Go.Proofs.YteggcdhibcjneaaGreatDoor.Kit
