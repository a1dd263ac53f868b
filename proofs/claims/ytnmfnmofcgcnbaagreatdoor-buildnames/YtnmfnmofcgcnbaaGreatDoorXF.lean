import Derived.Test.YtnmfnmofcgcnbaaGreatDoorXE
set_option maxRecDepth 100000
set_option maxHeartbeats 4000000
namespace Go.Proofs.YtnmfnmofcgcnbaaGreatDoor.Kit
open Go.RowKit Go.Shelf Go.Deep
open Go.Proofs.YtnmfnmofcgcnbaaGreatDoor.Kd (Ans AnsV cell5 cell2)
open Go.Proofs.YtnmfnmofcgcnbaaGreatDoor.Ink (OwnRow)
set_option linter.unusedVariables false
set_option linter.unusedSimpArgs false
attribute [local go_sem] run_store_func
theorem form10 (qb bc v1 c1 v2 : Nat) (ao : Option Addr) (ca : Nat) (W : World) (hD : DatB W qb v1 c1 v2) (hT : Tab W) (hB : Bits.Tab W) :
    Calls Tryz.prog 10 #[.agg #[.string nmA, .bool true, .int .i64 4, .int .i64 0, .int .i64 0, .int .i64 0, .slice ao 0 ca], .agg (dC 2 1 (.slice (some ⟨qb, 0, none⟩) 2 bc))] W fun e w' => ∃ pb pc u1 k1 u2, e = .returned (.tuple #[.agg #[.int .i64 2, .int .i64 0, .int .i64 1, .slice (some ⟨pb, 0, none⟩) 2 pc, .slice none 0 0, .slice none 0 0], .int .i64 0]) ∧ Gr W w' ∧ DatB w' pb u1 k1 u2 := by
  obtain ⟨A0, hA0⟩ : ∃ A0, W.alloc (.cells #[.string nmA, .bool true, .int .i64 4, .int .i64 0, .int .i64 0, .int .i64 0, .slice ao 0 ca] 27) = A0 := ⟨_, rfl⟩
  have g0 : Gr W A0 := by rw [← hA0]; exact gr_alloc W _
  have b0 : A0.heap[W.heap.size]? = some (.cells #[.string nmA, .bool true, .int .i64 4, .int .i64 0, .int .i64 0, .int .i64 0, .slice ao 0 ca] 27) := by rw [← hA0]; exact heap_alloc_new W _
  obtain ⟨A1, hA1⟩ : ∃ A1, A0.alloc (.cells (dC 2 1 (.slice (some ⟨qb, 0, none⟩) 2 bc)) 31) = A1 := ⟨_, rfl⟩
  have g1 : Gr A0 A1 := by rw [← hA1]; exact gr_alloc A0 _
  have b1 : A1.heap[A0.heap.size]? = some (.cells (dC 2 1 (.slice (some ⟨qb, 0, none⟩) 2 bc)) 31) := by rw [← hA1]; exact heap_alloc_new A0 _
  obtain ⟨A2, hA2⟩ : ∃ A2, A1.alloc (.cells #[.int .i64 0, .int .i64 0, .int .i64 0, .slice none 0 0, .slice none 0 0, .slice none 0 0] 31) = A2 := ⟨_, rfl⟩
  have g2 : Gr A1 A2 := by rw [← hA2]; exact gr_alloc A1 _
  have b2 : A2.heap[A1.heap.size]? = some (.cells (dC 0 0 (.slice none 0 0)) 31) := by rw [← hA2]; exact heap_alloc_new A1 _
  have g12 := g1.trans g2 (fun _ _ h => h)
  have gW : Gr W A2 := g0.trans g12 (fun _ _ h => h)
  have bf := (g12.block _ (lt_of_heap b0) id).trans b0
  obtain ⟨a0, a1, a2, a3, a4, a5, a6⟩ := cell7 bf
  obtain ⟨d0, d1, d2, d3, d4, d5⟩ := cell6 ((g2.block _ (lt_of_heap b1) id).trans b1)
  have hDA := hD.gr gW
  have HC : Hid (Calls Tryz.prog 18 #[.agg #[.string nmA, .bool true, .int .i64 4, .int .i64 0, .int .i64 0, .int .i64 0, .slice ao 0 ca], .agg #[.int .i64 2, .int .i64 0, .int .i64 1, .slice (some ⟨qb, 0, none⟩) 2 bc, .slice none 0 0, .slice none 0 0]] A2 fun e w' => ∃ a q r rc fo fc, e = .returned (.tuple #[.pointer (some ⟨a, 0, none⟩), .agg #[.int .i64 0, .slice none 0 0, .int .i64 0]]) ∧ Gr A2 w' ∧ (A2.heap.size ≤ a ∧ A2.heap.size ≤ q ∧ A2.heap.size ≤ r) ∧ NdA w' q r rc true fo fc 2 1 v1 1 c1 v2 4 4 ∧ w'.heap[a]? = some (.cells #[.pointer (some ⟨q, 0, none⟩), .int .i64 0, .int .i64 2, .pointer none] 101)) := open18 qb bc v1 c1 v2 4 ao ca A2 (hDA.datC (hT.gr gW) (bt_gr hB gW))
  have HSK : Hid (∀ u, Keeps A2 u (fun z => z = A1.heap.size) → u.cell? ⟨W.heap.size, 0, none⟩ = some (.string nmA) ∧ u.cell? ⟨W.heap.size, 1, none⟩ = some (.bool true) ∧ u.cell? ⟨W.heap.size, 2, none⟩ = some (.int .i64 4) ∧ u.cell? ⟨W.heap.size, 3, none⟩ = some (.int .i64 0) ∧ u.cell? ⟨W.heap.size, 4, none⟩ = some (.int .i64 0) ∧ u.cell? ⟨W.heap.size, 5, none⟩ = some (.int .i64 0) ∧ u.cell? ⟨W.heap.size, 6, none⟩ = some (.slice ao 0 ca)) := fun u k => cell7 ((k.block _ (lt_of_heap bf) (fun e => by have e' : W.heap.size = A1.heap.size := e; have := lt_of_heap b0; have := g1.size; omega)).trans bf)
  have H4 : Hid (W.heap.size ≤ A1.heap.size) := Nat.le_trans g0.size g1.size
  have HB4 := hidM b2
  have HG := hidM gW
  have HDA := hidM hDA
  have HTA := hidM (hT.gr gW)
  clear g0 b0 g1 b1 g2 b2 g12 gW bf hDA hD hT hB
  unfold dC at hA1 ⊢
  go_enter Tryz.func10, Tryz.ntmps10
  go_wp2_with (go_at_call 18; refine HC.out.mono ?_; rintro e w1 ⟨a, q, r, rc, fo, fc, rfl, g1, hl1, hn1, ha1⟩; clear a0 a1 a2 a3 a4 a5 a6 d0 d1 d2 d3 d4 d5 hA0 hA1 hA2; obtain ⟨V, hV⟩ : ∃ V, w1.alloc (.cells #[.int .i64 0, .slice none 0 0, .int .i64 0] 50) = V := ⟨_, rfl⟩; have gV : Gr w1 V := (by rw [← hV]; exact gr_alloc w1 _); have hbv : V.heap[w1.heap.size]? = some (.cells #[.int .i64 0, .slice none 0 0, .int .i64 0] 50) := (by rw [← hV]; exact heap_alloc_new w1 _); obtain ⟨y0, y1, y2⟩ := cell3V hbv; have z0 := frz hbv 0; have z1 := frz hbv 1; have z2 := frz hbv 2; have i0 := set_id (j := 0) (v := .int .i64 0) hbv rfl; have i1 := set_id (j := 1) (v := .slice none 0 0) hbv rfl; have i2 := set_id (j := 2) (v := .int .i64 0) hbv rfl; have HP := hidM (And.intro (g1.trans gV (fun _ _ h => h)) (And.intro hl1 (And.intro (hn1.gr gV) ((gV.block _ (lt_of_heap ha1) id).trans ha1)))); clear g1 hl1 hn1 ha1 gV hbv)
  clear y0 y1 y2 z0 z1 z2 i0 i1 i2 hV
  obtain ⟨Vd, hVd⟩ : ∃ Vd, V.drew = Vd := ⟨_, rfl⟩
  have gd : Gr V Vd := by rw [← hVd]; exact gr_drew
  obtain ⟨p1, p2, p3, p4⟩ := HP.out
  have gA : Gr A2 Vd := p1.trans gd (fun _ _ h => h)
  have hn : NdA Vd q r rc true fo fc 2 1 v1 1 c1 v2 4 4 := p3.gr gd
  have ha := (gd.block _ (lt_of_heap p4) id).trans p4
  have hDd := HDA.out.gr gA
  have HV : Hid (∀ u, Gr Vd u → Calls Tryz.prog 19 #[.pointer (some ⟨a, 0, none⟩)] u fun e w' => ∃ g, e = .returned (.slice (some ⟨g, 0, none⟩) 2 2) ∧ Gr u w' ∧ u.heap.size ≤ g ∧ w'.heap[g]? = some (.cells #[.bool false, .int .i64 (-2), .string ⟨#[]⟩, .slice none 0 0, .bool true, .int .i64 0, .string ⟨#[]⟩, .slice none 0 0] 37)) := fun u gu => by
    have hu := hDd.gr gu
    have hau := (gu.block _ (lt_of_heap ha) id).trans ha
    exact values19 a u q r rc true fo fc 2 1 v1 1 c1 v2 4 4 0 (fun x gx ab hab => ⟨(hn.gr gu).gr gx, hab, (gx.block _ (lt_of_heap hau) id).trans hau, gx.cell' hu.hv id, gx.cell' hu.x0 id, gx.cell' hu.x1 id, by decide, by decide, by decide, by decide, by decide, hu.n1.1⟩) hau (lt_of_heap (hn.gr gu).nd) (block_lt_of_cell (hn.gr gu).r0) (block_lt_of_cell hu.hv) (block_lt_of_cell hu.x0)
  have HTT : Hid (∀ u, Gr Vd u → Tab u) := fun u gu => HTA.out.gr (gA.trans gu (fun _ _ h => h))
  have HSS : Hid (∀ u, Gr Vd u → u.cell? ⟨W.heap.size, 0, none⟩ = some (.string nmA) ∧ u.cell? ⟨W.heap.size, 1, none⟩ = some (.bool true) ∧ u.cell? ⟨W.heap.size, 2, none⟩ = some (.int .i64 4) ∧ u.cell? ⟨W.heap.size, 3, none⟩ = some (.int .i64 0) ∧ u.cell? ⟨W.heap.size, 4, none⟩ = some (.int .i64 0) ∧ u.cell? ⟨W.heap.size, 5, none⟩ = some (.int .i64 0) ∧ u.cell? ⟨W.heap.size, 6, none⟩ = some (.slice ao 0 ca)) := fun u gu => HSK.out u ((gA.trans gu (fun _ _ h => h)).mono fun _ _ h => h.elim)
  have HF : Hid (∀ w b8 pb pc u1 k1 u2, Gr Vd w → Vd.heap.size ≤ b8 → w.heap[b8]? = some (.cells #[.int .i64 0, .int .i64 0, .int .i64 0, .slice none 0 0, .slice none 0 0, .slice none 0 0] 31) → DatB w pb u1 k1 u2 → (fmU w b8 pb pc).heap[b8]? = some (.cells (dC 2 1 (.slice (some ⟨pb, 0, none⟩) 2 pc)) 31) ∧ (fmU w b8 pb pc).heap[A1.heap.size]? = some (.cells (dC 0 0 (.slice none 0 0)) 31) ∧ Keeps A2 (fmU w b8 pb pc) (fun z => z = A1.heap.size) ∧ (fmU (fmU w b8 pb pc) A1.heap.size pb pc).heap[A1.heap.size]? = some (.cells (dC 2 1 (.slice (some ⟨pb, 0, none⟩) 2 pc)) 31) ∧ Gr W (fmU (fmU w b8 pb pc) A1.heap.size pb pc) ∧ DatB (fmU (fmU w b8 pb pc) A1.heap.size pb pc) pb u1 k1 u2) := fun w b8 pb pc u1 k1 u2 gw hl hb hd => form_tail HG.out HB4.out H4.out (gA.trans gw (fun _ _ h => h)) (Nat.le_trans gA.size hl) hb hd
  have HS0 : Hid (V.drew.cell? ⟨W.heap.size, 0, none⟩ = some (.string nmA) ∧ V.drew.cell? ⟨W.heap.size, 1, none⟩ = some (.bool true) ∧ V.drew.cell? ⟨W.heap.size, 2, none⟩ = some (.int .i64 4) ∧ V.drew.cell? ⟨W.heap.size, 3, none⟩ = some (.int .i64 0) ∧ V.drew.cell? ⟨W.heap.size, 4, none⟩ = some (.int .i64 0) ∧ V.drew.cell? ⟨W.heap.size, 5, none⟩ = some (.int .i64 0) ∧ V.drew.cell? ⟨W.heap.size, 6, none⟩ = some (.slice ao 0 ca)) := by rw [hVd]; exact HSS.out Vd (Keeps.refl _ _)
  clear gd p1 p2 p3 p4 gA hn ha hDd HP
  refine wp_region_held_drew (S := fun w' => w'.cell? ⟨W.heap.size, 0, none⟩ = some (.string nmA) ∧ w'.cell? ⟨W.heap.size, 1, none⟩ = some (.bool true) ∧ w'.cell? ⟨W.heap.size, 2, none⟩ = some (.int .i64 4) ∧ w'.cell? ⟨W.heap.size, 3, none⟩ = some (.int .i64 0) ∧ w'.cell? ⟨W.heap.size, 4, none⟩ = some (.int .i64 0) ∧ w'.cell? ⟨W.heap.size, 5, none⟩ = some (.int .i64 0) ∧ w'.cell? ⟨W.heap.size, 6, none⟩ = some (.slice ao 0 ca)) (by kernel_rfl) (HS0.out) (fun hHeld => ?_)
  revert hHeld
  rw [hVd]
  intro hHeld
  refine wpAnyH_take (i := 0) (oi := { dst := some 24, op := Op.load 27 (Operand.tmp 2), type := 27, pos := "build.go:41", after := #[], guard := none }) (v := ?v0a1) rfl (by kernel_rfl) (by kernel_rfl) (by kernel_rfl) (fun _ _ _ h => h) (Or.inl ⟨by rfl, ?y0a1⟩) (by assumption) ?r0a1
  case y0a1 => (intro w hSw; obtain ⟨s0, s1, s2, s3, s4, s5, s6⟩ := hSw; go_simp; (try with_reducible rfl))
  (try simp only [Act.put]); (try simp only [List.setIfInBounds_toArray]); (try simp only [List.set_cons_succ]); (try simp only [List.set_cons_zero])
  refine wpAnyH_take (i := 1) (oi := { dst := some 25, op := Op.move (Operand.tmp 6), type := 67, pos := "build.go:41", after := #[], guard := none }) (v := ?v1a2) rfl (by kernel_rfl) (by kernel_rfl) (by kernel_rfl) (fun _ _ _ h => h) (Or.inl ⟨by rfl, ?y1a2⟩) (by assumption) ?r1a2
  case y1a2 => (intro w hSw; obtain ⟨s0, s1, s2, s3, s4, s5, s6⟩ := hSw; go_simp; (try with_reducible rfl))
  (try simp only [Act.put]); (try simp only [List.setIfInBounds_toArray]); (try simp only [List.set_cons_succ]); (try simp only [List.set_cons_zero])
  refine wpAnyH_ready (rs := [2, 8]) (by kernel_rfl) (by simp) ?_
  refine AllReadyH.cons (o := { dst := some 26, op := Op.call { callee := Callee.value (Operand.func 19), args := #[Operand.tmp 25], argTypes := #[67] }, type := 35, pos := "build.go:41", after := #[{ on := 1, ground := Ground.data }], guard := none }) rfl (fun Kc hK => ?_) (AllReadyH.cons (o := { dst := some 8, op := Op.alloc 31, type := 0, pos := "build.go:41", after := #[], guard := none }) rfl (fun Kc hK => ?_) AllReadyH.nil)
  · go_simp
    go_at_call 19
    refine Calls.mono (HV.out Vd (Keeps.refl _ _)) ?_
    rintro e' w2 ⟨g, rfl, g2, -, hb2⟩
    have HG2 : Hid (Gr Vd w2) := Keeps.trans (Keeps.refl _ _) g2 (fun _ _ h => h)
    have HB2 := hidM hb2
    have HGx : Hid (Gr Vd w2) := g2
    clear g2 hb2
    go_wp2_with fail
    refine hK.out _ _ (HSS.out _ HG2.out) (fun hHeld => ?_)
    clear hK Kc
    (try simp only [Act.put]); (try simp only [List.setIfInBounds_toArray]); (try simp only [List.set_cons_succ]); (try simp only [List.set_cons_zero])
    refine wpAnyH_ready (rs := [3, 8]) (by kernel_rfl) (by simp) ?_
    refine AllReadyH.cons (o := { dst := some 27, op := Op.call { callee := Callee.value (Operand.func 5), args := #[Operand.tmp 24, Operand.tmp 26], argTypes := #[27, 35] }, type := 33, pos := "build.go:41", after := #[{ on := 0, ground := Ground.data }, { on := 2, ground := Ground.data }, { on := 2, ground := Ground.chain }], guard := none }) rfl (fun Kc hK => ?_) (AllReadyH.cons (o := { dst := some 8, op := Op.alloc 31, type := 0, pos := "build.go:41", after := #[], guard := none }) rfl (fun Kc hK => ?_) AllReadyH.nil)
    · go_simp
      go_at_call 5
      refine Calls.mono (of5_2 ao ca g w2 (HTT.out w2 (HG2.out)) (HB2.out)) ?_
      rintro e' w3 ⟨pb, pc, u1, k1, u2, rfl, g3, hd3⟩
      have HG3 : Hid (Gr Vd w3) := Keeps.trans (HG2.out) g3 (fun _ _ h => h)
      have HGy : Hid (Gr w2 w3) := g3
      have HD3 := hidM hd3
      clear g3 hd3
      go_wp2_with fail
      refine hK.out _ _ (HSS.out _ HG3.out) (fun hHeld => ?_)
      clear hK Kc
      (try simp only [Act.put]); (try simp only [List.setIfInBounds_toArray]); (try simp only [List.set_cons_succ]); (try simp only [List.set_cons_zero])
      refine wpAnyH_take (i := 4) (oi := { dst := some 23, op := Op.move (Operand.tmp 27), type := 33, pos := "build.go:41", after := #[{ on := 3, ground := Ground.data }], guard := none }) (v := ?v4c1) rfl (by kernel_rfl) (by kernel_rfl) (by kernel_rfl) (fun _ _ _ h => h) (Or.inl ⟨by rfl, ?y4c1⟩) (by assumption) ?r4c1
      case y4c1 => (intro w hSw; obtain ⟨s0, s1, s2, s3, s4, s5, s6⟩ := hSw; go_simp; (try with_reducible rfl))
      (try simp only [Act.put]); (try simp only [List.setIfInBounds_toArray]); (try simp only [List.set_cons_succ]); (try simp only [List.set_cons_zero])
      refine wpAnyH_take (i := 5) (oi := { dst := some 28, op := Op.extract (Operand.tmp 23) 0, type := 31, pos := "build.go:41", after := #[{ on := 4, ground := Ground.data }], guard := none }) (v := ?v5c2) rfl (by kernel_rfl) (by kernel_rfl) (by kernel_rfl) (fun _ _ _ h => h) (Or.inl ⟨by rfl, ?y5c2⟩) (by assumption) ?r5c2
      case y5c2 => (intro w hSw; obtain ⟨s0, s1, s2, s3, s4, s5, s6⟩ := hSw; go_simp; (try with_reducible rfl))
      (try simp only [Act.put]); (try simp only [List.setIfInBounds_toArray]); (try simp only [List.set_cons_succ]); (try simp only [List.set_cons_zero])
      refine wpAnyH_take (i := 6) (oi := { dst := some 29, op := Op.extract (Operand.tmp 23) 1, type := 32, pos := "build.go:41", after := #[{ on := 4, ground := Ground.data }, { on := 9, ground := Ground.gcOnly Departure.lateStores }], guard := none }) (v := ?v6c3) rfl (by kernel_rfl) (by kernel_rfl) (by kernel_rfl) (fun _ _ _ h => h) (Or.inl ⟨by rfl, ?y6c3⟩) (by assumption) ?r6c3
      case y6c3 => (intro w hSw; obtain ⟨s0, s1, s2, s3, s4, s5, s6⟩ := hSw; go_simp; (try with_reducible rfl))
      (try simp only [Act.put]); (try simp only [List.setIfInBounds_toArray]); (try simp only [List.set_cons_succ]); (try simp only [List.set_cons_zero])
      refine wpAnyH_take (i := 7) (oi := { dst := some 30, op := Op.extract (Operand.tmp 23) 2, type := 3, pos := "build.go:41", after := #[{ on := 4, ground := Ground.data }, { on := 10, ground := Ground.gcOnly Departure.lateStores }], guard := none }) (v := ?v7c4) rfl (by kernel_rfl) (by kernel_rfl) (by kernel_rfl) (fun _ _ _ h => h) (Or.inl ⟨by rfl, ?y7c4⟩) (by assumption) ?r7c4
      case y7c4 => (intro w hSw; obtain ⟨s0, s1, s2, s3, s4, s5, s6⟩ := hSw; go_simp; (try with_reducible rfl))
      (try simp only [Act.put]); (try simp only [List.setIfInBounds_toArray]); (try simp only [List.set_cons_succ]); (try simp only [List.set_cons_zero])
      refine wpAnyH_ready (rs := [8]) (by kernel_rfl) (by simp) ?_
      refine AllReadyH.cons (o := { dst := some 8, op := Op.alloc 31, type := 0, pos := "build.go:41", after := #[], guard := none }) rfl (fun Kc hK => ?_) AllReadyH.nil
      obtain ⟨Z, hZ⟩ : ∃ Z, w3.alloc (.cells #[.int .i64 0, .int .i64 0, .int .i64 0, .slice none 0 0, .slice none 0 0, .slice none 0 0] 31) = Z := ⟨_, rfl⟩
      have gZ : Gr w3 Z := by rw [← hZ]; exact gr_alloc w3 _
      have bZ : Z.heap[w3.heap.size]? = some (.cells #[.int .i64 0, .int .i64 0, .int .i64 0, .slice none 0 0, .slice none 0 0, .slice none 0 0] 31) := by rw [← hZ]; exact heap_alloc_new w3 _
      have HGZ : Hid (Gr Vd Z) := Keeps.trans (HG3.out) gZ (fun _ _ h => h)
      have HLZ : Hid (Vd.heap.size ≤ w3.heap.size) := Keeps.size (HG3.out)
      have HBZ := hidM bZ
      go_simp
      clear gZ bZ
      refine hK.out _ _ (HSS.out _ HGZ.out) (fun hHeld => ?_)
      clear hK Kc
      (try simp only [Act.put]); (try simp only [List.setIfInBounds_toArray]); (try simp only [List.set_cons_succ]); (try simp only [List.set_cons_zero])
      obtain ⟨q1, q2, q3, q4, q5, q6⟩ := HF.out Z w3.heap.size pb pc u1 k1 u2 (HGZ.out) (HLZ.out) (HBZ.out) (HD3.out.gr (by rw [← hZ]; exact gr_alloc w3 _))
      obtain ⟨c0, c1', c2', c3, c4, c5⟩ := cell6 (show Z.heap[w3.heap.size]? = some (.cells #[.int .i64 0, .int .i64 0, .int .i64 0, .slice none 0 0, .slice none 0 0, .slice none 0 0] 31) from HBZ.out)
      have f0 := frz (show Z.heap[w3.heap.size]? = some (.cells #[.int .i64 0, .int .i64 0, .int .i64 0, .slice none 0 0, .slice none 0 0, .slice none 0 0] 31) from HBZ.out) 0
      have f1 := frz (show Z.heap[w3.heap.size]? = some (.cells #[.int .i64 0, .int .i64 0, .int .i64 0, .slice none 0 0, .slice none 0 0, .slice none 0 0] 31) from HBZ.out) 1
      have f2 := frz (show Z.heap[w3.heap.size]? = some (.cells #[.int .i64 0, .int .i64 0, .int .i64 0, .slice none 0 0, .slice none 0 0, .slice none 0 0] 31) from HBZ.out) 2
      have f3 := frz (show Z.heap[w3.heap.size]? = some (.cells #[.int .i64 0, .int .i64 0, .int .i64 0, .slice none 0 0, .slice none 0 0, .slice none 0 0] 31) from HBZ.out) 3
      have f4 := frz (show Z.heap[w3.heap.size]? = some (.cells #[.int .i64 0, .int .i64 0, .int .i64 0, .slice none 0 0, .slice none 0 0, .slice none 0 0] 31) from HBZ.out) 4
      have f5 := frz (show Z.heap[w3.heap.size]? = some (.cells #[.int .i64 0, .int .i64 0, .int .i64 0, .slice none 0 0, .slice none 0 0, .slice none 0 0] 31) from HBZ.out) 5
      obtain ⟨U, hU⟩ : ∃ U, fmU Z w3.heap.size pb pc = U := ⟨_, rfl⟩
      rw [hU] at q1 q2 q3 q4 q5 q6
      obtain ⟨Y, hY⟩ : ∃ Y, fmU U A1.heap.size pb pc = Y := ⟨_, rfl⟩
      rw [hY] at q4 q5 q6
      simp only [fmU, setAll] at hU hY
      have HSU := hidM (HSK.out U q3)
      obtain ⟨y0, y1, y2, y3, y4, y5⟩ := cell6 q1
      obtain ⟨x0, x1, x2, x3, x4, x5⟩ := cell6 q2
      have e0 := frz q2 0
      have e1 := frz q2 1
      have e2 := frz q2 2
      have e3 := frz q2 3
      have e4 := frz q2 4
      have e5 := frz q2 5
      have HE := hidM (And.intro q4 (And.intro q5 q6))
      clear q1 q2 q3 q4 q5 q6
      refine wpAnyH_ready (rs := [9]) (by kernel_rfl) (by simp) ?_
      refine AllReadyH.cons (o := { dst := none, op := Op.store 31 (Operand.tmp 8) (Operand.tmp 28), type := 0, pos := "build.go:41", after := #[{ on := 8, ground := Ground.data }, { on := 5, ground := Ground.data }, { on := 3, ground := Ground.chain }, { on := 0, ground := Ground.phase }, { on := 1, ground := Ground.phase }, { on := 2, ground := Ground.phase }, { on := 3, ground := Ground.phase }, { on := 4, ground := Ground.phase }, { on := 5, ground := Ground.phase }, { on := 6, ground := Ground.textOnly Departure.lateStores }, { on := 7, ground := Ground.textOnly Departure.lateStores }, { on := 8, ground := Ground.phase }], guard := none }) rfl (fun Kc hK => ?_) AllReadyH.nil
      go_simp
      refine hK.out _ _ HSU.out (fun hHeld => ?_)
      clear hK Kc
      (try simp only [Act.put]); (try simp only [List.setIfInBounds_toArray]); (try simp only [List.set_cons_succ]); (try simp only [List.set_cons_zero])
      refine wpAnyH_take (i := 10) (oi := { dst := some 9, op := Op.assign (Operand.tmp 29), type := 32, pos := "build.go:41", after := #[{ on := 6, ground := Ground.data }, { on := 9, ground := Ground.chain }, { on := 0, ground := Ground.phase }, { on := 1, ground := Ground.phase }, { on := 2, ground := Ground.phase }, { on := 3, ground := Ground.phase }, { on := 4, ground := Ground.phase }, { on := 5, ground := Ground.phase }, { on := 6, ground := Ground.phase }, { on := 7, ground := Ground.textOnly Departure.lateStores }, { on := 8, ground := Ground.phase }, { on := 9, ground := Ground.phase }], guard := none }) (v := ?v10c5) rfl (by kernel_rfl) (by kernel_rfl) (by kernel_rfl) (fun _ _ _ h => h) (Or.inl ⟨by rfl, ?y10c5⟩) (by assumption) ?r10c5
      case y10c5 => (intro w hSw; obtain ⟨s0, s1, s2, s3, s4, s5, s6⟩ := hSw; go_simp; (try with_reducible rfl))
      (try simp only [Act.put]); (try simp only [List.setIfInBounds_toArray]); (try simp only [List.set_cons_succ]); (try simp only [List.set_cons_zero])
      refine wpAnyH_take (i := 11) (oi := { dst := some 10, op := Op.assign (Operand.tmp 30), type := 3, pos := "build.go:41", after := #[{ on := 7, ground := Ground.data }, { on := 10, ground := Ground.chain }, { on := 0, ground := Ground.phase }, { on := 1, ground := Ground.phase }, { on := 2, ground := Ground.phase }, { on := 3, ground := Ground.phase }, { on := 4, ground := Ground.phase }, { on := 5, ground := Ground.phase }, { on := 6, ground := Ground.phase }, { on := 7, ground := Ground.phase }, { on := 8, ground := Ground.phase }, { on := 9, ground := Ground.phase }, { on := 10, ground := Ground.phase }], guard := none }) (v := ?v11c6) rfl (by kernel_rfl) (by kernel_rfl) (by kernel_rfl) (fun _ _ _ h => h) (Or.inl ⟨by rfl, ?y11c6⟩) (by assumption) ?r11c6
      case y11c6 => (intro w hSw; obtain ⟨s0, s1, s2, s3, s4, s5, s6⟩ := hSw; go_simp; (try with_reducible rfl))
      (try simp only [Act.put]); (try simp only [List.setIfInBounds_toArray]); (try simp only [List.set_cons_succ]); (try simp only [List.set_cons_zero])
      refine wpAnyH_done (by kernel_rfl) ?_ _
      clear hHeld c0 c1' c2' c3 c4 c5 f0 f1 f2 f3 f4 f5 hU
      go_wp2_with fail
      (try simp only [Exit.inBlock, Exit.then])
      refine bodyPost_ret (results_cell31t rfl rfl (by with_reducible exact HE.out.1) (by kernel_rfl)) rfl ?_
      exact ⟨pb, pc, u1, k1, u2, rfl, HE.out.2⟩
    · obtain ⟨Z, hZ⟩ : ∃ Z, w2.alloc (.cells #[.int .i64 0, .int .i64 0, .int .i64 0, .slice none 0 0, .slice none 0 0, .slice none 0 0] 31) = Z := ⟨_, rfl⟩
      have gZ : Gr w2 Z := by rw [← hZ]; exact gr_alloc w2 _
      have bZ : Z.heap[w2.heap.size]? = some (.cells #[.int .i64 0, .int .i64 0, .int .i64 0, .slice none 0 0, .slice none 0 0, .slice none 0 0] 31) := by rw [← hZ]; exact heap_alloc_new w2 _
      have HGZ : Hid (Gr Vd Z) := Keeps.trans (HG2.out) gZ (fun _ _ h => h)
      have HLZ : Hid (Vd.heap.size ≤ w2.heap.size) := Keeps.size (HG2.out)
      have HBZ := hidM bZ
      go_simp
      clear gZ bZ
      refine hK.out _ _ (HSS.out _ HGZ.out) (fun hHeld => ?_)
      clear hK Kc
      (try simp only [Act.put]); (try simp only [List.setIfInBounds_toArray]); (try simp only [List.set_cons_succ]); (try simp only [List.set_cons_zero])
      refine wpAnyH_ready (rs := [3]) (by kernel_rfl) (by simp) ?_
      refine AllReadyH.cons (o := { dst := some 27, op := Op.call { callee := Callee.value (Operand.func 5), args := #[Operand.tmp 24, Operand.tmp 26], argTypes := #[27, 35] }, type := 33, pos := "build.go:41", after := #[{ on := 0, ground := Ground.data }, { on := 2, ground := Ground.data }, { on := 2, ground := Ground.chain }], guard := none }) rfl (fun Kc hK => ?_) AllReadyH.nil
      go_simp
      go_at_call 5
      refine Calls.mono (of5_2 ao ca g Z (HTT.out Z (HGZ.out)) (((by rw [← hZ]; exact gr_alloc w2 _ : Gr w2 Z).block _ (lt_of_heap HB2.out) id).trans HB2.out)) ?_
      rintro e' w3 ⟨pb, pc, u1, k1, u2, rfl, g3, hd3⟩
      have HG3 : Hid (Gr Vd w3) := Keeps.trans (HGZ.out) g3 (fun _ _ h => h)
      have HGy : Hid (Gr Z w3) := g3
      have HD3 := hidM hd3
      clear g3 hd3
      go_wp2_with fail
      refine hK.out _ _ (HSS.out _ HG3.out) (fun hHeld => ?_)
      clear hK Kc
      (try simp only [Act.put]); (try simp only [List.setIfInBounds_toArray]); (try simp only [List.set_cons_succ]); (try simp only [List.set_cons_zero])
      refine wpAnyH_take (i := 4) (oi := { dst := some 23, op := Op.move (Operand.tmp 27), type := 33, pos := "build.go:41", after := #[{ on := 3, ground := Ground.data }], guard := none }) (v := ?v4d1) rfl (by kernel_rfl) (by kernel_rfl) (by kernel_rfl) (fun _ _ _ h => h) (Or.inl ⟨by rfl, ?y4d1⟩) (by assumption) ?r4d1
      case y4d1 => (intro w hSw; obtain ⟨s0, s1, s2, s3, s4, s5, s6⟩ := hSw; go_simp; (try with_reducible rfl))
      (try simp only [Act.put]); (try simp only [List.setIfInBounds_toArray]); (try simp only [List.set_cons_succ]); (try simp only [List.set_cons_zero])
      refine wpAnyH_take (i := 5) (oi := { dst := some 28, op := Op.extract (Operand.tmp 23) 0, type := 31, pos := "build.go:41", after := #[{ on := 4, ground := Ground.data }], guard := none }) (v := ?v5d2) rfl (by kernel_rfl) (by kernel_rfl) (by kernel_rfl) (fun _ _ _ h => h) (Or.inl ⟨by rfl, ?y5d2⟩) (by assumption) ?r5d2
      case y5d2 => (intro w hSw; obtain ⟨s0, s1, s2, s3, s4, s5, s6⟩ := hSw; go_simp; (try with_reducible rfl))
      (try simp only [Act.put]); (try simp only [List.setIfInBounds_toArray]); (try simp only [List.set_cons_succ]); (try simp only [List.set_cons_zero])
      refine wpAnyH_take (i := 6) (oi := { dst := some 29, op := Op.extract (Operand.tmp 23) 1, type := 32, pos := "build.go:41", after := #[{ on := 4, ground := Ground.data }, { on := 9, ground := Ground.gcOnly Departure.lateStores }], guard := none }) (v := ?v6d3) rfl (by kernel_rfl) (by kernel_rfl) (by kernel_rfl) (fun _ _ _ h => h) (Or.inl ⟨by rfl, ?y6d3⟩) (by assumption) ?r6d3
      case y6d3 => (intro w hSw; obtain ⟨s0, s1, s2, s3, s4, s5, s6⟩ := hSw; go_simp; (try with_reducible rfl))
      (try simp only [Act.put]); (try simp only [List.setIfInBounds_toArray]); (try simp only [List.set_cons_succ]); (try simp only [List.set_cons_zero])
      refine wpAnyH_take (i := 7) (oi := { dst := some 30, op := Op.extract (Operand.tmp 23) 2, type := 3, pos := "build.go:41", after := #[{ on := 4, ground := Ground.data }, { on := 10, ground := Ground.gcOnly Departure.lateStores }], guard := none }) (v := ?v7d4) rfl (by kernel_rfl) (by kernel_rfl) (by kernel_rfl) (fun _ _ _ h => h) (Or.inl ⟨by rfl, ?y7d4⟩) (by assumption) ?r7d4
      case y7d4 => (intro w hSw; obtain ⟨s0, s1, s2, s3, s4, s5, s6⟩ := hSw; go_simp; (try with_reducible rfl))
      (try simp only [Act.put]); (try simp only [List.setIfInBounds_toArray]); (try simp only [List.set_cons_succ]); (try simp only [List.set_cons_zero])
      obtain ⟨q1, q2, q3, q4, q5, q6⟩ := HF.out w3 w2.heap.size pb pc u1 k1 u2 (HG3.out) (HLZ.out) ((HGy.out.block _ (lt_of_heap HBZ.out) id).trans HBZ.out) (HD3.out)
      obtain ⟨c0, c1', c2', c3, c4, c5⟩ := cell6 (show w3.heap[w2.heap.size]? = some (.cells #[.int .i64 0, .int .i64 0, .int .i64 0, .slice none 0 0, .slice none 0 0, .slice none 0 0] 31) from (HGy.out.block _ (lt_of_heap HBZ.out) id).trans HBZ.out)
      have f0 := frz (show w3.heap[w2.heap.size]? = some (.cells #[.int .i64 0, .int .i64 0, .int .i64 0, .slice none 0 0, .slice none 0 0, .slice none 0 0] 31) from (HGy.out.block _ (lt_of_heap HBZ.out) id).trans HBZ.out) 0
      have f1 := frz (show w3.heap[w2.heap.size]? = some (.cells #[.int .i64 0, .int .i64 0, .int .i64 0, .slice none 0 0, .slice none 0 0, .slice none 0 0] 31) from (HGy.out.block _ (lt_of_heap HBZ.out) id).trans HBZ.out) 1
      have f2 := frz (show w3.heap[w2.heap.size]? = some (.cells #[.int .i64 0, .int .i64 0, .int .i64 0, .slice none 0 0, .slice none 0 0, .slice none 0 0] 31) from (HGy.out.block _ (lt_of_heap HBZ.out) id).trans HBZ.out) 2
      have f3 := frz (show w3.heap[w2.heap.size]? = some (.cells #[.int .i64 0, .int .i64 0, .int .i64 0, .slice none 0 0, .slice none 0 0, .slice none 0 0] 31) from (HGy.out.block _ (lt_of_heap HBZ.out) id).trans HBZ.out) 3
      have f4 := frz (show w3.heap[w2.heap.size]? = some (.cells #[.int .i64 0, .int .i64 0, .int .i64 0, .slice none 0 0, .slice none 0 0, .slice none 0 0] 31) from (HGy.out.block _ (lt_of_heap HBZ.out) id).trans HBZ.out) 4
      have f5 := frz (show w3.heap[w2.heap.size]? = some (.cells #[.int .i64 0, .int .i64 0, .int .i64 0, .slice none 0 0, .slice none 0 0, .slice none 0 0] 31) from (HGy.out.block _ (lt_of_heap HBZ.out) id).trans HBZ.out) 5
      obtain ⟨U, hU⟩ : ∃ U, fmU w3 w2.heap.size pb pc = U := ⟨_, rfl⟩
      rw [hU] at q1 q2 q3 q4 q5 q6
      obtain ⟨Y, hY⟩ : ∃ Y, fmU U A1.heap.size pb pc = Y := ⟨_, rfl⟩
      rw [hY] at q4 q5 q6
      simp only [fmU, setAll] at hU hY
      have HSU := hidM (HSK.out U q3)
      obtain ⟨y0, y1, y2, y3, y4, y5⟩ := cell6 q1
      obtain ⟨x0, x1, x2, x3, x4, x5⟩ := cell6 q2
      have e0 := frz q2 0
      have e1 := frz q2 1
      have e2 := frz q2 2
      have e3 := frz q2 3
      have e4 := frz q2 4
      have e5 := frz q2 5
      have HE := hidM (And.intro q4 (And.intro q5 q6))
      clear q1 q2 q3 q4 q5 q6
      refine wpAnyH_ready (rs := [9]) (by kernel_rfl) (by simp) ?_
      refine AllReadyH.cons (o := { dst := none, op := Op.store 31 (Operand.tmp 8) (Operand.tmp 28), type := 0, pos := "build.go:41", after := #[{ on := 8, ground := Ground.data }, { on := 5, ground := Ground.data }, { on := 3, ground := Ground.chain }, { on := 0, ground := Ground.phase }, { on := 1, ground := Ground.phase }, { on := 2, ground := Ground.phase }, { on := 3, ground := Ground.phase }, { on := 4, ground := Ground.phase }, { on := 5, ground := Ground.phase }, { on := 6, ground := Ground.textOnly Departure.lateStores }, { on := 7, ground := Ground.textOnly Departure.lateStores }, { on := 8, ground := Ground.phase }], guard := none }) rfl (fun Kc hK => ?_) AllReadyH.nil
      go_simp
      refine hK.out _ _ HSU.out (fun hHeld => ?_)
      clear hK Kc
      (try simp only [Act.put]); (try simp only [List.setIfInBounds_toArray]); (try simp only [List.set_cons_succ]); (try simp only [List.set_cons_zero])
      refine wpAnyH_take (i := 10) (oi := { dst := some 9, op := Op.assign (Operand.tmp 29), type := 32, pos := "build.go:41", after := #[{ on := 6, ground := Ground.data }, { on := 9, ground := Ground.chain }, { on := 0, ground := Ground.phase }, { on := 1, ground := Ground.phase }, { on := 2, ground := Ground.phase }, { on := 3, ground := Ground.phase }, { on := 4, ground := Ground.phase }, { on := 5, ground := Ground.phase }, { on := 6, ground := Ground.phase }, { on := 7, ground := Ground.textOnly Departure.lateStores }, { on := 8, ground := Ground.phase }, { on := 9, ground := Ground.phase }], guard := none }) (v := ?v10d5) rfl (by kernel_rfl) (by kernel_rfl) (by kernel_rfl) (fun _ _ _ h => h) (Or.inl ⟨by rfl, ?y10d5⟩) (by assumption) ?r10d5
      case y10d5 => (intro w hSw; obtain ⟨s0, s1, s2, s3, s4, s5, s6⟩ := hSw; go_simp; (try with_reducible rfl))
      (try simp only [Act.put]); (try simp only [List.setIfInBounds_toArray]); (try simp only [List.set_cons_succ]); (try simp only [List.set_cons_zero])
      refine wpAnyH_take (i := 11) (oi := { dst := some 10, op := Op.assign (Operand.tmp 30), type := 3, pos := "build.go:41", after := #[{ on := 7, ground := Ground.data }, { on := 10, ground := Ground.chain }, { on := 0, ground := Ground.phase }, { on := 1, ground := Ground.phase }, { on := 2, ground := Ground.phase }, { on := 3, ground := Ground.phase }, { on := 4, ground := Ground.phase }, { on := 5, ground := Ground.phase }, { on := 6, ground := Ground.phase }, { on := 7, ground := Ground.phase }, { on := 8, ground := Ground.phase }, { on := 9, ground := Ground.phase }, { on := 10, ground := Ground.phase }], guard := none }) (v := ?v11d6) rfl (by kernel_rfl) (by kernel_rfl) (by kernel_rfl) (fun _ _ _ h => h) (Or.inl ⟨by rfl, ?y11d6⟩) (by assumption) ?r11d6
      case y11d6 => (intro w hSw; obtain ⟨s0, s1, s2, s3, s4, s5, s6⟩ := hSw; go_simp; (try with_reducible rfl))
      (try simp only [Act.put]); (try simp only [List.setIfInBounds_toArray]); (try simp only [List.set_cons_succ]); (try simp only [List.set_cons_zero])
      refine wpAnyH_done (by kernel_rfl) ?_ _
      clear hHeld c0 c1' c2' c3 c4 c5 f0 f1 f2 f3 f4 f5 hU
      go_wp2_with fail
      (try simp only [Exit.inBlock, Exit.then])
      refine bodyPost_ret (results_cell31t rfl rfl (by with_reducible exact HE.out.1) (by kernel_rfl)) rfl ?_
      exact ⟨pb, pc, u1, k1, u2, rfl, HE.out.2⟩
  · obtain ⟨Z, hZ⟩ : ∃ Z, Vd.alloc (.cells #[.int .i64 0, .int .i64 0, .int .i64 0, .slice none 0 0, .slice none 0 0, .slice none 0 0] 31) = Z := ⟨_, rfl⟩
    have gZ : Gr Vd Z := by rw [← hZ]; exact gr_alloc Vd _
    have bZ : Z.heap[Vd.heap.size]? = some (.cells #[.int .i64 0, .int .i64 0, .int .i64 0, .slice none 0 0, .slice none 0 0, .slice none 0 0] 31) := by rw [← hZ]; exact heap_alloc_new Vd _
    have HGZ : Hid (Gr Vd Z) := Keeps.trans ((Keeps.refl _ _ : Gr Vd Vd)) gZ (fun _ _ h => h)
    have HLZ : Hid (Vd.heap.size ≤ Vd.heap.size) := Keeps.size ((Keeps.refl _ _ : Gr Vd Vd))
    have HBZ := hidM bZ
    go_simp
    clear gZ bZ
    refine hK.out _ _ (HSS.out _ HGZ.out) (fun hHeld => ?_)
    clear hK Kc
    (try simp only [Act.put]); (try simp only [List.setIfInBounds_toArray]); (try simp only [List.set_cons_succ]); (try simp only [List.set_cons_zero])
    refine wpAnyH_ready (rs := [2]) (by kernel_rfl) (by simp) ?_
    refine AllReadyH.cons (o := { dst := some 26, op := Op.call { callee := Callee.value (Operand.func 19), args := #[Operand.tmp 25], argTypes := #[67] }, type := 35, pos := "build.go:41", after := #[{ on := 1, ground := Ground.data }], guard := none }) rfl (fun Kc hK => ?_) AllReadyH.nil
    go_simp
    go_at_call 19
    refine Calls.mono (HV.out Z (HGZ.out)) ?_
    rintro e' w2 ⟨g, rfl, g2, -, hb2⟩
    have HG2 : Hid (Gr Vd w2) := Keeps.trans (HGZ.out) g2 (fun _ _ h => h)
    have HB2 := hidM hb2
    have HGx : Hid (Gr Z w2) := g2
    clear g2 hb2
    go_wp2_with fail
    refine hK.out _ _ (HSS.out _ HG2.out) (fun hHeld => ?_)
    clear hK Kc
    (try simp only [Act.put]); (try simp only [List.setIfInBounds_toArray]); (try simp only [List.set_cons_succ]); (try simp only [List.set_cons_zero])
    refine wpAnyH_ready (rs := [3]) (by kernel_rfl) (by simp) ?_
    refine AllReadyH.cons (o := { dst := some 27, op := Op.call { callee := Callee.value (Operand.func 5), args := #[Operand.tmp 24, Operand.tmp 26], argTypes := #[27, 35] }, type := 33, pos := "build.go:41", after := #[{ on := 0, ground := Ground.data }, { on := 2, ground := Ground.data }, { on := 2, ground := Ground.chain }], guard := none }) rfl (fun Kc hK => ?_) AllReadyH.nil
    go_simp
    go_at_call 5
    refine Calls.mono (of5_2 ao ca g w2 (HTT.out w2 (HG2.out)) (HB2.out)) ?_
    rintro e' w3 ⟨pb, pc, u1, k1, u2, rfl, g3, hd3⟩
    have HG3 : Hid (Gr Vd w3) := Keeps.trans (HG2.out) g3 (fun _ _ h => h)
    have HGy : Hid (Gr w2 w3) := g3
    have HD3 := hidM hd3
    clear g3 hd3
    go_wp2_with fail
    refine hK.out _ _ (HSS.out _ HG3.out) (fun hHeld => ?_)
    clear hK Kc
    (try simp only [Act.put]); (try simp only [List.setIfInBounds_toArray]); (try simp only [List.set_cons_succ]); (try simp only [List.set_cons_zero])
    refine wpAnyH_take (i := 4) (oi := { dst := some 23, op := Op.move (Operand.tmp 27), type := 33, pos := "build.go:41", after := #[{ on := 3, ground := Ground.data }], guard := none }) (v := ?v4e1) rfl (by kernel_rfl) (by kernel_rfl) (by kernel_rfl) (fun _ _ _ h => h) (Or.inl ⟨by rfl, ?y4e1⟩) (by assumption) ?r4e1
    case y4e1 => (intro w hSw; obtain ⟨s0, s1, s2, s3, s4, s5, s6⟩ := hSw; go_simp; (try with_reducible rfl))
    (try simp only [Act.put]); (try simp only [List.setIfInBounds_toArray]); (try simp only [List.set_cons_succ]); (try simp only [List.set_cons_zero])
    refine wpAnyH_take (i := 5) (oi := { dst := some 28, op := Op.extract (Operand.tmp 23) 0, type := 31, pos := "build.go:41", after := #[{ on := 4, ground := Ground.data }], guard := none }) (v := ?v5e2) rfl (by kernel_rfl) (by kernel_rfl) (by kernel_rfl) (fun _ _ _ h => h) (Or.inl ⟨by rfl, ?y5e2⟩) (by assumption) ?r5e2
    case y5e2 => (intro w hSw; obtain ⟨s0, s1, s2, s3, s4, s5, s6⟩ := hSw; go_simp; (try with_reducible rfl))
    (try simp only [Act.put]); (try simp only [List.setIfInBounds_toArray]); (try simp only [List.set_cons_succ]); (try simp only [List.set_cons_zero])
    refine wpAnyH_take (i := 6) (oi := { dst := some 29, op := Op.extract (Operand.tmp 23) 1, type := 32, pos := "build.go:41", after := #[{ on := 4, ground := Ground.data }, { on := 9, ground := Ground.gcOnly Departure.lateStores }], guard := none }) (v := ?v6e3) rfl (by kernel_rfl) (by kernel_rfl) (by kernel_rfl) (fun _ _ _ h => h) (Or.inl ⟨by rfl, ?y6e3⟩) (by assumption) ?r6e3
    case y6e3 => (intro w hSw; obtain ⟨s0, s1, s2, s3, s4, s5, s6⟩ := hSw; go_simp; (try with_reducible rfl))
    (try simp only [Act.put]); (try simp only [List.setIfInBounds_toArray]); (try simp only [List.set_cons_succ]); (try simp only [List.set_cons_zero])
    refine wpAnyH_take (i := 7) (oi := { dst := some 30, op := Op.extract (Operand.tmp 23) 2, type := 3, pos := "build.go:41", after := #[{ on := 4, ground := Ground.data }, { on := 10, ground := Ground.gcOnly Departure.lateStores }], guard := none }) (v := ?v7e4) rfl (by kernel_rfl) (by kernel_rfl) (by kernel_rfl) (fun _ _ _ h => h) (Or.inl ⟨by rfl, ?y7e4⟩) (by assumption) ?r7e4
    case y7e4 => (intro w hSw; obtain ⟨s0, s1, s2, s3, s4, s5, s6⟩ := hSw; go_simp; (try with_reducible rfl))
    (try simp only [Act.put]); (try simp only [List.setIfInBounds_toArray]); (try simp only [List.set_cons_succ]); (try simp only [List.set_cons_zero])
    obtain ⟨q1, q2, q3, q4, q5, q6⟩ := HF.out w3 Vd.heap.size pb pc u1 k1 u2 (HG3.out) (HLZ.out) (((HGx.out.trans HGy.out (fun _ _ h => h)).block _ (lt_of_heap HBZ.out) id).trans HBZ.out) (HD3.out)
    obtain ⟨c0, c1', c2', c3, c4, c5⟩ := cell6 (show w3.heap[Vd.heap.size]? = some (.cells #[.int .i64 0, .int .i64 0, .int .i64 0, .slice none 0 0, .slice none 0 0, .slice none 0 0] 31) from ((HGx.out.trans HGy.out (fun _ _ h => h)).block _ (lt_of_heap HBZ.out) id).trans HBZ.out)
    have f0 := frz (show w3.heap[Vd.heap.size]? = some (.cells #[.int .i64 0, .int .i64 0, .int .i64 0, .slice none 0 0, .slice none 0 0, .slice none 0 0] 31) from ((HGx.out.trans HGy.out (fun _ _ h => h)).block _ (lt_of_heap HBZ.out) id).trans HBZ.out) 0
    have f1 := frz (show w3.heap[Vd.heap.size]? = some (.cells #[.int .i64 0, .int .i64 0, .int .i64 0, .slice none 0 0, .slice none 0 0, .slice none 0 0] 31) from ((HGx.out.trans HGy.out (fun _ _ h => h)).block _ (lt_of_heap HBZ.out) id).trans HBZ.out) 1
    have f2 := frz (show w3.heap[Vd.heap.size]? = some (.cells #[.int .i64 0, .int .i64 0, .int .i64 0, .slice none 0 0, .slice none 0 0, .slice none 0 0] 31) from ((HGx.out.trans HGy.out (fun _ _ h => h)).block _ (lt_of_heap HBZ.out) id).trans HBZ.out) 2
    have f3 := frz (show w3.heap[Vd.heap.size]? = some (.cells #[.int .i64 0, .int .i64 0, .int .i64 0, .slice none 0 0, .slice none 0 0, .slice none 0 0] 31) from ((HGx.out.trans HGy.out (fun _ _ h => h)).block _ (lt_of_heap HBZ.out) id).trans HBZ.out) 3
    have f4 := frz (show w3.heap[Vd.heap.size]? = some (.cells #[.int .i64 0, .int .i64 0, .int .i64 0, .slice none 0 0, .slice none 0 0, .slice none 0 0] 31) from ((HGx.out.trans HGy.out (fun _ _ h => h)).block _ (lt_of_heap HBZ.out) id).trans HBZ.out) 4
    have f5 := frz (show w3.heap[Vd.heap.size]? = some (.cells #[.int .i64 0, .int .i64 0, .int .i64 0, .slice none 0 0, .slice none 0 0, .slice none 0 0] 31) from ((HGx.out.trans HGy.out (fun _ _ h => h)).block _ (lt_of_heap HBZ.out) id).trans HBZ.out) 5
    obtain ⟨U, hU⟩ : ∃ U, fmU w3 Vd.heap.size pb pc = U := ⟨_, rfl⟩
    rw [hU] at q1 q2 q3 q4 q5 q6
    obtain ⟨Y, hY⟩ : ∃ Y, fmU U A1.heap.size pb pc = Y := ⟨_, rfl⟩
    rw [hY] at q4 q5 q6
    simp only [fmU, setAll] at hU hY
    have HSU := hidM (HSK.out U q3)
    obtain ⟨y0, y1, y2, y3, y4, y5⟩ := cell6 q1
    obtain ⟨x0, x1, x2, x3, x4, x5⟩ := cell6 q2
    have e0 := frz q2 0
    have e1 := frz q2 1
    have e2 := frz q2 2
    have e3 := frz q2 3
    have e4 := frz q2 4
    have e5 := frz q2 5
    have HE := hidM (And.intro q4 (And.intro q5 q6))
    clear q1 q2 q3 q4 q5 q6
    refine wpAnyH_ready (rs := [9]) (by kernel_rfl) (by simp) ?_
    refine AllReadyH.cons (o := { dst := none, op := Op.store 31 (Operand.tmp 8) (Operand.tmp 28), type := 0, pos := "build.go:41", after := #[{ on := 8, ground := Ground.data }, { on := 5, ground := Ground.data }, { on := 3, ground := Ground.chain }, { on := 0, ground := Ground.phase }, { on := 1, ground := Ground.phase }, { on := 2, ground := Ground.phase }, { on := 3, ground := Ground.phase }, { on := 4, ground := Ground.phase }, { on := 5, ground := Ground.phase }, { on := 6, ground := Ground.textOnly Departure.lateStores }, { on := 7, ground := Ground.textOnly Departure.lateStores }, { on := 8, ground := Ground.phase }], guard := none }) rfl (fun Kc hK => ?_) AllReadyH.nil
    go_simp
    refine hK.out _ _ HSU.out (fun hHeld => ?_)
    clear hK Kc
    (try simp only [Act.put]); (try simp only [List.setIfInBounds_toArray]); (try simp only [List.set_cons_succ]); (try simp only [List.set_cons_zero])
    refine wpAnyH_take (i := 10) (oi := { dst := some 9, op := Op.assign (Operand.tmp 29), type := 32, pos := "build.go:41", after := #[{ on := 6, ground := Ground.data }, { on := 9, ground := Ground.chain }, { on := 0, ground := Ground.phase }, { on := 1, ground := Ground.phase }, { on := 2, ground := Ground.phase }, { on := 3, ground := Ground.phase }, { on := 4, ground := Ground.phase }, { on := 5, ground := Ground.phase }, { on := 6, ground := Ground.phase }, { on := 7, ground := Ground.textOnly Departure.lateStores }, { on := 8, ground := Ground.phase }, { on := 9, ground := Ground.phase }], guard := none }) (v := ?v10e5) rfl (by kernel_rfl) (by kernel_rfl) (by kernel_rfl) (fun _ _ _ h => h) (Or.inl ⟨by rfl, ?y10e5⟩) (by assumption) ?r10e5
    case y10e5 => (intro w hSw; obtain ⟨s0, s1, s2, s3, s4, s5, s6⟩ := hSw; go_simp; (try with_reducible rfl))
    (try simp only [Act.put]); (try simp only [List.setIfInBounds_toArray]); (try simp only [List.set_cons_succ]); (try simp only [List.set_cons_zero])
    refine wpAnyH_take (i := 11) (oi := { dst := some 10, op := Op.assign (Operand.tmp 30), type := 3, pos := "build.go:41", after := #[{ on := 7, ground := Ground.data }, { on := 10, ground := Ground.chain }, { on := 0, ground := Ground.phase }, { on := 1, ground := Ground.phase }, { on := 2, ground := Ground.phase }, { on := 3, ground := Ground.phase }, { on := 4, ground := Ground.phase }, { on := 5, ground := Ground.phase }, { on := 6, ground := Ground.phase }, { on := 7, ground := Ground.phase }, { on := 8, ground := Ground.phase }, { on := 9, ground := Ground.phase }, { on := 10, ground := Ground.phase }], guard := none }) (v := ?v11e6) rfl (by kernel_rfl) (by kernel_rfl) (by kernel_rfl) (fun _ _ _ h => h) (Or.inl ⟨by rfl, ?y11e6⟩) (by assumption) ?r11e6
    case y11e6 => (intro w hSw; obtain ⟨s0, s1, s2, s3, s4, s5, s6⟩ := hSw; go_simp; (try with_reducible rfl))
    (try simp only [Act.put]); (try simp only [List.setIfInBounds_toArray]); (try simp only [List.set_cons_succ]); (try simp only [List.set_cons_zero])
    refine wpAnyH_done (by kernel_rfl) ?_ _
    clear hHeld c0 c1' c2' c3 c4 c5 f0 f1 f2 f3 f4 f5 hU
    go_wp2_with fail
    (try simp only [Exit.inBlock, Exit.then])
    refine bodyPost_ret (results_cell31t rfl rfl (by with_reducible exact HE.out.1) (by kernel_rfl)) rfl ?_
    exact ⟨pb, pc, u1, k1, u2, rfl, HE.out.2⟩
end Go.Proofs.YtnmfnmofcgcnbaaGreatDoor.Kit
