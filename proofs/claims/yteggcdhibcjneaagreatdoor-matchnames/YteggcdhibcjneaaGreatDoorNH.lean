import Derived.Test.YteggcdhibcjneaaGreatDoorNF
set_option maxRecDepth 100000
set_option maxHeartbeats 4000000
namespace Go.Proofs.YteggcdhibcjneaaGreatDoor.Kit
variable {nx : Bool}
open Go.RowKit Go.Shelf Go.Deep
open Go.Proofs.YteggcdhibcjneaaGreatDoor.Kd (Ans AnsV cell5 cell2)
set_option linter.unusedVariables false
set_option linter.unusedSimpArgs false
attribute [local go_sem] run_store_func

theorem Pairs9 {ny : Bool} (ga ac gb bc da dac db dbc qa qac qb qbc va vac vb vbc za zac zb zbc : Nat) (ao bo : Option Addr) (ca cb : Nat) (xl xr : Nat → Int) (W : World) (hA : Bt nx W 3 ga ac da dac qa qac va vac ao ca) (hB : Bt ny W 2 gb bc db dbc qb qbc vb vbc bo cb) (hxl : ∀ k, k < 3 → W.cell? ⟨va, k, none⟩ = some (.int .u8 (xl k)) ∧ (xl k = 5 ∨ xl k = 7 ∨ xl k = 8)) (hxr : ∀ k, k < 2 → W.cell? ⟨vb, k, none⟩ = some (.int .u8 (xr k)) ∧ (xr k = 5 ∨ xr k = 7 ∨ xr k = 8)) (hza : W.cell? ⟨za, 0, none⟩ = some (.int .i64 0)) (hzb : W.cell? ⟨zb, 0, none⟩ = some (.int .i64 0)) (hxl0 : xl 0 = 5) (hxl1 : xl 1 = 7) (hxl2 : xl 2 = 5) (hxr0 : xr 0 = 8) (hxr1 : xr 1 = 5) :
    Calls Tryz.prog 9 #[.int .i64 3, .agg #[.slice (some ⟨ga, 0, none⟩) 1 ac, .slice none 0 0], .agg #[.int .i64 3, .slice (some ⟨da, 0, none⟩) 1 dac], .slice (some ⟨za, 0, none⟩) 1 zac, .agg #[.slice (some ⟨gb, 0, none⟩) 1 bc, .slice none 0 0], .agg #[.int .i64 2, .slice (some ⟨db, 0, none⟩) 1 dbc], .slice (some ⟨zb, 0, none⟩) 1 zbc] W fun e w' => ∃ g cap P, e = .returned (.tuple #[.slice (some ⟨g, 0, none⟩) 4 cap, .int .i64 0]) ∧ W.heap.size ≤ P ∧ FrP P W w' ∧ w'.ownsRow 0 41 2 (.slice (some ⟨g, 0, none⟩) 4 cap) 4 (flat2 [((0 : Int), (1 : Int)), (1, -1), (2, 1), (-1, 0)]) := by
  obtain ⟨A0, hA0⟩ : ∃ A, W.alloc (.cells #[.slice (some ⟨ga, 0, none⟩) 1 ac, .slice none 0 0] 30) = A := ⟨_, rfl⟩
  have g0 : Gr W A0 := by rw [← hA0]; exact gr_alloc W _
  have b0 : A0.heap[W.heap.size]? = some (.cells #[.slice (some ⟨ga, 0, none⟩) 1 ac, .slice none 0 0] 30) := by rw [← hA0]; exact heap_alloc_new W _
  obtain ⟨A1, hA1⟩ : ∃ A, A0.alloc (.cells #[.int .i64 3, .slice (some ⟨da, 0, none⟩) 1 dac] 33) = A := ⟨_, rfl⟩
  have g1 : Gr A0 A1 := by rw [← hA1]; exact gr_alloc A0 _
  have b1 : A1.heap[A0.heap.size]? = some (.cells #[.int .i64 3, .slice (some ⟨da, 0, none⟩) 1 dac] 33) := by rw [← hA1]; exact heap_alloc_new A0 _
  obtain ⟨A2, hA2⟩ : ∃ A, A1.alloc (.cells #[.slice (some ⟨gb, 0, none⟩) 1 bc, .slice none 0 0] 30) = A := ⟨_, rfl⟩
  have g2 : Gr A1 A2 := by rw [← hA2]; exact gr_alloc A1 _
  have b2 : A2.heap[A1.heap.size]? = some (.cells #[.slice (some ⟨gb, 0, none⟩) 1 bc, .slice none 0 0] 30) := by rw [← hA2]; exact heap_alloc_new A1 _
  obtain ⟨A3, hA3⟩ : ∃ A, A2.alloc (.cells #[.int .i64 2, .slice (some ⟨db, 0, none⟩) 1 dbc] 33) = A := ⟨_, rfl⟩
  have g3 : Gr A2 A3 := by rw [← hA3]; exact gr_alloc A2 _
  have b3 : A3.heap[A2.heap.size]? = some (.cells #[.int .i64 2, .slice (some ⟨db, 0, none⟩) 1 dbc] 33) := by rw [← hA3]; exact heap_alloc_new A2 _
  have z0 : A0.heap.size = W.heap.size + 1 := by rw [← hA0]; simp
  have z1 : A1.heap.size = A0.heap.size + 1 := by rw [← hA1]; simp
  have z2 : A2.heap.size = A1.heap.size + 1 := by rw [← hA2]; simp
  have z3 : A3.heap.size = A2.heap.size + 1 := by rw [← hA3]; simp
  have g23 := g2.trans g3 (fun _ _ h => h)
  have g13 := g1.trans g23 (fun _ _ h => h)
  have gW : Gr W A3 := g0.trans g13 (fun _ _ h => h)
  have t0 := (g13.block _ (lt_of_heap b0) id).trans b0
  have t1 := (g23.block _ (lt_of_heap b1) id).trans b1
  have t2 := (g3.block _ (lt_of_heap b2) id).trans b2
  obtain ⟨c0, c1⟩ := cell2 t0
  obtain ⟨c2, c3⟩ := cell2 t1
  obtain ⟨c4, c5⟩ := cell2 t2
  obtain ⟨c6, c7⟩ := cell2 b3
  have HSS : Hid (∀ u, Gr A3 u → u.cell? ⟨W.heap.size, 0, none⟩ = some (.slice (some ⟨ga, 0, none⟩) 1 ac) ∧ u.cell? ⟨W.heap.size, 1, none⟩ = some (.slice none 0 0) ∧ u.cell? ⟨A0.heap.size, 0, none⟩ = some (.int .i64 3) ∧ u.cell? ⟨A0.heap.size, 1, none⟩ = some (.slice (some ⟨da, 0, none⟩) 1 dac) ∧ u.cell? ⟨A1.heap.size, 0, none⟩ = some (.slice (some ⟨gb, 0, none⟩) 1 bc) ∧ u.cell? ⟨A1.heap.size, 1, none⟩ = some (.slice none 0 0) ∧ u.cell? ⟨A2.heap.size, 0, none⟩ = some (.int .i64 2) ∧ u.cell? ⟨A2.heap.size, 1, none⟩ = some (.slice (some ⟨db, 0, none⟩) 1 dbc)) := fun u g => ⟨g.cell' c0 id, g.cell' c1 id, g.cell' c2 id, g.cell' c3 id, g.cell' c4 id, g.cell' c5 id, g.cell' c6 id, g.cell' c7 id⟩
  have HSF : Hid (∀ u w, Gr A3 u → FrP u.heap.size u w → w.cell? ⟨W.heap.size, 0, none⟩ = some (.slice (some ⟨ga, 0, none⟩) 1 ac) ∧ w.cell? ⟨W.heap.size, 1, none⟩ = some (.slice none 0 0) ∧ w.cell? ⟨A0.heap.size, 0, none⟩ = some (.int .i64 3) ∧ w.cell? ⟨A0.heap.size, 1, none⟩ = some (.slice (some ⟨da, 0, none⟩) 1 dac) ∧ w.cell? ⟨A1.heap.size, 0, none⟩ = some (.slice (some ⟨gb, 0, none⟩) 1 bc) ∧ w.cell? ⟨A1.heap.size, 1, none⟩ = some (.slice none 0 0) ∧ w.cell? ⟨A2.heap.size, 0, none⟩ = some (.int .i64 2) ∧ w.cell? ⟨A2.heap.size, 1, none⟩ = some (.slice (some ⟨db, 0, none⟩) 1 dbc)) := fun u w g f => by
    have hz := g.size
    have d0 := cell2 (f.cells ((g.block _ (lt_of_heap t0) id).trans t0) (by omega) (by decide))
    have d1 := cell2 (f.cells ((g.block _ (lt_of_heap t1) id).trans t1) (by omega) (by decide))
    have d2 := cell2 (f.cells ((g.block _ (lt_of_heap t2) id).trans t2) (by omega) (by decide))
    have d3 := cell2 (f.cells ((g.block _ (lt_of_heap b3) id).trans b3) (by omega) (by decide))
    exact ⟨d0.1, d0.2, d1.1, d1.2, d2.1, d2.2, d3.1, d3.2⟩
  have HGW := hidM gW
  have HC10 : Hid (∀ u, Gr A3 u → Calls Tryz.prog 10 #[.agg #[.slice (some ⟨ga, 0, none⟩) 1 ac, .slice none 0 0], .agg #[.slice (some ⟨gb, 0, none⟩) 1 bc, .slice none 0 0]] u fun e w' => e = .returned (.int .i64 0) ∧ Gr u w') := fun u g => wrongSchemas10 ga ac gb bc ao bo ca cb u (hA.s.gr (gW.trans g (fun _ _ h => h))) (hB.s.gr (gW.trans g (fun _ _ h => h)))
  have HC14a : Hid (∀ u, Gr A3 u → Calls Tryz.prog 14 #[.agg #[.slice (some ⟨ga, 0, none⟩) 1 ac, .slice none 0 0], .agg #[.int .i64 3, .slice (some ⟨da, 0, none⟩) 1 dac]] u fun e w' => e = .returned (.int .i64 0) ∧ Gr u w') := fun u g => wrongBatch14 3 ga ac da dac qa qac va vac ao ca u (hA.gr (gW.trans g (fun _ _ h => h)))
  have HC14b : Hid (∀ u, Gr A3 u → Calls Tryz.prog 14 #[.agg #[.slice (some ⟨gb, 0, none⟩) 1 bc, .slice none 0 0], .agg #[.int .i64 2, .slice (some ⟨db, 0, none⟩) 1 dbc]] u fun e w' => e = .returned (.int .i64 0) ∧ Gr u w') := fun u g => wrongBatch14 2 gb bc db dbc qb qbc vb vbc bo cb u (hB.gr (gW.trans g (fun _ _ h => h)))
  have HC11 : Hid (∀ u, Gr A3 u → Calls Tryz.prog 11 #[.int .i64 3, .agg #[.slice (some ⟨ga, 0, none⟩) 1 ac, .slice none 0 0], .slice (some ⟨za, 0, none⟩) 1 zac, .agg #[.slice (some ⟨gb, 0, none⟩) 1 bc, .slice none 0 0], .slice (some ⟨zb, 0, none⟩) 1 zbc] u fun e w' => e = .returned (.int .i64 0) ∧ Gr u w') := fun u g => wrongKeys11 3 (.inr rfl) ga ac gb bc za zac zb zbc ao bo ca cb u (hA.s.gr (gW.trans g (fun _ _ h => h))) (hB.s.gr (gW.trans g (fun _ _ h => h))) ((gW.trans g (fun _ _ h => h)).cell' hza id) ((gW.trans g (fun _ _ h => h)).cell' hzb id)
  have HCa : Hid (∀ u, Gr A3 u → Calls Tryz.prog 16 #[.agg #[.slice (some ⟨ga, 0, none⟩) 1 ac, .slice none 0 0], .agg #[.int .i64 3, .slice (some ⟨da, 0, none⟩) 1 dac], .slice (some ⟨za, 0, none⟩) 1 zac] u fun e w' => ∃ gr, e = .returned (.slice (some ⟨gr, 0, none⟩) 3 3) ∧ Gr u w' ∧ RwsK xl 3 gr 3 w' ∧ u.heap.size ≤ gr) := fun u g => keysOf16 3 ga ac da dac qa qac va vac za zac ao ca xl u (hA.gr (gW.trans g (fun _ _ h => h))) (fun k hk => ⟨(gW.trans g (fun _ _ h => h)).cell' (hxl k hk).1 id, (hxl k hk).2⟩) ((gW.trans g (fun _ _ h => h)).cell' hza id)
  have HCb : Hid (∀ u, Gr A3 u → Calls Tryz.prog 16 #[.agg #[.slice (some ⟨gb, 0, none⟩) 1 bc, .slice none 0 0], .agg #[.int .i64 2, .slice (some ⟨db, 0, none⟩) 1 dbc], .slice (some ⟨zb, 0, none⟩) 1 zbc] u fun e w' => ∃ gr, e = .returned (.slice (some ⟨gr, 0, none⟩) 2 2) ∧ Gr u w' ∧ RwsK xr 2 gr 2 w' ∧ u.heap.size ≤ gr) := fun u g => keysOf16 2 gb bc db dbc qb qbc vb vbc zb zbc bo cb xr u (hB.gr (gW.trans g (fun _ _ h => h))) (fun k hk => ⟨(gW.trans g (fun _ _ h => h)).cell' (hxr k hk).1 id, (hxr k hk).2⟩) ((gW.trans g (fun _ _ h => h)).cell' hzb id)
  have HG0 : Hid (Gr A3 A3) := Keeps.refl A3 _
  clear g0 b0 g1 b1 g2 b2 g3 b3 g23 g13 gW t0 t1 t2 z0 z1 z2 z3 hA hB hxl hxr hza hzb
  go_enter Tryz.func9, Tryz.ntmps9
  go_wp2_with (first
    | (go_at_call 10; refine (HC10.out A3 HG0.out).mono ?_; rintro e w1 ⟨rfl, k⟩; have HG1 := hidM ((HG0.out).trans k (fun _ _ h => h)); clear c0 c1 c2 c3 c4 c5 c6 c7; obtain ⟨c0, c1, c2, c3, c4, c5, c6, c7⟩ := HSS.out w1 HG1.out; clear k)
    | (go_at_call 14; refine (HC14a.out w1 HG1.out).mono ?_; rintro e w2 ⟨rfl, k⟩; have HG2 := hidM ((HG1.out).trans k (fun _ _ h => h)); clear c0 c1 c2 c3 c4 c5 c6 c7; obtain ⟨c0, c1, c2, c3, c4, c5, c6, c7⟩ := HSS.out w2 HG2.out; clear k HC14a)
    | (go_at_call 14; refine (HC14b.out w2 HG2.out).mono ?_; rintro e w3 ⟨rfl, k⟩; have HG3 := hidM ((HG2.out).trans k (fun _ _ h => h)); clear c0 c1 c2 c3 c4 c5 c6 c7; obtain ⟨c0, c1, c2, c3, c4, c5, c6, c7⟩ := HSS.out w3 HG3.out; clear k)
    | (go_at_call 11; refine (HC11.out w3 HG3.out).mono ?_; rintro e w4 ⟨rfl, k⟩; have HG4 := hidM ((HG3.out).trans k (fun _ _ h => h)); clear c0 c1 c2 c3 c4 c5 c6 c7; obtain ⟨c0, c1, c2, c3, c4, c5, c6, c7⟩ := HSS.out w4 HG4.out; clear k))
  have HSD := hidM (HSS.out w4.drew (HG4.out.trans gr_drew (fun _ _ h => h)))
  clear c0 c1 c2 c3 c4 c5 c6 c7 hA0 hA1 hA2 hA3
  refine wp_region_held_drew (S := fun w' => w'.cell? ⟨W.heap.size, 0, none⟩ = some (.slice (some ⟨ga, 0, none⟩) 1 ac) ∧ w'.cell? ⟨W.heap.size, 1, none⟩ = some (.slice none 0 0) ∧ w'.cell? ⟨A0.heap.size, 0, none⟩ = some (.int .i64 3) ∧ w'.cell? ⟨A0.heap.size, 1, none⟩ = some (.slice (some ⟨da, 0, none⟩) 1 dac) ∧ w'.cell? ⟨A1.heap.size, 0, none⟩ = some (.slice (some ⟨gb, 0, none⟩) 1 bc) ∧ w'.cell? ⟨A1.heap.size, 1, none⟩ = some (.slice none 0 0) ∧ w'.cell? ⟨A2.heap.size, 0, none⟩ = some (.int .i64 2) ∧ w'.cell? ⟨A2.heap.size, 1, none⟩ = some (.slice (some ⟨db, 0, none⟩) 1 dbc)) (by kernel_rfl) (HSD.out) (fun hHeld => ?_)
  refine' wpAnyH_take (i := 0) (oi := { dst := some 47, op := Op.move (Operand.tmp 0), type := 3, pos := "match.go:23", after := #[], guard := none }) rfl (by kernel_rfl) (by kernel_rfl) (by kernel_rfl) (fun _ _ _ h => h) (Or.inl ⟨by rfl, _⟩) (by assumption) _
  rotate_left 1
  · (intro w hSw; obtain ⟨s0, s1, s2, s3, s4, s5, s6, s7⟩ := hSw; go_simp; (try with_reducible rfl))
  (try simp only [Act.put]); (try simp only [List.setIfInBounds_toArray]); (try simp only [List.set_cons_succ]); (try simp only [List.set_cons_zero])
  refine' wpAnyH_take (i := 1) (oi := { dst := some 48, op := Op.load 30 (Operand.tmp 8), type := 30, pos := "match.go:23", after := #[], guard := none }) rfl (by kernel_rfl) (by kernel_rfl) (by kernel_rfl) (fun _ _ _ h => h) (Or.inl ⟨by rfl, _⟩) (by assumption) _
  rotate_left 1
  · (intro w hSw; obtain ⟨s0, s1, s2, s3, s4, s5, s6, s7⟩ := hSw; go_simp; (try with_reducible rfl))
  (try simp only [Act.put]); (try simp only [List.setIfInBounds_toArray]); (try simp only [List.set_cons_succ]); (try simp only [List.set_cons_zero])
  refine' wpAnyH_take (i := 2) (oi := { dst := some 49, op := Op.load 33 (Operand.tmp 9), type := 33, pos := "match.go:23", after := #[], guard := none }) rfl (by kernel_rfl) (by kernel_rfl) (by kernel_rfl) (fun _ _ _ h => h) (Or.inl ⟨by rfl, _⟩) (by assumption) _
  rotate_left 1
  · (intro w hSw; obtain ⟨s0, s1, s2, s3, s4, s5, s6, s7⟩ := hSw; go_simp; (try with_reducible rfl))
  (try simp only [Act.put]); (try simp only [List.setIfInBounds_toArray]); (try simp only [List.set_cons_succ]); (try simp only [List.set_cons_zero])
  refine' wpAnyH_take (i := 3) (oi := { dst := some 50, op := Op.move (Operand.tmp 3), type := 34, pos := "match.go:23", after := #[], guard := none }) rfl (by kernel_rfl) (by kernel_rfl) (by kernel_rfl) (fun _ _ _ h => h) (Or.inl ⟨by rfl, _⟩) (by assumption) _
  rotate_left 1
  · (intro w hSw; obtain ⟨s0, s1, s2, s3, s4, s5, s6, s7⟩ := hSw; go_simp; (try with_reducible rfl))
  (try simp only [Act.put]); (try simp only [List.setIfInBounds_toArray]); (try simp only [List.set_cons_succ]); (try simp only [List.set_cons_zero])
  refine' wpAnyH_take (i := 5) (oi := { dst := some 52, op := Op.load 30 (Operand.tmp 11), type := 30, pos := "match.go:23", after := #[], guard := none }) rfl (by kernel_rfl) (by kernel_rfl) (by kernel_rfl) (fun _ _ _ h => h) (Or.inl ⟨by rfl, _⟩) (by assumption) _
  rotate_left 1
  · (intro w hSw; obtain ⟨s0, s1, s2, s3, s4, s5, s6, s7⟩ := hSw; go_simp; (try with_reducible rfl))
  (try simp only [Act.put]); (try simp only [List.setIfInBounds_toArray]); (try simp only [List.set_cons_succ]); (try simp only [List.set_cons_zero])
  refine' wpAnyH_take (i := 6) (oi := { dst := some 53, op := Op.load 33 (Operand.tmp 12), type := 33, pos := "match.go:23", after := #[], guard := none }) rfl (by kernel_rfl) (by kernel_rfl) (by kernel_rfl) (fun _ _ _ h => h) (Or.inl ⟨by rfl, _⟩) (by assumption) _
  rotate_left 1
  · (intro w hSw; obtain ⟨s0, s1, s2, s3, s4, s5, s6, s7⟩ := hSw; go_simp; (try with_reducible rfl))
  (try simp only [Act.put]); (try simp only [List.setIfInBounds_toArray]); (try simp only [List.set_cons_succ]); (try simp only [List.set_cons_zero])
  refine' wpAnyH_take (i := 7) (oi := { dst := some 54, op := Op.move (Operand.tmp 6), type := 34, pos := "match.go:23", after := #[], guard := none }) rfl (by kernel_rfl) (by kernel_rfl) (by kernel_rfl) (fun _ _ _ h => h) (Or.inl ⟨by rfl, _⟩) (by assumption) _
  rotate_left 1
  · (intro w hSw; obtain ⟨s0, s1, s2, s3, s4, s5, s6, s7⟩ := hSw; go_simp; (try with_reducible rfl))
  (try simp only [Act.put]); (try simp only [List.setIfInBounds_toArray]); (try simp only [List.set_cons_succ]); (try simp only [List.set_cons_zero])
  refine wpAnyH_ready (rs := [4]) (by kernel_rfl) (by simp) ?_
  refine AllReadyH.cons (o := { dst := some 51, op := Op.call { callee := Callee.value (Operand.func 16), args := #[Operand.tmp 48, Operand.tmp 49, Operand.tmp 50], argTypes := #[30, 33, 34] }, type := 58, pos := "match.go:23", after := #[{ on := 1, ground := Ground.data }, { on := 2, ground := Ground.data }, { on := 3, ground := Ground.data }], guard := none }) rfl (fun Kc hK => ?_) AllReadyH.nil
  go_simp
  go_at_call 16
  refine Calls.mono (HCa.out w4.drew (HG4.out.trans gr_drew (fun _ _ h => h))) ?_
  rintro e' w5 ⟨g5, rfl, k5, h5, n5⟩; have HK5 := hidM ((HG4.out.trans gr_drew (fun _ _ h => h)).trans k5 (fun _ _ h => h)); have HR5 := hidM h5; clear k5 h5 n5
  go_wp2_with fail
  refine hK.out _ _ (HSS.out w5 HK5.out) (fun hHeld => ?_)
  clear hK Kc
  (try simp only [Act.put]); (try simp only [List.setIfInBounds_toArray]); (try simp only [List.set_cons_succ]); (try simp only [List.set_cons_zero])
  refine wpAnyH_ready (rs := [8]) (by kernel_rfl) (by simp) ?_
  refine AllReadyH.cons (o := { dst := some 55, op := Op.call { callee := Callee.value (Operand.func 16), args := #[Operand.tmp 52, Operand.tmp 53, Operand.tmp 54], argTypes := #[30, 33, 34] }, type := 58, pos := "match.go:23", after := #[{ on := 5, ground := Ground.data }, { on := 6, ground := Ground.data }, { on := 7, ground := Ground.data }, { on := 4, ground := Ground.chain }], guard := none }) rfl (fun Kc hK => ?_) AllReadyH.nil
  go_simp
  go_at_call 16
  refine Calls.mono (HCb.out w5 HK5.out) ?_
  rintro e' w6 ⟨g6, rfl, k6, h6, n6⟩; have HK6 := hidM (HK5.out.trans k6 (fun _ _ h => h)); have HR6 := hidM h6; have HR5' := hidM (HR5.out.st (St.ofGr k6)); clear k6 h6 n6
  go_wp2_with fail
  refine hK.out _ _ (HSS.out w6 HK6.out) (fun hHeld => ?_)
  clear hK Kc
  (try simp only [Act.put]); (try simp only [List.setIfInBounds_toArray]); (try simp only [List.set_cons_succ]); (try simp only [List.set_cons_zero])
  refine wpAnyH_ready (rs := [9]) (by kernel_rfl) (by simp) ?_
  refine AllReadyH.cons (o := { dst := some 56, op := Op.call { callee := Callee.value (Operand.func 15), args := #[Operand.tmp 47, Operand.tmp 51, Operand.tmp 55], argTypes := #[3, 58, 58] }, type := 25, pos := "match.go:23", after := #[{ on := 0, ground := Ground.data }, { on := 4, ground := Ground.data }, { on := 8, ground := Ground.data }, { on := 8, ground := Ground.chain }], guard := none }) rfl (fun Kc hK => ?_) AllReadyH.nil
  go_simp
  go_at_call 15
  refine Calls.mono (paired15 g5 g6 xl xr w6 HR5'.out HR6.out hxl0 hxl1 hxl2 hxr0 hxr1) ?_
  rintro e' w7 ⟨g7, cap, rfl, f7, o7⟩; have HF7 := hidM f7; have HO7 := hidM o7; clear f7 o7
  go_wp2_with fail
  refine hK.out _ _ (HSF.out w6 w7 HK6.out HF7.out) (fun hHeld => ?_)
  clear hK Kc
  (try simp only [Act.put]); (try simp only [List.setIfInBounds_toArray]); (try simp only [List.set_cons_succ]); (try simp only [List.set_cons_zero])
  refine' wpAnyH_take (i := 10) (oi := { dst := some 57, op := Op.extract (Operand.tmp 56) 0, type := 23, pos := "match.go:23", after := #[{ on := 9, ground := Ground.data }], guard := none }) rfl (by kernel_rfl) (by kernel_rfl) (by kernel_rfl) (fun _ _ _ h => h) (Or.inl ⟨by rfl, _⟩) (by assumption) _
  rotate_left 1
  · (intro w hSw; obtain ⟨s0, s1, s2, s3, s4, s5, s6, s7⟩ := hSw; go_simp; (try with_reducible rfl))
  (try simp only [Act.put]); (try simp only [List.setIfInBounds_toArray]); (try simp only [List.set_cons_succ]); (try simp only [List.set_cons_zero])
  refine' wpAnyH_take (i := 11) (oi := { dst := some 58, op := Op.extract (Operand.tmp 56) 1, type := 24, pos := "match.go:23", after := #[{ on := 9, ground := Ground.data }], guard := none }) rfl (by kernel_rfl) (by kernel_rfl) (by kernel_rfl) (fun _ _ _ h => h) (Or.inl ⟨by rfl, _⟩) (by assumption) _
  rotate_left 1
  · (intro w hSw; obtain ⟨s0, s1, s2, s3, s4, s5, s6, s7⟩ := hSw; go_simp; (try with_reducible rfl))
  (try simp only [Act.put]); (try simp only [List.setIfInBounds_toArray]); (try simp only [List.set_cons_succ]); (try simp only [List.set_cons_zero])
  refine' wpAnyH_take (i := 12) (oi := { dst := some 14, op := Op.assign (Operand.tmp 57), type := 23, pos := "match.go:23", after := #[{ on := 10, ground := Ground.data }, { on := 9, ground := Ground.chain }, { on := 0, ground := Ground.phase }, { on := 1, ground := Ground.phase }, { on := 2, ground := Ground.phase }, { on := 3, ground := Ground.phase }, { on := 4, ground := Ground.phase }, { on := 5, ground := Ground.phase }, { on := 6, ground := Ground.phase }, { on := 7, ground := Ground.phase }, { on := 8, ground := Ground.phase }, { on := 9, ground := Ground.phase }, { on := 10, ground := Ground.phase }, { on := 11, ground := Ground.phase }], guard := none }) rfl (by kernel_rfl) (by kernel_rfl) (by kernel_rfl) (fun _ _ _ h => h) (Or.inl ⟨by rfl, _⟩) (by assumption) _
  rotate_left 1
  · (intro w hSw; obtain ⟨s0, s1, s2, s3, s4, s5, s6, s7⟩ := hSw; go_simp; (try with_reducible rfl))
  (try simp only [Act.put]); (try simp only [List.setIfInBounds_toArray]); (try simp only [List.set_cons_succ]); (try simp only [List.set_cons_zero])
  refine' wpAnyH_take (i := 13) (oi := { dst := some 15, op := Op.assign (Operand.tmp 58), type := 24, pos := "match.go:23", after := #[{ on := 11, ground := Ground.data }, { on := 12, ground := Ground.chain }, { on := 0, ground := Ground.phase }, { on := 1, ground := Ground.phase }, { on := 2, ground := Ground.phase }, { on := 3, ground := Ground.phase }, { on := 4, ground := Ground.phase }, { on := 5, ground := Ground.phase }, { on := 6, ground := Ground.phase }, { on := 7, ground := Ground.phase }, { on := 8, ground := Ground.phase }, { on := 9, ground := Ground.phase }, { on := 10, ground := Ground.phase }, { on := 11, ground := Ground.phase }, { on := 12, ground := Ground.phase }], guard := none }) rfl (by kernel_rfl) (by kernel_rfl) (by kernel_rfl) (fun _ _ _ h => h) (Or.inl ⟨by rfl, _⟩) (by assumption) _
  rotate_left 1
  · (intro w hSw; obtain ⟨s0, s1, s2, s3, s4, s5, s6, s7⟩ := hSw; go_simp; (try with_reducible rfl))
  (try simp only [Act.put]); (try simp only [List.setIfInBounds_toArray]); (try simp only [List.set_cons_succ]); (try simp only [List.set_cons_zero])
  refine wpAnyH_done (by kernel_rfl) ?_ _
  go_wp2_with fail
  go_ret2
  exact ⟨g7, cap, w6.heap.size, rfl, (HGW.out.trans HK6.out (fun _ _ h => h)).size, (FrP.ofGr (HGW.out.trans HK6.out (fun _ _ h => h))).trans HF7.out, HO7.out⟩
end Go.Proofs.YteggcdhibcjneaaGreatDoor.Kit
namespace Go.Proofs.YteggcdhibcjneaaGreatDoor.Kit
variable {nx : Bool}
open Go.RowKit Go.Shelf Go.Deep
open Go.Proofs.YteggcdhibcjneaaGreatDoor.Kd (Ans AnsV cell5 cell2)
set_option linter.unusedVariables false
set_option linter.unusedSimpArgs false
attribute [local go_sem] run_store_func

theorem pairs5 {ny : Bool} (ga gac gb gbc da dac db dbc qa qac qb qbc va vac vb vbc za zac zb zbc : Nat) (ao bo : Option Addr) (ca cb : Nat) (xl xr : Nat → Int) (W : World) (hA : Bt nx W 3 ga gac da dac qa qac va vac ao ca) (hB : Bt ny W 2 gb gbc db dbc qb qbc vb vbc bo cb) (hxl : ∀ k, k < 3 → W.cell? ⟨va, k, none⟩ = some (.int .u8 (xl k)) ∧ (xl k = 5 ∨ xl k = 7 ∨ xl k = 8)) (hxr : ∀ k, k < 2 → W.cell? ⟨vb, k, none⟩ = some (.int .u8 (xr k)) ∧ (xr k = 5 ∨ xr k = 7 ∨ xr k = 8)) (hza : W.cell? ⟨za, 0, none⟩ = some (.int .i64 0)) (hzb : W.cell? ⟨zb, 0, none⟩ = some (.int .i64 0)) (hxl0 : xl 0 = 5) (hxl1 : xl 1 = 7) (hxl2 : xl 2 = 5) (hxr0 : xr 0 = 8) (hxr1 : xr 1 = 5) :
    Calls Tryz.prog 5 #[.int .i64 3, .agg #[.slice (some ⟨ga, 0, none⟩) 1 gac, .slice none 0 0, .int .i64 3, .slice (some ⟨da, 0, none⟩) 1 dac, .slice (some ⟨za, 0, none⟩) 1 zac], .agg #[.slice (some ⟨gb, 0, none⟩) 1 gbc, .slice none 0 0, .int .i64 2, .slice (some ⟨db, 0, none⟩) 1 dbc, .slice (some ⟨zb, 0, none⟩) 1 zbc]] W fun e w' => ∃ g cap P, e = .returned (.tuple #[.slice (some ⟨g, 0, none⟩) 4 cap, .int .i64 0]) ∧ W.heap.size ≤ P ∧ FrP P W w' ∧ w'.ownsRow 0 41 2 (.slice (some ⟨g, 0, none⟩) 4 cap) 4 (flat2 [((0 : Int), (1 : Int)), (1, -1), (2, 1), (-1, 0)]) := by
  obtain ⟨A0, hA0⟩ : ∃ A, W.alloc (.cells #[.slice (some ⟨ga, 0, none⟩) 1 gac, .slice none 0 0, .int .i64 3, .slice (some ⟨da, 0, none⟩) 1 dac, .slice (some ⟨za, 0, none⟩) 1 zac] 36) = A := ⟨_, rfl⟩
  have g0 : Gr W A0 := by rw [← hA0]; exact gr_alloc W _
  have b0 : A0.heap[W.heap.size]? = some (.cells #[.slice (some ⟨ga, 0, none⟩) 1 gac, .slice none 0 0, .int .i64 3, .slice (some ⟨da, 0, none⟩) 1 dac, .slice (some ⟨za, 0, none⟩) 1 zac] 36) := by rw [← hA0]; exact heap_alloc_new W _
  obtain ⟨A1, hA1⟩ : ∃ A, A0.alloc (.cells #[.slice (some ⟨gb, 0, none⟩) 1 gbc, .slice none 0 0, .int .i64 2, .slice (some ⟨db, 0, none⟩) 1 dbc, .slice (some ⟨zb, 0, none⟩) 1 zbc] 36) = A := ⟨_, rfl⟩
  have g1 : Gr A0 A1 := by rw [← hA1]; exact gr_alloc A0 _
  have b1 : A1.heap[A0.heap.size]? = some (.cells #[.slice (some ⟨gb, 0, none⟩) 1 gbc, .slice none 0 0, .int .i64 2, .slice (some ⟨db, 0, none⟩) 1 dbc, .slice (some ⟨zb, 0, none⟩) 1 zbc] 36) := by rw [← hA1]; exact heap_alloc_new A0 _
  have gW : Gr W A1 := g0.trans g1 (fun _ _ h => h)
  obtain ⟨c0, c1, c2, c3, c4⟩ := cell5 ((g1.block _ (lt_of_heap b0) id).trans b0)
  obtain ⟨d0, d1, d2, d3, d4⟩ := cell5 b1
  have HGW := hidM gW
  have HC := hidM (Pairs9 ga gac gb gbc da dac db dbc qa qac qb qbc va vac vb vbc za zac zb zbc ao bo ca cb xl xr A1 (hA.gr gW) (hB.gr gW) (fun k hk => ⟨gW.cell' (hxl k hk).1 id, (hxl k hk).2⟩) (fun k hk => ⟨gW.cell' (hxr k hk).1 id, (hxr k hk).2⟩) (gW.cell' hza id) (gW.cell' hzb id) hxl0 hxl1 hxl2 hxr0 hxr1)
  clear g0 b0 g1 b1 gW hA hB hxl hxr hza hzb
  go_enter Tryz.func5, Tryz.ntmps5
  go_wp2_with (go_at_call 9; refine HC.out.mono ?_; rintro e w1 ⟨g, cap, P, rfl, hp, hf, ho⟩; have HE := hidM (And.intro hp (And.intro hf ho)); clear hp hf ho)
  go_ret2
  exact ⟨g, cap, P, rfl, Nat.le_trans HGW.out.size HE.out.1, (FrP.ofGr HGW.out).trans HE.out.2.1, HE.out.2.2⟩
end Go.Proofs.YteggcdhibcjneaaGreatDoor.Kit
