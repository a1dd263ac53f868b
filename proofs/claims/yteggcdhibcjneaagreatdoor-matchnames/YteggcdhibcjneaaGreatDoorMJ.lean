import Derived.Test.YteggcdhibcjneaaGreatDoorMH
import Derived.Test.YteggcdhibcjneaaGreatDoorBY
set_option maxRecDepth 100000
set_option maxHeartbeats 4000000
namespace Go.Proofs.YteggcdhibcjneaaGreatDoor.Kit
variable {nx : Bool}
open Go.RowKit Go.Shelf Go.Deep
open Go.Proofs.YteggcdhibcjneaaGreatDoor.Kd (Ans AnsV cell5 cell2)
set_option linter.unusedVariables false
set_option linter.unusedSimpArgs false
attribute [local go_sem] run_store_func

theorem field81 (L v2 c2 a : Nat) (W0 W : World) (hT : Tab W) (hO : OpA nx W0 W L v2 c2 a) : Calls Tryz.prog 81 #[.pointer (some ⟨a, 0, none⟩)] W fun e w' => ∃ fo fc, e = .returned (.agg #[.string (nmB nx), .bool false, .int .i64 3, .int .i64 0, .int .i64 0, .int .i64 0, .slice fo 0 fc]) ∧ Gr W w' := by
  obtain ⟨q, r, rc, fo0, fc0, -, hN, ha⟩ := hO.p
  obtain ⟨A0, hA0⟩ : ∃ A, W.alloc (.cells #[.string ⟨#[]⟩, .bool false, .int .i64 0, .int .i64 0, .int .i64 0, .int .i64 0, .slice none 0 0] 47) = A := ⟨_, rfl⟩
  have g0 : Gr W A0 := by rw [← hA0]; exact gr_alloc W _
  have b0 : A0.heap[W.heap.size]? = some (.cells #[.string ⟨#[]⟩, .bool false, .int .i64 0, .int .i64 0, .int .i64 0, .int .i64 0, .slice none 0 0] 47) := by rw [← hA0]; exact heap_alloc_new W _
  have hN0 := (hN.gr g0).nd
  have hT0 := hT.gr g0
  have HC := hidM (copied46 (nx := nx) false fo0 fc0 A0 hT0)
  have HX : Hid (∀ (w2 : World) (fo : Option Addr) (fc : Nat), Gr A0 w2 → w2.heap[W.heap.size]? = some (.cells #[.string ⟨#[]⟩, .bool false, .int .i64 0, .int .i64 0, .int .i64 0, .int .i64 0, .slice none 0 0] 47) ∧ (setAll w2 W.heap.size [(0, .string (nmB nx)), (1, .bool false), (2, .int .i64 3), (3, .int .i64 0), (4, .int .i64 0), (5, .int .i64 0), (6, .slice fo 0 fc)]).heap[W.heap.size]? = some (.cells #[.string (nmB nx), .bool false, .int .i64 3, .int .i64 0, .int .i64 0, .int .i64 0, .slice fo 0 fc] 47) ∧ Gr W (setAll w2 W.heap.size [(0, .string (nmB nx)), (1, .bool false), (2, .int .i64 3), (3, .int .i64 0), (4, .int .i64 0), (5, .int .i64 0), (6, .slice fo 0 fc)])) := fun w2 fo fc g2 => by
    have hr := (g2.block _ (lt_of_heap b0) id).trans b0
    refine ⟨hr, ?_, (g0.trans g2 (fun _ _ h => h)).trans (setAll_kp _ _ _) (fun j hj e => by have e' : j = W.heap.size := e; omega)⟩
    rw [setAll_blk W.heap.size 47 _ _ _ hr]
    simp [setsA]
  obtain ⟨a0, a1, a2, a3⟩ := cell4 ((g0.block _ (lt_of_heap ha) id).trans ha)
  obtain ⟨n0, n1, n2, n3, n4, n5, n6⟩ : A0.cell? ⟨q, 0, none⟩ = some (.string (nmB nx)) ∧ A0.cell? ⟨q, 1, none⟩ = some (.bool false) ∧ A0.cell? ⟨q, 2, none⟩ = some (.int .i64 3) ∧ A0.cell? ⟨q, 3, none⟩ = some (.int .i64 0) ∧ A0.cell? ⟨q, 4, none⟩ = some (.int .i64 0) ∧ A0.cell? ⟨q, 5, none⟩ = some (.int .i64 0) ∧ A0.cell? ⟨q, 6, none⟩ = some (.slice fo0 0 fc0) := by
    refine ⟨?_, ?_, ?_, ?_, ?_, ?_, ?_⟩ <;> simp [World.cell?, hN0, ndC]
  clear g0 b0 hN0 hT0 hN hO hT ha
  go_enter Tryz.func81, Tryz.ntmps81
  go_wp2_with (go_at_call 89; refine HC.out.mono ?_; rintro e w2 ⟨fo, fc, rfl, g2⟩; obtain ⟨hr, hu, hg⟩ := HX.out w2 fo fc g2; obtain ⟨U, hU⟩ : ∃ U, setAll w2 W.heap.size [(0, .string (nmB nx)), (1, .bool false), (2, .int .i64 3), (3, .int .i64 0), (4, .int .i64 0), (5, .int .i64 0), (6, .slice fo 0 fc)] = U := ⟨_, rfl⟩; rw [hU] at hu hg; simp only [setAll] at hU; obtain ⟨r0, r1, r2, r3, r4, r5, r6⟩ := cell7 hr; have y := frzA hr; have HU := hidM hu; have HG := hidM hg; clear g2 hr hu hg hA0 n0 n1 n2 n3 n4 n5 n6 a0 a1 a2 a3)
  (try simp only [Exit.inBlock, Exit.then])
  refine bodyPost_ret (results_cell27 rfl rfl (by with_reducible exact HU.out) (by kernel_rfl)) rfl ?_
  exact ⟨fo, fc, rfl, HG.out⟩
theorem of80_nil (ao : Option Addr) (ca : Nat) (W : World) (hT : Tab W) : Calls Tryz.prog 80 #[.agg #[.string (nmB nx), .bool false, .int .i64 3, .int .i64 0, .int .i64 0, .int .i64 0, .slice ao 0 ca], .slice none 0 0] W fun e w' => ∃ bo bc, e = .returned (.tuple #[.agg #[.int .i64 0, .int .i64 0, .int .i64 0, .slice bo 2 bc, .slice none 0 0, .slice none 0 0], .int .i64 0, .int .i64 0]) ∧ Gr W w' := by
  refine (of5 (nx := nx) false ao ca none 0 [] W hT (fun k vn x h => by simp at h) (by decide)).mono ?_
  rintro e w' ⟨g, ⟨bo, bc, -, rfl, -⟩ | ⟨k, y, h, -⟩⟩
  · exact ⟨bo, bc, rfl, g⟩
  · simp at h
theorem laid61 (L v2 c2 a b : Nat) (W0 W : World) (hT : Tab W) (hO : OpA nx W0 W L v2 c2 a) (hb : W.heap[b]? = some (.cells #[.slice none 0 0] 34)) : Calls Tryz.prog 61 #[.pointer (some ⟨a, 0, none⟩), .func (.func 60) #[] #[.pointer (some ⟨b, 0, none⟩)]] W fun e w' => ∃ bo bc, e = .returned (.tuple #[.agg #[.int .i64 0, .int .i64 0, .int .i64 0, .slice bo 2 bc, .slice none 0 0, .slice none 0 0], .int .i64 0]) ∧ Gr W w' := by
  have hmf : ∀ (fn : Fn) (first cap : Array Value) (w : World), (Instr.makeFunc fn first cap).run Tryz.prog w = .ok (.func fn first cap) w := fun _ _ _ _ => rfl
  obtain ⟨A0, hA0⟩ : ∃ A, W.alloc (.cells #[.int .i64 0, .int .i64 0, .int .i64 0, .slice none 0 0, .slice none 0 0, .slice none 0 0] 50) = A := ⟨_, rfl⟩
  have g0 : Gr W A0 := by rw [← hA0]; exact gr_alloc W _
  have b0 : A0.heap[W.heap.size]? = some (.cells #[.int .i64 0, .int .i64 0, .int .i64 0, .slice none 0 0, .slice none 0 0, .slice none 0 0] 50) := by rw [← hA0]; exact heap_alloc_new W _
  obtain ⟨A1, hA1⟩ : ∃ A, A0.alloc (.cells #[.slice none 0 0] 58) = A := ⟨_, rfl⟩
  have g1 : Gr A0 A1 := by rw [← hA1]; exact gr_alloc A0 _
  have b1 : A1.heap[A0.heap.size]? = some (.cells #[.slice none 0 0] 58) := by rw [← hA1]; exact heap_alloc_new A0 _
  have gW : Gr W A1 := g0.trans g1 (fun _ _ h => h)
  have HG := hidM gW
  have HE := hidM (each78 a b A0.heap.size A1 ((gW.block _ (lt_of_heap hb) id).trans hb))
  have HD : Hid (∀ w1, Gr A1 w1 → (w1.drew.cell? ⟨A0.heap.size, 0, none⟩ = some (.slice none 0 0)) ∧ Calls Tryz.prog 81 #[.pointer (some ⟨a, 0, none⟩)] w1.drew fun e w' => ∃ fo fc, e = .returned (.agg #[.string (nmB nx), .bool false, .int .i64 3, .int .i64 0, .int .i64 0, .int .i64 0, .slice fo 0 fc]) ∧ Gr w1.drew w') := fun w1 g => by
    have g' := g.trans (gr_drew (w := w1)) (fun _ _ h => h)
    exact ⟨g'.cell' (cell1 b1) id, field81 L v2 c2 a W0 w1.drew (hT.gr (gW.trans g' (fun _ _ h => h))) (hO.gr (gW.trans g' (fun _ _ h => h)))⟩
  have HF : Hid (∀ w2, Gr A1 w2 → w2.cell? ⟨A0.heap.size, 0, none⟩ = some (.slice none 0 0) ∧ ∀ fo fc, Calls Tryz.prog 80 #[.agg #[.string (nmB nx), .bool false, .int .i64 3, .int .i64 0, .int .i64 0, .int .i64 0, .slice fo 0 fc], .slice none 0 0] w2 fun e w' => ∃ bo bc, e = .returned (.tuple #[.agg #[.int .i64 0, .int .i64 0, .int .i64 0, .slice bo 2 bc, .slice none 0 0, .slice none 0 0], .int .i64 0, .int .i64 0]) ∧ Gr w2 w') := fun w2 g => ⟨g.cell' (cell1 b1) id, fun fo fc => of80_nil fo fc w2 (hT.gr (gW.trans g (fun _ _ h => h)))⟩
  have HX : Hid (∀ (V0 : World) (t : Nat) (bo : Option Addr) (bc : Nat), Gr A1 V0 → V0.heap[t]? = some (.cells #[.int .i64 0, .int .i64 0, .int .i64 0, .slice none 0 0, .slice none 0 0, .slice none 0 0] 50) → A1.heap.size ≤ t → V0.cell? ⟨A0.heap.size, 0, none⟩ = some (.slice none 0 0) ∧ (V0.setCell ⟨t, 3, none⟩ (.slice bo 2 bc)).cell? ⟨A0.heap.size, 0, none⟩ = some (.slice none 0 0) ∧ (V0.setCell ⟨t, 3, none⟩ (.slice bo 2 bc)).heap[t]? = some (.cells #[.int .i64 0, .int .i64 0, .int .i64 0, .slice bo 2 bc, .slice none 0 0, .slice none 0 0] 50) ∧ (V0.setCell ⟨t, 3, none⟩ (.slice bo 2 bc)).heap[W.heap.size]? = some (.cells #[.int .i64 0, .int .i64 0, .int .i64 0, .slice none 0 0, .slice none 0 0, .slice none 0 0] 50) ∧ (setAll (V0.setCell ⟨t, 3, none⟩ (.slice bo 2 bc)) W.heap.size [(0, .int .i64 0), (1, .int .i64 0), (2, .int .i64 0), (3, .slice bo 2 bc), (4, .slice none 0 0), (5, .slice none 0 0)]).heap[W.heap.size]? = some (.cells #[.int .i64 0, .int .i64 0, .int .i64 0, .slice bo 2 bc, .slice none 0 0, .slice none 0 0] 50) ∧ Gr W (setAll (V0.setCell ⟨t, 3, none⟩ (.slice bo 2 bc)) W.heap.size [(0, .int .i64 0), (1, .int .i64 0), (2, .int .i64 0), (3, .slice bo 2 bc), (4, .slice none 0 0), (5, .slice none 0 0)])) := fun V0 t bo bc g3 hv ht => by
    have k1 : Keeps V0 (V0.setCell ⟨t, 3, none⟩ (.slice bo 2 bc)) (fun z => z = t) := Keeps.setCell (S := fun z => z = t) (p := ⟨t, 3, none⟩) (Keeps.refl V0 _) (fun _ => rfl) _
    have hs1 := g1.size
    have hs0 := gW.size
    have hlt := lt_of_heap b1
    have hlt0 := lt_of_heap b0
    have hc : V0.heap[A0.heap.size]? = some (.cells #[.slice none 0 0] 58) := (g3.block _ (lt_of_heap b1) id).trans b1
    have hr := ((g1.trans g3 (fun _ _ h => h)).block _ (lt_of_heap b0) id).trans b0
    have hr1 := (k1.block _ (lt_of_heap hr) (fun e => by have e' : W.heap.size = t := e; omega)).trans hr
    refine ⟨cell1 hc, cell1 ((k1.block _ (lt_of_heap hc) (fun e => by have e' : A0.heap.size = t := e; omega)).trans hc), ?_, hr1, ?_, ?_⟩
    · rw [heap_setCell_same V0 t 3 _ _ _ hv]; rfl
    · rw [setAll_blk W.heap.size 50 _ _ _ hr1]
      simp [setsA]
    · exact ((gW.trans g3 (fun _ _ h => h)).trans k1 (fun j hj e => by have e' : j = t := e; omega)).trans (setAll_kp _ _ _) (fun j hj e => by have e' : j = W.heap.size := e; omega)
  have H81 : Hid (∀ w1, Gr A1 w1 → Calls Tryz.prog 81 #[.pointer (some ⟨a, 0, none⟩)] w1 fun e w' => ∃ fo fc, e = .returned (.agg #[.string (nmB nx), .bool false, .int .i64 3, .int .i64 0, .int .i64 0, .int .i64 0, .slice fo 0 fc]) ∧ Gr w1 w') := fun w1 g => field81 L v2 c2 a W0 w1 (hT.gr (gW.trans g (fun _ _ h => h))) (hO.gr (gW.trans g (fun _ _ h => h)))
  clear g0 b0 g1 b1 gW hb hO hT HD
  go_enter Tryz.func61, Tryz.ntmps61
  go_wp2_with (go_at_call 78; refine HE.out.mono ?_; rintro e w1 ⟨⟨v9, rfl⟩, g1⟩; have HG1 := hidM (g1.trans (gr_drew (w := w1)) (fun _ _ h => h)); clear g1)
  obtain ⟨B, hB⟩ : ∃ B, w1.drew.alloc (.cells #[.int .i64 0, .int .i64 0, .int .i64 0, .slice none 0 0, .slice none 0 0, .slice none 0 0] 50) = B := ⟨_, rfl⟩
  have HGB : Hid (Gr A1 B ∧ B.heap[w1.heap.size]? = some (.cells #[.int .i64 0, .int .i64 0, .int .i64 0, .slice none 0 0, .slice none 0 0, .slice none 0 0] 50)) := by rw [← hB]; exact ⟨HG1.out.trans (gr_alloc _ _) (fun _ _ h => h), heap_alloc_new _ _⟩
  have HSd := hidM (HF.out w1.drew HG1.out).1
  have HSb := hidM (HF.out B HGB.out.1).1
  clear hA0 hA1 HE
  go_region_held3 (fun u => u.cell? ⟨A0.heap.size, 0, none⟩ = some (.slice none 0 0)) (first | with_reducible exact HSd.out | with_reducible exact HSb.out | with_reducible exact HS2.out | with_reducible exact HSc.out | with_reducible exact HS4.out | with_reducible exact HSz.out | with_reducible exact HSu.out) (first
    | (go_at_call 80; have _ := HP2; refine ((HF.out w2 HG2.out.1).2 fo fc).mono ?_; rintro e w3 ⟨bo, bc, rfl, g3⟩; have HS4 := hidM (HF.out w3 (HG2.out.1.trans g3 (fun _ _ h => h))).1; have HV := hidM (And.intro (HG2.out.1.trans g3 (fun _ _ h => h)) ((g3.block _ (lt_of_heap HG2.out.2) id).trans HG2.out.2)); obtain ⟨h2, h5, h6, h7, h3, h4⟩ := HX.out w3 w1.heap.size bo bc HV.out.1 HV.out.2 HG1.out.size; obtain ⟨V, hV⟩ : ∃ V, w3.setCell ⟨w1.heap.size, 3, none⟩ (.slice bo 2 bc) = V := ⟨_, rfl⟩; rw [hV] at h3 h4 h5 h6 h7; have HSz := hidM h2; have HSu := hidM h5; obtain ⟨U, hU⟩ : ∃ U, setAll V W.heap.size [(0, .int .i64 0), (1, .int .i64 0), (2, .int .i64 0), (3, .slice bo 2 bc), (4, .slice none 0 0), (5, .slice none 0 0)] = U := ⟨_, rfl⟩; rw [hU] at h3 h4; have HQ := hidM (And.intro h6 h7); have HU := hidM h3; have HK := hidM h4; obtain ⟨y0, y1, y2, y3, y4, y5⟩ := cell6 HV.out.2; have z0 := frz HV.out.2 0; have z1 := frz HV.out.2 1; have z2 := frz HV.out.2 2; have z3 := frz HV.out.2 3; have z4 := frz HV.out.2 4; have z5 := frz HV.out.2 5; have i0 := set_id (j := 0) (v := .int .i64 0) HV.out.2 rfl; have i1 := set_id (j := 1) (v := .int .i64 0) HV.out.2 rfl; have i2 := set_id (j := 2) (v := .int .i64 0) HV.out.2 rfl; have i4 := set_id (j := 4) (v := .slice none 0 0) HQ.out.1 rfl; have i5 := set_id (j := 5) (v := .slice none 0 0) HQ.out.1 rfl; have q0 := frz HQ.out.1 0; have q1 := frz HQ.out.1 1; have q2 := frz HQ.out.1 2; have q3 := frz HQ.out.1 3; have q4 := frz HQ.out.1 4; have q5 := frz HQ.out.1 5; obtain ⟨x0, x1, x2, x3, x4, x5⟩ := cell6 HQ.out.1; clear h2 h3 h4 h5 h6 h7 g3)
    | (go_at_call 80; refine ((HF.out w2 HG2.out).2 fo fc).mono ?_; rintro e w3 ⟨bo, bc, rfl, g3⟩; have HS4 := hidM (HF.out w3 (HG2.out.trans g3 (fun _ _ h => h))).1; obtain ⟨V0, hV0⟩ : ∃ V0, w3.alloc (.cells #[.int .i64 0, .int .i64 0, .int .i64 0, .slice none 0 0, .slice none 0 0, .slice none 0 0] 50) = V0 := ⟨_, rfl⟩; have HV : Hid (Gr A1 V0 ∧ V0.heap[w3.heap.size]? = some (.cells #[.int .i64 0, .int .i64 0, .int .i64 0, .slice none 0 0, .slice none 0 0, .slice none 0 0] 50)) := (by rw [← hV0]; exact ⟨(HG2.out.trans g3 (fun _ _ h => h)).trans (gr_alloc _ _) (fun _ _ h => h), heap_alloc_new _ _⟩); obtain ⟨h2, h5, h6, h7, h3, h4⟩ := HX.out V0 w3.heap.size bo bc HV.out.1 HV.out.2 (HG2.out.trans g3 (fun _ _ h => h)).size; obtain ⟨V, hV⟩ : ∃ V, V0.setCell ⟨w3.heap.size, 3, none⟩ (.slice bo 2 bc) = V := ⟨_, rfl⟩; rw [hV] at h3 h4 h5 h6 h7; have HSz := hidM h2; have HSu := hidM h5; obtain ⟨U, hU⟩ : ∃ U, setAll V W.heap.size [(0, .int .i64 0), (1, .int .i64 0), (2, .int .i64 0), (3, .slice bo 2 bc), (4, .slice none 0 0), (5, .slice none 0 0)] = U := ⟨_, rfl⟩; rw [hU] at h3 h4; have HQ := hidM (And.intro h6 h7); have HU := hidM h3; have HK := hidM h4; obtain ⟨y0, y1, y2, y3, y4, y5⟩ := cell6 HV.out.2; have z0 := frz HV.out.2 0; have z1 := frz HV.out.2 1; have z2 := frz HV.out.2 2; have z3 := frz HV.out.2 3; have z4 := frz HV.out.2 4; have z5 := frz HV.out.2 5; have i0 := set_id (j := 0) (v := .int .i64 0) HV.out.2 rfl; have i1 := set_id (j := 1) (v := .int .i64 0) HV.out.2 rfl; have i2 := set_id (j := 2) (v := .int .i64 0) HV.out.2 rfl; have i4 := set_id (j := 4) (v := .slice none 0 0) HQ.out.1 rfl; have i5 := set_id (j := 5) (v := .slice none 0 0) HQ.out.1 rfl; have q0 := frz HQ.out.1 0; have q1 := frz HQ.out.1 1; have q2 := frz HQ.out.1 2; have q3 := frz HQ.out.1 3; have q4 := frz HQ.out.1 4; have q5 := frz HQ.out.1 5; obtain ⟨x0, x1, x2, x3, x4, x5⟩ := cell6 HQ.out.1; clear h2 h3 h4 h5 h6 h7 g3)
    | (go_at_call 80; refine ((HF.out C HC2.out.1).2 fo fc).mono ?_; rintro e w3 ⟨bo, bc, rfl, g3⟩; have HS4 := hidM (HF.out w3 (HC2.out.1.trans g3 (fun _ _ h => h))).1; have HV := hidM (And.intro (HC2.out.1.trans g3 (fun _ _ h => h)) ((g3.block _ (lt_of_heap HC2.out.2) id).trans HC2.out.2)); obtain ⟨h2, h5, h6, h7, h3, h4⟩ := HX.out w3 w2.heap.size bo bc HV.out.1 HV.out.2 HG2.out.size; obtain ⟨V, hV⟩ : ∃ V, w3.setCell ⟨w2.heap.size, 3, none⟩ (.slice bo 2 bc) = V := ⟨_, rfl⟩; rw [hV] at h3 h4 h5 h6 h7; have HSz := hidM h2; have HSu := hidM h5; obtain ⟨U, hU⟩ : ∃ U, setAll V W.heap.size [(0, .int .i64 0), (1, .int .i64 0), (2, .int .i64 0), (3, .slice bo 2 bc), (4, .slice none 0 0), (5, .slice none 0 0)] = U := ⟨_, rfl⟩; rw [hU] at h3 h4; have HQ := hidM (And.intro h6 h7); have HU := hidM h3; have HK := hidM h4; obtain ⟨y0, y1, y2, y3, y4, y5⟩ := cell6 HV.out.2; have z0 := frz HV.out.2 0; have z1 := frz HV.out.2 1; have z2 := frz HV.out.2 2; have z3 := frz HV.out.2 3; have z4 := frz HV.out.2 4; have z5 := frz HV.out.2 5; have i0 := set_id (j := 0) (v := .int .i64 0) HV.out.2 rfl; have i1 := set_id (j := 1) (v := .int .i64 0) HV.out.2 rfl; have i2 := set_id (j := 2) (v := .int .i64 0) HV.out.2 rfl; have i4 := set_id (j := 4) (v := .slice none 0 0) HQ.out.1 rfl; have i5 := set_id (j := 5) (v := .slice none 0 0) HQ.out.1 rfl; have q0 := frz HQ.out.1 0; have q1 := frz HQ.out.1 1; have q2 := frz HQ.out.1 2; have q3 := frz HQ.out.1 3; have q4 := frz HQ.out.1 4; have q5 := frz HQ.out.1 5; obtain ⟨x0, x1, x2, x3, x4, x5⟩ := cell6 HQ.out.1; clear h2 h3 h4 h5 h6 h7 g3)
    | (go_at_call 81; refine (H81.out B HGB.out.1).mono ?_; rintro e w2 ⟨fo, fc, rfl, g2⟩; have HP2 := hidM trivial; have HG2 := hidM (And.intro (HGB.out.1.trans g2 (fun _ _ h => h)) ((g2.block _ (lt_of_heap HGB.out.2) id).trans HGB.out.2)); have HS2 := hidM (HF.out w2 HG2.out.1).1; clear g2)
    | (go_at_call 81; refine (H81.out w1.drew HG1.out).mono ?_; rintro e w2 ⟨fo, fc, rfl, g2⟩; have HG2 := hidM (HG1.out.trans g2 (fun _ _ h => h)); have HS2 := hidM (HF.out w2 HG2.out).1; obtain ⟨C, hC⟩ : ∃ C, w2.alloc (.cells #[.int .i64 0, .int .i64 0, .int .i64 0, .slice none 0 0, .slice none 0 0, .slice none 0 0] 50) = C := ⟨_, rfl⟩; have HC2 : Hid (Gr A1 C ∧ C.heap[w2.heap.size]? = some (.cells #[.int .i64 0, .int .i64 0, .int .i64 0, .slice none 0 0, .slice none 0 0, .slice none 0 0] 50)) := (by rw [← hC]; exact ⟨HG2.out.trans (gr_alloc _ _) (fun _ _ h => h), heap_alloc_new _ _⟩); have HSc := hidM (HF.out C HC2.out.1).1; clear g2))
  all_goals
    clear y0 y1 y2 y3 y4 y5 z0 z1 z2 z3 z4 z5 hV i0 i1 i2 i4 i5
    obtain ⟨r0, r1, r2, r3, r4, r5⟩ := cell6 HQ.out.2
    have yr := frzA HQ.out.2
    simp only [setAll] at hU
    go_wp2_with fail
    (try simp only [Exit.inBlock, Exit.then])
    refine bodyPost_ret (results_cell31t rfl rfl (by with_reducible exact HU.out) (by kernel_rfl)) rfl ?_
    exact ⟨bo, bc, rfl, HK.out⟩
end Go.Proofs.YteggcdhibcjneaaGreatDoor.Kit
namespace Go.Proofs.YteggcdhibcjneaaGreatDoor.Kit
variable {nx : Bool}
open Go.RowKit Go.Shelf Go.Deep
open Go.Proofs.YteggcdhibcjneaaGreatDoor.Kd (Ans AnsV cell5 cell2)
set_option linter.unusedVariables false
set_option linter.unusedSimpArgs false
attribute [local go_sem] run_store_func

theorem mk31 (w : World) : (Instr.makeSlice 31 (.int .i64 1) (.int .i64 1)).run Tryz.prog w = .ok (.slice (some ⟨w.heap.size, 0, none⟩) 1 1) (w.alloc (.cells #[.int .i64 0, .int .i64 0, .int .i64 0, .slice none 0 0, .slice none 0 0, .slice none 0 0] 50)) := by kernel_rfl
theorem results_cell33t {fn : Func} {t u : Tmp} {tmps : Array Value} {g : Nat} {cs : Array Value} {w : World} (h : fn.results = #[.cell t 33, .tmp u]) (ht : tmps.getD t undef = .pointer (some ⟨g, 0, none⟩)) (hg : w.heap[g]? = some (.cells cs 33 (0, 0))) (hi : (Tryz.prog.info? 33).map (·.size) = some cs.size) :
    (results fn tmps).run Tryz.prog w = .ok (.tuple #[.agg cs, tmps.getD u undef]) w := by
  have hl := run_loadVar_row (P := Tryz.prog) w g 33 33 cs (0, 0) _ hg Tryz.underlying33 rfl hi
  unfold results
  rw [h]
  simp only [Array.mapM_eq_mapM_toList, List.mapM_cons, List.mapM_nil, ht]
  simp [asAddr, hl]
theorem laidBatch39 (L v2 c2 a l : Nat) (W0 W : World) (hT : Tab W) (hO : OpA nx W0 W L v2 c2 a) (hl : W.heap[l]? = some (.cells #[.pointer (some ⟨a, 0, none⟩)] 110)) : Calls Tryz.prog 39 #[.slice (some ⟨l, 0, none⟩) 1 1, .slice none 0 0] W fun e w' => ∃ m, e = .returned (.tuple #[.agg #[.int .i64 0, .slice (some ⟨m, 0, none⟩) 1 1], .int .i64 0]) ∧ Gr W w' := by
  obtain ⟨A0, hA0⟩ : ∃ A, W.alloc (.cells #[.int .i64 0, .slice none 0 0] 33) = A := ⟨_, rfl⟩
  have g0 : Gr W A0 := by rw [← hA0]; exact gr_alloc W _
  have b0 : A0.heap[W.heap.size]? = some (.cells #[.int .i64 0, .slice none 0 0] 33) := by rw [← hA0]; exact heap_alloc_new W _
  obtain ⟨A1, hA1⟩ : ∃ A, A0.alloc (.cells #[.int .i64 0, .int .i64 0, .int .i64 0, .slice none 0 0, .slice none 0 0, .slice none 0 0] 50) = A := ⟨_, rfl⟩
  have g1 : Gr A0 A1 := by rw [← hA1]; exact gr_alloc A0 _
  have b1 : A1.heap[A0.heap.size]? = some (.cells #[.int .i64 0, .int .i64 0, .int .i64 0, .slice none 0 0, .slice none 0 0, .slice none 0 0] 50) := by rw [← hA1]; exact heap_alloc_new A0 _
  obtain ⟨A2, hA2⟩ : ∃ A, A1.alloc (.cells #[.int .i64 0, .slice (some ⟨A0.heap.size, 0, none⟩) 1 1] 33) = A := ⟨_, rfl⟩
  have g2 : Gr A1 A2 := by rw [← hA2]; exact gr_alloc A1 _
  have b2 : A2.heap[A1.heap.size]? = some (.cells #[.int .i64 0, .slice (some ⟨A0.heap.size, 0, none⟩) 1 1] 33) := by rw [← hA2]; exact heap_alloc_new A1 _
  have g12 := g1.trans g2 (fun _ _ h => h)
  have gW : Gr W A2 := g0.trans g12 (fun _ _ h => h)
  have s0 : A0.heap.size = W.heap.size + 1 := by rw [← hA0]; simp
  have s1 : A1.heap.size = A0.heap.size + 1 := by rw [← hA1]; simp
  have HL := hidM (cell1 ((gW.block _ (lt_of_heap hl) id).trans hl))
  have H0 := hidM ((g12.block _ (lt_of_heap b0) id).trans b0)
  have H1 := hidM ((g2.block _ (lt_of_heap b1) id).trans b1)
  have H2 := hidM b2
  obtain ⟨A3, hA3⟩ : ∃ A, A2.alloc (.cells #[.slice none 0 0] 34) = A := ⟨_, rfl⟩
  have g3 : Gr A2 A3 := by rw [← hA3]; exact gr_alloc A2 _
  have b3 : A3.heap[A2.heap.size]? = some (.cells #[.slice none 0 0] 34) := by rw [← hA3]; exact heap_alloc_new A2 _
  have HC := hidM (laid61 (nx := nx) L v2 c2 a A2.heap.size W0 A3 (hT.gr (gW.trans g3 (fun _ _ h => h))) (hO.gr (gW.trans g3 (fun _ _ h => h))) b3)
  have HX : Hid (∀ (w4 V : World) (bo : Option Addr) (bc : Nat), Gr A3 w4 → w4.alloc (.cells #[.int .i64 0, .int .i64 0, .int .i64 0, .slice bo 2 bc, .slice none 0 0, .slice none 0 0] 50) = V → V.heap[w4.heap.size]? = some (.cells #[.int .i64 0, .int .i64 0, .int .i64 0, .slice bo 2 bc, .slice none 0 0, .slice none 0 0] 50) ∧ V.heap[A0.heap.size]? = some (.cells #[.int .i64 0, .int .i64 0, .int .i64 0, .slice none 0 0, .slice none 0 0, .slice none 0 0] 50) ∧ V.heap[A1.heap.size]? = some (.cells #[.int .i64 0, .slice (some ⟨A0.heap.size, 0, none⟩) 1 1] 33) ∧ (setAll V A0.heap.size [(0, .int .i64 0), (1, .int .i64 0), (2, .int .i64 0), (3, .slice bo 2 bc), (4, .slice none 0 0), (5, .slice none 0 0)]).heap[A1.heap.size]? = some (.cells #[.int .i64 0, .slice (some ⟨A0.heap.size, 0, none⟩) 1 1] 33) ∧ (setAll V A0.heap.size [(0, .int .i64 0), (1, .int .i64 0), (2, .int .i64 0), (3, .slice bo 2 bc), (4, .slice none 0 0), (5, .slice none 0 0)]).heap[W.heap.size]? = some (.cells #[.int .i64 0, .slice none 0 0] 33) ∧ (setAll (setAll V A0.heap.size [(0, .int .i64 0), (1, .int .i64 0), (2, .int .i64 0), (3, .slice bo 2 bc), (4, .slice none 0 0), (5, .slice none 0 0)]) W.heap.size [(0, .int .i64 0), (1, .slice (some ⟨A0.heap.size, 0, none⟩) 1 1)]).heap[W.heap.size]? = some (.cells #[.int .i64 0, .slice (some ⟨A0.heap.size, 0, none⟩) 1 1] 33) ∧ Gr W (setAll (setAll V A0.heap.size [(0, .int .i64 0), (1, .int .i64 0), (2, .int .i64 0), (3, .slice bo 2 bc), (4, .slice none 0 0), (5, .slice none 0 0)]) W.heap.size [(0, .int .i64 0), (1, .slice (some ⟨A0.heap.size, 0, none⟩) 1 1)])) := fun w4 V bo bc g4 hV => by
    have g5 : Gr w4 V := by rw [← hV]; exact gr_alloc w4 _
    have g25 : Gr A2 V := (g3.trans g4 (fun _ _ h => h)).trans g5 (fun _ _ h => h)
    have k1 : Keeps V (setAll V A0.heap.size [(0, .int .i64 0), (1, .int .i64 0), (2, .int .i64 0), (3, .slice bo 2 bc), (4, .slice none 0 0), (5, .slice none 0 0)]) (fun z => z = A0.heap.size) := setAll_kp _ _ _
    have c0 := (g25.block _ (lt_of_heap H0.out) id).trans H0.out
    have c1 := (g25.block _ (lt_of_heap H1.out) id).trans H1.out
    have c2 := (g25.block _ (lt_of_heap H2.out) id).trans H2.out
    have c2' := (k1.block _ (lt_of_heap c2) (fun e => by have e' : A1.heap.size = A0.heap.size := e; omega)).trans c2
    have c0' := (k1.block _ (lt_of_heap c0) (fun e => by have e' : W.heap.size = A0.heap.size := e; omega)).trans c0
    refine ⟨by rw [← hV]; exact heap_alloc_new w4 _, c1, c2, c2', c0', ?_, ((gW.trans g25 (fun _ _ h => h)).trans k1 (fun j hj e => by have e' : j = A0.heap.size := e; omega)).trans (setAll_kp _ _ _) (fun j hj e => by have e' : j = W.heap.size := e; omega)⟩
    rw [setAll_blk W.heap.size 33 _ _ _ c0']
    simp [setsA]
  have hmk := mk31
  obtain ⟨l0, l1⟩ := cell2 b2
  have lz := frzA b2
  have li0 := set_id (j := 0) (v := .int .i64 0) b2 rfl
  have li1 := set_id (j := 1) (v := .slice (some ⟨A0.heap.size, 0, none⟩) 1 1) b2 rfl
  clear g0 b0 g1 b1 g2 b2 g12 gW s0 s1 g3 b3 hl hO hT
  go_enter Tryz.func39, Tryz.ntmps39
  go_wp2_with fail
  clear l0 l1 lz li0 li1
  go_loopw [19] (fun i wr => ∃ k : Nat, k ≤ 1 ∧ i = .int .i64 k ∧ Hid ((k = 0 ∧ wr = A2) ∨ (k = 1 ∧ wr.heap[A1.heap.size]? = some (.cells #[.int .i64 0, .slice (some ⟨A0.heap.size, 0, none⟩) 1 1] 33) ∧ wr.heap[W.heap.size]? = some (.cells #[.int .i64 0, .slice none 0 0] 33) ∧ (setAll wr W.heap.size [(0, .int .i64 0), (1, .slice (some ⟨A0.heap.size, 0, none⟩) 1 1)]).heap[W.heap.size]? = some (.cells #[.int .i64 0, .slice (some ⟨A0.heap.size, 0, none⟩) 1 1] 33) ∧ Gr W (setAll wr W.heap.size [(0, .int .i64 0), (1, .slice (some ⟨A0.heap.size, 0, none⟩) 1 1)])))) (fun i _ => 1 - (intOf i).toNat)
  case atStart => exact ⟨0, by omega, rfl, .inl ⟨rfl, rfl⟩⟩
  case round =>
    obtain ⟨k, hk, rfl, HR⟩ := hrel
    rcases HR.out with ⟨rfl, rfl⟩ | ⟨rfl, q1, q2, q3, q4⟩
    · clear HR
      have hL := HL.out
      go_wp2_with (first
        | (go_at_call 37; refine (values37 _ _ _ _).mono ?_; rintro e w3 ⟨rfl, rfl⟩)
        | (go_at_call 61; refine HC.out.mono ?_; rintro e w4 ⟨bo, bc, rfl, g4⟩; obtain ⟨V, hV⟩ : ∃ V, w4.alloc (.cells #[.int .i64 0, .int .i64 0, .int .i64 0, .slice bo 2 bc, .slice none 0 0, .slice none 0 0] 50) = V := ⟨_, rfl⟩; obtain ⟨h1, h2, h3, h4, h5, h6, h7⟩ := HX.out w4 V bo bc g4 hV; obtain ⟨U, hU⟩ : ∃ U, setAll V A0.heap.size [(0, .int .i64 0), (1, .int .i64 0), (2, .int .i64 0), (3, .slice bo 2 bc), (4, .slice none 0 0), (5, .slice none 0 0)] = U := ⟨_, rfl⟩; rw [hU] at h4 h5 h6 h7; have HE := hidM (And.intro h4 (And.intro h5 (And.intro h6 h7))); simp only [setAll] at hU; obtain ⟨y0, y1, y2, y3, y4, y5⟩ := cell6 h1; have yz := frzA h1; have i0 := set_id (j := 0) (v := .int .i64 0) h1 rfl; have i1 := set_id (j := 1) (v := .int .i64 0) h1 rfl; have i2 := set_id (j := 2) (v := .int .i64 0) h1 rfl; have i3 := set_id (j := 3) (v := .slice bo 2 bc) h1 rfl; have i4 := set_id (j := 4) (v := .slice none 0 0) h1 rfl; have i5 := set_id (j := 5) (v := .slice none 0 0) h1 rfl; obtain ⟨t0, t1⟩ := cell2 h3; obtain ⟨x0, x1, x2, x3, x4, x5⟩ := cell6 h2; have xz := frzA h2; clear g4 h1 h2 h3 h4 h5 h6 h7))
      go_roundw
      case rel => exact ⟨1, by omega, by go_num, .inr ⟨rfl, HE.out⟩⟩
      case measure => simp [intOf]
    · obtain ⟨X, hX⟩ : ∃ X, setAll wr W.heap.size [(0, .int .i64 0), (1, .slice (some ⟨A0.heap.size, 0, none⟩) 1 1)] = X := ⟨_, rfl⟩
      rw [hX] at q3 q4
      simp only [setAll] at hX
      obtain ⟨t0, t1⟩ := cell2 q1
      obtain ⟨x0, x1⟩ := cell2 q2
      have xz := frzA q2
      have HU := hidM q3
      have HK := hidM q4
      clear q1 q2 q3 q4 HR
      go_wp2_with fail
      (try simp only [Exit.inBlock, Exit.then])
      refine bodyPost_ret (results_cell33t rfl rfl (by with_reducible exact HU.out) (by kernel_rfl)) rfl ?_
      exact ⟨_, rfl, HK.out⟩
end Go.Proofs.YteggcdhibcjneaaGreatDoor.Kit
