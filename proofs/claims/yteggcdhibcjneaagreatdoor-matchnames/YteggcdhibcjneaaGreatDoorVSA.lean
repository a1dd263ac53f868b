import Derived.Test.YteggcdhibcjneaaGreatDoorMN
import Derived.Test.YteggcdhibcjneaaGreatDoorVG
set_option maxRecDepth 100000
set_option maxHeartbeats 4000000
namespace Go.Proofs.YteggcdhibcjneaaGreatDoor.Kit
variable {nx ny : Bool}
open Go.RowKit Go.Shelf Go.Deep
open Go.Proofs.YteggcdhibcjneaaGreatDoor.Kd (Ans AnsV cell5 cell2)
set_option linter.unusedVariables false
set_option linter.unusedSimpArgs false
attribute [local go_sem] run_store_func

theorem type7 (ga ac gb bc za zac zb zbc : Nat) (ao bo : Option Addr) (ca cb : Nat) (W : World) (h1 : S1f nx W ga ac ao ca) (h2 : S1f ny W gb bc bo cb) (ha0 : W.cell? ⟨za, 0, none⟩ = some (.int .i64 0)) (hb0 : W.cell? ⟨zb, 0, none⟩ = some (.int .i64 0)) : Calls Tryz.prog 7 #[.int .i64 2, .agg #[.slice (some ⟨ga, 0, none⟩) 1 ac, .slice none 0 0], .slice (some ⟨za, 0, none⟩) 1 zac, .agg #[.slice (some ⟨gb, 0, none⟩) 1 bc, .slice none 0 0], .slice (some ⟨zb, 0, none⟩) 1 zbc] W fun e w' => ∃ g c, e = .returned (.tuple #[.agg #[.slice (some ⟨g, 0, none⟩) 1 c, .slice none 0 0], .int .i64 0]) ∧ Gr W w' := by
  obtain ⟨A0, hA0⟩ : ∃ A, W.alloc (.cells #[.slice (some ⟨ga, 0, none⟩) 1 ac, .slice none 0 0] 30) = A := ⟨_, rfl⟩
  have g0 : Gr W A0 := by rw [← hA0]; exact gr_alloc W _
  have b0 : A0.heap[W.heap.size]? = some (.cells #[.slice (some ⟨ga, 0, none⟩) 1 ac, .slice none 0 0] 30) := by rw [← hA0]; exact heap_alloc_new W _
  obtain ⟨A1, hA1⟩ : ∃ A, A0.alloc (.cells #[.slice (some ⟨gb, 0, none⟩) 1 bc, .slice none 0 0] 30) = A := ⟨_, rfl⟩
  have g1 : Gr A0 A1 := by rw [← hA1]; exact gr_alloc A0 _
  have b1 : A1.heap[A0.heap.size]? = some (.cells #[.slice (some ⟨gb, 0, none⟩) 1 bc, .slice none 0 0] 30) := by rw [← hA1]; exact heap_alloc_new A0 _
  obtain ⟨A2, hA2⟩ : ∃ A, A1.alloc (.cells #[.slice none 0 0, .slice none 0 0] 30) = A := ⟨_, rfl⟩
  have g2 : Gr A1 A2 := by rw [← hA2]; exact gr_alloc A1 _
  have b2 : A2.heap[A1.heap.size]? = some (.cells #[.slice none 0 0, .slice none 0 0] 30) := by rw [← hA2]; exact heap_alloc_new A1 _
  have g12 := g1.trans g2 (fun _ _ h => h)
  have gW : Gr W A2 := g0.trans g12 (fun _ _ h => h)
  have gW1 : Gr W A1 := g0.trans g1 (fun _ _ h => h)
  obtain ⟨e0, e1⟩ := cell2 ((g12.block _ (lt_of_heap b0) id).trans b0)
  obtain ⟨f0, f1⟩ := cell2 ((g2.block _ (lt_of_heap b1) id).trans b1)
  have HSS : Hid (∀ u, Gr A2 u → u.cell? ⟨W.heap.size, 0, none⟩ = some (.slice (some ⟨ga, 0, none⟩) 1 ac) ∧ u.cell? ⟨W.heap.size, 1, none⟩ = some (.slice none 0 0) ∧ u.cell? ⟨A0.heap.size, 0, none⟩ = some (.slice (some ⟨gb, 0, none⟩) 1 bc) ∧ u.cell? ⟨A0.heap.size, 1, none⟩ = some (.slice none 0 0)) := fun u g => ⟨g.cell' e0 id, g.cell' e1 id, g.cell' f0 id, g.cell' f1 id⟩
  have HC1 := hidM (wrongSchemas10 ga ac gb bc ao bo ca cb A2 (h1.gr gW) (h2.gr gW))
  have HC2 : Hid (∀ u, Gr A2 u → Calls Tryz.prog 11 #[.int .i64 2, .agg #[.slice (some ⟨ga, 0, none⟩) 1 ac, .slice none 0 0], .slice (some ⟨za, 0, none⟩) 1 zac, .agg #[.slice (some ⟨gb, 0, none⟩) 1 bc, .slice none 0 0], .slice (some ⟨zb, 0, none⟩) 1 zbc] u (fun e w' => e = .returned (.int .i64 0) ∧ Gr u w')) := fun u g => by
    have k := gW.trans g (fun _ _ h => h)
    exact wrongKeys11 2 (.inl rfl) ga ac gb bc za zac zb zbc ao bo ca cb u (h1.gr k) (h2.gr k) (k.cell' ha0 id) (k.cell' hb0 id)
  have HC3 : Hid (∀ u, Gr A2 u → Calls Tryz.prog 13 #[.int .i64 2, .agg #[.slice (some ⟨ga, 0, none⟩) 1 ac, .slice none 0 0], .slice (some ⟨za, 0, none⟩) 1 zac, .agg #[.slice (some ⟨gb, 0, none⟩) 1 bc, .slice none 0 0], .slice (some ⟨zb, 0, none⟩) 1 zbc] u (fun e w' => ∃ g c, e = .returned (.slice (some ⟨g, 0, none⟩) 1 c) ∧ Gr u w' ∧ w'.cell? ⟨g, 0, none⟩ = some (.int .i64 0) ∧ w'.cell? ⟨g, 1, none⟩ = some (.int .i64 0))) := fun u g => by
    have k := gW.trans g (fun _ _ h => h)
    exact origins13 ga ac gb bc za zac zb zbc u (k.cell' ha0 id) (k.cell' hb0 id)
  have HC4 : Hid (∀ u, Gr A2 u → ∀ go gc, u.cell? ⟨go, 0, none⟩ = some (.int .i64 0) → u.cell? ⟨go, 1, none⟩ = some (.int .i64 0) → Calls Tryz.prog 12 #[.int .i64 2, .agg #[.slice (some ⟨ga, 0, none⟩) 1 ac, .slice none 0 0], .agg #[.slice (some ⟨gb, 0, none⟩) 1 bc, .slice none 0 0], .slice (some ⟨go, 0, none⟩) 1 gc] u (fun e w' => ∃ g c, e = .returned (.tuple #[.agg #[.slice (some ⟨g, 0, none⟩) 1 c, .slice none 0 0], .int .i64 0]) ∧ Gr u w')) := fun u g go gc h3 h4 => outcome12 ga ac gb bc go gc ao ca u (h1.gr (gW.trans g (fun _ _ h => h))) h3 h4
  have HX : Hid (∀ (w : World) (g c : Nat), Gr A2 w → w.heap[A1.heap.size]? = some (.cells #[.slice none 0 0, .slice none 0 0] 30) ∧ (setAll w A1.heap.size [(0, .slice (some ⟨g, 0, none⟩) 1 c), (1, .slice none 0 0)]).heap[A1.heap.size]? = some (.cells #[.slice (some ⟨g, 0, none⟩) 1 c, .slice none 0 0] 30) ∧ Gr W (setAll w A1.heap.size [(0, .slice (some ⟨g, 0, none⟩) 1 c), (1, .slice none 0 0)]) ∧ ((setAll w A1.heap.size [(0, .slice (some ⟨g, 0, none⟩) 1 c), (1, .slice none 0 0)]).cell? ⟨W.heap.size, 0, none⟩ = some (.slice (some ⟨ga, 0, none⟩) 1 ac) ∧ (setAll w A1.heap.size [(0, .slice (some ⟨g, 0, none⟩) 1 c), (1, .slice none 0 0)]).cell? ⟨W.heap.size, 1, none⟩ = some (.slice none 0 0) ∧ (setAll w A1.heap.size [(0, .slice (some ⟨g, 0, none⟩) 1 c), (1, .slice none 0 0)]).cell? ⟨A0.heap.size, 0, none⟩ = some (.slice (some ⟨gb, 0, none⟩) 1 bc) ∧ (setAll w A1.heap.size [(0, .slice (some ⟨g, 0, none⟩) 1 c), (1, .slice none 0 0)]).cell? ⟨A0.heap.size, 1, none⟩ = some (.slice none 0 0))) := fun w g c k => by
    have hr := (k.block _ (lt_of_heap b2) id).trans b2
    have k1 : Keeps w (setAll w A1.heap.size [(0, .slice (some ⟨g, 0, none⟩) 1 c), (1, .slice none 0 0)]) (fun z => z = A1.heap.size) := setAll_kp _ _ _
    have s1 := g0.size
    have l0 : W.heap.size < A0.heap.size := by have := lt_of_heap b0; omega
    have l1 : A0.heap.size < A1.heap.size := by have := lt_of_heap b1; omega
    obtain ⟨q0, q1, q2, q3⟩ := HSS.out w k
    refine ⟨hr, ?_, (gW.trans k (fun _ _ h => h)).trans k1 (fun j hj e => by have e' : j = A1.heap.size := e; omega), k1.cell' q0 (fun e => by have e' : W.heap.size = A1.heap.size := e; omega), k1.cell' q1 (fun e => by have e' : W.heap.size = A1.heap.size := e; omega), k1.cell' q2 (fun e => by have e' : A0.heap.size = A1.heap.size := e; omega), k1.cell' q3 (fun e => by have e' : A0.heap.size = A1.heap.size := e; omega)⟩
    rw [setAll_blk A1.heap.size 30 _ _ _ hr]
    simp [setsA]
  clear g0 b0 g1 b1 g2 b2 g12 gW gW1 h1 h2 ha0 hb0
  go_enter Tryz.func7, Tryz.ntmps7
  go_wp2_with (first
    | (go_at_call 10; refine HC1.out.mono ?_; rintro e w1 ⟨rfl, g1⟩; have HG1 := hidM g1; clear e0 e1 f0 f1 hA0 hA1 hA2; obtain ⟨e0, e1, f0, f1⟩ := HSS.out w1 g1; clear g1)
    | (go_at_call 11; refine (HC2.out w1 HG1.out).mono ?_; rintro e w2 ⟨rfl, g2⟩; have HG2 := hidM ((HG1.out.trans g2 (fun _ _ h => h)).trans (gr_drew (w := w2)) (fun _ _ h => h)); clear e0 e1 f0 f1; have HSd := hidM (HSS.out w2.drew HG2.out); clear g2))
  go_region_held3 (fun u => u.cell? ⟨W.heap.size, 0, none⟩ = some (.slice (some ⟨ga, 0, none⟩) 1 ac) ∧ u.cell? ⟨W.heap.size, 1, none⟩ = some (.slice none 0 0) ∧ u.cell? ⟨A0.heap.size, 0, none⟩ = some (.slice (some ⟨gb, 0, none⟩) 1 bc) ∧ u.cell? ⟨A0.heap.size, 1, none⟩ = some (.slice none 0 0)) (first | with_reducible exact HSd.out | with_reducible exact HS3.out | with_reducible exact HS4.out | with_reducible exact HS5.out) (first
    | (go_at_call 12; refine (HC4.out w3 HG3.out g3 gc3 HO3.out.1 HO3.out.2).mono ?_; rintro e w4 ⟨g, c, rfl, k4⟩; have k4' := HG3.out.trans k4 (fun _ _ h => h); have HS4 := hidM (HSS.out w4 k4'); obtain ⟨h1, h2, h3, h4⟩ := HX.out w4 g c k4'; obtain ⟨U, hU⟩ : ∃ U, setAll w4 A1.heap.size [(0, .slice (some ⟨g, 0, none⟩) 1 c), (1, .slice none 0 0)] = U := ⟨_, rfl⟩; rw [hU] at h2 h3 h4; have HU := hidM h2; have HK := hidM h3; have HS5 := hidM h4; simp only [setAll] at hU; obtain ⟨y0, y1⟩ := cell2 h1; have z0 := frz h1 0; have z1 := frz h1 1; clear k4 k4' h1 h2 h3 h4)
    | (go_at_call 13; refine (HC3.out w2.drew HG2.out).mono ?_; rintro e w3 ⟨g3, gc3, rfl, k3, o0, o1⟩; have HG3 := hidM (HG2.out.trans k3 (fun _ _ h => h)); have HO3 := hidM (And.intro o0 o1); have HS3 := hidM (HSS.out w3 HG3.out); clear k3 o0 o1))
  go_wp2_with fail
  (try simp only [Exit.inBlock, Exit.then])
  refine bodyPost_ret (results_cell30t rfl rfl (by with_reducible exact HU.out) (by kernel_rfl)) rfl ?_
  exact ⟨_, _, rfl, HK.out⟩
end Go.Proofs.YteggcdhibcjneaaGreatDoor.Kit
namespace Go.Proofs.YteggcdhibcjneaaGreatDoor.Kit
variable {nx : Bool}
open Go.RowKit Go.Shelf Go.Deep
open Go.Proofs.YteggcdhibcjneaaGreatDoor.Kd (Ans AnsV cell5 cell2)
set_option linter.unusedVariables false
set_option linter.unusedSimpArgs false
attribute [local go_sem] run_store_func

theorem valuesOf30 (L g ac db dbc qb bc v2 c2 : Nat) (ao : Option Addr) (ca : Nat) (xs : Nat → Int) (W : World) (hB : Bt nx W L g ac db dbc qb bc v2 c2 ao ca) (hx : ∀ k, k < L → W.cell? ⟨v2, k, none⟩ = some (.int .u8 (xs k)) ∧ (xs k = 5 ∨ xs k = 7 ∨ xs k = 8)) :
    Calls Tryz.prog 30 #[.agg #[.slice (some ⟨g, 0, none⟩) 1 ac, .slice none 0 0], .agg #[.int .i64 L, .slice (some ⟨db, 0, none⟩) 1 dbc], .int .i64 0] W fun e w' => ∃ gv, e = .returned (.slice (some ⟨gv, 0, none⟩) L L) ∧ Gr W w' ∧ W.heap.size ≤ gv ∧ w'.heap[gv]? = some (.cells (rowK xs L L) 86) := by
  obtain ⟨A0, hA0⟩ : ∃ A, W.alloc (.cells #[.slice (some ⟨g, 0, none⟩) 1 ac, .slice none 0 0] 30) = A := ⟨_, rfl⟩
  have g0 : Gr W A0 := by rw [← hA0]; exact gr_alloc W _
  have b0 : A0.heap[W.heap.size]? = some (.cells #[.slice (some ⟨g, 0, none⟩) 1 ac, .slice none 0 0] 30) := by rw [← hA0]; exact heap_alloc_new W _
  obtain ⟨A1, hA1⟩ : ∃ A, A0.alloc (.cells #[.int .i64 L, .slice (some ⟨db, 0, none⟩) 1 dbc] 33) = A := ⟨_, rfl⟩
  have g1 : Gr A0 A1 := by rw [← hA1]; exact gr_alloc A0 _
  have b1 : A1.heap[A0.heap.size]? = some (.cells #[.int .i64 L, .slice (some ⟨db, 0, none⟩) 1 dbc] 33) := by rw [← hA1]; exact heap_alloc_new A0 _
  have gW : Gr W A1 := g0.trans g1 (fun _ _ h => h)
  obtain ⟨e0, e1⟩ := cell2 ((g1.block _ (lt_of_heap b0) id).trans b0)
  obtain ⟨f0, f1⟩ := cell2 b1
  have hB1 := hB.gr gW
  obtain ⟨p0, p1, p2, p3, p4, p5, p6⟩ := cell7 hB1.s.f
  obtain ⟨d0, d1, d2, d3, d4, d5⟩ := cell6 hB1.d
  have HSS : Hid (∀ u, Gr A1 u → u.cell? ⟨W.heap.size, 0, none⟩ = some (.slice (some ⟨g, 0, none⟩) 1 ac) ∧ u.cell? ⟨A0.heap.size, 1, none⟩ = some (.slice (some ⟨db, 0, none⟩) 1 dbc) ∧ u.cell? ⟨g, 0, none⟩ = some (.string (nmB nx)) ∧ u.cell? ⟨g, 1, none⟩ = some (.bool false) ∧ u.cell? ⟨g, 2, none⟩ = some (.int .i64 3) ∧ u.cell? ⟨g, 3, none⟩ = some (.int .i64 0) ∧ u.cell? ⟨g, 4, none⟩ = some (.int .i64 0) ∧ u.cell? ⟨g, 5, none⟩ = some (.int .i64 0) ∧ u.cell? ⟨g, 6, none⟩ = some (.slice ao 0 ca) ∧ u.cell? ⟨db, 0, none⟩ = some (.int .i64 L) ∧ u.cell? ⟨db, 1, none⟩ = some (.int .i64 0) ∧ u.cell? ⟨db, 2, none⟩ = some (.int .i64 0) ∧ u.cell? ⟨db, 3, none⟩ = some (.slice (some ⟨qb, 0, none⟩) 2 bc) ∧ u.cell? ⟨db, 4, none⟩ = some (.slice none 0 0) ∧ u.cell? ⟨db, 5, none⟩ = some (.slice none 0 0)) := fun u g => ⟨g.cell' e0 id, g.cell' f1 id, g.cell' p0 id, g.cell' p1 id, g.cell' p2 id, g.cell' p3 id, g.cell' p4 id, g.cell' p5 id, g.cell' p6 id, g.cell' d0 id, g.cell' d1 id, g.cell' d2 id, g.cell' d3 id, g.cell' d4 id, g.cell' d5 id⟩
  have HC1 : Hid (∀ u, Gr A1 u → Calls Tryz.prog 49 #[.agg #[.string (nmB nx), .bool false, .int .i64 3, .int .i64 0, .int .i64 0, .int .i64 0, .slice ao 0 ca], .agg #[.int .i64 L, .int .i64 0, .int .i64 0, .slice (some ⟨qb, 0, none⟩) 2 bc, .slice none 0 0, .slice none 0 0]] u fun e w' => ∃ a, e = .returned (.tuple #[.pointer (some ⟨a, 0, none⟩), .agg #[.int .i64 0, .slice none 0 0, .int .i64 0]]) ∧ OpA nx u w' L v2 c2 a) := fun u k => open49 L qb bc v2 c2 ao ca u (hB1.gr k).n
  have HV : Hid (∀ (w V : World) (a : Nat), Gr A1 w → OpA nx w V L v2 c2 a → Calls Tryz.prog 50 #[.pointer (some ⟨a, 0, none⟩)] V fun e w' => ∃ gv, e = .returned (.slice (some ⟨gv, 0, none⟩) L L) ∧ Gr W w' ∧ W.heap.size ≤ gv ∧ w'.heap[gv]? = some (.cells (rowK xs L L) 86)) := fun w V a k hO => by
    obtain ⟨q, r, rc, fo, fc, ⟨h1, h2, h3⟩, h4, h5⟩ := hO.p
    have kWw : Gr W w := gW.trans k (fun _ _ h => h)
    have kW : Gr W V := kWw.trans hO.g (fun _ _ h => h)
    have hL := hB.n.hL
    have n2 := hB.n.n2
    have hv2 : v2 < V.heap.size := block_lt_of_cell (kW.cell' (hx 0 (by omega)).1 id)
    refine (values19 a V q r rc false fo fc L v2 L c2 xs hL (fun u ku ab hab => ⟨h4.gr ku, hab, (ku.block _ (lt_of_heap h5) id).trans h5, fun j hj => ⟨(kW.trans ku (fun _ _ h => h)).cell' (hx j hj).1 id, (hx j hj).2⟩, by omega, ⟨Nat.le_refl _, by omega, n2⟩⟩) h5 (lt_of_heap h4.nd) (by have := block_lt_of_cell h4.r1; simpa using this) hv2).mono ?_
    rintro e w' ⟨gv, rfl, hg, hge, hgv⟩
    have hsz := kW.size
    exact ⟨gv, rfl, kW.trans hg (fun _ _ h => h), by omega, hgv⟩
  have HB0 : Hid (Gr A1 A1.drew) := gr_drew
  have HSd := hidM (HSS.out A1.drew HB0.out)
  obtain ⟨B, hBe⟩ : ∃ B, A1.drew.alloc (.cells #[.int .i64 0, .slice none 0 0, .int .i64 0] 61) = B := ⟨_, rfl⟩
  have HGB : Hid (Gr A1 B ∧ B.heap[A1.heap.size]? = some (.cells #[.int .i64 0, .slice none 0 0, .int .i64 0] 61)) := by rw [← hBe]; exact ⟨HB0.out.trans (gr_alloc _ _) (fun _ _ h => h), heap_alloc_new _ _⟩
  have HSb := hidM (HSS.out B HGB.out.1)
  clear g0 b0 g1 b1 gW hB hB1 hx p0 p1 p2 p3 p4 p5 p6 d0 d1 d2 d3 d4 d5 e0 e1 f0 f1
  go_enter Tryz.func30, Tryz.ntmps30
  go_wp2_with fail
  clear hA0 hA1
  go_region_held3 (fun u => u.cell? ⟨W.heap.size, 0, none⟩ = some (.slice (some ⟨g, 0, none⟩) 1 ac) ∧ u.cell? ⟨A0.heap.size, 1, none⟩ = some (.slice (some ⟨db, 0, none⟩) 1 dbc) ∧ u.cell? ⟨g, 0, none⟩ = some (.string (nmB nx)) ∧ u.cell? ⟨g, 1, none⟩ = some (.bool false) ∧ u.cell? ⟨g, 2, none⟩ = some (.int .i64 3) ∧ u.cell? ⟨g, 3, none⟩ = some (.int .i64 0) ∧ u.cell? ⟨g, 4, none⟩ = some (.int .i64 0) ∧ u.cell? ⟨g, 5, none⟩ = some (.int .i64 0) ∧ u.cell? ⟨g, 6, none⟩ = some (.slice ao 0 ca) ∧ u.cell? ⟨db, 0, none⟩ = some (.int .i64 L) ∧ u.cell? ⟨db, 1, none⟩ = some (.int .i64 0) ∧ u.cell? ⟨db, 2, none⟩ = some (.int .i64 0) ∧ u.cell? ⟨db, 3, none⟩ = some (.slice (some ⟨qb, 0, none⟩) 2 bc) ∧ u.cell? ⟨db, 4, none⟩ = some (.slice none 0 0) ∧ u.cell? ⟨db, 5, none⟩ = some (.slice none 0 0)) (first | with_reducible exact HSd.out | with_reducible exact HSb.out | with_reducible exact HS2.out | with_reducible exact HS3.out) (first
    | (go_at_call 49; refine (HC1.out B HGB.out.1).mono ?_; rintro e w1 ⟨a, rfl, hO⟩; have k1 := HGB.out.1.trans hO.g (fun _ _ h => h); have HS2 := hidM (HSS.out w1 k1); have hv := (hO.g.block _ (lt_of_heap HGB.out.2) id).trans HGB.out.2; obtain ⟨y0, y1, y2⟩ := cell3V hv; have z0 := frz hv 0; have z1 := frz hv 1; have z2 := frz hv 2; have i0 := set_id (j := 0) (v := .int .i64 0) hv rfl; have i1 := set_id (j := 1) (v := .slice none 0 0) hv rfl; have i2 := set_id (j := 2) (v := .int .i64 0) hv rfl; have HVV := hidM (HV.out B w1 a HGB.out.1 hO); clear hO k1 hv)
    | (go_at_call 49; refine (HC1.out A1.drew HB0.out).mono ?_; rintro e w1 ⟨a, rfl, hO⟩; have HS2 := hidM (HSS.out w1 (HB0.out.trans hO.g (fun _ _ h => h))); obtain ⟨V, hV⟩ : ∃ V, w1.alloc (.cells #[.int .i64 0, .slice none 0 0, .int .i64 0] 61) = V := ⟨_, rfl⟩; have gV : Gr w1 V := (by rw [← hV]; exact gr_alloc w1 _); have hv : V.heap[w1.heap.size]? = some (.cells #[.int .i64 0, .slice none 0 0, .int .i64 0] 61) := (by rw [← hV]; exact heap_alloc_new w1 _); have HS3 := hidM (HSS.out V ((HB0.out.trans hO.g (fun _ _ h => h)).trans gV (fun _ _ h => h))); obtain ⟨y0, y1, y2⟩ := cell3V hv; have z0 := frz hv 0; have z1 := frz hv 1; have z2 := frz hv 2; have i0 := set_id (j := 0) (v := .int .i64 0) hv rfl; have i1 := set_id (j := 1) (v := .slice none 0 0) hv rfl; have i2 := set_id (j := 2) (v := .int .i64 0) hv rfl; have HVV := hidM (HV.out A1.drew V a HB0.out (hO.gr gV)); clear hO gV hv))
  all_goals
    clear y0 y1 y2 z0 z1 z2 i0 i1 i2
    go_wp2_with (go_at_call 50; refine HVV.out.mono ?_; rintro e w5 ⟨gv, rfl, hg5, hge, hgv⟩; have HE := hidM (And.intro hg5 (And.intro hge hgv)); clear hg5 hge hgv)
    go_ret
    exact ⟨gv, rfl, HE.out⟩
end Go.Proofs.YteggcdhibcjneaaGreatDoor.Kit
namespace Go.Proofs.YteggcdhibcjneaaGreatDoor.Kit
open Go.RowKit Go.Shelf Go.Deep
set_option linter.unusedVariables false
/-! ### which values are the same -/
/-- two lists of the same length, whose parts are alike one by one -/
def sameAll {α : Type} (p : α → α → Bool) : List α → List α → Bool
  | [], [] => true
  | f :: a, g :: b => p f g && sameAll p a b
  | [], _ :: _ => false
  | _ :: _, [] => false
theorem sameAll_len {α : Type} {p : α → α → Bool} : ∀ {a b : List α}, a.length ≠ b.length → sameAll p a b = false
  | [], [], h => absurd rfl h
  | [], _ :: _, _ => rfl
  | _ :: _, [], _ => rfl
  | _ :: a, _ :: b, h => by simp [sameAll, sameAll_len (a := a) (b := b) (by simpa using h)]
theorem sameAll_true {α : Type} {p : α → α → Bool} : ∀ {a b : List α}, a.length = b.length → (∀ i (h : i < a.length) (h' : i < b.length), p a[i] b[i] = true) → sameAll p a b = true
  | [], [], _, _ => rfl
  | [], _ :: _, h, _ => by simp at h
  | _ :: _, [], h, _ => by simp at h
  | f :: a, g :: b, h, hp => by
    have h0 : p f g = true := hp 0 (by simp) (by simp)
    have h1 := sameAll_true (p := p) (a := a) (b := b) (by simpa using h) (fun i hi hi' => hp (i + 1) (by simp; omega) (by simp; omega))
    simp [sameAll, h0, h1]
theorem sameAll_false {α : Type} {p : α → α → Bool} : ∀ {a b : List α} (i : Nat) (h : i < a.length) (h' : i < b.length), p a[i] b[i] = false → sameAll p a b = false
  | [], _, _, h, _, _ => by simp at h
  | _ :: _, [], _, _, h, _ => by simp at h
  | f :: a, g :: b, 0, _, _, hp => by
    have : p f g = false := hp
    simp [sameAll, this]
  | f :: a, g :: b, i + 1, h, h', hp => by
    have h1 := sameAll_false (p := p) (a := a) (b := b) i (by simp at h; omega) (by simp at h'; omega) hp
    simp [sameAll, h1]
theorem sameAll_iff {α : Type} {p : α → α → Bool} : ∀ {a b : List α}, (∀ x ∈ a, ∀ y ∈ b, (p x y = true ↔ x = y)) → (sameAll p a b = true ↔ a = b)
  | [], [], _ => by simp [sameAll]
  | [], _ :: _, _ => by simp [sameAll]
  | _ :: _, [], _ => by simp [sameAll]
  | x :: a, y :: b, h => by
    have h0 := h x (by simp) y (by simp)
    have h1 := sameAll_iff (p := p) (a := a) (b := b) fun u hu v hv => h u (by simp [hu]) v (by simp [hv])
    simp only [sameAll, Bool.and_eq_true, List.cons.injEq, h0, h1]
mutual
def sameVL : Nat → List VT → List VT → Bool
  | 0, a, b => sameAll (fun _ _ => true) a b
  | d + 1, a, b => sameAll (sameV d) a b
def sameV : Nat → VT → VT → Bool
  | d, a, b => (a.nul == b.nul) && (a.num == b.num) && sEq a.text b.text && sameVL d a.list b.list
end
theorem sameVL_succ (d : Nat) (a b : List VT) : sameVL (d + 1) a b = sameAll (sameV d) a b := by rw [sameVL]
theorem sameV_eq (d : Nat) (a b : VT) : sameV d a b = ((a.nul == b.nul) && (a.num == b.num) && sEq a.text b.text && sameVL d a.list b.list) := by rw [sameV]
theorem sEq_iff (a b : ByteArray) : sEq a b = true ↔ a = b := by
  unfold sEq
  rw [ByteArray.toList_eq, ByteArray.toList_eq, beq_iff_eq]
  exact ⟨bytes_ext, fun h => by rw [h]⟩
theorem same_iff : ∀ (d : Nat) (a b : VT), vdeep d a.list → vdeep d b.list → (sameV d a b = true ↔ a = b) := by
  intro d
  induction d with
  | zero =>
    intro a b ha hb
    have ha' : a.list = [] := ha
    have hb' : b.list = [] := hb
    rw [sameV_eq, sameVL, ha', hb']
    simp only [Bool.and_eq_true, beq_iff_eq, sEq_iff, sameAll]
    exact ⟨fun ⟨⟨⟨h1, h2⟩, h3⟩, _⟩ => VT.ext' h1 h2 h3 (ha'.trans hb'.symm), fun h => by subst h; simp⟩
  | succ d ih =>
    intro a b ha hb
    have hl : sameAll (sameV d) a.list b.list = true ↔ a.list = b.list := sameAll_iff fun x hx y hy => ih x y (ha x hx) (hb y hy)
    rw [sameV_eq, sameVL_succ]
    simp only [Bool.and_eq_true, beq_iff_eq, sEq_iff, hl]
    exact ⟨fun ⟨⟨⟨h1, h2⟩, h3⟩, h4⟩ => VT.ext' h1 h2 h3 h4, fun h => by subst h; simp⟩
end Go.Proofs.YteggcdhibcjneaaGreatDoor.Kit
namespace Go.Proofs.YteggcdhibcjneaaGreatDoor.Kit
open Go.RowKit Go.Shelf Go.Deep
set_option linter.unusedVariables false
attribute [local go_sem] run_store_func
/-! ### Same 20, slices.EqualFunc 43 -/
/-- a callee that answers that bool in all later worlds -/
def AnsB (F : Nat) (args : Array Value) (b : Bool) (w : World) : Prop := ∀ W, Gr w W → Calls Tryz.prog F args W fun e w' => e = .returned (.bool b) ∧ Gr W w'
theorem AnsB.gr {F : Nat} {args : Array Value} {b : Bool} {w W : World} (h : AnsB F args b w) (g : Gr w W) : AnsB F args b W := fun W' g' => h W' (g.trans g' (fun _ _ h => h))
theorem beqZ {a b : Int} (h : ¬ a = b) : (a == b) = false := by simp [h]
theorem same_walk (a0 b0 : Bool) (a1 b1 : Int) (a2 b2 : ByteArray) (ao bo : Option Addr) (na ca nb cb : Nat) (r : Bool) (w : World) (h43 : AnsB 85 #[.slice ao na ca, .slice bo nb cb, .func (.func 67) #[] #[]] r w) :
    AnsB 67 #[.agg #[.bool a0, .int .i64 a1, .string a2, .slice ao na ca], .agg #[.bool b0, .int .i64 b1, .string b2, .slice bo nb cb]] ((a0 == b0) && (a1 == b1) && sEq a2 b2 && r) w := by
  intro W g
  have H := hidM (h43.gr g)
  clear h43 g
  have HG : Hid (∀ o o', Gr W ((W.alloc o).alloc o')) := fun o o' => (gr_alloc W o).alloc o'
  go_enter Tryz.func67, Tryz.ntmps67
  unfold sEq
  cases e0 : (a0 == b0) with
  | true =>
    obtain rfl : a0 = b0 := by simpa using e0
    clear e0
    by_cases e1 : a1 = b1
    · subst e1
      cases e2 : (a2.toList == b2.toList) with
      | true =>
        go_wp2_with (go_at_call 85; refine Hid.out ?_)
        unfold Hid
        refine Calls.mono (H.out _ (HG.out _ _)) ?_
        rintro e W1 ⟨rfl, hg1⟩
        go_wp2_with fail
        go_ret
        exact ⟨by simp, (HG.out _ _).trans hg1 (fun _ _ h => h)⟩
      | false =>
        go_wp2
        go_ret
        exact ⟨by simp, HG.out _ _⟩
    · have e := beqZ e1
      go_wp2
      go_ret
      exact ⟨by simp [e], HG.out _ _⟩
  | false =>
    go_wp2
    go_ret
    exact ⟨by simp, HG.out _ _⟩
theorem equalFunc_step (S : Nat → Prop) (d : Nat) (W : World) (ao bo : Option Addr) (ca cb : Nat) (a b : List VT) (ha : VRow S W (d + 1) ao a) (hb : VRow S W (d + 1) bo b) (hS : ∀ b, S b → b < W.heap.size)
    (h20 : ∀ (u v : VT), u ∈ a → v ∈ b → ∀ (ao bo : Option Addr) (ca cb : Nat), VRow S W d ao u.list → VRow S W d bo v.list → AnsB 67 #[.agg #[.bool u.nul, .int .i64 u.num, .string u.text, .slice ao u.list.length ca], .agg #[.bool v.nul, .int .i64 v.num, .string v.text, .slice bo v.list.length cb]] (sameV d u v) W) :
    Calls Tryz.prog 85 #[.slice ao a.length ca, .slice bo b.length cb, .func (.func 67) #[] #[]] W fun e w' => e = .returned (.bool (sameVL (d + 1) a b)) ∧ Gr W w' := by
  have hla : a.length ≤ 1000000000000 := ha.len
  have hlb : b.length ≤ 1000000000000 := hb.len
  have HA := hidM ha
  have HB := hidM hb
  have HS := hidM hS
  have H20 := hidM h20
  obtain ⟨R, hR⟩ : ∃ R, R = sameVL (d + 1) a b := ⟨_, rfl⟩
  rw [← hR]
  rw [sameVL_succ] at hR
  have HR := hidM hR
  obtain ⟨L, hL⟩ : ∃ L, L = a.length := ⟨_, rfl⟩
  obtain ⟨M, hM⟩ : ∃ M, M = b.length := ⟨_, rfl⟩
  rw [← hL] at hla ⊢
  rw [← hM] at hlb ⊢
  have HL := hidM hL
  have HM := hidM hM
  clear ha hb hS h20 hR hL hM
  go_enter Tryz.func85, Tryz.ntmps85
  by_cases hLM : L = M
  · subst hLM
    go_wp2
    go_loopw [17] (fun p wr => ∃ k : Nat, k ≤ L ∧ p = .int .i64 (k : Int) ∧ Hid (Gr W wr ∧ ∀ i (h : i < a.length) (h' : i < b.length), i < k → sameV d a[i] b[i] = true)) (fun p _ => L - (intOf p).toNat)
    case atStart => exact ⟨0, by omega, rfl, Keeps.refl _ _, fun i _ _ h => by omega⟩
    case round =>
      obtain ⟨k, hk, rfl, HK⟩ := hrel
      by_cases hlt : k < L
      · have hka : k < a.length := by have := HL.out; omega
        have hkb : k < b.length := by have := HM.out; omega
        obtain ⟨x, o, rfl, hx, hcs⟩ := HA.out.2 (fun e => by subst e; simp at hka)
        obtain ⟨y, u, rfl, hy, hds⟩ := HB.out.2 (fun e => by subst e; simp at hkb)
        obtain ⟨ao', ca', hc, hle, hok, hr⟩ := hcs k hka
        obtain ⟨bo', cb', hd, hle', hok', hr'⟩ := hds k hkb
        have hcall := H20.out a[k] b[k] (List.getElem_mem hka) (List.getElem_mem hkb) ao' bo' ca' cb' hr hr'
        have HP := hidM HK.out.2
        have HG := hidM HK.out.1
        obtain ⟨f, hf⟩ : ∃ f, f = a[k]'hka := ⟨_, rfl⟩
        obtain ⟨g, hg⟩ : ∃ g, g = b[k]'hkb := ⟨_, rfl⟩
        have g1 := hc.kept (HK.out.1.block x (HS.out x hx) id)
        have g2 := hd.kept (HK.out.1.block y (HS.out y hy) id)
        rw [← hf] at g1 hcall
        rw [← hg] at g2 hcall
        have H2 : Hid _ := hidM (fun W' (g : Gr W W') => hcall W' g)
        obtain ⟨p0, p1, p2, p3⟩ := g1
        obtain ⟨q0, q1, q2, q3⟩ := g2
        have q0 := fun o => (gr_alloc wr o).cell' q0 id
        have q1 := fun o => (gr_alloc wr o).cell' q1 id
        have q2 := fun o => (gr_alloc wr o).cell' q2 id
        have q3 := fun o => (gr_alloc wr o).cell' q3 id
        have HF := hidM hf
        have HG' := hidM hg
        have hltI : (k : Int) < (L : Int) := by omega
        clear hcs hds hc hd hr hr' hcall hf hg HK hok hok' hle hle'
        obtain ⟨z, hz⟩ : ∃ z, z = sameV d f g := ⟨_, rfl⟩
        rw [← hz] at H2
        have HZ := hidM hz
        clear hz
        cases z with
        | true =>
          go_wp2_with (go_at_call 67; refine Hid.out ?_)
          unfold Hid
          refine Calls.mono (H2.out _ ((HG.out.alloc _).alloc _)) ?_
          rintro e w2 ⟨rfl, hg2⟩
          have HE := hidM (((HG.out.alloc _).alloc _).trans hg2 (fun _ _ h => h))
          clear hg2
          go_wp2_with fail
          go_roundw
          case rel =>
            refine ⟨k + 1, by omega, by simp, HE.out, fun i hi hi' h => ?_⟩
            by_cases e : i = k
            · subst e; rw [← HF.out, ← HG'.out]; exact HZ.out.symm
            · exact HP.out i hi hi' (by omega)
          case measure => simp [intOf]; omega
        | false =>
          have HRf : Hid (R = false) := by show R = false; rw [HR.out]; exact sameAll_false k hka hkb (by rw [← HF.out, ← HG'.out]; exact HZ.out.symm)
          go_wp2_with (go_at_call 67; refine Hid.out ?_)
          unfold Hid
          refine Calls.mono (H2.out _ ((HG.out.alloc _).alloc _)) ?_
          rintro e w2 ⟨rfl, hg2⟩
          have HE := hidM (((HG.out.alloc _).alloc _).trans hg2 (fun _ _ h => h))
          clear hg2
          go_wp2_with fail
          go_ret
          exact ⟨by rw [HRf.out]; rfl, HE.out⟩
      · have HRt : Hid (R = true) := by
          show R = true
          rw [HR.out]
          refine sameAll_true (by have := HL.out; have := HM.out; omega) fun i hi hi' => HK.out.2 i hi hi' (by have := HL.out; omega)
        have hkL : k = L := by omega
        subst hkL
        have HG := hidM HK.out.1
        clear HK
        go_wp2
        go_ret
        exact ⟨by rw [HRt.out]; rfl, HG.out⟩
  · have HRf : Hid (R = false) := by show R = false; rw [HR.out]; exact sameAll_len (by have := HL.out; have := HM.out; omega)
    have hb := beqZ (a := (L : Int)) (b := (M : Int)) (by omega)
    go_wp2
    go_ret
    exact ⟨by rw [HRf.out]; rfl, Keeps.refl _ _⟩
/-- all depths -/
theorem same_any (S : Nat → Prop) : ∀ (d : Nat) (W : World) (ao bo : Option Addr) (ca cb : Nat) (a b : List VT), VRow S W d ao a → VRow S W d bo b → (∀ b, S b → b < W.heap.size) →
    AnsB 85 #[.slice ao a.length ca, .slice bo b.length cb, .func (.func 67) #[] #[]] (sameVL d a b) W
  | 0, W, ao, bo, ca, cb, a, b, ha, hb, hS => by
    have ha' : a = [] := ha
    have hb' : b = [] := hb
    intro W' g
    have hk : KpOf S W W' := fun b hb => g.block b (hS b hb) id
    have := equalFunc_step S 0 W' ao bo ca cb a b ((ha.kept hk).more (by omega)) ((hb.kept hk).more (by omega)) (fun b hb => Nat.lt_of_lt_of_le (hS b hb) g.size) (fun u v hu => by rw [ha'] at hu; cases hu)
    rw [show sameVL (0 + 1) a b = sameVL 0 a b by rw [sameVL_succ, sameVL, ha', hb']; rfl] at this
    exact this
  | d + 1, W, ao, bo, ca, cb, a, b, ha, hb, hS => by
    intro W' g
    have hk : KpOf S W W' := fun b hb => g.block b (hS b hb) id
    refine equalFunc_step S d W' ao bo ca cb a b (ha.kept hk) (hb.kept hk) (fun b hb => Nat.lt_of_lt_of_le (hS b hb) g.size) fun u v _ _ ao bo ca cb h1 h2 => ?_
    have := same_walk u.nul v.nul u.num v.num u.text v.text ao bo u.list.length ca v.list.length cb _ W' (same_any S d W' ao bo ca cb u.list v.list h1 h2 (fun b hb => Nat.lt_of_lt_of_le (hS b hb) g.size))
    rw [sameV_eq]
    exact this
end Go.Proofs.YteggcdhibcjneaaGreatDoor.Kit
