import Derived.Test.YteggcdhibcjneaaGreatDoorXA
set_option maxRecDepth 100000
set_option maxHeartbeats 4000000
namespace Go.Proofs.YteggcdhibcjneaaGreatDoor.Kit
variable {nx : Bool}
open Go.RowKit Go.Shelf Go.Deep
open Go.Proofs.YteggcdhibcjneaaGreatDoor.Kd (Ans AnsV cell5 cell2)
open Go.Proofs.YteggcdhibcjneaaGreatDoor.Ink (OwnRow)
set_option linter.unusedVariables false
set_option linter.unusedSimpArgs false
attribute [local go_sem] run_store_func

theorem opened44 (r r2 : Addr) (w : World) : CallsD Tryz.prog 87 #[.pointer (some r), .pointer (some r2)] .returning w fun e u' w' => e = .returned (.tuple #[]) ∧ u' = .returning ∧ w' = w := by
  refine callsD_of_wpS Tryz.func87 rfl fun c₀ cs hu => ?_
  apply wpS_seq
  apply wpS_region
  simp [wpOpsS, go_sem, recoverD, hu, Tryz.ntmps87, Exit.thenS]
  have HHU := hidM hu
  clear hu
  have htm : (#[Value.pointer (some r), Value.pointer (some r2)] ++ (Array.replicate 10 undef).setIfInBounds 3 Value.nilIface : Array Value) = #[Value.pointer (some r), .pointer (some r2), undef, undef, undef, .nilIface, undef, undef, undef, undef, undef, undef] := by kernel_rfl
  rw [htm]
  clear htm
  refine wpS_of_wp ?_
  refine wp_hid ?_
  go_wp2_with fail
  unfold Hid
  have hu := HHU.out
  cases c₀
  simp_all [bodyPostS, results, Tryz.results87]
/-- what is handed in: the array that lies at qb, v1, v2 -/
structure DatC_c (W : World) (qb v2 c2 : Nat) : Prop where
  b0 : ∃ bo0 bc0, W.cell? ⟨qb, 0, none⟩ = some (.slice bo0 0 bc0)
  b1 : W.cell? ⟨qb, 1, none⟩ = some (.slice (some ⟨v2, 0, none⟩) 2 c2)
  n2 : 2 ≤ c2
  T : Tab W
/-- what is handed in: the array that lies at qb, v1, v2 -/
structure DatC_d (W : World) (qb v2 c2 : Nat) : Prop where
  b0 : ∃ bo0 bc0, W.cell? ⟨qb, 0, none⟩ = some (.slice bo0 0 bc0)
  b1 : W.cell? ⟨qb, 1, none⟩ = some (.slice (some ⟨v2, 0, none⟩) 3 c2)
  n2 : 3 ≤ c2
  T : Tab W
theorem DatC_c.gr {W u : World} {qb v2 c2 : Nat} (h : DatC_c W qb v2 c2) (g : Gr W u) : DatC_c u qb v2 c2 := ⟨h.b0.imp fun _ e => e.imp fun _ e => g.cell' e id, g.cell' h.b1 id, h.n2, h.T.gr g⟩
theorem DatC_d.gr {W u : World} {qb v2 c2 : Nat} (h : DatC_d W qb v2 c2) (g : Gr W u) : DatC_d u qb v2 c2 := ⟨h.b0.imp fun _ e => e.imp fun _ e => g.cell' e id, g.cell' h.b1 id, h.n2, h.T.gr g⟩
theorem opened34_c (qb bc v2 c2 : Nat) (ao : Option Addr) (ca : Nat) (W : World) (hD : DatC_c W qb v2 c2) :
    Calls Tryz.prog 68 #[.agg #[.string (nmB nx), .bool false, .int .i64 3, .int .i64 0, .int .i64 0, .int .i64 0, .slice ao 0 ca], .agg (dCo 2 0 (.slice (some ⟨qb, 0, none⟩) 2 bc))] W fun e w' => ∃ q r rc fo fc, e = .returned (.tuple #[.pointer (some ⟨q, 0, none⟩), .agg #[.int .i64 0, .slice none 0 0, .int .i64 0]]) ∧ Gr W w' ∧ W.heap.size ≤ q ∧ W.heap.size ≤ r ∧ NdA nx w' q r rc false fo fc 2 0 v2 2 c2 := by
  have hmf : ∀ (fn : Fn) (first cap : Array Value) (w : World), (Instr.makeFunc fn first cap).run Tryz.prog w = .ok (.func fn first cap) w := fun _ _ _ _ => rfl
  obtain ⟨A0, hA0⟩ : ∃ A0, W.alloc (.cells #[.string (nmB nx), .bool false, .int .i64 3, .int .i64 0, .int .i64 0, .int .i64 0, .slice ao 0 ca] 47) = A0 := ⟨_, rfl⟩
  have g0 : Gr W A0 := by rw [← hA0]; exact gr_alloc W _
  have b0 : A0.heap[W.heap.size]? = some (.cells #[.string (nmB nx), .bool false, .int .i64 3, .int .i64 0, .int .i64 0, .int .i64 0, .slice ao 0 ca] 47) := by rw [← hA0]; exact heap_alloc_new W _
  obtain ⟨A1, hA1⟩ : ∃ A1, A0.alloc (.cells (dCo 2 0 (.slice (some ⟨qb, 0, none⟩) 2 bc)) 50) = A1 := ⟨_, rfl⟩
  have g1 : Gr A0 A1 := by rw [← hA1]; exact gr_alloc A0 _
  have b1 : A1.heap[A0.heap.size]? = some (.cells (dCo 2 0 (.slice (some ⟨qb, 0, none⟩) 2 bc)) 50) := by rw [← hA1]; exact heap_alloc_new A0 _
  obtain ⟨A2, hA2⟩ : ∃ A2, A1.alloc (.cells #[.pointer none] 135) = A2 := ⟨_, rfl⟩
  have g2 : Gr A1 A2 := by rw [← hA2]; exact gr_alloc A1 _
  have b2 : A2.heap[A1.heap.size]? = some (.cells #[.pointer none] 135) := by rw [← hA2]; exact heap_alloc_new A1 _
  obtain ⟨A3, hA3⟩ : ∃ A3, A2.alloc (.cells #[.int .i64 0, .slice none 0 0, .int .i64 0] 61) = A3 := ⟨_, rfl⟩
  have g3 : Gr A2 A3 := by rw [← hA3]; exact gr_alloc A2 _
  have b3 : A3.heap[A2.heap.size]? = some (.cells #[.int .i64 0, .slice none 0 0, .int .i64 0] 61) := by rw [← hA3]; exact heap_alloc_new A2 _
  have g23 := g2.trans g3 (fun _ _ h => h)
  have g13 := g1.trans g23 (fun _ _ h => h)
  have gW : Gr W A3 := g0.trans g13 (fun _ _ h => h)
  have e0 := (g13.block _ (lt_of_heap b0) id).trans b0
  have e1 := (g23.block _ (lt_of_heap b1) id).trans b1
  have e2 := (g3.block _ (lt_of_heap b2) id).trans b2
  have hS : ∀ u, Keeps A3 u (fun z => z = A1.heap.size) → u.cell? ⟨W.heap.size, 0, none⟩ = some (.string (nmB nx)) ∧ u.cell? ⟨W.heap.size, 1, none⟩ = some (.bool false) ∧ u.cell? ⟨W.heap.size, 2, none⟩ = some (.int .i64 3) ∧ u.cell? ⟨W.heap.size, 3, none⟩ = some (.int .i64 0) ∧ u.cell? ⟨W.heap.size, 4, none⟩ = some (.int .i64 0) ∧ u.cell? ⟨W.heap.size, 5, none⟩ = some (.int .i64 0) ∧ u.cell? ⟨W.heap.size, 6, none⟩ = some (.slice ao 0 ca) ∧ u.cell? ⟨A0.heap.size, 0, none⟩ = some (.int .i64 2) ∧ u.cell? ⟨A0.heap.size, 1, none⟩ = some (.int .i64 0) ∧ u.cell? ⟨A0.heap.size, 2, none⟩ = some (.int .i64 0) ∧ u.cell? ⟨A0.heap.size, 3, none⟩ = some (.slice (some ⟨qb, 0, none⟩) 2 bc) ∧ u.cell? ⟨A0.heap.size, 4, none⟩ = some (.slice none 0 0) ∧ u.cell? ⟨A0.heap.size, 5, none⟩ = some (.slice none 0 0) := fun u g => by
    have z1 := g1.size
    have z0 := lt_of_heap b0
    have z2 := lt_of_heap b1
    obtain ⟨a0, a1, a2, a3, a4, a5, a6⟩ := cell7 ((g.block _ (lt_of_heap e0) (fun e => by have e' : W.heap.size = A1.heap.size := e; omega)).trans e0)
    obtain ⟨d0, d1, d2, d3, d4, d5⟩ := cell6 ((g.block _ (lt_of_heap e1) (fun e => by have e' : A0.heap.size = A1.heap.size := e; omega)).trans e1)
    exact ⟨a0, a1, a2, a3, a4, a5, a6, d0, d1, d2, d3, d4, d5⟩
  obtain ⟨tt, hck⟩ := leaf_tells (w := A3) (ao := ao) (ca := ca) (hD.gr gW).T (allR (nx := nx) false)
  have HCK := hidM hck
  have HSS := hidM hS
  have HD := hidM (hD.gr gW)
  have HD0 := hidM hD
  have HGW := hidM gW
  have HB2 := hidM e2
  have HB3 := hidM b3
  have HZ : Hid (W.heap.size ≤ A1.heap.size ∧ A1.heap.size < A3.heap.size ∧ W.heap.size ≤ A2.heap.size ∧ A1.heap.size < A2.heap.size) := ⟨Nat.le_trans g0.size g1.size, lt_of_heap e2, Nat.le_trans (Nat.le_trans g0.size g1.size) g2.size, lt_of_heap b2⟩
  obtain ⟨a0, a1, a2, a3, a4, a5, a6, d0, d1, d2, d3, d4, d5⟩ := hS A3 (Keeps.refl _ _)
  clear g0 b0 g1 b1 g2 b2 g3 b3 g23 g13 gW e0 e1 e2 hS hck hD
  unfold dCo at hA1 ⊢
  go_enter_defers Tryz.func68, Tryz.ntmps68
  go_wp2_with (go_at_call 86; refine Hid.out ?_)
  unfold Hid
  refine Calls.mono (HCK.out _ (Keeps.refl _ _)) ?_
  rintro e w1 ⟨vo, vc, rfl, g1, -⟩
  have hfd : ∀ W : World, (Instr.field 61 (.agg #[.int .i64 0, .slice vo 0 vc, .int .i64 tt]) 0).run Tryz.prog W = .ok (.int .i64 0) W := fun W => by kernel_rfl
  have HG1 := hidM g1
  clear a0 a1 a2 a3 a4 a5 a6 d0 d1 d2 d3 d4 d5 g1 hA0 hA1 hA2 hA3
  go_wp2_with fail
  have HK1 : Hid (Keeps A3 w1.drew (fun z => z = A1.heap.size)) := HG1.out.drew.mono fun _ _ h => h.elim
  have HS1 := hidM (HSS.out w1.drew HK1.out)
  have H46 := hidM (copied46 (nx := nx) false ao ca w1.drew ((HD.out.gr HG1.out.drew).T))
  have H45 : Hid (∀ u fo fc, Gr A3 u → Calls Tryz.prog 88 #[.agg #[.string (nmB nx), .bool false, .int .i64 3, .int .i64 0, .int .i64 0, .int .i64 0, .slice fo 0 fc], .agg #[.int .i64 2, .int .i64 0, .int .i64 0, .slice (some ⟨qb, 0, none⟩) 2 bc, .slice none 0 0, .slice none 0 0]] u fun e w' => ∃ q, e = .returned (.pointer (some ⟨q, 0, none⟩)) ∧ Gr u w' ∧ u.heap.size ≤ q ∧ w'.heap[q]? = some (.cells (ndC nx false fo fc 2 0 (.slice none 0 0)) 143)) := fun u fo fc g => bare45 false fo fc 2 0 (.slice (some ⟨qb, 0, none⟩) 2 bc) u (HD.out.gr g).T
  go_region_held3 (fun u => u.cell? ⟨W.heap.size, 0, none⟩ = some (.string (nmB nx)) ∧ u.cell? ⟨W.heap.size, 1, none⟩ = some (.bool false) ∧ u.cell? ⟨W.heap.size, 2, none⟩ = some (.int .i64 3) ∧ u.cell? ⟨W.heap.size, 3, none⟩ = some (.int .i64 0) ∧ u.cell? ⟨W.heap.size, 4, none⟩ = some (.int .i64 0) ∧ u.cell? ⟨W.heap.size, 5, none⟩ = some (.int .i64 0) ∧ u.cell? ⟨W.heap.size, 6, none⟩ = some (.slice ao 0 ca) ∧ u.cell? ⟨A0.heap.size, 0, none⟩ = some (.int .i64 2) ∧ u.cell? ⟨A0.heap.size, 1, none⟩ = some (.int .i64 0) ∧ u.cell? ⟨A0.heap.size, 2, none⟩ = some (.int .i64 0) ∧ u.cell? ⟨A0.heap.size, 3, none⟩ = some (.slice (some ⟨qb, 0, none⟩) 2 bc) ∧ u.cell? ⟨A0.heap.size, 4, none⟩ = some (.slice none 0 0) ∧ u.cell? ⟨A0.heap.size, 5, none⟩ = some (.slice none 0 0)) (first | with_reducible exact HS1.out | with_reducible exact HS2.out | with_reducible exact HS3.out | with_reducible exact HSU.out) (first
    | (go_at_call 89; refine H46.out.mono ?_; rintro e w2 ⟨fo, fc, rfl, g2⟩; have HG2 : Hid (Gr A3 w2) := HG1.out.drew.trans g2 (fun _ _ h => h); have HS2 := hidM (HSS.out w2 (HG2.out.mono fun _ _ h => h.elim)); clear g2)
    | (go_at_call 88; refine (H45.out w2 fo fc HG2.out).mono ?_; rintro e w3 ⟨q, rfl, g3, hq3, hn3⟩; have HG3 := hidM (HG2.out.trans g3 (fun _ _ h => h)); have HQ := hidM (And.intro hq3 hn3); have HS3 := hidM (HSS.out w3 (HG3.out.mono fun _ _ h => h.elim)); obtain ⟨U, hU⟩ : ∃ U, w3.setCell ⟨A1.heap.size, 0, none⟩ (.pointer (some ⟨q, 0, none⟩)) = U := ⟨_, rfl⟩; have hb3 := (HG3.out.block _ (lt_of_heap HB2.out) id).trans HB2.out; have hbu : U.heap[A1.heap.size]? = some (.cells #[.pointer (some ⟨q, 0, none⟩)] 135) := (by rw [← hU, heap_setCell_same w3 A1.heap.size 0 _ _ _ hb3]; rfl); have hku : Keeps A3 U (fun z => z = A1.heap.size) := (by rw [← hU]; exact Keeps.setCell (S := fun z => z = A1.heap.size) (p := ⟨A1.heap.size, 0, none⟩) (HG3.out.mono fun _ _ h => h.elim) (fun _ => rfl) _); have hne : q ≠ A1.heap.size := (by have h1 := HG2.out.size; have h2 := HZ.out; omega); have hnu : U.heap[q]? = some (.cells (ndC nx false fo fc 2 0 (.slice none 0 0)) 143) := (by rw [← hU, heap_setCell_other _ _ _ _ hne]; exact hn3); have HSU := hidM (HSS.out U hku); have HBU := hidM hbu; have HKU := hidM hku; have HNU := hidM hnu; have c3 := cell1 hb3; have f3 := frz hb3 0; clear g3 hq3 hn3 hb3 hbu hku hnu hne))
  obtain ⟨A5, hA5⟩ : ∃ A5, U.alloc (.cells #[.pointer none, .int .i64 0, .slice none 0 0] 174) = A5 := ⟨_, rfl⟩
  have g5 : Gr U A5 := by rw [← hA5]; exact gr_alloc U _
  have hc5 : A5.heap[U.heap.size]? = some (.cells #[.pointer none, .int .i64 0, .slice none 0 0] 174) := by rw [← hA5]; exact heap_alloc_new U _
  have hk5 : Keeps A3 A5 (fun z => z = A1.heap.size) := HKU.out.trans (g5.mono fun _ _ h => h.elim) (fun _ _ h => h)
  have hz := HZ.out
  have hq2 := HQ.out.1
  have hz2 := HG2.out.size
  have hzW := HGW.out.size
  have gW5 : Gr W A5 := HGW.out.trans hk5 (fun j hj e => by have e' : j = A1.heap.size := e; omega)
  have hlow : ∀ u, Keeps A5 u (fun z => z = q) → Gr W u := fun u k => gW5.trans k (fun j hj e => by have e' : j = q := e; omega)
  have hDW := HD0.out
  have lq := block_lt_of_cell hDW.b1
  simp only at lq
  have hD5 := hDW.gr gW5
  obtain ⟨bo0, bc0, hb05⟩ := hD5.b0
  have H47 : Hid (Calls Tryz.prog 90 #[.pointer (some ⟨U.heap.size, 0, none⟩), .pointer (some ⟨q, 0, none⟩), .agg #[.int .i64 2, .int .i64 0, .int .i64 0, .slice (some ⟨qb, 0, none⟩) 2 bc, .slice none 0 0, .slice none 0 0]] A5 fun e w' => ∃ v r rc, e = .returned v ∧ Keeps A5 w' (fun z => z = q) ∧ A5.heap.size ≤ r ∧ NdA nx w' q r rc false fo fc 2 0 v2 2 c2) := node47_c U.heap.size qb bc A5 q fo fc v2 c2 ((g5.block q (lt_of_heap HNU.out) id).trans HNU.out) hc5 hb05 hD5.b1 (by omega) (fun u k => (hDW.gr (hlow u k)).T)
  have hb5 := (g5.block _ (lt_of_heap HBU.out) id).trans HBU.out
  have n5 := cell1 hb5
  obtain ⟨-, -, -, -, -, -, -, d0, d1, d2, d3, d4, d5⟩ := HSS.out A5 hk5
  have HF : Hid (∀ w6, Keeps A5 w6 (fun z => z = q) → w6.heap[A1.heap.size]? = some (.cells #[.pointer (some ⟨q, 0, none⟩)] 135) ∧ w6.heap[A2.heap.size]? = some (.cells #[.int .i64 0, .slice none 0 0, .int .i64 0] 61) ∧ Gr W w6) := fun w6 k => by
    refine ⟨(k.block _ (lt_of_heap hb5) (fun e => by have e' : A1.heap.size = q := e; omega)).trans hb5, ?_, hlow w6 k⟩
    have h3 := (hk5.block _ (lt_of_heap HB3.out) (fun e => by have e' : A2.heap.size = A1.heap.size := e; omega)).trans HB3.out
    exact (k.block _ (lt_of_heap h3) (fun e => by have e' : A2.heap.size = q := e; have := lt_of_heap HB3.out; omega)).trans h3
  have HL : Hid (W.heap.size ≤ q ∧ W.heap.size ≤ A5.heap.size) := ⟨by omega, gW5.size⟩
  clear g5 hc5 hk5 hz hq2 hz2 hzW gW5 hlow hDW lq hD5 hb5 hb05 hU c3 f3 hfd
  go_wp2_with (go_at_call 90; refine H47.out.mono ?_; rintro e w6 ⟨v, r, rc, rfl, k6, hr6, hn6⟩; obtain ⟨p1, p2, p3⟩ := HF.out w6 k6; have HE := hidM (And.intro p3 (And.intro hr6 hn6)); have n6 := cell1 p1; have f6 := frz p1 0; have i6 := set_id (j := 0) (v := .pointer (some ⟨q, 0, none⟩)) p1 rfl; obtain ⟨y0, y1, y2⟩ := cell3V p2; have z0 := frz p2 0; have z1 := frz p2 1; have z2 := frz p2 2; have j0 := set_id (j := 0) (v := .int .i64 0) p2 rfl; have j1 := set_id (j := 1) (v := .slice none 0 0) p2 rfl; have j2 := set_id (j := 2) (v := .int .i64 0) p2 rfl; clear p1 p2 p3 k6 hr6 hn6 n5 d0 d1 d2 d3 d4 d5 hA5)
  refine leaves_cons (f := 87) (args := #[.pointer (some ⟨A1.heap.size, 0, none⟩), .pointer (some ⟨A2.heap.size, 0, none⟩)]) (by simp) (by simp [go_sem]) ?_
  refine (opened44 ⟨A1.heap.size, 0, none⟩ ⟨A2.heap.size, 0, none⟩ w6).mono ?_
  rintro e u' w' ⟨rfl, rfl, rfl⟩
  refine ⟨.tuple #[.pointer (some ⟨q, 0, none⟩), .agg #[.int .i64 0, .slice none 0 0, .int .i64 0]], ?_, q, r, rc, fo, fc, rfl, HE.out.1, HL.out.1, Nat.le_trans HL.out.2 HE.out.2.1, HE.out.2.2⟩
  simp [results, Tryz.f68, go_sem, n6, y0, y1, y2]
theorem opened34_d (qb bc v2 c2 : Nat) (ao : Option Addr) (ca : Nat) (W : World) (hD : DatC_d W qb v2 c2) :
    Calls Tryz.prog 68 #[.agg #[.string (nmB nx), .bool false, .int .i64 3, .int .i64 0, .int .i64 0, .int .i64 0, .slice ao 0 ca], .agg (dCo 3 0 (.slice (some ⟨qb, 0, none⟩) 2 bc))] W fun e w' => ∃ q r rc fo fc, e = .returned (.tuple #[.pointer (some ⟨q, 0, none⟩), .agg #[.int .i64 0, .slice none 0 0, .int .i64 0]]) ∧ Gr W w' ∧ W.heap.size ≤ q ∧ W.heap.size ≤ r ∧ NdA nx w' q r rc false fo fc 3 0 v2 3 c2 := by
  have hmf : ∀ (fn : Fn) (first cap : Array Value) (w : World), (Instr.makeFunc fn first cap).run Tryz.prog w = .ok (.func fn first cap) w := fun _ _ _ _ => rfl
  obtain ⟨A0, hA0⟩ : ∃ A0, W.alloc (.cells #[.string (nmB nx), .bool false, .int .i64 3, .int .i64 0, .int .i64 0, .int .i64 0, .slice ao 0 ca] 47) = A0 := ⟨_, rfl⟩
  have g0 : Gr W A0 := by rw [← hA0]; exact gr_alloc W _
  have b0 : A0.heap[W.heap.size]? = some (.cells #[.string (nmB nx), .bool false, .int .i64 3, .int .i64 0, .int .i64 0, .int .i64 0, .slice ao 0 ca] 47) := by rw [← hA0]; exact heap_alloc_new W _
  obtain ⟨A1, hA1⟩ : ∃ A1, A0.alloc (.cells (dCo 3 0 (.slice (some ⟨qb, 0, none⟩) 2 bc)) 50) = A1 := ⟨_, rfl⟩
  have g1 : Gr A0 A1 := by rw [← hA1]; exact gr_alloc A0 _
  have b1 : A1.heap[A0.heap.size]? = some (.cells (dCo 3 0 (.slice (some ⟨qb, 0, none⟩) 2 bc)) 50) := by rw [← hA1]; exact heap_alloc_new A0 _
  obtain ⟨A2, hA2⟩ : ∃ A2, A1.alloc (.cells #[.pointer none] 135) = A2 := ⟨_, rfl⟩
  have g2 : Gr A1 A2 := by rw [← hA2]; exact gr_alloc A1 _
  have b2 : A2.heap[A1.heap.size]? = some (.cells #[.pointer none] 135) := by rw [← hA2]; exact heap_alloc_new A1 _
  obtain ⟨A3, hA3⟩ : ∃ A3, A2.alloc (.cells #[.int .i64 0, .slice none 0 0, .int .i64 0] 61) = A3 := ⟨_, rfl⟩
  have g3 : Gr A2 A3 := by rw [← hA3]; exact gr_alloc A2 _
  have b3 : A3.heap[A2.heap.size]? = some (.cells #[.int .i64 0, .slice none 0 0, .int .i64 0] 61) := by rw [← hA3]; exact heap_alloc_new A2 _
  have g23 := g2.trans g3 (fun _ _ h => h)
  have g13 := g1.trans g23 (fun _ _ h => h)
  have gW : Gr W A3 := g0.trans g13 (fun _ _ h => h)
  have e0 := (g13.block _ (lt_of_heap b0) id).trans b0
  have e1 := (g23.block _ (lt_of_heap b1) id).trans b1
  have e2 := (g3.block _ (lt_of_heap b2) id).trans b2
  have hS : ∀ u, Keeps A3 u (fun z => z = A1.heap.size) → u.cell? ⟨W.heap.size, 0, none⟩ = some (.string (nmB nx)) ∧ u.cell? ⟨W.heap.size, 1, none⟩ = some (.bool false) ∧ u.cell? ⟨W.heap.size, 2, none⟩ = some (.int .i64 3) ∧ u.cell? ⟨W.heap.size, 3, none⟩ = some (.int .i64 0) ∧ u.cell? ⟨W.heap.size, 4, none⟩ = some (.int .i64 0) ∧ u.cell? ⟨W.heap.size, 5, none⟩ = some (.int .i64 0) ∧ u.cell? ⟨W.heap.size, 6, none⟩ = some (.slice ao 0 ca) ∧ u.cell? ⟨A0.heap.size, 0, none⟩ = some (.int .i64 3) ∧ u.cell? ⟨A0.heap.size, 1, none⟩ = some (.int .i64 0) ∧ u.cell? ⟨A0.heap.size, 2, none⟩ = some (.int .i64 0) ∧ u.cell? ⟨A0.heap.size, 3, none⟩ = some (.slice (some ⟨qb, 0, none⟩) 2 bc) ∧ u.cell? ⟨A0.heap.size, 4, none⟩ = some (.slice none 0 0) ∧ u.cell? ⟨A0.heap.size, 5, none⟩ = some (.slice none 0 0) := fun u g => by
    have z1 := g1.size
    have z0 := lt_of_heap b0
    have z2 := lt_of_heap b1
    obtain ⟨a0, a1, a2, a3, a4, a5, a6⟩ := cell7 ((g.block _ (lt_of_heap e0) (fun e => by have e' : W.heap.size = A1.heap.size := e; omega)).trans e0)
    obtain ⟨d0, d1, d2, d3, d4, d5⟩ := cell6 ((g.block _ (lt_of_heap e1) (fun e => by have e' : A0.heap.size = A1.heap.size := e; omega)).trans e1)
    exact ⟨a0, a1, a2, a3, a4, a5, a6, d0, d1, d2, d3, d4, d5⟩
  obtain ⟨tt, hck⟩ := leaf_tells (w := A3) (ao := ao) (ca := ca) (hD.gr gW).T (allR (nx := nx) false)
  have HCK := hidM hck
  have HSS := hidM hS
  have HD := hidM (hD.gr gW)
  have HD0 := hidM hD
  have HGW := hidM gW
  have HB2 := hidM e2
  have HB3 := hidM b3
  have HZ : Hid (W.heap.size ≤ A1.heap.size ∧ A1.heap.size < A3.heap.size ∧ W.heap.size ≤ A2.heap.size ∧ A1.heap.size < A2.heap.size) := ⟨Nat.le_trans g0.size g1.size, lt_of_heap e2, Nat.le_trans (Nat.le_trans g0.size g1.size) g2.size, lt_of_heap b2⟩
  obtain ⟨a0, a1, a2, a3, a4, a5, a6, d0, d1, d2, d3, d4, d5⟩ := hS A3 (Keeps.refl _ _)
  clear g0 b0 g1 b1 g2 b2 g3 b3 g23 g13 gW e0 e1 e2 hS hck hD
  unfold dCo at hA1 ⊢
  go_enter_defers Tryz.func68, Tryz.ntmps68
  go_wp2_with (go_at_call 86; refine Hid.out ?_)
  unfold Hid
  refine Calls.mono (HCK.out _ (Keeps.refl _ _)) ?_
  rintro e w1 ⟨vo, vc, rfl, g1, -⟩
  have hfd : ∀ W : World, (Instr.field 61 (.agg #[.int .i64 0, .slice vo 0 vc, .int .i64 tt]) 0).run Tryz.prog W = .ok (.int .i64 0) W := fun W => by kernel_rfl
  have HG1 := hidM g1
  clear a0 a1 a2 a3 a4 a5 a6 d0 d1 d2 d3 d4 d5 g1 hA0 hA1 hA2 hA3
  go_wp2_with fail
  have HK1 : Hid (Keeps A3 w1.drew (fun z => z = A1.heap.size)) := HG1.out.drew.mono fun _ _ h => h.elim
  have HS1 := hidM (HSS.out w1.drew HK1.out)
  have H46 := hidM (copied46 (nx := nx) false ao ca w1.drew ((HD.out.gr HG1.out.drew).T))
  have H45 : Hid (∀ u fo fc, Gr A3 u → Calls Tryz.prog 88 #[.agg #[.string (nmB nx), .bool false, .int .i64 3, .int .i64 0, .int .i64 0, .int .i64 0, .slice fo 0 fc], .agg #[.int .i64 3, .int .i64 0, .int .i64 0, .slice (some ⟨qb, 0, none⟩) 2 bc, .slice none 0 0, .slice none 0 0]] u fun e w' => ∃ q, e = .returned (.pointer (some ⟨q, 0, none⟩)) ∧ Gr u w' ∧ u.heap.size ≤ q ∧ w'.heap[q]? = some (.cells (ndC nx false fo fc 3 0 (.slice none 0 0)) 143)) := fun u fo fc g => bare45 false fo fc 3 0 (.slice (some ⟨qb, 0, none⟩) 2 bc) u (HD.out.gr g).T
  go_region_held3 (fun u => u.cell? ⟨W.heap.size, 0, none⟩ = some (.string (nmB nx)) ∧ u.cell? ⟨W.heap.size, 1, none⟩ = some (.bool false) ∧ u.cell? ⟨W.heap.size, 2, none⟩ = some (.int .i64 3) ∧ u.cell? ⟨W.heap.size, 3, none⟩ = some (.int .i64 0) ∧ u.cell? ⟨W.heap.size, 4, none⟩ = some (.int .i64 0) ∧ u.cell? ⟨W.heap.size, 5, none⟩ = some (.int .i64 0) ∧ u.cell? ⟨W.heap.size, 6, none⟩ = some (.slice ao 0 ca) ∧ u.cell? ⟨A0.heap.size, 0, none⟩ = some (.int .i64 3) ∧ u.cell? ⟨A0.heap.size, 1, none⟩ = some (.int .i64 0) ∧ u.cell? ⟨A0.heap.size, 2, none⟩ = some (.int .i64 0) ∧ u.cell? ⟨A0.heap.size, 3, none⟩ = some (.slice (some ⟨qb, 0, none⟩) 2 bc) ∧ u.cell? ⟨A0.heap.size, 4, none⟩ = some (.slice none 0 0) ∧ u.cell? ⟨A0.heap.size, 5, none⟩ = some (.slice none 0 0)) (first | with_reducible exact HS1.out | with_reducible exact HS2.out | with_reducible exact HS3.out | with_reducible exact HSU.out) (first
    | (go_at_call 89; refine H46.out.mono ?_; rintro e w2 ⟨fo, fc, rfl, g2⟩; have HG2 : Hid (Gr A3 w2) := HG1.out.drew.trans g2 (fun _ _ h => h); have HS2 := hidM (HSS.out w2 (HG2.out.mono fun _ _ h => h.elim)); clear g2)
    | (go_at_call 88; refine (H45.out w2 fo fc HG2.out).mono ?_; rintro e w3 ⟨q, rfl, g3, hq3, hn3⟩; have HG3 := hidM (HG2.out.trans g3 (fun _ _ h => h)); have HQ := hidM (And.intro hq3 hn3); have HS3 := hidM (HSS.out w3 (HG3.out.mono fun _ _ h => h.elim)); obtain ⟨U, hU⟩ : ∃ U, w3.setCell ⟨A1.heap.size, 0, none⟩ (.pointer (some ⟨q, 0, none⟩)) = U := ⟨_, rfl⟩; have hb3 := (HG3.out.block _ (lt_of_heap HB2.out) id).trans HB2.out; have hbu : U.heap[A1.heap.size]? = some (.cells #[.pointer (some ⟨q, 0, none⟩)] 135) := (by rw [← hU, heap_setCell_same w3 A1.heap.size 0 _ _ _ hb3]; rfl); have hku : Keeps A3 U (fun z => z = A1.heap.size) := (by rw [← hU]; exact Keeps.setCell (S := fun z => z = A1.heap.size) (p := ⟨A1.heap.size, 0, none⟩) (HG3.out.mono fun _ _ h => h.elim) (fun _ => rfl) _); have hne : q ≠ A1.heap.size := (by have h1 := HG2.out.size; have h2 := HZ.out; omega); have hnu : U.heap[q]? = some (.cells (ndC nx false fo fc 3 0 (.slice none 0 0)) 143) := (by rw [← hU, heap_setCell_other _ _ _ _ hne]; exact hn3); have HSU := hidM (HSS.out U hku); have HBU := hidM hbu; have HKU := hidM hku; have HNU := hidM hnu; have c3 := cell1 hb3; have f3 := frz hb3 0; clear g3 hq3 hn3 hb3 hbu hku hnu hne))
  obtain ⟨A5, hA5⟩ : ∃ A5, U.alloc (.cells #[.pointer none, .int .i64 0, .slice none 0 0] 174) = A5 := ⟨_, rfl⟩
  have g5 : Gr U A5 := by rw [← hA5]; exact gr_alloc U _
  have hc5 : A5.heap[U.heap.size]? = some (.cells #[.pointer none, .int .i64 0, .slice none 0 0] 174) := by rw [← hA5]; exact heap_alloc_new U _
  have hk5 : Keeps A3 A5 (fun z => z = A1.heap.size) := HKU.out.trans (g5.mono fun _ _ h => h.elim) (fun _ _ h => h)
  have hz := HZ.out
  have hq2 := HQ.out.1
  have hz2 := HG2.out.size
  have hzW := HGW.out.size
  have gW5 : Gr W A5 := HGW.out.trans hk5 (fun j hj e => by have e' : j = A1.heap.size := e; omega)
  have hlow : ∀ u, Keeps A5 u (fun z => z = q) → Gr W u := fun u k => gW5.trans k (fun j hj e => by have e' : j = q := e; omega)
  have hDW := HD0.out
  have lq := block_lt_of_cell hDW.b1
  simp only at lq
  have hD5 := hDW.gr gW5
  obtain ⟨bo0, bc0, hb05⟩ := hD5.b0
  have H47 : Hid (Calls Tryz.prog 90 #[.pointer (some ⟨U.heap.size, 0, none⟩), .pointer (some ⟨q, 0, none⟩), .agg #[.int .i64 3, .int .i64 0, .int .i64 0, .slice (some ⟨qb, 0, none⟩) 2 bc, .slice none 0 0, .slice none 0 0]] A5 fun e w' => ∃ v r rc, e = .returned v ∧ Keeps A5 w' (fun z => z = q) ∧ A5.heap.size ≤ r ∧ NdA nx w' q r rc false fo fc 3 0 v2 3 c2) := node47_d U.heap.size qb bc A5 q fo fc v2 c2 ((g5.block q (lt_of_heap HNU.out) id).trans HNU.out) hc5 hb05 hD5.b1 (by omega) (fun u k => (hDW.gr (hlow u k)).T)
  have hb5 := (g5.block _ (lt_of_heap HBU.out) id).trans HBU.out
  have n5 := cell1 hb5
  obtain ⟨-, -, -, -, -, -, -, d0, d1, d2, d3, d4, d5⟩ := HSS.out A5 hk5
  have HF : Hid (∀ w6, Keeps A5 w6 (fun z => z = q) → w6.heap[A1.heap.size]? = some (.cells #[.pointer (some ⟨q, 0, none⟩)] 135) ∧ w6.heap[A2.heap.size]? = some (.cells #[.int .i64 0, .slice none 0 0, .int .i64 0] 61) ∧ Gr W w6) := fun w6 k => by
    refine ⟨(k.block _ (lt_of_heap hb5) (fun e => by have e' : A1.heap.size = q := e; omega)).trans hb5, ?_, hlow w6 k⟩
    have h3 := (hk5.block _ (lt_of_heap HB3.out) (fun e => by have e' : A2.heap.size = A1.heap.size := e; omega)).trans HB3.out
    exact (k.block _ (lt_of_heap h3) (fun e => by have e' : A2.heap.size = q := e; have := lt_of_heap HB3.out; omega)).trans h3
  have HL : Hid (W.heap.size ≤ q ∧ W.heap.size ≤ A5.heap.size) := ⟨by omega, gW5.size⟩
  clear g5 hc5 hk5 hz hq2 hz2 hzW gW5 hlow hDW lq hD5 hb5 hb05 hU c3 f3 hfd
  go_wp2_with (go_at_call 90; refine H47.out.mono ?_; rintro e w6 ⟨v, r, rc, rfl, k6, hr6, hn6⟩; obtain ⟨p1, p2, p3⟩ := HF.out w6 k6; have HE := hidM (And.intro p3 (And.intro hr6 hn6)); have n6 := cell1 p1; have f6 := frz p1 0; have i6 := set_id (j := 0) (v := .pointer (some ⟨q, 0, none⟩)) p1 rfl; obtain ⟨y0, y1, y2⟩ := cell3V p2; have z0 := frz p2 0; have z1 := frz p2 1; have z2 := frz p2 2; have j0 := set_id (j := 0) (v := .int .i64 0) p2 rfl; have j1 := set_id (j := 1) (v := .slice none 0 0) p2 rfl; have j2 := set_id (j := 2) (v := .int .i64 0) p2 rfl; clear p1 p2 p3 k6 hr6 hn6 n5 d0 d1 d2 d3 d4 d5 hA5)
  refine leaves_cons (f := 87) (args := #[.pointer (some ⟨A1.heap.size, 0, none⟩), .pointer (some ⟨A2.heap.size, 0, none⟩)]) (by simp) (by simp [go_sem]) ?_
  refine (opened44 ⟨A1.heap.size, 0, none⟩ ⟨A2.heap.size, 0, none⟩ w6).mono ?_
  rintro e u' w' ⟨rfl, rfl, rfl⟩
  refine ⟨.tuple #[.pointer (some ⟨q, 0, none⟩), .agg #[.int .i64 0, .slice none 0 0, .int .i64 0]], ?_, q, r, rc, fo, fc, rfl, HE.out.1, HL.out.1, Nat.le_trans HL.out.2 HE.out.2.1, HE.out.2.2⟩
  simp [results, Tryz.f68, go_sem, n6, y0, y1, y2]
end Go.Proofs.YteggcdhibcjneaaGreatDoor.Kit
