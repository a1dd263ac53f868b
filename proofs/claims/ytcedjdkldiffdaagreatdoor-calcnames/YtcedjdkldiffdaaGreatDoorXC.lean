import Derived.Test.YtcedjdkldiffdaaGreatDoorCZ
set_option maxRecDepth 100000
set_option maxHeartbeats 4000000
namespace Go.Proofs.YtcedjdkldiffdaaGreatDoor.Kit
open Go.RowKit Go.Shelf Go.Deep
open Go.Proofs.YtcedjdkldiffdaaGreatDoor.Kd (Ans AnsV cell5 cell2)
open Go.Proofs.YtcedjdkldiffdaaGreatDoor.Ink (OwnRow)
set_option linter.unusedVariables false
set_option linter.unusedSimpArgs false
attribute [local go_sem] run_store_func
theorem fill_nd {A wr : World} {q v2 c2 : Nat} {nu : Bool} {ao : Option Addr} {ca : Nat} {ro : Option Addr} {rc : Nat} (h : FillI A wr q nu ao ca 2 0 [.slice none 0 0, .int .i64 0, .pointer none, .slice (some ⟨v2, 0, none⟩) 2 c2, .int .i64 0, .pointer none] 2 ro rc) : ∃ r, ro = some ⟨r, 0, none⟩ ∧ A.heap.size ≤ r ∧ NdA wr q r rc nu ao ca 2 0 v2 2 c2 := by
  obtain ⟨hk, hn, ho, hl⟩ := h
  rcases ho.2 with ⟨_, h0⟩ | ⟨g, cap, cur, hv, _, hg, h1, h2, h3, h4⟩
  · exact absurd h0 (by decide)
  · cases hv
    have hc : ∀ j v, ([.slice none 0 0, .int .i64 0, .pointer none, .slice (some ⟨v2, 0, none⟩) 2 c2, .int .i64 0, .pointer none] : List Value)[j]? = some v → wr.cell? ⟨g, j, none⟩ = some v := fun j v hj => by
      have e : cur.toList[j]? = some v := by
        have h4' : cur.toList.take (2 * 3) = [.slice none 0 0, .int .i64 0, .pointer none, .slice (some ⟨v2, 0, none⟩) 2 c2, .int .i64 0, .pointer none] := h4
        rw [← h4', List.getElem?_take] at hj
        split at hj
        · exact hj
        · cases hj
      simp only [World.cell?, hg]
      simpa using e
    exact ⟨g, rfl, hl g rfl, ⟨hn, hc 0 _ rfl, hc 1 _ rfl, hc 2 _ rfl, hc 3 _ rfl, hc 4 _ rfl, hc 5 _ rfl⟩⟩
theorem node47 (c qb bc : Nat) (W : World) (q : Nat) (ao : Option Addr) (ca : Nat) (v2 c2 : Nat) (hq : W.heap[q]? = some (.cells (ndC false ao ca 2 0 (.slice none 0 0)) 99)) (hcc : W.heap[c]? = some (.cells #[.pointer none, .int .i64 0, .slice none 0 0] 143)) (hb0 : W.cell? ⟨qb, 0, none⟩ = some (.slice none 0 0)) (hb1 : W.cell? ⟨qb, 1, none⟩ = some (.slice (some ⟨v2, 0, none⟩) 2 c2)) (hqb : qb ≠ q) (hT : ∀ u, Keeps W u (fun z => z = q) → Tab u) :
    Calls Tryz.prog 83 #[.pointer (some ⟨c, 0, none⟩), .pointer (some ⟨q, 0, none⟩), .agg (dC 2 0 (.slice (some ⟨qb, 0, none⟩) 2 bc))] W fun e w' => ∃ v r rc, e = .returned v ∧ Keeps W w' (fun z => z = q) ∧ W.heap.size ≤ r ∧ NdA w' q r rc false ao ca 2 0 v2 2 c2 := by
  obtain ⟨A, hA⟩ : ∃ A, W.alloc (.cells (dC 2 0 (.slice (some ⟨qb, 0, none⟩) 2 bc)) 32) = A := ⟨_, rfl⟩
  have gA : Gr W A := by rw [← hA]; exact gr_alloc W _
  have hd : A.heap[W.heap.size]? = some (.cells (dC 2 0 (.slice (some ⟨qb, 0, none⟩) 2 bc)) 32) := by rw [← hA]; exact heap_alloc_new W _
  have hql := lt_of_heap hq
  have ncq : c ≠ q := blk_ne hcc hq (by decide)
  have hcell : W.cell? ⟨c, 0, none⟩ = some (.pointer none) := (cell3V hcc).1
  have hS : ∀ u, Gr A u → u.cell? ⟨q, 2, none⟩ = some (.int .i64 3) ∧ u.cell? ⟨q, 3, none⟩ = some (.int .i64 0) ∧ u.cell? ⟨q, 4, none⟩ = some (.int .i64 0) ∧ u.cell? ⟨q, 5, none⟩ = some (.int .i64 0) ∧ u.cell? ⟨q, 6, none⟩ = some (.slice ao 0 ca) ∧ u.cell? ⟨W.heap.size, 0, none⟩ = some (.int .i64 2) ∧ u.cell? ⟨W.heap.size, 1, none⟩ = some (.int .i64 0) ∧ u.cell? ⟨W.heap.size, 2, none⟩ = some (.int .i64 0) ∧ u.cell? ⟨W.heap.size, 3, none⟩ = some (.slice (some ⟨qb, 0, none⟩) 2 bc) ∧ u.cell? ⟨W.heap.size, 4, none⟩ = some (.slice none 0 0) ∧ u.cell? ⟨W.heap.size, 5, none⟩ = some (.slice none 0 0) := fun u g => by
    obtain ⟨d0, d1, d2, d3, d4, d5⟩ := cell6 ((g.block _ (lt_of_heap hd) id).trans hd)
    obtain ⟨t0, t1, t2, t3, t4⟩ := cellT (((gA.trans g (fun _ _ h => h)).block q hql id).trans hq)
    exact ⟨t0, t1, t2, t3, t4, d0, d1, d2, d3, d4, d5⟩
  have HS0 := hidM (hS A.drew gr_drew)
  have HSS := hidM hS
  have H64 : Hid (∀ u, Gr A u → Calls Tryz.prog 131 #[.agg #[.int .i64 3, .int .i64 0, .int .i64 0, .int .i64 0, .slice ao 0 ca], .agg #[.int .i64 2, .int .i64 0, .int .i64 0, .slice (some ⟨qb, 0, none⟩) 2 bc, .slice none 0 0, .slice none 0 0]] u fun e w' => e = .returned (.int .i64 0) ∧ Gr u w') := fun u g => wrongShape64 ao ca 2 0 (some ⟨qb, 0, none⟩) bc u (hT u ((gA.trans g (fun _ _ h => h)).mono fun _ _ h => h.elim))
  have H65 : Hid (∀ u, Gr A u → Calls Tryz.prog 132 #[.pointer (some ⟨q, 0, none⟩)] u fun e w' => e = .returned (.int .i64 0) ∧ Gr u w') := fun u g => wrongNumbers65 q false ao ca 2 0 (.slice none 0 0) u (((gA.trans g (fun _ _ h => h)).block q hql id).trans hq) (by decide) (by decide)
  have H66 : Hid (∀ u, Gr A u → Calls Tryz.prog 133 #[.slice (some ⟨qb, 0, none⟩) 2 bc] u fun e w' => e = .returned (.tuple #[.int .i64 0, .int .i64 0]) ∧ w' = u) := fun u g => tooMany66 qb 2 bc u (fun k hk => by
    have g' := gA.trans g (fun _ _ h => h)
    have : k = 0 ∨ k = 1 := by omega
    rcases this with rfl | rfl
    · exact ⟨_, _, _, g'.cell' hb0 id, by decide⟩
    · exact ⟨_, _, _, g'.cell' hb1 id, by decide⟩) (by decide)
  have H67 : Hid (∀ u, Gr A u → Calls Tryz.prog 134 #[.pointer (some ⟨c, 0, none⟩), .pointer (some ⟨q, 0, none⟩), .agg #[.int .i64 2, .int .i64 0, .int .i64 0, .slice (some ⟨qb, 0, none⟩) 2 bc, .slice none 0 0, .slice none 0 0]] u fun e w' => e = .returned (.tuple #[]) ∧ Keeps u w' (fun z => z = q) ∧ ∃ r rc, u.heap.size ≤ r ∧ NdA w' q r rc false ao ca 2 0 v2 2 c2) := fun u g => by
    have g' := gA.trans g (fun _ _ h => h)
    refine (fill67 c q qb bc (fun k => if k = 0 then none else some ⟨v2, 0, none⟩) (fun k => if k = 0 then 0 else 2) (fun k => if k = 0 then 0 else c2) false ao ca 2 0 u ((g'.block q hql id).trans hq) (fun k hk => by
      have : k = 0 ∨ k = 1 := by omega
      rcases this with rfl | rfl
      · exact g'.cell' hb0 id
      · exact g'.cell' hb1 id) hqb (hT u (g'.mono fun _ _ h => h.elim)) (fun v k => hT v ((g'.mono fun _ _ h => h.elim).trans k (fun _ _ h => h)))).mono ?_
    rintro e w' ⟨ro, rc, he, hf⟩
    obtain ⟨r, -, hr, hn⟩ := fill_nd hf
    exact ⟨he, hf.1, r, rc, hr, hn⟩
  have H2 : Hid (∀ u w3 r rc, Gr A u → Keeps u w3 (fun z => z = q) → u.heap.size ≤ r → NdA w3 q r rc false ao ca 2 0 v2 2 c2 → ∀ w, Gr w3 w → NdA w q r rc false ao ca 2 0 v2 2 c2 ∧ w.heap[W.heap.size]? = some (.cells (dC 2 0 (.slice (some ⟨qb, 0, none⟩) 2 bc)) 32) ∧ w.cell? ⟨c, 0, none⟩ = some (.pointer none) ∧ w.cell? ⟨qb, 0, none⟩ = some (.slice none 0 0) ∧ Keeps W w (fun z => z = q) ∧ W.heap.size ≤ r) := fun u w3 r rc g k hr hn w gw => by
    have g' := gA.trans g (fun _ _ h => h)
    have kW : Keeps W w (fun z => z = q) := ((g'.mono fun _ _ h => h.elim).trans k (fun _ _ h => h)).trans (gw.mono fun _ _ h => h.elim) (fun _ _ h => h)
    have kA : Keeps A w (fun z => z = q) := ((g.mono fun _ _ h => h.elim).trans k (fun _ _ h => h)).trans (gw.mono fun _ _ h => h.elim) (fun _ _ h => h)
    exact ⟨hn.gr gw, (kA.block _ (lt_of_heap hd) (fun e => by have e' : W.heap.size = q := e; omega)).trans hd, kW.cell' hcell ncq, kW.cell' hb0 hqb, kW, Nat.le_trans g'.size hr⟩
  clear gA hd hql ncq hcell hS hq hcc hb0 hb1 hqb hT
  unfold dC at hA ⊢
  go_enter Tryz.func83, Tryz.ntmps83
  go_wp2_with fail
  clear hA
  go_region_held3 (fun u => u.cell? ⟨q, 2, none⟩ = some (.int .i64 3) ∧ u.cell? ⟨q, 3, none⟩ = some (.int .i64 0) ∧ u.cell? ⟨q, 4, none⟩ = some (.int .i64 0) ∧ u.cell? ⟨q, 5, none⟩ = some (.int .i64 0) ∧ u.cell? ⟨q, 6, none⟩ = some (.slice ao 0 ca) ∧ u.cell? ⟨W.heap.size, 0, none⟩ = some (.int .i64 2) ∧ u.cell? ⟨W.heap.size, 1, none⟩ = some (.int .i64 0) ∧ u.cell? ⟨W.heap.size, 2, none⟩ = some (.int .i64 0) ∧ u.cell? ⟨W.heap.size, 3, none⟩ = some (.slice (some ⟨qb, 0, none⟩) 2 bc) ∧ u.cell? ⟨W.heap.size, 4, none⟩ = some (.slice none 0 0) ∧ u.cell? ⟨W.heap.size, 5, none⟩ = some (.slice none 0 0)) (first | with_reducible exact HS0.out | with_reducible exact HS1.out) (first
    | (go_at_call 131; refine (H64.out _ gr_drew).mono ?_; rintro e w1 ⟨rfl, g1⟩; have HG1 : Hid (Gr A w1) := Keeps.trans gr_drew g1 (fun _ _ h => h); have HS1 := hidM (HSS.out w1 HG1.out); clear g1)
    | (go_at_call 130; refine (must63 _ _ _).mono ?_; rintro e w2 ⟨rfl, rfl⟩))
  go_wp2_with (first
    | (go_at_call 132; refine (H65.out _ HG1.out).mono ?_; rintro e w2 ⟨rfl, g2⟩; have HG2 := hidM (HG1.out.trans g2 (fun _ _ h => h)); obtain ⟨t0, t1, t2, t3, t4, d0, d1, d2, d3, d4, d5⟩ := HSS.out w2 HG2.out; clear g2)
    | (go_at_call 133; refine (H66.out _ HG2.out).mono ?_; rintro e w3 ⟨rfl, rfl⟩)
    | (go_at_call 134; refine (H67.out _ HG2.out).mono ?_; rintro e w3 ⟨rfl, k3, r, rc, hr3, hn3⟩; have HA := hidM (H2.out _ w3 r rc HG2.out k3 hr3 hn3); clear k3 hr3 hn3 t0 t1 t2 t3 t4 d0 d1 d2 d3 d4 d5)
    | (go_at_call 135; refine (tooSmall68 _ q r rc false ao ca v2 c2 (HA.out _ (Keeps.refl _ _)).1).mono ?_; rintro e w4 ⟨rfl, g4⟩; have HG4 := hidM g4; obtain ⟨hn, hbx, hcp, hqb0, -, -⟩ := HA.out w4 g4; obtain ⟨d0, d1, d2, d3, d4, d5⟩ := cell6 hbx; have H69 : Hid (Calls Tryz.prog 136 #[.pointer (some ⟨q, 0, none⟩), .agg #[.int .i64 2, .int .i64 0, .int .i64 0, .slice (some ⟨qb, 0, none⟩) 2 bc, .slice none 0 0, .slice none 0 0]] w4 fun e w' => e = .returned (.int .i64 0) ∧ Gr w4 w') := wrongNulls69 qb bc w4 q r rc false ao ca v2 c2 rfl hn hqb0; clear g4 hn hbx hcp hqb0)
    | (go_at_call 136; refine H69.out.mono ?_; rintro e w5 ⟨rfl, g5⟩; have HG5 := hidM (HG4.out.trans g5 (fun _ _ h => h)); clear g5 d0 d1 d2 d3 d4 d5)
    | (go_at_call 130; refine (must63 _ _ _).mono ?_; rintro e w99 ⟨rfl, hw⟩; replace hw := hw.symm; subst hw))
  have hmeth := method_wrong
  have HS5 := hidM ((cellF (HA.out w5.drew HG5.out.drew).1.nd).1)
  go_region_held3 (fun u => u.cell? ⟨q, 7, none⟩ = some (.iface 285 (.agg #[.int .i64 1, .bool true]))) (first | with_reducible exact HS5.out | with_reducible exact HS6.out) (first
    | (go_at_call 423; refine (wrong266 _ _ _).mono ?_; rintro e w6 ⟨rfl, g6⟩; have HG6 := hidM (HG5.out.drew.trans g6 (fun _ _ h => h)); have HS6 := hidM ((cellF (HA.out w6 HG6.out).1.nd).1); clear g6)
    | (go_at_call 130; refine (must63 _ _ _).mono ?_; rintro e w99 ⟨rfl, hw⟩; replace hw := hw.symm; subst hw))
  clear hmeth
  obtain ⟨hn, hbx, -, -, -, -⟩ := HA.out w6 HG6.out
  obtain ⟨d0, d1, d2, d3, d4, d5⟩ := cell6 hbx
  have H70 : Hid (Calls Tryz.prog 137 #[.pointer (some ⟨c, 0, none⟩), .pointer (some ⟨q, 0, none⟩), .agg #[.int .i64 2, .int .i64 0, .int .i64 0, .slice (some ⟨qb, 0, none⟩) 2 bc, .slice none 0 0, .slice none 0 0]] w6 fun e w' => ∃ g, e = .returned (.slice (some ⟨g, 0, none⟩) 0 0) ∧ Gr w6 w') := parts70 _ qb bc w6 q r rc false ao ca v2 c2 hn
  clear hn hbx
  go_wp2_with (go_at_call 137; refine H70.out.mono ?_; rintro e w7 ⟨g, rfl, g7⟩; have HG7 := hidM (HG6.out.trans g7 (fun _ _ h => h)); clear g7 d0 d1 d2 d3 d4 d5)
  have hmeth := method_wrongBehind
  have HS7 := hidM ((cellF (HA.out w7.drew HG7.out.drew).1.nd).1)
  go_region_held3 (fun u => u.cell? ⟨q, 7, none⟩ = some (.iface 285 (.agg #[.int .i64 1, .bool true]))) (first | with_reducible exact HS7.out | with_reducible exact HS8.out) (first
    | (go_at_call 424; refine (wrong267 _ _ _).mono ?_; rintro e w8 ⟨rfl, g8⟩; have HG8 := hidM (HG7.out.drew.trans g8 (fun _ _ h => h)); have HS8 := hidM ((cellF (HA.out w8 HG8.out).1.nd).1); clear g8)
    | (go_at_call 130; refine (must63 _ _ _).mono ?_; rintro e w99 ⟨rfl, hw⟩; replace hw := hw.symm; subst hw))
  clear hmeth
  obtain ⟨hn, -, hcp, -, -, -⟩ := HA.out w8 HG8.out
  have H71 := hidM (weights71 c (.slice (some ⟨g, 0, none⟩) 0 0) w8 q r rc false ao ca v2 c2 hn hcp)
  clear hn hcp
  go_wp2_with (first
    | (go_at_call 138; refine H71.out.mono ?_; rintro e w9 ⟨z, rfl, g9, z0, z1⟩; have HG9 := hidM (HG8.out.trans g9 (fun _ _ h => h)); have H72 := hidM (sum72 z 2 w9 z0 z1); clear g9 z0 z1)
    | (go_at_call 139; refine H72.out.mono ?_; rintro e w10 ⟨rfl, rfl⟩))
  go_ret
  obtain ⟨hn, -, -, -, hk, hr⟩ := HA.out _ HG9.out
  exact ⟨_, r, rc, rfl, hk, hr, hn⟩
theorem opened44 (r r2 : Addr) (w : World) : CallsD Tryz.prog 80 #[.pointer (some r), .pointer (some r2)] .returning w fun e u' w' => e = .returned (.tuple #[]) ∧ u' = .returning ∧ w' = w := by
  refine callsD_of_wpS Tryz.func80 rfl fun c₀ cs hu => ?_
  apply wpS_seq
  apply wpS_region
  simp [wpOpsS, go_sem, recoverD, hu, Tryz.ntmps80, Exit.thenS]
  have HHU := hidM hu
  clear hu
  have htm : (#[Value.pointer (some r), Value.pointer (some r2)] ++ (Array.replicate 10 undef).setIfInBounds 3 Value.nilIface : Array Value) = #[Value.pointer (some r), .pointer (some r2), undef, undef, undef, .nilIface, undef, undef, undef, undef, undef, undef] := by kernel_rfl
  rw [htm]
  clear htm
  refine wpS_of_wp ?_
  refine wp_hid ?_
  go_wp2_with fail
  unfold Hid
  have hu := HHU.out
  cases c₀
  simp_all [bodyPostS, results, Tryz.results80]
/-- what is handed in: the array that lies at qb, v1, v2 -/
structure DatC (W : World) (qb v2 c2 : Nat) : Prop where
  b0 : W.cell? ⟨qb, 0, none⟩ = some (.slice none 0 0)
  b1 : W.cell? ⟨qb, 1, none⟩ = some (.slice (some ⟨v2, 0, none⟩) 2 c2)
  x0 : W.cell? ⟨v2, 0, none⟩ = some (.int .u8 3)
  x1 : W.cell? ⟨v2, 1, none⟩ = some (.int .u8 4)
  n2 : 2 ≤ c2
  T : Tab W
theorem DatC.gr {W u : World} {qb v2 c2 : Nat} (h : DatC W qb v2 c2) (g : Gr W u) : DatC u qb v2 c2 := ⟨g.cell' h.b0 id, g.cell' h.b1 id, g.cell' h.x0 id, g.cell' h.x1 id, h.n2, h.T.gr g⟩
theorem opened34 (qb bc v2 c2 : Nat) (ao : Option Addr) (ca : Nat) (W : World) (hD : DatC W qb v2 c2) :
    Calls Tryz.prog 48 #[.agg #[.string nmA, .bool false, .int .i64 3, .int .i64 0, .int .i64 0, .int .i64 0, .slice ao 0 ca], .agg (dC 2 0 (.slice (some ⟨qb, 0, none⟩) 2 bc))] W fun e w' => ∃ q r rc fo fc, e = .returned (.tuple #[.pointer (some ⟨q, 0, none⟩), .agg #[.int .i64 0, .slice none 0 0, .int .i64 0]]) ∧ Gr W w' ∧ W.heap.size ≤ q ∧ W.heap.size ≤ r ∧ NdA w' q r rc false fo fc 2 0 v2 2 c2 := by
  have hmf : ∀ (fn : Fn) (first cap : Array Value) (w : World), (Instr.makeFunc fn first cap).run Tryz.prog w = .ok (.func fn first cap) w := fun _ _ _ _ => rfl
  obtain ⟨A0, hA0⟩ : ∃ A0, W.alloc (.cells #[.string nmA, .bool false, .int .i64 3, .int .i64 0, .int .i64 0, .int .i64 0, .slice ao 0 ca] 27) = A0 := ⟨_, rfl⟩
  have g0 : Gr W A0 := by rw [← hA0]; exact gr_alloc W _
  have b0 : A0.heap[W.heap.size]? = some (.cells #[.string nmA, .bool false, .int .i64 3, .int .i64 0, .int .i64 0, .int .i64 0, .slice ao 0 ca] 27) := by rw [← hA0]; exact heap_alloc_new W _
  obtain ⟨A1, hA1⟩ : ∃ A1, A0.alloc (.cells (dC 2 0 (.slice (some ⟨qb, 0, none⟩) 2 bc)) 32) = A1 := ⟨_, rfl⟩
  have g1 : Gr A0 A1 := by rw [← hA1]; exact gr_alloc A0 _
  have b1 : A1.heap[A0.heap.size]? = some (.cells (dC 2 0 (.slice (some ⟨qb, 0, none⟩) 2 bc)) 32) := by rw [← hA1]; exact heap_alloc_new A0 _
  obtain ⟨A2, hA2⟩ : ∃ A2, A1.alloc (.cells #[.pointer none] 91) = A2 := ⟨_, rfl⟩
  have g2 : Gr A1 A2 := by rw [← hA2]; exact gr_alloc A1 _
  have b2 : A2.heap[A1.heap.size]? = some (.cells #[.pointer none] 91) := by rw [← hA2]; exact heap_alloc_new A1 _
  obtain ⟨A3, hA3⟩ : ∃ A3, A2.alloc (.cells #[.int .i64 0, .slice none 0 0, .int .i64 0] 68) = A3 := ⟨_, rfl⟩
  have g3 : Gr A2 A3 := by rw [← hA3]; exact gr_alloc A2 _
  have b3 : A3.heap[A2.heap.size]? = some (.cells #[.int .i64 0, .slice none 0 0, .int .i64 0] 68) := by rw [← hA3]; exact heap_alloc_new A2 _
  have g23 := g2.trans g3 (fun _ _ h => h)
  have g13 := g1.trans g23 (fun _ _ h => h)
  have gW : Gr W A3 := g0.trans g13 (fun _ _ h => h)
  have e0 := (g13.block _ (lt_of_heap b0) id).trans b0
  have e1 := (g23.block _ (lt_of_heap b1) id).trans b1
  have e2 := (g3.block _ (lt_of_heap b2) id).trans b2
  have hS : ∀ u, Keeps A3 u (fun z => z = A1.heap.size) → u.cell? ⟨W.heap.size, 0, none⟩ = some (.string nmA) ∧ u.cell? ⟨W.heap.size, 1, none⟩ = some (.bool false) ∧ u.cell? ⟨W.heap.size, 2, none⟩ = some (.int .i64 3) ∧ u.cell? ⟨W.heap.size, 3, none⟩ = some (.int .i64 0) ∧ u.cell? ⟨W.heap.size, 4, none⟩ = some (.int .i64 0) ∧ u.cell? ⟨W.heap.size, 5, none⟩ = some (.int .i64 0) ∧ u.cell? ⟨W.heap.size, 6, none⟩ = some (.slice ao 0 ca) ∧ u.cell? ⟨A0.heap.size, 0, none⟩ = some (.int .i64 2) ∧ u.cell? ⟨A0.heap.size, 1, none⟩ = some (.int .i64 0) ∧ u.cell? ⟨A0.heap.size, 2, none⟩ = some (.int .i64 0) ∧ u.cell? ⟨A0.heap.size, 3, none⟩ = some (.slice (some ⟨qb, 0, none⟩) 2 bc) ∧ u.cell? ⟨A0.heap.size, 4, none⟩ = some (.slice none 0 0) ∧ u.cell? ⟨A0.heap.size, 5, none⟩ = some (.slice none 0 0) := fun u g => by
    have z1 := g1.size
    have z0 := lt_of_heap b0
    have z2 := lt_of_heap b1
    obtain ⟨a0, a1, a2, a3, a4, a5, a6⟩ := cell7 ((g.block _ (lt_of_heap e0) (fun e => by have e' : W.heap.size = A1.heap.size := e; omega)).trans e0)
    obtain ⟨d0, d1, d2, d3, d4, d5⟩ := cell6 ((g.block _ (lt_of_heap e1) (fun e => by have e' : A0.heap.size = A1.heap.size := e; omega)).trans e1)
    exact ⟨a0, a1, a2, a3, a4, a5, a6, d0, d1, d2, d3, d4, d5⟩
  obtain ⟨tt, hck⟩ := leaf_tells (w := A3) (ao := ao) (ca := ca) (hD.gr gW).T (allR false)
  have HCK := hidM hck
  have HSS := hidM hS
  have HD := hidM (hD.gr gW)
  have HD0 := hidM hD
  have HGW := hidM gW
  have HB2 := hidM e2
  have HB3 := hidM b3
  have HZ : Hid (W.heap.size ≤ A1.heap.size ∧ A1.heap.size < A3.heap.size ∧ W.heap.size ≤ A2.heap.size ∧ A1.heap.size < A2.heap.size) := ⟨Nat.le_trans g0.size g1.size, lt_of_heap e2, Nat.le_trans (Nat.le_trans g0.size g1.size) g2.size, lt_of_heap b2⟩
  obtain ⟨a0, a1, a2, a3, a4, a5, a6, d0, d1, d2, d3, d4, d5⟩ := hS A3 (Keeps.refl _ _)
  clear g0 b0 g1 b1 g2 b2 g3 b3 g23 g13 gW e0 e1 e2 hS hck hD
  unfold dC at hA1 ⊢
  go_enter_defers Tryz.func48, Tryz.ntmps48
  go_wp2_with (go_at_call 41; refine Hid.out ?_)
  unfold Hid
  refine Calls.mono (HCK.out _ (Keeps.refl _ _)) ?_
  rintro e w1 ⟨vo, vc, rfl, g1, -⟩
  have hfd : ∀ W : World, (Instr.field 68 (.agg #[.int .i64 0, .slice vo 0 vc, .int .i64 tt]) 0).run Tryz.prog W = .ok (.int .i64 0) W := fun W => by kernel_rfl
  have HG1 := hidM g1
  clear a0 a1 a2 a3 a4 a5 a6 d0 d1 d2 d3 d4 d5 g1 hA0 hA1 hA2 hA3
  go_wp2_with fail
  have HK1 : Hid (Keeps A3 w1.drew (fun z => z = A1.heap.size)) := HG1.out.drew.mono fun _ _ h => h.elim
  have HS1 := hidM (HSS.out w1.drew HK1.out)
  have H46 := hidM (copied46 false ao ca w1.drew ((HD.out.gr HG1.out.drew).T))
  have H45 : Hid (∀ u fo fc, Gr A3 u → Calls Tryz.prog 81 #[.agg #[.string nmA, .bool false, .int .i64 3, .int .i64 0, .int .i64 0, .int .i64 0, .slice fo 0 fc], .agg #[.int .i64 2, .int .i64 0, .int .i64 0, .slice (some ⟨qb, 0, none⟩) 2 bc, .slice none 0 0, .slice none 0 0]] u fun e w' => ∃ q, e = .returned (.pointer (some ⟨q, 0, none⟩)) ∧ Gr u w' ∧ u.heap.size ≤ q ∧ w'.heap[q]? = some (.cells (ndC false fo fc 2 0 (.slice none 0 0)) 99)) := fun u fo fc g => bare45 false fo fc 2 0 (.slice (some ⟨qb, 0, none⟩) 2 bc) u (HD.out.gr g).T
  go_region_held3 (fun u => u.cell? ⟨W.heap.size, 0, none⟩ = some (.string nmA) ∧ u.cell? ⟨W.heap.size, 1, none⟩ = some (.bool false) ∧ u.cell? ⟨W.heap.size, 2, none⟩ = some (.int .i64 3) ∧ u.cell? ⟨W.heap.size, 3, none⟩ = some (.int .i64 0) ∧ u.cell? ⟨W.heap.size, 4, none⟩ = some (.int .i64 0) ∧ u.cell? ⟨W.heap.size, 5, none⟩ = some (.int .i64 0) ∧ u.cell? ⟨W.heap.size, 6, none⟩ = some (.slice ao 0 ca) ∧ u.cell? ⟨A0.heap.size, 0, none⟩ = some (.int .i64 2) ∧ u.cell? ⟨A0.heap.size, 1, none⟩ = some (.int .i64 0) ∧ u.cell? ⟨A0.heap.size, 2, none⟩ = some (.int .i64 0) ∧ u.cell? ⟨A0.heap.size, 3, none⟩ = some (.slice (some ⟨qb, 0, none⟩) 2 bc) ∧ u.cell? ⟨A0.heap.size, 4, none⟩ = some (.slice none 0 0) ∧ u.cell? ⟨A0.heap.size, 5, none⟩ = some (.slice none 0 0)) (first | with_reducible exact HS1.out | with_reducible exact HS2.out | with_reducible exact HS3.out | with_reducible exact HSU.out) (first
    | (go_at_call 82; refine H46.out.mono ?_; rintro e w2 ⟨fo, fc, rfl, g2⟩; have HG2 : Hid (Gr A3 w2) := HG1.out.drew.trans g2 (fun _ _ h => h); have HS2 := hidM (HSS.out w2 (HG2.out.mono fun _ _ h => h.elim)); clear g2)
    | (go_at_call 81; refine (H45.out w2 fo fc HG2.out).mono ?_; rintro e w3 ⟨q, rfl, g3, hq3, hn3⟩; have HG3 := hidM (HG2.out.trans g3 (fun _ _ h => h)); have HQ := hidM (And.intro hq3 hn3); have HS3 := hidM (HSS.out w3 (HG3.out.mono fun _ _ h => h.elim)); obtain ⟨U, hU⟩ : ∃ U, w3.setCell ⟨A1.heap.size, 0, none⟩ (.pointer (some ⟨q, 0, none⟩)) = U := ⟨_, rfl⟩; have hb3 := (HG3.out.block _ (lt_of_heap HB2.out) id).trans HB2.out; have hbu : U.heap[A1.heap.size]? = some (.cells #[.pointer (some ⟨q, 0, none⟩)] 91) := (by rw [← hU, heap_setCell_same w3 A1.heap.size 0 _ _ _ hb3]; rfl); have hku : Keeps A3 U (fun z => z = A1.heap.size) := (by rw [← hU]; exact Keeps.setCell (S := fun z => z = A1.heap.size) (p := ⟨A1.heap.size, 0, none⟩) (HG3.out.mono fun _ _ h => h.elim) (fun _ => rfl) _); have hne : q ≠ A1.heap.size := (by have h1 := HG2.out.size; have h2 := HZ.out; omega); have hnu : U.heap[q]? = some (.cells (ndC false fo fc 2 0 (.slice none 0 0)) 99) := (by rw [← hU, heap_setCell_other _ _ _ _ hne]; exact hn3); have HSU := hidM (HSS.out U hku); have HBU := hidM hbu; have HKU := hidM hku; have HNU := hidM hnu; have c3 := cell1 hb3; have f3 := frz hb3 0; clear g3 hq3 hn3 hb3 hbu hku hnu hne))
  obtain ⟨A5, hA5⟩ : ∃ A5, U.alloc (.cells #[.pointer none, .int .i64 0, .slice none 0 0] 143) = A5 := ⟨_, rfl⟩
  have g5 : Gr U A5 := by rw [← hA5]; exact gr_alloc U _
  have hc5 : A5.heap[U.heap.size]? = some (.cells #[.pointer none, .int .i64 0, .slice none 0 0] 143) := by rw [← hA5]; exact heap_alloc_new U _
  have hk5 : Keeps A3 A5 (fun z => z = A1.heap.size) := HKU.out.trans (g5.mono fun _ _ h => h.elim) (fun _ _ h => h)
  have hz := HZ.out
  have hq2 := HQ.out.1
  have hz2 := HG2.out.size
  have hzW := HGW.out.size
  have gW5 : Gr W A5 := HGW.out.trans hk5 (fun j hj e => by have e' : j = A1.heap.size := e; omega)
  have hlow : ∀ u, Keeps A5 u (fun z => z = q) → Gr W u := fun u k => gW5.trans k (fun j hj e => by have e' : j = q := e; omega)
  have hDW := HD0.out
  have lq := block_lt_of_cell hDW.b0
  simp only at lq
  have hD5 := hDW.gr gW5
  have H47 : Hid (Calls Tryz.prog 83 #[.pointer (some ⟨U.heap.size, 0, none⟩), .pointer (some ⟨q, 0, none⟩), .agg #[.int .i64 2, .int .i64 0, .int .i64 0, .slice (some ⟨qb, 0, none⟩) 2 bc, .slice none 0 0, .slice none 0 0]] A5 fun e w' => ∃ v r rc, e = .returned v ∧ Keeps A5 w' (fun z => z = q) ∧ A5.heap.size ≤ r ∧ NdA w' q r rc false fo fc 2 0 v2 2 c2) := node47 U.heap.size qb bc A5 q fo fc v2 c2 ((g5.block q (lt_of_heap HNU.out) id).trans HNU.out) hc5 hD5.b0 hD5.b1 (by omega) (fun u k => (hDW.gr (hlow u k)).T)
  have hb5 := (g5.block _ (lt_of_heap HBU.out) id).trans HBU.out
  have n5 := cell1 hb5
  obtain ⟨-, -, -, -, -, -, -, d0, d1, d2, d3, d4, d5⟩ := HSS.out A5 hk5
  have HF : Hid (∀ w6, Keeps A5 w6 (fun z => z = q) → w6.heap[A1.heap.size]? = some (.cells #[.pointer (some ⟨q, 0, none⟩)] 91) ∧ w6.heap[A2.heap.size]? = some (.cells #[.int .i64 0, .slice none 0 0, .int .i64 0] 68) ∧ Gr W w6) := fun w6 k => by
    refine ⟨(k.block _ (lt_of_heap hb5) (fun e => by have e' : A1.heap.size = q := e; omega)).trans hb5, ?_, hlow w6 k⟩
    have h3 := (hk5.block _ (lt_of_heap HB3.out) (fun e => by have e' : A2.heap.size = A1.heap.size := e; omega)).trans HB3.out
    exact (k.block _ (lt_of_heap h3) (fun e => by have e' : A2.heap.size = q := e; have := lt_of_heap HB3.out; omega)).trans h3
  have HL : Hid (W.heap.size ≤ q ∧ W.heap.size ≤ A5.heap.size) := ⟨by omega, gW5.size⟩
  clear g5 hc5 hk5 hz hq2 hz2 hzW gW5 hlow hDW lq hD5 hb5 hU c3 f3 hfd
  go_wp2_with (go_at_call 83; refine H47.out.mono ?_; rintro e w6 ⟨v, r, rc, rfl, k6, hr6, hn6⟩; obtain ⟨p1, p2, p3⟩ := HF.out w6 k6; have HE := hidM (And.intro p3 (And.intro hr6 hn6)); have n6 := cell1 p1; have f6 := frz p1 0; have i6 := set_id (j := 0) (v := .pointer (some ⟨q, 0, none⟩)) p1 rfl; obtain ⟨y0, y1, y2⟩ := cell3V p2; have z0 := frz p2 0; have z1 := frz p2 1; have z2 := frz p2 2; have j0 := set_id (j := 0) (v := .int .i64 0) p2 rfl; have j1 := set_id (j := 1) (v := .slice none 0 0) p2 rfl; have j2 := set_id (j := 2) (v := .int .i64 0) p2 rfl; clear p1 p2 p3 k6 hr6 hn6 n5 d0 d1 d2 d3 d4 d5 hA5)
  refine leaves_cons (f := 80) (args := #[.pointer (some ⟨A1.heap.size, 0, none⟩), .pointer (some ⟨A2.heap.size, 0, none⟩)]) (by simp) (by simp [go_sem]) ?_
  refine (opened44 ⟨A1.heap.size, 0, none⟩ ⟨A2.heap.size, 0, none⟩ w6).mono ?_
  rintro e u' w' ⟨rfl, rfl, rfl⟩
  refine ⟨.tuple #[.pointer (some ⟨q, 0, none⟩), .agg #[.int .i64 0, .slice none 0 0, .int .i64 0]], ?_, q, r, rc, fo, fc, rfl, HE.out.1, HL.out.1, Nat.le_trans HL.out.2 HE.out.2.1, HE.out.2.2⟩
  simp [results, Tryz.f48, go_sem, n6, y0, y1, y2]
theorem results_tcell50 {fn : Func} {t u : Tmp} {tmps : Array Value} {g : Nat} {cs : Array Value} {w : World} (h : fn.results = #[.tmp u, .cell t 68]) (ht : tmps.getD t undef = .pointer (some ⟨g, 0, none⟩)) (hg : w.heap[g]? = some (.cells cs 68 (0, 0))) (hi : (Tryz.prog.info? 68).map (·.size) = some cs.size) :
    (results fn tmps).run Tryz.prog w = .ok (.tuple #[tmps.getD u undef, .agg cs]) w := by
  have hl := run_loadVar_row (P := Tryz.prog) w g 68 68 cs (0, 0) _ hg Tryz.underlying68 rfl hi
  unfold results
  rw [h]
  simp only [Array.mapM_eq_mapM_toList, List.mapM_cons, List.mapM_nil, ht]
  simp [asAddr, hl]
theorem open18 (qb bc v2 c2 : Nat) (ao : Option Addr) (ca : Nat) (W : World) (hD : DatC W qb v2 c2) :
    Calls Tryz.prog 21 #[.agg #[.string nmA, .bool false, .int .i64 3, .int .i64 0, .int .i64 0, .int .i64 0, .slice ao 0 ca], .agg (dC 2 0 (.slice (some ⟨qb, 0, none⟩) 2 bc))] W fun e w' => ∃ a q r rc fo fc, e = .returned (.tuple #[.pointer (some ⟨a, 0, none⟩), .agg #[.int .i64 0, .slice none 0 0, .int .i64 0]]) ∧ Gr W w' ∧ (W.heap.size ≤ a ∧ W.heap.size ≤ q ∧ W.heap.size ≤ r) ∧ NdA w' q r rc false fo fc 2 0 v2 2 c2 ∧ w'.heap[a]? = some (.cells #[.pointer (some ⟨q, 0, none⟩), .int .i64 0, .int .i64 2, .pointer none] 102) := by
  obtain ⟨A0, hA0⟩ : ∃ A0, W.alloc (.cells #[.string nmA, .bool false, .int .i64 3, .int .i64 0, .int .i64 0, .int .i64 0, .slice ao 0 ca] 27) = A0 := ⟨_, rfl⟩
  have g0 : Gr W A0 := by rw [← hA0]; exact gr_alloc W _
  have b0 : A0.heap[W.heap.size]? = some (.cells #[.string nmA, .bool false, .int .i64 3, .int .i64 0, .int .i64 0, .int .i64 0, .slice ao 0 ca] 27) := by rw [← hA0]; exact heap_alloc_new W _
  obtain ⟨A1, hA1⟩ : ∃ A1, A0.alloc (.cells (dC 2 0 (.slice (some ⟨qb, 0, none⟩) 2 bc)) 32) = A1 := ⟨_, rfl⟩
  have g1 : Gr A0 A1 := by rw [← hA1]; exact gr_alloc A0 _
  have b1 : A1.heap[A0.heap.size]? = some (.cells (dC 2 0 (.slice (some ⟨qb, 0, none⟩) 2 bc)) 32) := by rw [← hA1]; exact heap_alloc_new A0 _
  obtain ⟨A2, hA2⟩ : ∃ A2, A1.alloc (.cells #[.int .i64 0, .slice none 0 0, .int .i64 0] 68) = A2 := ⟨_, rfl⟩
  have g2 : Gr A1 A2 := by rw [← hA2]; exact gr_alloc A1 _
  have b2 : A2.heap[A1.heap.size]? = some (.cells #[.int .i64 0, .slice none 0 0, .int .i64 0] 68) := by rw [← hA2]; exact heap_alloc_new A1 _
  have g12 := g1.trans g2 (fun _ _ h => h)
  have gW : Gr W A2 := g0.trans g12 (fun _ _ h => h)
  obtain ⟨a0, a1, a2, a3, a4, a5, a6⟩ := cell7 ((g12.block _ (lt_of_heap b0) id).trans b0)
  obtain ⟨d0, d1, d2, d3, d4, d5⟩ := cell6 ((g2.block _ (lt_of_heap b1) id).trans b1)
  have HC : Hid (Calls Tryz.prog 48 #[.agg #[.string nmA, .bool false, .int .i64 3, .int .i64 0, .int .i64 0, .int .i64 0, .slice ao 0 ca], .agg #[.int .i64 2, .int .i64 0, .int .i64 0, .slice (some ⟨qb, 0, none⟩) 2 bc, .slice none 0 0, .slice none 0 0]] A2 fun e w' => ∃ q r rc fo fc, e = .returned (.tuple #[.pointer (some ⟨q, 0, none⟩), .agg #[.int .i64 0, .slice none 0 0, .int .i64 0]]) ∧ Gr A2 w' ∧ A2.heap.size ≤ q ∧ A2.heap.size ≤ r ∧ NdA w' q r rc false fo fc 2 0 v2 2 c2) := opened34 qb bc v2 c2 ao ca A2 (hD.gr gW)
  have HB := hidM b2
  have HG := hidM gW
  clear g0 b0 g1 b1 g2 b2 g12 gW hD
  unfold dC at hA1 ⊢
  go_enter Tryz.func21, Tryz.ntmps21
  go_wp2_with (go_at_call 48; refine HC.out.mono ?_; rintro e w1 ⟨q, r, rc, fo, fc, rfl, g1, hq1, hr1, hn1⟩; clear a0 a1 a2 a3 a4 a5 a6 d0 d1 d2 d3 d4 d5 hA0 hA1 hA2; obtain ⟨V, hV⟩ : ∃ V, w1.alloc (.cells #[.int .i64 0, .slice none 0 0, .int .i64 0] 68) = V := ⟨_, rfl⟩; have gV : Gr w1 V := (by rw [← hV]; exact gr_alloc w1 _); have hbv : V.heap[w1.heap.size]? = some (.cells #[.int .i64 0, .slice none 0 0, .int .i64 0] 68) := (by rw [← hV]; exact heap_alloc_new w1 _); obtain ⟨y0, y1, y2⟩ := cell3V hbv; have z0 := frz hbv 0; have z1 := frz hbv 1; have z2 := frz hbv 2; have i0 := set_id (j := 0) (v := .int .i64 0) hbv rfl; have i1 := set_id (j := 1) (v := .slice none 0 0) hbv rfl; have i2 := set_id (j := 2) (v := .int .i64 0) hbv rfl; obtain ⟨m8, m9, m10⟩ := cellN (hn1.gr gV).nd; obtain ⟨X, hX⟩ : ∃ X, V.alloc (.cells #[.pointer (some ⟨q, 0, none⟩), .int .i64 0, .int .i64 2, .pointer none] 102) = X := ⟨_, rfl⟩; have gX : Gr V X := (by rw [← hX]; exact gr_alloc V _); have hbx : X.heap[V.heap.size]? = some (.cells #[.pointer (some ⟨q, 0, none⟩), .int .i64 0, .int .i64 2, .pointer none] 102) := (by rw [← hX]; exact heap_alloc_new V _); have g2X := g1.trans (gV.trans gX (fun _ _ h => h)) (fun _ _ h => h); have hb5 := (g2X.block _ (lt_of_heap HB.out) id).trans HB.out; obtain ⟨x0, x1, x2⟩ := cell3V hb5; have s0 := frz hb5 0; have s1 := frz hb5 1; have s2 := frz hb5 2; have k0 := set_id (j := 0) (v := .int .i64 0) hb5 rfl; have k1 := set_id (j := 1) (v := .slice none 0 0) hb5 rfl; have k2 := set_id (j := 2) (v := .int .i64 0) hb5 rfl; have HE : Hid (Gr W X ∧ (W.heap.size ≤ V.heap.size ∧ W.heap.size ≤ q ∧ W.heap.size ≤ r) ∧ NdA X q r rc false fo fc 2 0 v2 2 c2 ∧ X.heap[V.heap.size]? = some (.cells #[.pointer (some ⟨q, 0, none⟩), .int .i64 0, .int .i64 2, .pointer none] 102)) := (by have h1 := HG.out.size; have h2 := g1.size; have h3 := gV.size; exact ⟨HG.out.trans g2X (fun _ _ h => h), ⟨by omega, by omega, by omega⟩, hn1.gr (gV.trans gX (fun _ _ h => h)), hbx⟩); have HB5 := hidM hb5; clear gV hbv gX hbx g2X hb5 g1 hq1 hr1 hn1)
  (try simp only [Exit.inBlock, Exit.then])
  refine bodyPost_ret (results_tcell50 rfl rfl (by with_reducible exact HB5.out) (by kernel_rfl)) rfl ?_
  exact ⟨_, q, r, rc, fo, fc, rfl, HE.out⟩
end Go.Proofs.YtcedjdkldiffdaaGreatDoor.Kit
