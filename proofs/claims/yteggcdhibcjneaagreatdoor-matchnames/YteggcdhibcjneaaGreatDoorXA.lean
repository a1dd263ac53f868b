import Derived.Test.YteggcdhibcjneaaGreatDoorCZ
set_option maxRecDepth 100000
set_option maxHeartbeats 4000000
namespace Go.Proofs.YteggcdhibcjneaaGreatDoor.Kit
variable {nx : Bool}
open Go.RowKit Go.Shelf Go.Deep
open Go.Proofs.YteggcdhibcjneaaGreatDoor.Kd (Ans AnsV cell5 cell2)
open Go.Proofs.YteggcdhibcjneaaGreatDoor.Ink (OwnRow)
set_option linter.unusedVariables false
set_option linter.unusedSimpArgs false
attribute [local go_sem] run_store_func

theorem fill_nd_c {bo0 : Option Addr} {bc0 : Nat} {A wr : World} {q v2 c2 : Nat} {nu : Bool} {ao : Option Addr} {ca : Nat} {ro : Option Addr} {rc : Nat} (h : FillI nx A wr q nu ao ca 2 0 [.slice bo0 0 bc0, .int .i64 0, .pointer none, .slice (some ⟨v2, 0, none⟩) 2 c2, .int .i64 0, .pointer none] 2 ro rc) : ∃ r, ro = some ⟨r, 0, none⟩ ∧ A.heap.size ≤ r ∧ NdA nx wr q r rc nu ao ca 2 0 v2 2 c2 := by
  obtain ⟨hk, hn, ho, hl⟩ := h
  rcases ho.2 with ⟨_, h0⟩ | ⟨g, cap, cur, hv, _, hg, h1, h2, h3, h4⟩
  · exact absurd h0 (by decide)
  · cases hv
    have hc : ∀ j v, ([.slice bo0 0 bc0, .int .i64 0, .pointer none, .slice (some ⟨v2, 0, none⟩) 2 c2, .int .i64 0, .pointer none] : List Value)[j]? = some v → wr.cell? ⟨g, j, none⟩ = some v := fun j v hj => by
      have e : cur.toList[j]? = some v := by
        have h4' : cur.toList.take (2 * 3) = [.slice bo0 0 bc0, .int .i64 0, .pointer none, .slice (some ⟨v2, 0, none⟩) 2 c2, .int .i64 0, .pointer none] := h4
        rw [← h4', List.getElem?_take] at hj
        split at hj
        · exact hj
        · cases hj
      simp only [World.cell?, hg]
      simpa using e
    exact ⟨g, rfl, hl g rfl, ⟨hn, ⟨_, _, hc 0 _ rfl⟩, hc 1 _ rfl, hc 2 _ rfl, hc 3 _ rfl, hc 4 _ rfl, hc 5 _ rfl⟩⟩
theorem fill_nd_d {bo0 : Option Addr} {bc0 : Nat} {A wr : World} {q v2 c2 : Nat} {nu : Bool} {ao : Option Addr} {ca : Nat} {ro : Option Addr} {rc : Nat} (h : FillI nx A wr q nu ao ca 3 0 [.slice bo0 0 bc0, .int .i64 0, .pointer none, .slice (some ⟨v2, 0, none⟩) 3 c2, .int .i64 0, .pointer none] 2 ro rc) : ∃ r, ro = some ⟨r, 0, none⟩ ∧ A.heap.size ≤ r ∧ NdA nx wr q r rc nu ao ca 3 0 v2 3 c2 := by
  obtain ⟨hk, hn, ho, hl⟩ := h
  rcases ho.2 with ⟨_, h0⟩ | ⟨g, cap, cur, hv, _, hg, h1, h2, h3, h4⟩
  · exact absurd h0 (by decide)
  · cases hv
    have hc : ∀ j v, ([.slice bo0 0 bc0, .int .i64 0, .pointer none, .slice (some ⟨v2, 0, none⟩) 3 c2, .int .i64 0, .pointer none] : List Value)[j]? = some v → wr.cell? ⟨g, j, none⟩ = some v := fun j v hj => by
      have e : cur.toList[j]? = some v := by
        have h4' : cur.toList.take (2 * 3) = [.slice bo0 0 bc0, .int .i64 0, .pointer none, .slice (some ⟨v2, 0, none⟩) 3 c2, .int .i64 0, .pointer none] := h4
        rw [← h4', List.getElem?_take] at hj
        split at hj
        · exact hj
        · cases hj
      simp only [World.cell?, hg]
      simpa using e
    exact ⟨g, rfl, hl g rfl, ⟨hn, ⟨_, _, hc 0 _ rfl⟩, hc 1 _ rfl, hc 2 _ rfl, hc 3 _ rfl, hc 4 _ rfl, hc 5 _ rfl⟩⟩
theorem node47_c {bo0 : Option Addr} {bc0 : Nat} (c qb bc : Nat) (W : World) (q : Nat) (ao : Option Addr) (ca : Nat) (v2 c2 : Nat) (hq : W.heap[q]? = some (.cells (ndC nx false ao ca 2 0 (.slice none 0 0)) 143)) (hcc : W.heap[c]? = some (.cells #[.pointer none, .int .i64 0, .slice none 0 0] 174)) (hb0 : W.cell? ⟨qb, 0, none⟩ = some (.slice bo0 0 bc0)) (hb1 : W.cell? ⟨qb, 1, none⟩ = some (.slice (some ⟨v2, 0, none⟩) 2 c2)) (hqb : qb ≠ q) (hT : ∀ u, Keeps W u (fun z => z = q) → Tab u) :
    Calls Tryz.prog 90 #[.pointer (some ⟨c, 0, none⟩), .pointer (some ⟨q, 0, none⟩), .agg (dCo 2 0 (.slice (some ⟨qb, 0, none⟩) 2 bc))] W fun e w' => ∃ v r rc, e = .returned v ∧ Keeps W w' (fun z => z = q) ∧ W.heap.size ≤ r ∧ NdA nx w' q r rc false ao ca 2 0 v2 2 c2 := by
  obtain ⟨A, hA⟩ : ∃ A, W.alloc (.cells (dCo 2 0 (.slice (some ⟨qb, 0, none⟩) 2 bc)) 50) = A := ⟨_, rfl⟩
  have gA : Gr W A := by rw [← hA]; exact gr_alloc W _
  have hd : A.heap[W.heap.size]? = some (.cells (dCo 2 0 (.slice (some ⟨qb, 0, none⟩) 2 bc)) 50) := by rw [← hA]; exact heap_alloc_new W _
  have hql := lt_of_heap hq
  have ncq : c ≠ q := blk_ne hcc hq (by decide)
  have hcell : W.cell? ⟨c, 0, none⟩ = some (.pointer none) := (cell3V hcc).1
  have hS : ∀ u, Gr A u → u.cell? ⟨q, 2, none⟩ = some (.int .i64 3) ∧ u.cell? ⟨q, 3, none⟩ = some (.int .i64 0) ∧ u.cell? ⟨q, 4, none⟩ = some (.int .i64 0) ∧ u.cell? ⟨q, 5, none⟩ = some (.int .i64 0) ∧ u.cell? ⟨q, 6, none⟩ = some (.slice ao 0 ca) ∧ u.cell? ⟨W.heap.size, 0, none⟩ = some (.int .i64 2) ∧ u.cell? ⟨W.heap.size, 1, none⟩ = some (.int .i64 0) ∧ u.cell? ⟨W.heap.size, 2, none⟩ = some (.int .i64 0) ∧ u.cell? ⟨W.heap.size, 3, none⟩ = some (.slice (some ⟨qb, 0, none⟩) 2 bc) ∧ u.cell? ⟨W.heap.size, 4, none⟩ = some (.slice none 0 0) ∧ u.cell? ⟨W.heap.size, 5, none⟩ = some (.slice none 0 0) := fun u g => by
    obtain ⟨d0, d1, d2, d3, d4, d5⟩ := cell6 ((g.block _ (lt_of_heap hd) id).trans hd)
    obtain ⟨t0, t1, t2, t3, t4⟩ := cellT (((gA.trans g (fun _ _ h => h)).block q hql id).trans hq)
    exact ⟨t0, t1, t2, t3, t4, d0, d1, d2, d3, d4, d5⟩
  have HS0 := hidM (hS A.drew gr_drew)
  have HSS := hidM hS
  have H64 : Hid (∀ u, Gr A u → Calls Tryz.prog 108 #[.agg #[.int .i64 3, .int .i64 0, .int .i64 0, .int .i64 0, .slice ao 0 ca], .agg #[.int .i64 2, .int .i64 0, .int .i64 0, .slice (some ⟨qb, 0, none⟩) 2 bc, .slice none 0 0, .slice none 0 0]] u fun e w' => e = .returned (.int .i64 0) ∧ Gr u w') := fun u g => wrongShape64 ao ca 2 0 (some ⟨qb, 0, none⟩) bc u (hT u ((gA.trans g (fun _ _ h => h)).mono fun _ _ h => h.elim))
  have H65 : Hid (∀ u, Gr A u → Calls Tryz.prog 109 #[.pointer (some ⟨q, 0, none⟩)] u fun e w' => e = .returned (.int .i64 0) ∧ Gr u w') := fun u g => wrongNumbers65 q false ao ca 2 0 (.slice none 0 0) u (((gA.trans g (fun _ _ h => h)).block q hql id).trans hq) (by decide) (by decide)
  have H66 : Hid (∀ u, Gr A u → Calls Tryz.prog 110 #[.slice (some ⟨qb, 0, none⟩) 2 bc] u fun e w' => e = .returned (.tuple #[.int .i64 0, .int .i64 0]) ∧ w' = u) := fun u g => tooMany66 qb 2 bc u (fun k hk => by
    have g' := gA.trans g (fun _ _ h => h)
    have : k = 0 ∨ k = 1 := by omega
    rcases this with rfl | rfl
    · exact ⟨_, _, _, g'.cell' hb0 id, by decide⟩
    · exact ⟨_, _, _, g'.cell' hb1 id, by decide⟩) (by decide)
  have H67 : Hid (∀ u, Gr A u → Calls Tryz.prog 111 #[.pointer (some ⟨c, 0, none⟩), .pointer (some ⟨q, 0, none⟩), .agg #[.int .i64 2, .int .i64 0, .int .i64 0, .slice (some ⟨qb, 0, none⟩) 2 bc, .slice none 0 0, .slice none 0 0]] u fun e w' => e = .returned (.tuple #[]) ∧ Keeps u w' (fun z => z = q) ∧ ∃ r rc, u.heap.size ≤ r ∧ NdA nx w' q r rc false ao ca 2 0 v2 2 c2) := fun u g => by
    have g' := gA.trans g (fun _ _ h => h)
    refine (fill67 c q qb bc (fun k => if k = 0 then bo0 else some ⟨v2, 0, none⟩) (fun k => if k = 0 then 0 else 2) (fun k => if k = 0 then bc0 else c2) false ao ca 2 0 u ((g'.block q hql id).trans hq) (fun k hk => by
      have : k = 0 ∨ k = 1 := by omega
      rcases this with rfl | rfl
      · exact g'.cell' hb0 id
      · exact g'.cell' hb1 id) hqb (hT u (g'.mono fun _ _ h => h.elim)) (fun v k => hT v ((g'.mono fun _ _ h => h.elim).trans k (fun _ _ h => h)))).mono ?_
    rintro e w' ⟨ro, rc, he, hf⟩
    obtain ⟨r, -, hr, hn⟩ := fill_nd_c hf
    exact ⟨he, hf.1, r, rc, hr, hn⟩
  have H2 : Hid (∀ u w3 r rc, Gr A u → Keeps u w3 (fun z => z = q) → u.heap.size ≤ r → NdA nx w3 q r rc false ao ca 2 0 v2 2 c2 → ∀ w, Gr w3 w → NdA nx w q r rc false ao ca 2 0 v2 2 c2 ∧ w.heap[W.heap.size]? = some (.cells (dCo 2 0 (.slice (some ⟨qb, 0, none⟩) 2 bc)) 50) ∧ w.cell? ⟨c, 0, none⟩ = some (.pointer none) ∧ w.cell? ⟨qb, 0, none⟩ = some (.slice bo0 0 bc0) ∧ Keeps W w (fun z => z = q) ∧ W.heap.size ≤ r) := fun u w3 r rc g k hr hn w gw => by
    have g' := gA.trans g (fun _ _ h => h)
    have kW : Keeps W w (fun z => z = q) := ((g'.mono fun _ _ h => h.elim).trans k (fun _ _ h => h)).trans (gw.mono fun _ _ h => h.elim) (fun _ _ h => h)
    have kA : Keeps A w (fun z => z = q) := ((g.mono fun _ _ h => h.elim).trans k (fun _ _ h => h)).trans (gw.mono fun _ _ h => h.elim) (fun _ _ h => h)
    exact ⟨hn.gr gw, (kA.block _ (lt_of_heap hd) (fun e => by have e' : W.heap.size = q := e; omega)).trans hd, kW.cell' hcell ncq, kW.cell' hb0 hqb, kW, Nat.le_trans g'.size hr⟩
  clear gA hd hql ncq hcell hS hq hcc hb0 hb1 hqb hT
  unfold dCo at hA ⊢
  go_enter Tryz.func90, Tryz.ntmps90
  go_wp2_with fail
  clear hA
  go_region_held3 (fun u => u.cell? ⟨q, 2, none⟩ = some (.int .i64 3) ∧ u.cell? ⟨q, 3, none⟩ = some (.int .i64 0) ∧ u.cell? ⟨q, 4, none⟩ = some (.int .i64 0) ∧ u.cell? ⟨q, 5, none⟩ = some (.int .i64 0) ∧ u.cell? ⟨q, 6, none⟩ = some (.slice ao 0 ca) ∧ u.cell? ⟨W.heap.size, 0, none⟩ = some (.int .i64 2) ∧ u.cell? ⟨W.heap.size, 1, none⟩ = some (.int .i64 0) ∧ u.cell? ⟨W.heap.size, 2, none⟩ = some (.int .i64 0) ∧ u.cell? ⟨W.heap.size, 3, none⟩ = some (.slice (some ⟨qb, 0, none⟩) 2 bc) ∧ u.cell? ⟨W.heap.size, 4, none⟩ = some (.slice none 0 0) ∧ u.cell? ⟨W.heap.size, 5, none⟩ = some (.slice none 0 0)) (first | with_reducible exact HS0.out | with_reducible exact HS1.out) (first
    | (go_at_call 108; refine (H64.out _ gr_drew).mono ?_; rintro e w1 ⟨rfl, g1⟩; have HG1 : Hid (Gr A w1) := Keeps.trans gr_drew g1 (fun _ _ h => h); have HS1 := hidM (HSS.out w1 HG1.out); clear g1)
    | (go_at_call 107; refine (must63 _ _ _).mono ?_; rintro e w2 ⟨rfl, rfl⟩))
  go_wp2_with (first
    | (go_at_call 109; refine (H65.out _ HG1.out).mono ?_; rintro e w2 ⟨rfl, g2⟩; have HG2 := hidM (HG1.out.trans g2 (fun _ _ h => h)); obtain ⟨t0, t1, t2, t3, t4, d0, d1, d2, d3, d4, d5⟩ := HSS.out w2 HG2.out; clear g2)
    | (go_at_call 110; refine (H66.out _ HG2.out).mono ?_; rintro e w3 ⟨rfl, rfl⟩)
    | (go_at_call 111; refine (H67.out _ HG2.out).mono ?_; rintro e w3 ⟨rfl, k3, r, rc, hr3, hn3⟩; have HA := hidM (H2.out _ w3 r rc HG2.out k3 hr3 hn3); clear k3 hr3 hn3 t0 t1 t2 t3 t4 d0 d1 d2 d3 d4 d5)
    | (go_at_call 112; refine (tooSmall68_c _ q r rc false ao ca v2 c2 (HA.out _ (Keeps.refl _ _)).1).mono ?_; rintro e w4 ⟨rfl, g4⟩; have HG4 := hidM g4; obtain ⟨hn, hbx, hcp, hqb0, -, -⟩ := HA.out w4 g4; obtain ⟨d0, d1, d2, d3, d4, d5⟩ := cell6 hbx; have H69 : Hid (Calls Tryz.prog 113 #[.pointer (some ⟨q, 0, none⟩), .agg #[.int .i64 2, .int .i64 0, .int .i64 0, .slice (some ⟨qb, 0, none⟩) 2 bc, .slice none 0 0, .slice none 0 0]] w4 fun e w' => e = .returned (.int .i64 0) ∧ Gr w4 w') := wrongNulls69_c qb bc w4 q r rc false ao ca v2 c2 rfl hn hqb0; clear g4 hn hbx hcp hqb0)
    | (go_at_call 113; refine H69.out.mono ?_; rintro e w5 ⟨rfl, g5⟩; have HG5 := hidM (HG4.out.trans g5 (fun _ _ h => h)); clear g5 d0 d1 d2 d3 d4 d5)
    | (go_at_call 107; refine (must63 _ _ _).mono ?_; rintro e w99 ⟨rfl, hw⟩; replace hw := hw.symm; subst hw))
  have hmeth := method_wrong
  have HS5 := hidM ((cellF (HA.out w5.drew HG5.out.drew).1.nd).1)
  go_region_held3 (fun u => u.cell? ⟨q, 7, none⟩ = some (.iface 238 (.agg #[.int .i64 1, .bool true]))) (first | with_reducible exact HS5.out | with_reducible exact HS6.out) (first
    | (go_at_call 218; refine (wrong266 _ _ _).mono ?_; rintro e w6 ⟨rfl, g6⟩; have HG6 := hidM (HG5.out.drew.trans g6 (fun _ _ h => h)); have HS6 := hidM ((cellF (HA.out w6 HG6.out).1.nd).1); clear g6)
    | (go_at_call 107; refine (must63 _ _ _).mono ?_; rintro e w99 ⟨rfl, hw⟩; replace hw := hw.symm; subst hw))
  clear hmeth
  obtain ⟨hn, hbx, -, -, -, -⟩ := HA.out w6 HG6.out
  obtain ⟨d0, d1, d2, d3, d4, d5⟩ := cell6 hbx
  have H70 : Hid (Calls Tryz.prog 114 #[.pointer (some ⟨c, 0, none⟩), .pointer (some ⟨q, 0, none⟩), .agg #[.int .i64 2, .int .i64 0, .int .i64 0, .slice (some ⟨qb, 0, none⟩) 2 bc, .slice none 0 0, .slice none 0 0]] w6 fun e w' => ∃ g, e = .returned (.slice (some ⟨g, 0, none⟩) 0 0) ∧ Gr w6 w') := parts70_c _ qb bc w6 q r rc false ao ca v2 c2 hn
  clear hn hbx
  go_wp2_with (go_at_call 114; refine H70.out.mono ?_; rintro e w7 ⟨g, rfl, g7⟩; have HG7 := hidM (HG6.out.trans g7 (fun _ _ h => h)); clear g7 d0 d1 d2 d3 d4 d5)
  have hmeth := method_wrongBehind
  have HS7 := hidM ((cellF (HA.out w7.drew HG7.out.drew).1.nd).1)
  go_region_held3 (fun u => u.cell? ⟨q, 7, none⟩ = some (.iface 238 (.agg #[.int .i64 1, .bool true]))) (first | with_reducible exact HS7.out | with_reducible exact HS8.out) (first
    | (go_at_call 219; refine (wrong267 _ _ _).mono ?_; rintro e w8 ⟨rfl, g8⟩; have HG8 := hidM (HG7.out.drew.trans g8 (fun _ _ h => h)); have HS8 := hidM ((cellF (HA.out w8 HG8.out).1.nd).1); clear g8)
    | (go_at_call 107; refine (must63 _ _ _).mono ?_; rintro e w99 ⟨rfl, hw⟩; replace hw := hw.symm; subst hw))
  clear hmeth
  obtain ⟨hn, -, hcp, -, -, -⟩ := HA.out w8 HG8.out
  have H71 := hidM (weights71_c c (.slice (some ⟨g, 0, none⟩) 0 0) w8 q r rc false ao ca v2 c2 hn hcp)
  clear hn hcp
  go_wp2_with (first
    | (go_at_call 115; refine H71.out.mono ?_; rintro e w9 ⟨z, rfl, g9, z0, z1⟩; have HG9 := hidM (HG8.out.trans g9 (fun _ _ h => h)); have H72 := hidM (sum72_2 z 2 w9 z0 z1); clear g9 z0 z1)
    | (go_at_call 116; refine H72.out.mono ?_; rintro e w10 ⟨rfl, rfl⟩))
  go_ret
  obtain ⟨hn, -, -, -, hk, hr⟩ := HA.out _ HG9.out
  exact ⟨_, r, rc, rfl, hk, hr, hn⟩
theorem node47_d {bo0 : Option Addr} {bc0 : Nat} (c qb bc : Nat) (W : World) (q : Nat) (ao : Option Addr) (ca : Nat) (v2 c2 : Nat) (hq : W.heap[q]? = some (.cells (ndC nx false ao ca 3 0 (.slice none 0 0)) 143)) (hcc : W.heap[c]? = some (.cells #[.pointer none, .int .i64 0, .slice none 0 0] 174)) (hb0 : W.cell? ⟨qb, 0, none⟩ = some (.slice bo0 0 bc0)) (hb1 : W.cell? ⟨qb, 1, none⟩ = some (.slice (some ⟨v2, 0, none⟩) 3 c2)) (hqb : qb ≠ q) (hT : ∀ u, Keeps W u (fun z => z = q) → Tab u) :
    Calls Tryz.prog 90 #[.pointer (some ⟨c, 0, none⟩), .pointer (some ⟨q, 0, none⟩), .agg (dCo 3 0 (.slice (some ⟨qb, 0, none⟩) 2 bc))] W fun e w' => ∃ v r rc, e = .returned v ∧ Keeps W w' (fun z => z = q) ∧ W.heap.size ≤ r ∧ NdA nx w' q r rc false ao ca 3 0 v2 3 c2 := by
  obtain ⟨A, hA⟩ : ∃ A, W.alloc (.cells (dCo 3 0 (.slice (some ⟨qb, 0, none⟩) 2 bc)) 50) = A := ⟨_, rfl⟩
  have gA : Gr W A := by rw [← hA]; exact gr_alloc W _
  have hd : A.heap[W.heap.size]? = some (.cells (dCo 3 0 (.slice (some ⟨qb, 0, none⟩) 2 bc)) 50) := by rw [← hA]; exact heap_alloc_new W _
  have hql := lt_of_heap hq
  have ncq : c ≠ q := blk_ne hcc hq (by decide)
  have hcell : W.cell? ⟨c, 0, none⟩ = some (.pointer none) := (cell3V hcc).1
  have hS : ∀ u, Gr A u → u.cell? ⟨q, 2, none⟩ = some (.int .i64 3) ∧ u.cell? ⟨q, 3, none⟩ = some (.int .i64 0) ∧ u.cell? ⟨q, 4, none⟩ = some (.int .i64 0) ∧ u.cell? ⟨q, 5, none⟩ = some (.int .i64 0) ∧ u.cell? ⟨q, 6, none⟩ = some (.slice ao 0 ca) ∧ u.cell? ⟨W.heap.size, 0, none⟩ = some (.int .i64 3) ∧ u.cell? ⟨W.heap.size, 1, none⟩ = some (.int .i64 0) ∧ u.cell? ⟨W.heap.size, 2, none⟩ = some (.int .i64 0) ∧ u.cell? ⟨W.heap.size, 3, none⟩ = some (.slice (some ⟨qb, 0, none⟩) 2 bc) ∧ u.cell? ⟨W.heap.size, 4, none⟩ = some (.slice none 0 0) ∧ u.cell? ⟨W.heap.size, 5, none⟩ = some (.slice none 0 0) := fun u g => by
    obtain ⟨d0, d1, d2, d3, d4, d5⟩ := cell6 ((g.block _ (lt_of_heap hd) id).trans hd)
    obtain ⟨t0, t1, t2, t3, t4⟩ := cellT (((gA.trans g (fun _ _ h => h)).block q hql id).trans hq)
    exact ⟨t0, t1, t2, t3, t4, d0, d1, d2, d3, d4, d5⟩
  have HS0 := hidM (hS A.drew gr_drew)
  have HSS := hidM hS
  have H64 : Hid (∀ u, Gr A u → Calls Tryz.prog 108 #[.agg #[.int .i64 3, .int .i64 0, .int .i64 0, .int .i64 0, .slice ao 0 ca], .agg #[.int .i64 3, .int .i64 0, .int .i64 0, .slice (some ⟨qb, 0, none⟩) 2 bc, .slice none 0 0, .slice none 0 0]] u fun e w' => e = .returned (.int .i64 0) ∧ Gr u w') := fun u g => wrongShape64 ao ca 3 0 (some ⟨qb, 0, none⟩) bc u (hT u ((gA.trans g (fun _ _ h => h)).mono fun _ _ h => h.elim))
  have H65 : Hid (∀ u, Gr A u → Calls Tryz.prog 109 #[.pointer (some ⟨q, 0, none⟩)] u fun e w' => e = .returned (.int .i64 0) ∧ Gr u w') := fun u g => wrongNumbers65 q false ao ca 3 0 (.slice none 0 0) u (((gA.trans g (fun _ _ h => h)).block q hql id).trans hq) (by decide) (by decide)
  have H66 : Hid (∀ u, Gr A u → Calls Tryz.prog 110 #[.slice (some ⟨qb, 0, none⟩) 2 bc] u fun e w' => e = .returned (.tuple #[.int .i64 0, .int .i64 0]) ∧ w' = u) := fun u g => tooMany66 qb 2 bc u (fun k hk => by
    have g' := gA.trans g (fun _ _ h => h)
    have : k = 0 ∨ k = 1 := by omega
    rcases this with rfl | rfl
    · exact ⟨_, _, _, g'.cell' hb0 id, by decide⟩
    · exact ⟨_, _, _, g'.cell' hb1 id, by decide⟩) (by decide)
  have H67 : Hid (∀ u, Gr A u → Calls Tryz.prog 111 #[.pointer (some ⟨c, 0, none⟩), .pointer (some ⟨q, 0, none⟩), .agg #[.int .i64 3, .int .i64 0, .int .i64 0, .slice (some ⟨qb, 0, none⟩) 2 bc, .slice none 0 0, .slice none 0 0]] u fun e w' => e = .returned (.tuple #[]) ∧ Keeps u w' (fun z => z = q) ∧ ∃ r rc, u.heap.size ≤ r ∧ NdA nx w' q r rc false ao ca 3 0 v2 3 c2) := fun u g => by
    have g' := gA.trans g (fun _ _ h => h)
    refine (fill67 c q qb bc (fun k => if k = 0 then bo0 else some ⟨v2, 0, none⟩) (fun k => if k = 0 then 0 else 3) (fun k => if k = 0 then bc0 else c2) false ao ca 3 0 u ((g'.block q hql id).trans hq) (fun k hk => by
      have : k = 0 ∨ k = 1 := by omega
      rcases this with rfl | rfl
      · exact g'.cell' hb0 id
      · exact g'.cell' hb1 id) hqb (hT u (g'.mono fun _ _ h => h.elim)) (fun v k => hT v ((g'.mono fun _ _ h => h.elim).trans k (fun _ _ h => h)))).mono ?_
    rintro e w' ⟨ro, rc, he, hf⟩
    obtain ⟨r, -, hr, hn⟩ := fill_nd_d hf
    exact ⟨he, hf.1, r, rc, hr, hn⟩
  have H2 : Hid (∀ u w3 r rc, Gr A u → Keeps u w3 (fun z => z = q) → u.heap.size ≤ r → NdA nx w3 q r rc false ao ca 3 0 v2 3 c2 → ∀ w, Gr w3 w → NdA nx w q r rc false ao ca 3 0 v2 3 c2 ∧ w.heap[W.heap.size]? = some (.cells (dCo 3 0 (.slice (some ⟨qb, 0, none⟩) 2 bc)) 50) ∧ w.cell? ⟨c, 0, none⟩ = some (.pointer none) ∧ w.cell? ⟨qb, 0, none⟩ = some (.slice bo0 0 bc0) ∧ Keeps W w (fun z => z = q) ∧ W.heap.size ≤ r) := fun u w3 r rc g k hr hn w gw => by
    have g' := gA.trans g (fun _ _ h => h)
    have kW : Keeps W w (fun z => z = q) := ((g'.mono fun _ _ h => h.elim).trans k (fun _ _ h => h)).trans (gw.mono fun _ _ h => h.elim) (fun _ _ h => h)
    have kA : Keeps A w (fun z => z = q) := ((g.mono fun _ _ h => h.elim).trans k (fun _ _ h => h)).trans (gw.mono fun _ _ h => h.elim) (fun _ _ h => h)
    exact ⟨hn.gr gw, (kA.block _ (lt_of_heap hd) (fun e => by have e' : W.heap.size = q := e; omega)).trans hd, kW.cell' hcell ncq, kW.cell' hb0 hqb, kW, Nat.le_trans g'.size hr⟩
  clear gA hd hql ncq hcell hS hq hcc hb0 hb1 hqb hT
  unfold dCo at hA ⊢
  go_enter Tryz.func90, Tryz.ntmps90
  go_wp2_with fail
  clear hA
  go_region_held3 (fun u => u.cell? ⟨q, 2, none⟩ = some (.int .i64 3) ∧ u.cell? ⟨q, 3, none⟩ = some (.int .i64 0) ∧ u.cell? ⟨q, 4, none⟩ = some (.int .i64 0) ∧ u.cell? ⟨q, 5, none⟩ = some (.int .i64 0) ∧ u.cell? ⟨q, 6, none⟩ = some (.slice ao 0 ca) ∧ u.cell? ⟨W.heap.size, 0, none⟩ = some (.int .i64 3) ∧ u.cell? ⟨W.heap.size, 1, none⟩ = some (.int .i64 0) ∧ u.cell? ⟨W.heap.size, 2, none⟩ = some (.int .i64 0) ∧ u.cell? ⟨W.heap.size, 3, none⟩ = some (.slice (some ⟨qb, 0, none⟩) 2 bc) ∧ u.cell? ⟨W.heap.size, 4, none⟩ = some (.slice none 0 0) ∧ u.cell? ⟨W.heap.size, 5, none⟩ = some (.slice none 0 0)) (first | with_reducible exact HS0.out | with_reducible exact HS1.out) (first
    | (go_at_call 108; refine (H64.out _ gr_drew).mono ?_; rintro e w1 ⟨rfl, g1⟩; have HG1 : Hid (Gr A w1) := Keeps.trans gr_drew g1 (fun _ _ h => h); have HS1 := hidM (HSS.out w1 HG1.out); clear g1)
    | (go_at_call 107; refine (must63 _ _ _).mono ?_; rintro e w2 ⟨rfl, rfl⟩))
  go_wp2_with (first
    | (go_at_call 109; refine (H65.out _ HG1.out).mono ?_; rintro e w2 ⟨rfl, g2⟩; have HG2 := hidM (HG1.out.trans g2 (fun _ _ h => h)); obtain ⟨t0, t1, t2, t3, t4, d0, d1, d2, d3, d4, d5⟩ := HSS.out w2 HG2.out; clear g2)
    | (go_at_call 110; refine (H66.out _ HG2.out).mono ?_; rintro e w3 ⟨rfl, rfl⟩)
    | (go_at_call 111; refine (H67.out _ HG2.out).mono ?_; rintro e w3 ⟨rfl, k3, r, rc, hr3, hn3⟩; have HA := hidM (H2.out _ w3 r rc HG2.out k3 hr3 hn3); clear k3 hr3 hn3 t0 t1 t2 t3 t4 d0 d1 d2 d3 d4 d5)
    | (go_at_call 112; refine (tooSmall68_d _ q r rc false ao ca v2 c2 (HA.out _ (Keeps.refl _ _)).1).mono ?_; rintro e w4 ⟨rfl, g4⟩; have HG4 := hidM g4; obtain ⟨hn, hbx, hcp, hqb0, -, -⟩ := HA.out w4 g4; obtain ⟨d0, d1, d2, d3, d4, d5⟩ := cell6 hbx; have H69 : Hid (Calls Tryz.prog 113 #[.pointer (some ⟨q, 0, none⟩), .agg #[.int .i64 3, .int .i64 0, .int .i64 0, .slice (some ⟨qb, 0, none⟩) 2 bc, .slice none 0 0, .slice none 0 0]] w4 fun e w' => e = .returned (.int .i64 0) ∧ Gr w4 w') := wrongNulls69_d qb bc w4 q r rc false ao ca v2 c2 rfl hn hqb0; clear g4 hn hbx hcp hqb0)
    | (go_at_call 113; refine H69.out.mono ?_; rintro e w5 ⟨rfl, g5⟩; have HG5 := hidM (HG4.out.trans g5 (fun _ _ h => h)); clear g5 d0 d1 d2 d3 d4 d5)
    | (go_at_call 107; refine (must63 _ _ _).mono ?_; rintro e w99 ⟨rfl, hw⟩; replace hw := hw.symm; subst hw))
  have hmeth := method_wrong
  have HS5 := hidM ((cellF (HA.out w5.drew HG5.out.drew).1.nd).1)
  go_region_held3 (fun u => u.cell? ⟨q, 7, none⟩ = some (.iface 238 (.agg #[.int .i64 1, .bool true]))) (first | with_reducible exact HS5.out | with_reducible exact HS6.out) (first
    | (go_at_call 218; refine (wrong266 _ _ _).mono ?_; rintro e w6 ⟨rfl, g6⟩; have HG6 := hidM (HG5.out.drew.trans g6 (fun _ _ h => h)); have HS6 := hidM ((cellF (HA.out w6 HG6.out).1.nd).1); clear g6)
    | (go_at_call 107; refine (must63 _ _ _).mono ?_; rintro e w99 ⟨rfl, hw⟩; replace hw := hw.symm; subst hw))
  clear hmeth
  obtain ⟨hn, hbx, -, -, -, -⟩ := HA.out w6 HG6.out
  obtain ⟨d0, d1, d2, d3, d4, d5⟩ := cell6 hbx
  have H70 : Hid (Calls Tryz.prog 114 #[.pointer (some ⟨c, 0, none⟩), .pointer (some ⟨q, 0, none⟩), .agg #[.int .i64 3, .int .i64 0, .int .i64 0, .slice (some ⟨qb, 0, none⟩) 2 bc, .slice none 0 0, .slice none 0 0]] w6 fun e w' => ∃ g, e = .returned (.slice (some ⟨g, 0, none⟩) 0 0) ∧ Gr w6 w') := parts70_d _ qb bc w6 q r rc false ao ca v2 c2 hn
  clear hn hbx
  go_wp2_with (go_at_call 114; refine H70.out.mono ?_; rintro e w7 ⟨g, rfl, g7⟩; have HG7 := hidM (HG6.out.trans g7 (fun _ _ h => h)); clear g7 d0 d1 d2 d3 d4 d5)
  have hmeth := method_wrongBehind
  have HS7 := hidM ((cellF (HA.out w7.drew HG7.out.drew).1.nd).1)
  go_region_held3 (fun u => u.cell? ⟨q, 7, none⟩ = some (.iface 238 (.agg #[.int .i64 1, .bool true]))) (first | with_reducible exact HS7.out | with_reducible exact HS8.out) (first
    | (go_at_call 219; refine (wrong267 _ _ _).mono ?_; rintro e w8 ⟨rfl, g8⟩; have HG8 := hidM (HG7.out.drew.trans g8 (fun _ _ h => h)); have HS8 := hidM ((cellF (HA.out w8 HG8.out).1.nd).1); clear g8)
    | (go_at_call 107; refine (must63 _ _ _).mono ?_; rintro e w99 ⟨rfl, hw⟩; replace hw := hw.symm; subst hw))
  clear hmeth
  obtain ⟨hn, -, hcp, -, -, -⟩ := HA.out w8 HG8.out
  have H71 := hidM (weights71_d c (.slice (some ⟨g, 0, none⟩) 0 0) w8 q r rc false ao ca v2 c2 hn hcp)
  clear hn hcp
  go_wp2_with (first
    | (go_at_call 115; refine H71.out.mono ?_; rintro e w9 ⟨z, rfl, g9, z0, z1, z2⟩; have HG9 := hidM (HG8.out.trans g9 (fun _ _ h => h)); have H72 := hidM (sum72_3 z 3 w9 z0 z1 z2); clear g9 z0 z1 z2)
    | (go_at_call 116; refine H72.out.mono ?_; rintro e w10 ⟨rfl, rfl⟩))
  go_ret
  obtain ⟨hn, -, -, -, hk, hr⟩ := HA.out _ HG9.out
  exact ⟨_, r, rc, rfl, hk, hr, hn⟩
end Go.Proofs.YteggcdhibcjneaaGreatDoor.Kit
