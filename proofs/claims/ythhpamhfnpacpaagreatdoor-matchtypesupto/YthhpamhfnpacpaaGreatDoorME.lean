import Derived.Test.YthhpamhfnpacpaaGreatDoorCZ
set_option linter.unusedVariables false
set_option linter.unusedSimpArgs false
set_option maxRecDepth 100000
set_option maxHeartbeats 8000000
namespace Go.Proofs.YthhpamhfnpacpaaGreatDoor.Kit
variable {nx : Bool}
open Go.RowKit Go.Shelf Go.Deep
open Kd (Ans cell5 cell2)
open Go.Proofs.YthhpamhfnpacpaaGreatDoor.Ink (OwnRow)
attribute [local go_sem] run_store_func
theorem fill_nd_c {bo0 : Option Addr} {bc0 : Nat} {A wr : World} {q v2 c2 : Nat} {nu : Bool} {ao : Option Addr} {ca : Nat} {ro : Option Addr} {rc : Nat} (h : FillI nx A wr q nu ao ca 2 0 [.slice bo0 0 bc0, .int .i64 0, .pointer none, .slice (some ⟨v2, 0, none⟩) 2 c2, .int .i64 0, .pointer none] 2 ro rc) : ∃ r, ro = some ⟨r, 0, none⟩ ∧ A.heap.size ≤ r ∧ NdA nx wr q r rc nu ao ca 2 0 v2 2 c2 := by
 obtain ⟨hk, hn, ho, hl⟩ := h
 rcases ho.2 with ⟨_, h0⟩ | ⟨g, cap, cur, hv, _, hg, h1, h2, h3, h4⟩
 ·exact absurd h0 (by decide)
 cases hv
 have hc : ∀ j v, ([.slice bo0 0 bc0, .int .i64 0, .pointer none, .slice (some ⟨v2, 0, none⟩) 2 c2, .int .i64 0, .pointer none] : List Value)[j]? = some v → wr.cell? ⟨g, j, none⟩ = some v := fun j v hj => by
  have e : cur.toList[j]? = some v := by
   have h4' : cur.toList.take (2 * 3) = [.slice bo0 0 bc0, .int .i64 0, .pointer none, .slice (some ⟨v2, 0, none⟩) 2 c2, .int .i64 0, .pointer none] := h4
   rw [← h4', List.getElem?_take] at hj
   split at hj
   ·exact hj
   cases hj
  simp only [World.cell?, hg]
  simpa using e
 exact ⟨g, rfl, hl g rfl, ⟨hn, ⟨_, _, hc 0 _ rfl⟩, hc 1 _ rfl, hc 2 _ rfl, hc 3 _ rfl, hc 4 _ rfl, hc 5 _ rfl⟩⟩
theorem fill_nd_d {bo0 : Option Addr} {bc0 : Nat} {A wr : World} {q v2 c2 : Nat} {nu : Bool} {ao : Option Addr} {ca : Nat} {ro : Option Addr} {rc : Nat} (h : FillI nx A wr q nu ao ca 3 0 [.slice bo0 0 bc0, .int .i64 0, .pointer none, .slice (some ⟨v2, 0, none⟩) 3 c2, .int .i64 0, .pointer none] 2 ro rc) : ∃ r, ro = some ⟨r, 0, none⟩ ∧ A.heap.size ≤ r ∧ NdA nx wr q r rc nu ao ca 3 0 v2 3 c2 := by
 obtain ⟨hk, hn, ho, hl⟩ := h
 rcases ho.2 with ⟨_, h0⟩ | ⟨g, cap, cur, hv, _, hg, h1, h2, h3, h4⟩
 ·exact absurd h0 (by decide)
 cases hv
 have hc : ∀ j v, ([.slice bo0 0 bc0, .int .i64 0, .pointer none, .slice (some ⟨v2, 0, none⟩) 3 c2, .int .i64 0, .pointer none] : List Value)[j]? = some v → wr.cell? ⟨g, j, none⟩ = some v := fun j v hj => by
  have e : cur.toList[j]? = some v := by
   have h4' : cur.toList.take (2 * 3) = [.slice bo0 0 bc0, .int .i64 0, .pointer none, .slice (some ⟨v2, 0, none⟩) 3 c2, .int .i64 0, .pointer none] := h4
   rw [← h4', List.getElem?_take] at hj
   split at hj
   ·exact hj
   cases hj
  simp only [World.cell?, hg]
  simpa using e
 exact ⟨g, rfl, hl g rfl, ⟨hn, ⟨_, _, hc 0 _ rfl⟩, hc 1 _ rfl, hc 2 _ rfl, hc 3 _ rfl, hc 4 _ rfl, hc 5 _ rfl⟩⟩
theorem node47_c {bo0 : Option Addr} {bc0 : Nat} (c qb bc : Nat) (W : World) (q : Nat) (ao : Option Addr) (ca : Nat) (v2 c2 : Nat) (hq : W.heap[q]? = some (.cells (ndC nx false ao ca 2 0 (.slice none 0 0)) 165)) (hcc : W.heap[c]? = some (.cells #[.pointer none, .int .i64 0, .slice none 0 0] 190)) (hb0 : W.cell? ⟨qb, 0, none⟩ = some (.slice bo0 0 bc0)) (hb1 : W.cell? ⟨qb, 1, none⟩ = some (.slice (some ⟨v2, 0, none⟩) 2 c2)) (hqb : qb ≠ q) (hT : ∀ u, Keeps W u (fun z => z = q) → Tab u) :
  Calls Tryz.prog 113 #[.pointer (some ⟨c, 0, none⟩), .pointer (some ⟨q, 0, none⟩), .agg (dCo 2 0 (.slice (some ⟨qb, 0, none⟩) 2 bc))] W fun e w' => ∃ v r rc, e = .returned v ∧ Keeps W w' (fun z => z = q) ∧ W.heap.size ≤ r ∧ NdA nx w' q r rc false ao ca 2 0 v2 2 c2 := by
 obtain ⟨A, hA⟩ := ex (W.alloc (.cells (dCo 2 0 (.slice (some ⟨qb, 0, none⟩) 2 bc)) 68))
 have gA := gr_al hA
 have hd : A.heap[W.heap.size]? = some (.cells (dCo 2 0 (.slice (some ⟨qb, 0, none⟩) 2 bc)) 68) := by rw [← hA]; exact heap_alloc_new W _
 have hql := lt_of_heap hq
 have ncq : c ≠ q := blk_ne hcc hq (by decide)
 have hcell : W.cell? ⟨c, 0, none⟩ = some (.pointer none) := (cell3V hcc).1
 have hS : ∀ u, Gr A u → u.cell? ⟨q, 2, none⟩ = some (.int .i64 3) ∧ u.cell? ⟨q, 3, none⟩ = some (.int .i64 0) ∧ u.cell? ⟨q, 4, none⟩ = some (.int .i64 0) ∧ u.cell? ⟨q, 5, none⟩ = some (.int .i64 0) ∧ u.cell? ⟨q, 6, none⟩ = some (.slice ao 0 ca) ∧ u.cell? ⟨W.heap.size, 0, none⟩ = some (.int .i64 2) ∧ u.cell? ⟨W.heap.size, 1, none⟩ = some (.int .i64 0) ∧ u.cell? ⟨W.heap.size, 2, none⟩ = some (.int .i64 0) ∧ u.cell? ⟨W.heap.size, 3, none⟩ = some (.slice (some ⟨qb, 0, none⟩) 2 bc) ∧ u.cell? ⟨W.heap.size, 4, none⟩ = some (.slice none 0 0) ∧ u.cell? ⟨W.heap.size, 5, none⟩ = some (.slice none 0 0) := fun u g => by
  obtain ⟨d0, d1, d2, d3, d4, d5⟩ := cell6 ((g.block _ (lt_of_heap hd) id).trans hd)
  obtain ⟨t0, t1, t2, t3, t4⟩ := cellT (((gA.tr g).block q hql id).trans hq)
  exact ⟨t0, t1, t2, t3, t4, d0, d1, d2, d3, d4, d5⟩
 have HS0 := hidM (hS A.drew gr_drew)
 have HSS := hidM hS
 have H64 : Hid (∀ u, Gr A u → Calls Tryz.prog 125 #[.agg #[.int .i64 3, .int .i64 0, .int .i64 0, .int .i64 0, .slice ao 0 ca], .agg #[.int .i64 2, .int .i64 0, .int .i64 0, .slice (some ⟨qb, 0, none⟩) 2 bc, .slice none 0 0, .slice none 0 0]] u fun e w' => e = .returned (.int .i64 0) ∧ Gr u w') := fun u g => wrongShape64 ao ca 2 0 (some ⟨qb, 0, none⟩) bc u (hT u ((gA.tr g).mono fun _ _ h => h.elim))
 have H65 : Hid (∀ u, Gr A u → Calls Tryz.prog 126 #[.pointer (some ⟨q, 0, none⟩)] u fun e w' => e = .returned (.int .i64 0) ∧ Gr u w') := fun u g => wrongNumbers65 q false ao ca 2 0 (.slice none 0 0) u (((gA.tr g).block q hql id).trans hq) (by decide) (by decide)
 have H66 : Hid (∀ u, Gr A u → Calls Tryz.prog 127 #[.slice (some ⟨qb, 0, none⟩) 2 bc] u fun e w' => e = .returned (.tuple #[.int .i64 0, .int .i64 0]) ∧ w' = u) := fun u g => tooMany66 qb 2 bc u (fun k hk => by
  have g' := gA.tr g
  have : k = 0 ∨ k = 1 := by omega
  rcases this with rfl | rfl
  ·exact ⟨_, _, _, g'.cell' hb0 id, by decide⟩
  exact ⟨_, _, _, g'.cell' hb1 id, by decide⟩) (by decide)
 have H67 : Hid (∀ u, Gr A u → Calls Tryz.prog 128 #[.pointer (some ⟨c, 0, none⟩), .pointer (some ⟨q, 0, none⟩), .agg #[.int .i64 2, .int .i64 0, .int .i64 0, .slice (some ⟨qb, 0, none⟩) 2 bc, .slice none 0 0, .slice none 0 0]] u fun e w' => e = .returned (.tuple #[]) ∧ Keeps u w' (fun z => z = q) ∧ ∃ r rc, u.heap.size ≤ r ∧ NdA nx w' q r rc false ao ca 2 0 v2 2 c2) := fun u g => by
  have g' := gA.tr g
  refine (fill67 c q qb bc (fun k => if k = 0 then bo0 else some ⟨v2, 0, none⟩) (fun k => if k = 0 then 0 else 2) (fun k => if k = 0 then bc0 else c2) false ao ca 2 0 u ((g'.block q hql id).trans hq) (fun k hk => by
   have : k = 0 ∨ k = 1 := by omega
   rcases this with rfl | rfl
   ·exact g'.cell' hb0 id
   exact g'.cell' hb1 id) hqb (hT u (g'.mono fun _ _ h => h.elim)) (fun v k => hT v ((g'.mono fun _ _ h => h.elim).tr k))).mono ?_
  rintro e w' ⟨ro, rc, he, hf⟩
  obtain ⟨r, -, hr, hn⟩ := fill_nd_c hf
  exact ⟨he, hf.1, r, rc, hr, hn⟩
 have H2 : Hid (∀ u w3 r rc, Gr A u → Keeps u w3 (fun z => z = q) → u.heap.size ≤ r → NdA nx w3 q r rc false ao ca 2 0 v2 2 c2 → ∀ w, Gr w3 w → NdA nx w q r rc false ao ca 2 0 v2 2 c2 ∧ w.heap[W.heap.size]? = some (.cells (dCo 2 0 (.slice (some ⟨qb, 0, none⟩) 2 bc)) 68) ∧ w.cell? ⟨c, 0, none⟩ = some (.pointer none) ∧ w.cell? ⟨qb, 0, none⟩ = some (.slice bo0 0 bc0) ∧ Keeps W w (fun z => z = q) ∧ W.heap.size ≤ r) := fun u w3 r rc g k hr hn w gw => by
  have g' := gA.tr g
  have kW : Keeps W w (fun z => z = q) := ((g'.mono fun _ _ h => h.elim).tr k).tr (gw.mono fun _ _ h => h.elim)
  have kA : Keeps A w (fun z => z = q) := ((g.mono fun _ _ h => h.elim).tr k).tr (gw.mono fun _ _ h => h.elim)
  exact ⟨hn.gr gw, (kA.block _ (lt_of_heap hd) (fun e => by have e' : W.heap.size = q := e; omega)).trans hd, kW.cell' hcell ncq, kW.cell' hb0 hqb, kW, Nat.le_trans g'.size hr⟩
 clear gA hd hql ncq hcell hS hq hcc hb0 hb1 hqb hT
 unfold dCo at hA ⊢
 go_enter Tryz.func113, Tryz.ntmps113
 go_wp2_with fail
 clear hA
 go_region_held3 (fun u => u.cell? ⟨q, 2, none⟩ = some (.int .i64 3) ∧ u.cell? ⟨q, 3, none⟩ = some (.int .i64 0) ∧ u.cell? ⟨q, 4, none⟩ = some (.int .i64 0) ∧ u.cell? ⟨q, 5, none⟩ = some (.int .i64 0) ∧ u.cell? ⟨q, 6, none⟩ = some (.slice ao 0 ca) ∧ u.cell? ⟨W.heap.size, 0, none⟩ = some (.int .i64 2) ∧ u.cell? ⟨W.heap.size, 1, none⟩ = some (.int .i64 0) ∧ u.cell? ⟨W.heap.size, 2, none⟩ = some (.int .i64 0) ∧ u.cell? ⟨W.heap.size, 3, none⟩ = some (.slice (some ⟨qb, 0, none⟩) 2 bc) ∧ u.cell? ⟨W.heap.size, 4, none⟩ = some (.slice none 0 0) ∧ u.cell? ⟨W.heap.size, 5, none⟩ = some (.slice none 0 0)) (first | with_reducible exact HS0.out | with_reducible exact HS1.out) (first
  | (go_at_call 125; refine (H64.out _ gr_drew).mono ?_; rintro e w1 ⟨rfl, g1⟩; have HG1 : Hid (Gr A w1) := Keeps.trans gr_drew g1 (fun _ _ h => h); have HS1 := hidM (HSS.out w1 HG1.out); clear g1)
  | (go_at_call 124; refine (must63 _ _ _).mono ?_; rintro e w2 ⟨rfl, rfl⟩))
 go_wp2_with (first
  | (go_at_call 126; refine (H65.out _ HG1.out).mono ?_; rintro e w2 ⟨rfl, g2⟩; have HG2 := hidM (HG1.out.tr g2); obtain ⟨t0, t1, t2, t3, t4, d0, d1, d2, d3, d4, d5⟩ := HSS.out w2 HG2.out; clear g2)
  | (go_at_call 127; refine (H66.out _ HG2.out).mono ?_; rintro e w3 ⟨rfl, rfl⟩)
  | (go_at_call 128; refine (H67.out _ HG2.out).mono ?_; rintro e w3 ⟨rfl, k3, r, rc, hr3, hn3⟩; have HA := hidM (H2.out _ w3 r rc HG2.out k3 hr3 hn3); clear k3 hr3 hn3 t0 t1 t2 t3 t4 d0 d1 d2 d3 d4 d5)
  | (go_at_call 129; refine (tooSmall68_c _ q r rc false ao ca v2 c2 (HA.out _ (Keeps.refl _ _)).1).mono ?_; rintro e w4 ⟨rfl, g4⟩; have HG4 := hidM g4; obtain ⟨hn, hbx, hcp, hqb0, -, -⟩ := HA.out w4 g4; obtain ⟨d0, d1, d2, d3, d4, d5⟩ := cell6 hbx; have H69 : Hid (Calls Tryz.prog 130 #[.pointer (some ⟨q, 0, none⟩), .agg #[.int .i64 2, .int .i64 0, .int .i64 0, .slice (some ⟨qb, 0, none⟩) 2 bc, .slice none 0 0, .slice none 0 0]] w4 fun e w' => e = .returned (.int .i64 0) ∧ Gr w4 w') := wrongNulls69_c qb bc w4 q r rc false ao ca v2 c2 rfl hn hqb0; clear g4 hn hbx hcp hqb0)
  | (go_at_call 130; refine H69.out.mono ?_; rintro e w5 ⟨rfl, g5⟩; have HG5 := hidM (HG4.out.tr g5); clear g5 d0 d1 d2 d3 d4 d5)
  | (go_at_call 124; refine (must63 _ _ _).mono ?_; rintro e w99 ⟨rfl, hw⟩; replace hw := hw.symm; subst hw))
 have hmeth := method_wrong
 have HS5 := hidM ((cellF (HA.out w5.drew HG5.out.drew).1.nd).1)
 go_region_held3 (fun u => u.cell? ⟨q, 7, none⟩ = some (.iface 249 (.agg #[.int .i64 1, .bool true]))) (first | with_reducible exact HS5.out | with_reducible exact HS6.out) (first
  | (go_at_call 234; refine (wrong266 _ _ _).mono ?_; rintro e w6 ⟨rfl, g6⟩; have HG6 := hidM (HG5.out.drew.tr g6); have HS6 := hidM ((cellF (HA.out w6 HG6.out).1.nd).1); clear g6)
  | (go_at_call 124; refine (must63 _ _ _).mono ?_; rintro e w99 ⟨rfl, hw⟩; replace hw := hw.symm; subst hw))
 clear hmeth
 obtain ⟨hn, hbx, -, -, -, -⟩ := HA.out w6 HG6.out
 obtain ⟨d0, d1, d2, d3, d4, d5⟩ := cell6 hbx
 have H70 : Hid (Calls Tryz.prog 131 #[.pointer (some ⟨c, 0, none⟩), .pointer (some ⟨q, 0, none⟩), .agg #[.int .i64 2, .int .i64 0, .int .i64 0, .slice (some ⟨qb, 0, none⟩) 2 bc, .slice none 0 0, .slice none 0 0]] w6 fun e w' => ∃ g, e = .returned (.slice (some ⟨g, 0, none⟩) 0 0) ∧ Gr w6 w') := parts70_c _ qb bc w6 q r rc false ao ca v2 c2 hn
 clear hn hbx
 go_wp2_with (go_at_call 131; refine H70.out.mono ?_; rintro e w7 ⟨g, rfl, g7⟩; have HG7 := hidM (HG6.out.tr g7); clear g7 d0 d1 d2 d3 d4 d5)
 have hmeth := method_wrongBehind
 have HS7 := hidM ((cellF (HA.out w7.drew HG7.out.drew).1.nd).1)
 go_region_held3 (fun u => u.cell? ⟨q, 7, none⟩ = some (.iface 249 (.agg #[.int .i64 1, .bool true]))) (first | with_reducible exact HS7.out | with_reducible exact HS8.out) (first
  | (go_at_call 235; refine (wrong267 _ _ _).mono ?_; rintro e w8 ⟨rfl, g8⟩; have HG8 := hidM (HG7.out.drew.tr g8); have HS8 := hidM ((cellF (HA.out w8 HG8.out).1.nd).1); clear g8)
  | (go_at_call 124; refine (must63 _ _ _).mono ?_; rintro e w99 ⟨rfl, hw⟩; replace hw := hw.symm; subst hw))
 clear hmeth
 obtain ⟨hn, -, hcp, -, -, -⟩ := HA.out w8 HG8.out
 have H71 := hidM (weights71_c c (.slice (some ⟨g, 0, none⟩) 0 0) w8 q r rc false ao ca v2 c2 hn hcp)
 clear hn hcp
 go_wp2_with (first
  | (go_at_call 132; refine H71.out.mono ?_; rintro e w9 ⟨z, rfl, g9, z0, z1⟩; have HG9 := hidM (HG8.out.tr g9); have H72 := hidM (sum72_2 z 2 w9 z0 z1); clear g9 z0 z1)
  | (go_at_call 133; refine H72.out.mono ?_; rintro e w10 ⟨rfl, rfl⟩))
 go_ret
 obtain ⟨hn, -, -, -, hk, hr⟩ := HA.out _ HG9.out
 exact ⟨_, r, rc, rfl, hk, hr, hn⟩
theorem node47_d {bo0 : Option Addr} {bc0 : Nat} (c qb bc : Nat) (W : World) (q : Nat) (ao : Option Addr) (ca : Nat) (v2 c2 : Nat) (hq : W.heap[q]? = some (.cells (ndC nx false ao ca 3 0 (.slice none 0 0)) 165)) (hcc : W.heap[c]? = some (.cells #[.pointer none, .int .i64 0, .slice none 0 0] 190)) (hb0 : W.cell? ⟨qb, 0, none⟩ = some (.slice bo0 0 bc0)) (hb1 : W.cell? ⟨qb, 1, none⟩ = some (.slice (some ⟨v2, 0, none⟩) 3 c2)) (hqb : qb ≠ q) (hT : ∀ u, Keeps W u (fun z => z = q) → Tab u) :
  Calls Tryz.prog 113 #[.pointer (some ⟨c, 0, none⟩), .pointer (some ⟨q, 0, none⟩), .agg (dCo 3 0 (.slice (some ⟨qb, 0, none⟩) 2 bc))] W fun e w' => ∃ v r rc, e = .returned v ∧ Keeps W w' (fun z => z = q) ∧ W.heap.size ≤ r ∧ NdA nx w' q r rc false ao ca 3 0 v2 3 c2 := by
 obtain ⟨A, hA⟩ := ex (W.alloc (.cells (dCo 3 0 (.slice (some ⟨qb, 0, none⟩) 2 bc)) 68))
 have gA := gr_al hA
 have hd : A.heap[W.heap.size]? = some (.cells (dCo 3 0 (.slice (some ⟨qb, 0, none⟩) 2 bc)) 68) := by rw [← hA]; exact heap_alloc_new W _
 have hql := lt_of_heap hq
 have ncq : c ≠ q := blk_ne hcc hq (by decide)
 have hcell : W.cell? ⟨c, 0, none⟩ = some (.pointer none) := (cell3V hcc).1
 have hS : ∀ u, Gr A u → u.cell? ⟨q, 2, none⟩ = some (.int .i64 3) ∧ u.cell? ⟨q, 3, none⟩ = some (.int .i64 0) ∧ u.cell? ⟨q, 4, none⟩ = some (.int .i64 0) ∧ u.cell? ⟨q, 5, none⟩ = some (.int .i64 0) ∧ u.cell? ⟨q, 6, none⟩ = some (.slice ao 0 ca) ∧ u.cell? ⟨W.heap.size, 0, none⟩ = some (.int .i64 3) ∧ u.cell? ⟨W.heap.size, 1, none⟩ = some (.int .i64 0) ∧ u.cell? ⟨W.heap.size, 2, none⟩ = some (.int .i64 0) ∧ u.cell? ⟨W.heap.size, 3, none⟩ = some (.slice (some ⟨qb, 0, none⟩) 2 bc) ∧ u.cell? ⟨W.heap.size, 4, none⟩ = some (.slice none 0 0) ∧ u.cell? ⟨W.heap.size, 5, none⟩ = some (.slice none 0 0) := fun u g => by
  obtain ⟨d0, d1, d2, d3, d4, d5⟩ := cell6 ((g.block _ (lt_of_heap hd) id).trans hd)
  obtain ⟨t0, t1, t2, t3, t4⟩ := cellT (((gA.tr g).block q hql id).trans hq)
  exact ⟨t0, t1, t2, t3, t4, d0, d1, d2, d3, d4, d5⟩
 have HS0 := hidM (hS A.drew gr_drew)
 have HSS := hidM hS
 have H64 : Hid (∀ u, Gr A u → Calls Tryz.prog 125 #[.agg #[.int .i64 3, .int .i64 0, .int .i64 0, .int .i64 0, .slice ao 0 ca], .agg #[.int .i64 3, .int .i64 0, .int .i64 0, .slice (some ⟨qb, 0, none⟩) 2 bc, .slice none 0 0, .slice none 0 0]] u fun e w' => e = .returned (.int .i64 0) ∧ Gr u w') := fun u g => wrongShape64 ao ca 3 0 (some ⟨qb, 0, none⟩) bc u (hT u ((gA.tr g).mono fun _ _ h => h.elim))
 have H65 : Hid (∀ u, Gr A u → Calls Tryz.prog 126 #[.pointer (some ⟨q, 0, none⟩)] u fun e w' => e = .returned (.int .i64 0) ∧ Gr u w') := fun u g => wrongNumbers65 q false ao ca 3 0 (.slice none 0 0) u (((gA.tr g).block q hql id).trans hq) (by decide) (by decide)
 have H66 : Hid (∀ u, Gr A u → Calls Tryz.prog 127 #[.slice (some ⟨qb, 0, none⟩) 2 bc] u fun e w' => e = .returned (.tuple #[.int .i64 0, .int .i64 0]) ∧ w' = u) := fun u g => tooMany66 qb 2 bc u (fun k hk => by
  have g' := gA.tr g
  have : k = 0 ∨ k = 1 := by omega
  rcases this with rfl | rfl
  ·exact ⟨_, _, _, g'.cell' hb0 id, by decide⟩
  exact ⟨_, _, _, g'.cell' hb1 id, by decide⟩) (by decide)
 have H67 : Hid (∀ u, Gr A u → Calls Tryz.prog 128 #[.pointer (some ⟨c, 0, none⟩), .pointer (some ⟨q, 0, none⟩), .agg #[.int .i64 3, .int .i64 0, .int .i64 0, .slice (some ⟨qb, 0, none⟩) 2 bc, .slice none 0 0, .slice none 0 0]] u fun e w' => e = .returned (.tuple #[]) ∧ Keeps u w' (fun z => z = q) ∧ ∃ r rc, u.heap.size ≤ r ∧ NdA nx w' q r rc false ao ca 3 0 v2 3 c2) := fun u g => by
  have g' := gA.tr g
  refine (fill67 c q qb bc (fun k => if k = 0 then bo0 else some ⟨v2, 0, none⟩) (fun k => if k = 0 then 0 else 3) (fun k => if k = 0 then bc0 else c2) false ao ca 3 0 u ((g'.block q hql id).trans hq) (fun k hk => by
   have : k = 0 ∨ k = 1 := by omega
   rcases this with rfl | rfl
   ·exact g'.cell' hb0 id
   exact g'.cell' hb1 id) hqb (hT u (g'.mono fun _ _ h => h.elim)) (fun v k => hT v ((g'.mono fun _ _ h => h.elim).tr k))).mono ?_
  rintro e w' ⟨ro, rc, he, hf⟩
  obtain ⟨r, -, hr, hn⟩ := fill_nd_d hf
  exact ⟨he, hf.1, r, rc, hr, hn⟩
 have H2 : Hid (∀ u w3 r rc, Gr A u → Keeps u w3 (fun z => z = q) → u.heap.size ≤ r → NdA nx w3 q r rc false ao ca 3 0 v2 3 c2 → ∀ w, Gr w3 w → NdA nx w q r rc false ao ca 3 0 v2 3 c2 ∧ w.heap[W.heap.size]? = some (.cells (dCo 3 0 (.slice (some ⟨qb, 0, none⟩) 2 bc)) 68) ∧ w.cell? ⟨c, 0, none⟩ = some (.pointer none) ∧ w.cell? ⟨qb, 0, none⟩ = some (.slice bo0 0 bc0) ∧ Keeps W w (fun z => z = q) ∧ W.heap.size ≤ r) := fun u w3 r rc g k hr hn w gw => by
  have g' := gA.tr g
  have kW : Keeps W w (fun z => z = q) := ((g'.mono fun _ _ h => h.elim).tr k).tr (gw.mono fun _ _ h => h.elim)
  have kA : Keeps A w (fun z => z = q) := ((g.mono fun _ _ h => h.elim).tr k).tr (gw.mono fun _ _ h => h.elim)
  exact ⟨hn.gr gw, (kA.block _ (lt_of_heap hd) (fun e => by have e' : W.heap.size = q := e; omega)).trans hd, kW.cell' hcell ncq, kW.cell' hb0 hqb, kW, Nat.le_trans g'.size hr⟩
 clear gA hd hql ncq hcell hS hq hcc hb0 hb1 hqb hT
 unfold dCo at hA ⊢
 go_enter Tryz.func113, Tryz.ntmps113
 go_wp2_with fail
 clear hA
 go_region_held3 (fun u => u.cell? ⟨q, 2, none⟩ = some (.int .i64 3) ∧ u.cell? ⟨q, 3, none⟩ = some (.int .i64 0) ∧ u.cell? ⟨q, 4, none⟩ = some (.int .i64 0) ∧ u.cell? ⟨q, 5, none⟩ = some (.int .i64 0) ∧ u.cell? ⟨q, 6, none⟩ = some (.slice ao 0 ca) ∧ u.cell? ⟨W.heap.size, 0, none⟩ = some (.int .i64 3) ∧ u.cell? ⟨W.heap.size, 1, none⟩ = some (.int .i64 0) ∧ u.cell? ⟨W.heap.size, 2, none⟩ = some (.int .i64 0) ∧ u.cell? ⟨W.heap.size, 3, none⟩ = some (.slice (some ⟨qb, 0, none⟩) 2 bc) ∧ u.cell? ⟨W.heap.size, 4, none⟩ = some (.slice none 0 0) ∧ u.cell? ⟨W.heap.size, 5, none⟩ = some (.slice none 0 0)) (first | with_reducible exact HS0.out | with_reducible exact HS1.out) (first
  | (go_at_call 125; refine (H64.out _ gr_drew).mono ?_; rintro e w1 ⟨rfl, g1⟩; have HG1 : Hid (Gr A w1) := Keeps.trans gr_drew g1 (fun _ _ h => h); have HS1 := hidM (HSS.out w1 HG1.out); clear g1)
  | (go_at_call 124; refine (must63 _ _ _).mono ?_; rintro e w2 ⟨rfl, rfl⟩))
 go_wp2_with (first
  | (go_at_call 126; refine (H65.out _ HG1.out).mono ?_; rintro e w2 ⟨rfl, g2⟩; have HG2 := hidM (HG1.out.tr g2); obtain ⟨t0, t1, t2, t3, t4, d0, d1, d2, d3, d4, d5⟩ := HSS.out w2 HG2.out; clear g2)
  | (go_at_call 127; refine (H66.out _ HG2.out).mono ?_; rintro e w3 ⟨rfl, rfl⟩)
  | (go_at_call 128; refine (H67.out _ HG2.out).mono ?_; rintro e w3 ⟨rfl, k3, r, rc, hr3, hn3⟩; have HA := hidM (H2.out _ w3 r rc HG2.out k3 hr3 hn3); clear k3 hr3 hn3 t0 t1 t2 t3 t4 d0 d1 d2 d3 d4 d5)
  | (go_at_call 129; refine (tooSmall68_d _ q r rc false ao ca v2 c2 (HA.out _ (Keeps.refl _ _)).1).mono ?_; rintro e w4 ⟨rfl, g4⟩; have HG4 := hidM g4; obtain ⟨hn, hbx, hcp, hqb0, -, -⟩ := HA.out w4 g4; obtain ⟨d0, d1, d2, d3, d4, d5⟩ := cell6 hbx; have H69 : Hid (Calls Tryz.prog 130 #[.pointer (some ⟨q, 0, none⟩), .agg #[.int .i64 3, .int .i64 0, .int .i64 0, .slice (some ⟨qb, 0, none⟩) 2 bc, .slice none 0 0, .slice none 0 0]] w4 fun e w' => e = .returned (.int .i64 0) ∧ Gr w4 w') := wrongNulls69_d qb bc w4 q r rc false ao ca v2 c2 rfl hn hqb0; clear g4 hn hbx hcp hqb0)
  | (go_at_call 130; refine H69.out.mono ?_; rintro e w5 ⟨rfl, g5⟩; have HG5 := hidM (HG4.out.tr g5); clear g5 d0 d1 d2 d3 d4 d5)
  | (go_at_call 124; refine (must63 _ _ _).mono ?_; rintro e w99 ⟨rfl, hw⟩; replace hw := hw.symm; subst hw))
 have hmeth := method_wrong
 have HS5 := hidM ((cellF (HA.out w5.drew HG5.out.drew).1.nd).1)
 go_region_held3 (fun u => u.cell? ⟨q, 7, none⟩ = some (.iface 249 (.agg #[.int .i64 1, .bool true]))) (first | with_reducible exact HS5.out | with_reducible exact HS6.out) (first
  | (go_at_call 234; refine (wrong266 _ _ _).mono ?_; rintro e w6 ⟨rfl, g6⟩; have HG6 := hidM (HG5.out.drew.tr g6); have HS6 := hidM ((cellF (HA.out w6 HG6.out).1.nd).1); clear g6)
  | (go_at_call 124; refine (must63 _ _ _).mono ?_; rintro e w99 ⟨rfl, hw⟩; replace hw := hw.symm; subst hw))
 clear hmeth
 obtain ⟨hn, hbx, -, -, -, -⟩ := HA.out w6 HG6.out
 obtain ⟨d0, d1, d2, d3, d4, d5⟩ := cell6 hbx
 have H70 : Hid (Calls Tryz.prog 131 #[.pointer (some ⟨c, 0, none⟩), .pointer (some ⟨q, 0, none⟩), .agg #[.int .i64 3, .int .i64 0, .int .i64 0, .slice (some ⟨qb, 0, none⟩) 2 bc, .slice none 0 0, .slice none 0 0]] w6 fun e w' => ∃ g, e = .returned (.slice (some ⟨g, 0, none⟩) 0 0) ∧ Gr w6 w') := parts70_d _ qb bc w6 q r rc false ao ca v2 c2 hn
 clear hn hbx
 go_wp2_with (go_at_call 131; refine H70.out.mono ?_; rintro e w7 ⟨g, rfl, g7⟩; have HG7 := hidM (HG6.out.tr g7); clear g7 d0 d1 d2 d3 d4 d5)
 have hmeth := method_wrongBehind
 have HS7 := hidM ((cellF (HA.out w7.drew HG7.out.drew).1.nd).1)
 go_region_held3 (fun u => u.cell? ⟨q, 7, none⟩ = some (.iface 249 (.agg #[.int .i64 1, .bool true]))) (first | with_reducible exact HS7.out | with_reducible exact HS8.out) (first
  | (go_at_call 235; refine (wrong267 _ _ _).mono ?_; rintro e w8 ⟨rfl, g8⟩; have HG8 := hidM (HG7.out.drew.tr g8); have HS8 := hidM ((cellF (HA.out w8 HG8.out).1.nd).1); clear g8)
  | (go_at_call 124; refine (must63 _ _ _).mono ?_; rintro e w99 ⟨rfl, hw⟩; replace hw := hw.symm; subst hw))
 clear hmeth
 obtain ⟨hn, -, hcp, -, -, -⟩ := HA.out w8 HG8.out
 have H71 := hidM (weights71_d c (.slice (some ⟨g, 0, none⟩) 0 0) w8 q r rc false ao ca v2 c2 hn hcp)
 clear hn hcp
 go_wp2_with (first
  | (go_at_call 132; refine H71.out.mono ?_; rintro e w9 ⟨z, rfl, g9, z0, z1, z2⟩; have HG9 := hidM (HG8.out.tr g9); have H72 := hidM (sum72_3 z 3 w9 z0 z1 z2); clear g9 z0 z1 z2)
  | (go_at_call 133; refine H72.out.mono ?_; rintro e w10 ⟨rfl, rfl⟩))
 go_ret
 obtain ⟨hn, -, -, -, hk, hr⟩ := HA.out _ HG9.out
 exact ⟨_, r, rc, rfl, hk, hr, hn⟩
theorem opened44 (r r2 : Addr) (w : World) : CallsD Tryz.prog 110 #[.pointer (some r), .pointer (some r2)] .returning w fun e u' w' => e = .returned (.tuple #[]) ∧ u' = .returning ∧ w' = w := by
 refine callsD_of_wpS Tryz.func110 rfl fun c₀ cs hu => ?_
 apply wpS_seq
 apply wpS_region
 simp [wpOpsS, go_sem, recoverD, hu, Tryz.ntmps110, Exit.thenS]
 have HHU := hidM hu
 clear hu
 have htm : (#[Value.pointer (some r), Value.pointer (some r2)] ++ (Array.replicate 10 undef).setIfInBounds 3 Value.nilIface : Array Value) = #[Value.pointer (some r), .pointer (some r2), undef, undef, undef, .nilIface, undef, undef, undef, undef, undef, undef] := by kernel_rfl
 rw [htm]
 clear htm
 refine wpS_of_wp ?_
 refine wp_hid ?_
 go_wp2_with fail
 unfold Hid
 have hu := HHU.out
 cases c₀
 simp_all [bodyPostS, results, Tryz.results110]
structure DatC_c (W : World) (qb v2 c2 : Nat) : Prop where
 b0 : ∃ bo0 bc0, W.cell? ⟨qb, 0, none⟩ = some (.slice bo0 0 bc0)
 b1 : W.cell? ⟨qb, 1, none⟩ = some (.slice (some ⟨v2, 0, none⟩) 2 c2)
 n2 : 2 ≤ c2
 T : Tab W
structure DatC_d (W : World) (qb v2 c2 : Nat) : Prop where
 b0 : ∃ bo0 bc0, W.cell? ⟨qb, 0, none⟩ = some (.slice bo0 0 bc0)
 b1 : W.cell? ⟨qb, 1, none⟩ = some (.slice (some ⟨v2, 0, none⟩) 3 c2)
 n2 : 3 ≤ c2
 T : Tab W
theorem DatC_c.gr {W u : World} {qb v2 c2 : Nat} (h : DatC_c W qb v2 c2) (g : Gr W u) : DatC_c u qb v2 c2 := ⟨h.b0.imp fun _ e => e.imp fun _ e => g.cell' e id, g.cell' h.b1 id, h.n2, h.T.gr g⟩
theorem DatC_d.gr {W u : World} {qb v2 c2 : Nat} (h : DatC_d W qb v2 c2) (g : Gr W u) : DatC_d u qb v2 c2 := ⟨h.b0.imp fun _ e => e.imp fun _ e => g.cell' e id, g.cell' h.b1 id, h.n2, h.T.gr g⟩
theorem opened34_c (qb bc v2 c2 : Nat) (ao : Option Addr) (ca : Nat) (W : World) (hD : DatC_c W qb v2 c2) :
  Calls Tryz.prog 92 #[.agg #[.string (nmB nx), .bool false, .int .i64 3, .int .i64 0, .int .i64 0, .int .i64 0, .slice ao 0 ca], .agg (dCo 2 0 (.slice (some ⟨qb, 0, none⟩) 2 bc))] W fun e w' => ∃ q r rc fo fc, e = .returned (.tuple #[.pointer (some ⟨q, 0, none⟩), .agg #[.int .i64 0, .slice none 0 0, .int .i64 0]]) ∧ Gr W w' ∧ W.heap.size ≤ q ∧ W.heap.size ≤ r ∧ NdA nx w' q r rc false fo fc 2 0 v2 2 c2 := by
 have hmf := mkf
 obtain ⟨A0, hA0, g0, b0⟩ := nw W (.cells #[.string (nmB nx), .bool false, .int .i64 3, .int .i64 0, .int .i64 0, .int .i64 0, .slice ao 0 ca] 58)
 obtain ⟨A1, hA1⟩ := ex (A0.alloc (.cells (dCo 2 0 (.slice (some ⟨qb, 0, none⟩) 2 bc)) 68))
 have g1 := gr_al hA1
 have b1 : A1.heap[A0.heap.size]? = some (.cells (dCo 2 0 (.slice (some ⟨qb, 0, none⟩) 2 bc)) 68) := by rw [← hA1]; exact heap_alloc_new A0 _
 obtain ⟨A2, hA2, g2, b2⟩ := nw A1 (.cells #[.pointer none] 157)
 obtain ⟨A3, hA3, g3, b3⟩ := nw A2 (.cells #[.int .i64 0, .slice none 0 0, .int .i64 0] 52)
 have g23 := g2.tr g3
 have g13 := g1.tr g23
 have gW : Gr W A3 := g0.tr g13
 have e0 := (g13.block _ (lt_of_heap b0) id).trans b0
 have e1 := (g23.block _ (lt_of_heap b1) id).trans b1
 have e2 := (g3.block _ (lt_of_heap b2) id).trans b2
 have hS : ∀ u, Keeps A3 u (fun z => z = A1.heap.size) → u.cell? ⟨W.heap.size, 0, none⟩ = some (.string (nmB nx)) ∧ u.cell? ⟨W.heap.size, 1, none⟩ = some (.bool false) ∧ u.cell? ⟨W.heap.size, 2, none⟩ = some (.int .i64 3) ∧ u.cell? ⟨W.heap.size, 3, none⟩ = some (.int .i64 0) ∧ u.cell? ⟨W.heap.size, 4, none⟩ = some (.int .i64 0) ∧ u.cell? ⟨W.heap.size, 5, none⟩ = some (.int .i64 0) ∧ u.cell? ⟨W.heap.size, 6, none⟩ = some (.slice ao 0 ca) ∧ u.cell? ⟨A0.heap.size, 0, none⟩ = some (.int .i64 2) ∧ u.cell? ⟨A0.heap.size, 1, none⟩ = some (.int .i64 0) ∧ u.cell? ⟨A0.heap.size, 2, none⟩ = some (.int .i64 0) ∧ u.cell? ⟨A0.heap.size, 3, none⟩ = some (.slice (some ⟨qb, 0, none⟩) 2 bc) ∧ u.cell? ⟨A0.heap.size, 4, none⟩ = some (.slice none 0 0) ∧ u.cell? ⟨A0.heap.size, 5, none⟩ = some (.slice none 0 0) := fun u g => by
  have z1 := g1.size
  have z0 := lt_of_heap b0
  have z2 := lt_of_heap b1
  obtain ⟨a0, a1, a2, a3, a4, a5, a6⟩ := cell7 ((g.block _ (lt_of_heap e0) (fun e => by have e' : W.heap.size = A1.heap.size := e; omega)).trans e0)
  obtain ⟨d0, d1, d2, d3, d4, d5⟩ := cell6 ((g.block _ (lt_of_heap e1) (fun e => by have e' : A0.heap.size = A1.heap.size := e; omega)).trans e1)
  exact ⟨a0, a1, a2, a3, a4, a5, a6, d0, d1, d2, d3, d4, d5⟩
 obtain ⟨tt, hck⟩ := leaf_tells (w := A3) (ao := ao) (ca := ca) (hD.gr gW).T (allR (nx := nx) false)
 have HCK := hidM hck
 have HSS := hidM hS
 have HD := hidM (hD.gr gW)
 have HD0 := hidM hD
 have HGW := hidM gW
 have HB2 := hidM e2
 have HB3 := hidM b3
 have HZ : Hid (W.heap.size ≤ A1.heap.size ∧ A1.heap.size < A3.heap.size ∧ W.heap.size ≤ A2.heap.size ∧ A1.heap.size < A2.heap.size) := ⟨Nat.le_trans g0.size g1.size, lt_of_heap e2, Nat.le_trans (Nat.le_trans g0.size g1.size) g2.size, lt_of_heap b2⟩
 obtain ⟨a0, a1, a2, a3, a4, a5, a6, d0, d1, d2, d3, d4, d5⟩ := hS A3 (Keeps.refl _ _)
 clear g0 b0 g1 b1 g2 b2 g3 b3 g23 g13 gW e0 e1 e2 hS hck hD
 unfold dCo at hA1 ⊢
 go_enter_defers Tryz.func92, Tryz.ntmps92
 go_wp2_with (go_at_call 109; refine Hid.out ?_)
 unfold Hid
 refine Calls.mono (HCK.out _ (Keeps.refl _ _)) ?_
 rintro e w1 ⟨vo, vc, rfl, g1, -⟩
 have hfd : ∀ W : World, (Instr.field 52 (.agg #[.int .i64 0, .slice vo 0 vc, .int .i64 tt]) 0).run Tryz.prog W = .ok (.int .i64 0) W := fun W => by kernel_rfl
 have HG1 := hidM g1
 clear a0 a1 a2 a3 a4 a5 a6 d0 d1 d2 d3 d4 d5 g1 hA0 hA1 hA2 hA3
 go_wp2_with fail
 have HK1 : Hid (Keeps A3 w1.drew (fun z => z = A1.heap.size)) := HG1.out.drew.mono fun _ _ h => h.elim
 have HS1 := hidM (HSS.out w1.drew HK1.out)
 have H46 := hidM (copied46 (nx := nx) false ao ca w1.drew ((HD.out.gr HG1.out.drew).T))
 have H45 : Hid (∀ u fo fc, Gr A3 u → Calls Tryz.prog 111 #[.agg #[.string (nmB nx), .bool false, .int .i64 3, .int .i64 0, .int .i64 0, .int .i64 0, .slice fo 0 fc], .agg #[.int .i64 2, .int .i64 0, .int .i64 0, .slice (some ⟨qb, 0, none⟩) 2 bc, .slice none 0 0, .slice none 0 0]] u fun e w' => ∃ q, e = .returned (.pointer (some ⟨q, 0, none⟩)) ∧ Gr u w' ∧ u.heap.size ≤ q ∧ w'.heap[q]? = some (.cells (ndC nx false fo fc 2 0 (.slice none 0 0)) 165)) := fun u fo fc g => bare45 false fo fc 2 0 (.slice (some ⟨qb, 0, none⟩) 2 bc) u (HD.out.gr g).T
 go_region_held3 (fun u => u.cell? ⟨W.heap.size, 0, none⟩ = some (.string (nmB nx)) ∧ u.cell? ⟨W.heap.size, 1, none⟩ = some (.bool false) ∧ u.cell? ⟨W.heap.size, 2, none⟩ = some (.int .i64 3) ∧ u.cell? ⟨W.heap.size, 3, none⟩ = some (.int .i64 0) ∧ u.cell? ⟨W.heap.size, 4, none⟩ = some (.int .i64 0) ∧ u.cell? ⟨W.heap.size, 5, none⟩ = some (.int .i64 0) ∧ u.cell? ⟨W.heap.size, 6, none⟩ = some (.slice ao 0 ca) ∧ u.cell? ⟨A0.heap.size, 0, none⟩ = some (.int .i64 2) ∧ u.cell? ⟨A0.heap.size, 1, none⟩ = some (.int .i64 0) ∧ u.cell? ⟨A0.heap.size, 2, none⟩ = some (.int .i64 0) ∧ u.cell? ⟨A0.heap.size, 3, none⟩ = some (.slice (some ⟨qb, 0, none⟩) 2 bc) ∧ u.cell? ⟨A0.heap.size, 4, none⟩ = some (.slice none 0 0) ∧ u.cell? ⟨A0.heap.size, 5, none⟩ = some (.slice none 0 0)) (first | with_reducible exact HS1.out | with_reducible exact HS2.out | with_reducible exact HS3.out | with_reducible exact HSU.out) (first
  | (go_at_call 112; refine H46.out.mono ?_; rintro e w2 ⟨fo, fc, rfl, g2⟩; have HG2 : Hid (Gr A3 w2) := HG1.out.drew.tr g2; have HS2 := hidM (HSS.out w2 (HG2.out.mono fun _ _ h => h.elim)); clear g2)
  | (go_at_call 111; refine (H45.out w2 fo fc HG2.out).mono ?_; rintro e w3 ⟨q, rfl, g3, hq3, hn3⟩; have HG3 := hidM (HG2.out.tr g3); have HQ := hidM (And.intro hq3 hn3); have HS3 := hidM (HSS.out w3 (HG3.out.mono fun _ _ h => h.elim)); obtain ⟨U, hU⟩ := ex (w3.setCell ⟨A1.heap.size, 0, none⟩ (.pointer (some ⟨q, 0, none⟩))); have hb3 := (HG3.out.block _ (lt_of_heap HB2.out) id).trans HB2.out; have hbu : U.heap[A1.heap.size]? = some (.cells #[.pointer (some ⟨q, 0, none⟩)] 157) := (by rw [← hU, heap_setCell_same w3 A1.heap.size 0 _ _ _ hb3]; rfl); have hku : Keeps A3 U (fun z => z = A1.heap.size) := (by rw [← hU]; exact Keeps.setCell (S := fun z => z = A1.heap.size) (p := ⟨A1.heap.size, 0, none⟩) (HG3.out.mono fun _ _ h => h.elim) (fun _ => rfl) _); have hne : q ≠ A1.heap.size := (by have h1 := HG2.out.size; have h2 := HZ.out; omega); have hnu : U.heap[q]? = some (.cells (ndC nx false fo fc 2 0 (.slice none 0 0)) 165) := (by rw [← hU, heap_setCell_other _ _ _ _ hne]; exact hn3); have HSU := hidM (HSS.out U hku); have HBU := hidM hbu; have HKU := hidM hku; have HNU := hidM hnu; have c3 := cell1 hb3; have f3 := frz hb3 0; clear g3 hq3 hn3 hb3 hbu hku hnu hne))
 obtain ⟨A5, hA5, g5, hc5⟩ := nw U (.cells #[.pointer none, .int .i64 0, .slice none 0 0] 190)
 have hk5 : Keeps A3 A5 (fun z => z = A1.heap.size) := HKU.out.tr (g5.mono fun _ _ h => h.elim)
 have hz := HZ.out
 have hq2 := HQ.out.1
 have hz2 := HG2.out.size
 have hzW := HGW.out.size
 have gW5 : Gr W A5 := HGW.out.trans hk5 (fun j hj (e : j = A1.heap.size) => by omega)
 have hlow : ∀ u, Keeps A5 u (fun z => z = q) → Gr W u := fun u k => gW5.trans k (fun j hj (e : j = q) => by omega)
 have hDW := HD0.out
 have lq := block_lt_of_cell hDW.b1
 simp only at lq
 have hD5 := hDW.gr gW5
 obtain ⟨bo0, bc0, hb05⟩ := hD5.b0
 have H47 : Hid (Calls Tryz.prog 113 #[.pointer (some ⟨U.heap.size, 0, none⟩), .pointer (some ⟨q, 0, none⟩), .agg #[.int .i64 2, .int .i64 0, .int .i64 0, .slice (some ⟨qb, 0, none⟩) 2 bc, .slice none 0 0, .slice none 0 0]] A5 fun e w' => ∃ v r rc, e = .returned v ∧ Keeps A5 w' (fun z => z = q) ∧ A5.heap.size ≤ r ∧ NdA nx w' q r rc false fo fc 2 0 v2 2 c2) := node47_c U.heap.size qb bc A5 q fo fc v2 c2 ((g5.block q (lt_of_heap HNU.out) id).trans HNU.out) hc5 hb05 hD5.b1 (by omega) (fun u k => (hDW.gr (hlow u k)).T)
 have hb5 := (g5.block _ (lt_of_heap HBU.out) id).trans HBU.out
 have n5 := cell1 hb5
 obtain ⟨-, -, -, -, -, -, -, d0, d1, d2, d3, d4, d5⟩ := HSS.out A5 hk5
 have HF : Hid (∀ w6, Keeps A5 w6 (fun z => z = q) → w6.heap[A1.heap.size]? = some (.cells #[.pointer (some ⟨q, 0, none⟩)] 157) ∧ w6.heap[A2.heap.size]? = some (.cells #[.int .i64 0, .slice none 0 0, .int .i64 0] 52) ∧ Gr W w6) := fun w6 k => by
  refine ⟨(k.block _ (lt_of_heap hb5) (fun e => by have e' : A1.heap.size = q := e; omega)).trans hb5, ?_, hlow w6 k⟩
  have h3 := (hk5.block _ (lt_of_heap HB3.out) (fun e => by have e' : A2.heap.size = A1.heap.size := e; omega)).trans HB3.out
  exact (k.block _ (lt_of_heap h3) (fun e => by have e' : A2.heap.size = q := e; have := lt_of_heap HB3.out; omega)).trans h3
 have HL : Hid (W.heap.size ≤ q ∧ W.heap.size ≤ A5.heap.size) := ⟨by omega, gW5.size⟩
 clear g5 hc5 hk5 hz hq2 hz2 hzW gW5 hlow hDW lq hD5 hb5 hb05 hU c3 f3 hfd
 go_wp2_with (go_at_call 113; refine H47.out.mono ?_; rintro e w6 ⟨v, r, rc, rfl, k6, hr6, hn6⟩; obtain ⟨p1, p2, p3⟩ := HF.out w6 k6; have HE := hidM (And.intro p3 (And.intro hr6 hn6)); have n6 := cell1 p1; have f6 := frz p1 0; have i6 := set_id (j := 0) (v := .pointer (some ⟨q, 0, none⟩)) p1 rfl; obtain ⟨y0, y1, y2⟩ := cell3V p2; have z0 := frz p2 0; have z1 := frz p2 1; have z2 := frz p2 2; have j0 := set_id (j := 0) (v := .int .i64 0) p2 rfl; have j1 := set_id (j := 1) (v := .slice none 0 0) p2 rfl; have j2 := set_id (j := 2) (v := .int .i64 0) p2 rfl; clear p1 p2 p3 k6 hr6 hn6 n5 d0 d1 d2 d3 d4 d5 hA5)
 refine leaves_cons (f := 110) (args := #[.pointer (some ⟨A1.heap.size, 0, none⟩), .pointer (some ⟨A2.heap.size, 0, none⟩)]) (by simp) (by simp [go_sem]) ?_
 refine (opened44 ⟨A1.heap.size, 0, none⟩ ⟨A2.heap.size, 0, none⟩ w6).mono ?_
 rintro e u' w' ⟨rfl, rfl, rfl⟩
 refine ⟨.tuple #[.pointer (some ⟨q, 0, none⟩), .agg #[.int .i64 0, .slice none 0 0, .int .i64 0]], ?_, q, r, rc, fo, fc, rfl, HE.out.1, HL.out.1, Nat.le_trans HL.out.2 HE.out.2.1, HE.out.2.2⟩
 simp [results, Tryz.f92, go_sem, n6, y0, y1, y2]
theorem opened34_d (qb bc v2 c2 : Nat) (ao : Option Addr) (ca : Nat) (W : World) (hD : DatC_d W qb v2 c2) :
  Calls Tryz.prog 92 #[.agg #[.string (nmB nx), .bool false, .int .i64 3, .int .i64 0, .int .i64 0, .int .i64 0, .slice ao 0 ca], .agg (dCo 3 0 (.slice (some ⟨qb, 0, none⟩) 2 bc))] W fun e w' => ∃ q r rc fo fc, e = .returned (.tuple #[.pointer (some ⟨q, 0, none⟩), .agg #[.int .i64 0, .slice none 0 0, .int .i64 0]]) ∧ Gr W w' ∧ W.heap.size ≤ q ∧ W.heap.size ≤ r ∧ NdA nx w' q r rc false fo fc 3 0 v2 3 c2 := by
 have hmf := mkf
 obtain ⟨A0, hA0, g0, b0⟩ := nw W (.cells #[.string (nmB nx), .bool false, .int .i64 3, .int .i64 0, .int .i64 0, .int .i64 0, .slice ao 0 ca] 58)
 obtain ⟨A1, hA1⟩ := ex (A0.alloc (.cells (dCo 3 0 (.slice (some ⟨qb, 0, none⟩) 2 bc)) 68))
 have g1 := gr_al hA1
 have b1 : A1.heap[A0.heap.size]? = some (.cells (dCo 3 0 (.slice (some ⟨qb, 0, none⟩) 2 bc)) 68) := by rw [← hA1]; exact heap_alloc_new A0 _
 obtain ⟨A2, hA2, g2, b2⟩ := nw A1 (.cells #[.pointer none] 157)
 obtain ⟨A3, hA3, g3, b3⟩ := nw A2 (.cells #[.int .i64 0, .slice none 0 0, .int .i64 0] 52)
 have g23 := g2.tr g3
 have g13 := g1.tr g23
 have gW : Gr W A3 := g0.tr g13
 have e0 := (g13.block _ (lt_of_heap b0) id).trans b0
 have e1 := (g23.block _ (lt_of_heap b1) id).trans b1
 have e2 := (g3.block _ (lt_of_heap b2) id).trans b2
 have hS : ∀ u, Keeps A3 u (fun z => z = A1.heap.size) → u.cell? ⟨W.heap.size, 0, none⟩ = some (.string (nmB nx)) ∧ u.cell? ⟨W.heap.size, 1, none⟩ = some (.bool false) ∧ u.cell? ⟨W.heap.size, 2, none⟩ = some (.int .i64 3) ∧ u.cell? ⟨W.heap.size, 3, none⟩ = some (.int .i64 0) ∧ u.cell? ⟨W.heap.size, 4, none⟩ = some (.int .i64 0) ∧ u.cell? ⟨W.heap.size, 5, none⟩ = some (.int .i64 0) ∧ u.cell? ⟨W.heap.size, 6, none⟩ = some (.slice ao 0 ca) ∧ u.cell? ⟨A0.heap.size, 0, none⟩ = some (.int .i64 3) ∧ u.cell? ⟨A0.heap.size, 1, none⟩ = some (.int .i64 0) ∧ u.cell? ⟨A0.heap.size, 2, none⟩ = some (.int .i64 0) ∧ u.cell? ⟨A0.heap.size, 3, none⟩ = some (.slice (some ⟨qb, 0, none⟩) 2 bc) ∧ u.cell? ⟨A0.heap.size, 4, none⟩ = some (.slice none 0 0) ∧ u.cell? ⟨A0.heap.size, 5, none⟩ = some (.slice none 0 0) := fun u g => by
  have z1 := g1.size
  have z0 := lt_of_heap b0
  have z2 := lt_of_heap b1
  obtain ⟨a0, a1, a2, a3, a4, a5, a6⟩ := cell7 ((g.block _ (lt_of_heap e0) (fun e => by have e' : W.heap.size = A1.heap.size := e; omega)).trans e0)
  obtain ⟨d0, d1, d2, d3, d4, d5⟩ := cell6 ((g.block _ (lt_of_heap e1) (fun e => by have e' : A0.heap.size = A1.heap.size := e; omega)).trans e1)
  exact ⟨a0, a1, a2, a3, a4, a5, a6, d0, d1, d2, d3, d4, d5⟩
 obtain ⟨tt, hck⟩ := leaf_tells (w := A3) (ao := ao) (ca := ca) (hD.gr gW).T (allR (nx := nx) false)
 have HCK := hidM hck
 have HSS := hidM hS
 have HD := hidM (hD.gr gW)
 have HD0 := hidM hD
 have HGW := hidM gW
 have HB2 := hidM e2
 have HB3 := hidM b3
 have HZ : Hid (W.heap.size ≤ A1.heap.size ∧ A1.heap.size < A3.heap.size ∧ W.heap.size ≤ A2.heap.size ∧ A1.heap.size < A2.heap.size) := ⟨Nat.le_trans g0.size g1.size, lt_of_heap e2, Nat.le_trans (Nat.le_trans g0.size g1.size) g2.size, lt_of_heap b2⟩
 obtain ⟨a0, a1, a2, a3, a4, a5, a6, d0, d1, d2, d3, d4, d5⟩ := hS A3 (Keeps.refl _ _)
 clear g0 b0 g1 b1 g2 b2 g3 b3 g23 g13 gW e0 e1 e2 hS hck hD
 unfold dCo at hA1 ⊢
 go_enter_defers Tryz.func92, Tryz.ntmps92
 go_wp2_with (go_at_call 109; refine Hid.out ?_)
 unfold Hid
 refine Calls.mono (HCK.out _ (Keeps.refl _ _)) ?_
 rintro e w1 ⟨vo, vc, rfl, g1, -⟩
 have hfd : ∀ W : World, (Instr.field 52 (.agg #[.int .i64 0, .slice vo 0 vc, .int .i64 tt]) 0).run Tryz.prog W = .ok (.int .i64 0) W := fun W => by kernel_rfl
 have HG1 := hidM g1
 clear a0 a1 a2 a3 a4 a5 a6 d0 d1 d2 d3 d4 d5 g1 hA0 hA1 hA2 hA3
 go_wp2_with fail
 have HK1 : Hid (Keeps A3 w1.drew (fun z => z = A1.heap.size)) := HG1.out.drew.mono fun _ _ h => h.elim
 have HS1 := hidM (HSS.out w1.drew HK1.out)
 have H46 := hidM (copied46 (nx := nx) false ao ca w1.drew ((HD.out.gr HG1.out.drew).T))
 have H45 : Hid (∀ u fo fc, Gr A3 u → Calls Tryz.prog 111 #[.agg #[.string (nmB nx), .bool false, .int .i64 3, .int .i64 0, .int .i64 0, .int .i64 0, .slice fo 0 fc], .agg #[.int .i64 3, .int .i64 0, .int .i64 0, .slice (some ⟨qb, 0, none⟩) 2 bc, .slice none 0 0, .slice none 0 0]] u fun e w' => ∃ q, e = .returned (.pointer (some ⟨q, 0, none⟩)) ∧ Gr u w' ∧ u.heap.size ≤ q ∧ w'.heap[q]? = some (.cells (ndC nx false fo fc 3 0 (.slice none 0 0)) 165)) := fun u fo fc g => bare45 false fo fc 3 0 (.slice (some ⟨qb, 0, none⟩) 2 bc) u (HD.out.gr g).T
 go_region_held3 (fun u => u.cell? ⟨W.heap.size, 0, none⟩ = some (.string (nmB nx)) ∧ u.cell? ⟨W.heap.size, 1, none⟩ = some (.bool false) ∧ u.cell? ⟨W.heap.size, 2, none⟩ = some (.int .i64 3) ∧ u.cell? ⟨W.heap.size, 3, none⟩ = some (.int .i64 0) ∧ u.cell? ⟨W.heap.size, 4, none⟩ = some (.int .i64 0) ∧ u.cell? ⟨W.heap.size, 5, none⟩ = some (.int .i64 0) ∧ u.cell? ⟨W.heap.size, 6, none⟩ = some (.slice ao 0 ca) ∧ u.cell? ⟨A0.heap.size, 0, none⟩ = some (.int .i64 3) ∧ u.cell? ⟨A0.heap.size, 1, none⟩ = some (.int .i64 0) ∧ u.cell? ⟨A0.heap.size, 2, none⟩ = some (.int .i64 0) ∧ u.cell? ⟨A0.heap.size, 3, none⟩ = some (.slice (some ⟨qb, 0, none⟩) 2 bc) ∧ u.cell? ⟨A0.heap.size, 4, none⟩ = some (.slice none 0 0) ∧ u.cell? ⟨A0.heap.size, 5, none⟩ = some (.slice none 0 0)) (first | with_reducible exact HS1.out | with_reducible exact HS2.out | with_reducible exact HS3.out | with_reducible exact HSU.out) (first
  | (go_at_call 112; refine H46.out.mono ?_; rintro e w2 ⟨fo, fc, rfl, g2⟩; have HG2 : Hid (Gr A3 w2) := HG1.out.drew.tr g2; have HS2 := hidM (HSS.out w2 (HG2.out.mono fun _ _ h => h.elim)); clear g2)
  | (go_at_call 111; refine (H45.out w2 fo fc HG2.out).mono ?_; rintro e w3 ⟨q, rfl, g3, hq3, hn3⟩; have HG3 := hidM (HG2.out.tr g3); have HQ := hidM (And.intro hq3 hn3); have HS3 := hidM (HSS.out w3 (HG3.out.mono fun _ _ h => h.elim)); obtain ⟨U, hU⟩ := ex (w3.setCell ⟨A1.heap.size, 0, none⟩ (.pointer (some ⟨q, 0, none⟩))); have hb3 := (HG3.out.block _ (lt_of_heap HB2.out) id).trans HB2.out; have hbu : U.heap[A1.heap.size]? = some (.cells #[.pointer (some ⟨q, 0, none⟩)] 157) := (by rw [← hU, heap_setCell_same w3 A1.heap.size 0 _ _ _ hb3]; rfl); have hku : Keeps A3 U (fun z => z = A1.heap.size) := (by rw [← hU]; exact Keeps.setCell (S := fun z => z = A1.heap.size) (p := ⟨A1.heap.size, 0, none⟩) (HG3.out.mono fun _ _ h => h.elim) (fun _ => rfl) _); have hne : q ≠ A1.heap.size := (by have h1 := HG2.out.size; have h2 := HZ.out; omega); have hnu : U.heap[q]? = some (.cells (ndC nx false fo fc 3 0 (.slice none 0 0)) 165) := (by rw [← hU, heap_setCell_other _ _ _ _ hne]; exact hn3); have HSU := hidM (HSS.out U hku); have HBU := hidM hbu; have HKU := hidM hku; have HNU := hidM hnu; have c3 := cell1 hb3; have f3 := frz hb3 0; clear g3 hq3 hn3 hb3 hbu hku hnu hne))
 obtain ⟨A5, hA5, g5, hc5⟩ := nw U (.cells #[.pointer none, .int .i64 0, .slice none 0 0] 190)
 have hk5 : Keeps A3 A5 (fun z => z = A1.heap.size) := HKU.out.tr (g5.mono fun _ _ h => h.elim)
 have hz := HZ.out
 have hq2 := HQ.out.1
 have hz2 := HG2.out.size
 have hzW := HGW.out.size
 have gW5 : Gr W A5 := HGW.out.trans hk5 (fun j hj (e : j = A1.heap.size) => by omega)
 have hlow : ∀ u, Keeps A5 u (fun z => z = q) → Gr W u := fun u k => gW5.trans k (fun j hj (e : j = q) => by omega)
 have hDW := HD0.out
 have lq := block_lt_of_cell hDW.b1
 simp only at lq
 have hD5 := hDW.gr gW5
 obtain ⟨bo0, bc0, hb05⟩ := hD5.b0
 have H47 : Hid (Calls Tryz.prog 113 #[.pointer (some ⟨U.heap.size, 0, none⟩), .pointer (some ⟨q, 0, none⟩), .agg #[.int .i64 3, .int .i64 0, .int .i64 0, .slice (some ⟨qb, 0, none⟩) 2 bc, .slice none 0 0, .slice none 0 0]] A5 fun e w' => ∃ v r rc, e = .returned v ∧ Keeps A5 w' (fun z => z = q) ∧ A5.heap.size ≤ r ∧ NdA nx w' q r rc false fo fc 3 0 v2 3 c2) := node47_d U.heap.size qb bc A5 q fo fc v2 c2 ((g5.block q (lt_of_heap HNU.out) id).trans HNU.out) hc5 hb05 hD5.b1 (by omega) (fun u k => (hDW.gr (hlow u k)).T)
 have hb5 := (g5.block _ (lt_of_heap HBU.out) id).trans HBU.out
 have n5 := cell1 hb5
 obtain ⟨-, -, -, -, -, -, -, d0, d1, d2, d3, d4, d5⟩ := HSS.out A5 hk5
 have HF : Hid (∀ w6, Keeps A5 w6 (fun z => z = q) → w6.heap[A1.heap.size]? = some (.cells #[.pointer (some ⟨q, 0, none⟩)] 157) ∧ w6.heap[A2.heap.size]? = some (.cells #[.int .i64 0, .slice none 0 0, .int .i64 0] 52) ∧ Gr W w6) := fun w6 k => by
  refine ⟨(k.block _ (lt_of_heap hb5) (fun e => by have e' : A1.heap.size = q := e; omega)).trans hb5, ?_, hlow w6 k⟩
  have h3 := (hk5.block _ (lt_of_heap HB3.out) (fun e => by have e' : A2.heap.size = A1.heap.size := e; omega)).trans HB3.out
  exact (k.block _ (lt_of_heap h3) (fun e => by have e' : A2.heap.size = q := e; have := lt_of_heap HB3.out; omega)).trans h3
 have HL : Hid (W.heap.size ≤ q ∧ W.heap.size ≤ A5.heap.size) := ⟨by omega, gW5.size⟩
 clear g5 hc5 hk5 hz hq2 hz2 hzW gW5 hlow hDW lq hD5 hb5 hb05 hU c3 f3 hfd
 go_wp2_with (go_at_call 113; refine H47.out.mono ?_; rintro e w6 ⟨v, r, rc, rfl, k6, hr6, hn6⟩; obtain ⟨p1, p2, p3⟩ := HF.out w6 k6; have HE := hidM (And.intro p3 (And.intro hr6 hn6)); have n6 := cell1 p1; have f6 := frz p1 0; have i6 := set_id (j := 0) (v := .pointer (some ⟨q, 0, none⟩)) p1 rfl; obtain ⟨y0, y1, y2⟩ := cell3V p2; have z0 := frz p2 0; have z1 := frz p2 1; have z2 := frz p2 2; have j0 := set_id (j := 0) (v := .int .i64 0) p2 rfl; have j1 := set_id (j := 1) (v := .slice none 0 0) p2 rfl; have j2 := set_id (j := 2) (v := .int .i64 0) p2 rfl; clear p1 p2 p3 k6 hr6 hn6 n5 d0 d1 d2 d3 d4 d5 hA5)
 refine leaves_cons (f := 110) (args := #[.pointer (some ⟨A1.heap.size, 0, none⟩), .pointer (some ⟨A2.heap.size, 0, none⟩)]) (by simp) (by simp [go_sem]) ?_
 refine (opened44 ⟨A1.heap.size, 0, none⟩ ⟨A2.heap.size, 0, none⟩ w6).mono ?_
 rintro e u' w' ⟨rfl, rfl, rfl⟩
 refine ⟨.tuple #[.pointer (some ⟨q, 0, none⟩), .agg #[.int .i64 0, .slice none 0 0, .int .i64 0]], ?_, q, r, rc, fo, fc, rfl, HE.out.1, HL.out.1, Nat.le_trans HL.out.2 HE.out.2.1, HE.out.2.2⟩
 simp [results, Tryz.f92, go_sem, n6, y0, y1, y2]
theorem results_tcell50 {fn : Func} {t u : Tmp} {tmps : Array Value} {g : Nat} {cs : Array Value} {w : World} (h : fn.results = #[.tmp u, .cell t 52]) (ht : tmps.getD t undef = .pointer (some ⟨g, 0, none⟩)) (hg : w.heap[g]? = some (.cells cs 52 (0, 0))) (hi : (Tryz.prog.info? 52).map (·.size) = some cs.size) :
  (results fn tmps).run Tryz.prog w = .ok (.tuple #[tmps.getD u undef, .agg cs]) w := by
 have hl := run_loadVar_row (P := Tryz.prog) w g 52 52 cs (0, 0) _ hg Tryz.underlying52 rfl hi
 unfold results
 rw [h]
 simp only [Array.mapM_eq_mapM_toList, List.mapM_cons, List.mapM_nil, ht]
 simp [asAddr, hl]
theorem open18_c (qb bc v2 c2 : Nat) (ao : Option Addr) (ca : Nat) (W : World) (hD : DatC_c W qb v2 c2) :
  Calls Tryz.prog 72 #[.agg #[.string (nmB nx), .bool false, .int .i64 3, .int .i64 0, .int .i64 0, .int .i64 0, .slice ao 0 ca], .agg (dCo 2 0 (.slice (some ⟨qb, 0, none⟩) 2 bc))] W fun e w' => ∃ a q r rc fo fc, e = .returned (.tuple #[.pointer (some ⟨a, 0, none⟩), .agg #[.int .i64 0, .slice none 0 0, .int .i64 0]]) ∧ Gr W w' ∧ (W.heap.size ≤ a ∧ W.heap.size ≤ q ∧ W.heap.size ≤ r) ∧ NdA nx w' q r rc false fo fc 2 0 v2 2 c2 ∧ w'.heap[a]? = some (.cells #[.pointer (some ⟨q, 0, none⟩), .int .i64 0, .int .i64 2, .pointer none] 168) := by
 obtain ⟨A0, hA0, g0, b0⟩ := nw W (.cells #[.string (nmB nx), .bool false, .int .i64 3, .int .i64 0, .int .i64 0, .int .i64 0, .slice ao 0 ca] 58)
 obtain ⟨A1, hA1⟩ := ex (A0.alloc (.cells (dCo 2 0 (.slice (some ⟨qb, 0, none⟩) 2 bc)) 68))
 have g1 := gr_al hA1
 have b1 : A1.heap[A0.heap.size]? = some (.cells (dCo 2 0 (.slice (some ⟨qb, 0, none⟩) 2 bc)) 68) := by rw [← hA1]; exact heap_alloc_new A0 _
 obtain ⟨A2, hA2, g2, b2⟩ := nw A1 (.cells #[.int .i64 0, .slice none 0 0, .int .i64 0] 52)
 have g12 := g1.tr g2
 have gW : Gr W A2 := g0.tr g12
 obtain ⟨a0, a1, a2, a3, a4, a5, a6⟩ := cell7 ((g12.block _ (lt_of_heap b0) id).trans b0)
 obtain ⟨d0, d1, d2, d3, d4, d5⟩ := cell6 ((g2.block _ (lt_of_heap b1) id).trans b1)
 have HC : Hid (Calls Tryz.prog 92 #[.agg #[.string (nmB nx), .bool false, .int .i64 3, .int .i64 0, .int .i64 0, .int .i64 0, .slice ao 0 ca], .agg #[.int .i64 2, .int .i64 0, .int .i64 0, .slice (some ⟨qb, 0, none⟩) 2 bc, .slice none 0 0, .slice none 0 0]] A2 fun e w' => ∃ q r rc fo fc, e = .returned (.tuple #[.pointer (some ⟨q, 0, none⟩), .agg #[.int .i64 0, .slice none 0 0, .int .i64 0]]) ∧ Gr A2 w' ∧ A2.heap.size ≤ q ∧ A2.heap.size ≤ r ∧ NdA nx w' q r rc false fo fc 2 0 v2 2 c2) := opened34_c qb bc v2 c2 ao ca A2 (hD.gr gW)
 have HB := hidM b2
 have HG := hidM gW
 clear g0 b0 g1 b1 g2 b2 g12 gW hD
 unfold dCo at hA1 ⊢
 go_enter Tryz.func72, Tryz.ntmps72
 go_wp2_with (go_at_call 92; refine HC.out.mono ?_; rintro e w1 ⟨q, r, rc, fo, fc, rfl, g1, hq1, hr1, hn1⟩; clear a0 a1 a2 a3 a4 a5 a6 d0 d1 d2 d3 d4 d5 hA0 hA1 hA2; obtain ⟨V, hV⟩ := ex (w1.alloc (.cells #[.int .i64 0, .slice none 0 0, .int .i64 0] 52)); have gV := gr_al hV; have hbv := al_new hV; obtain ⟨y0, y1, y2⟩ := cell3V hbv; have z0 := frz hbv 0; have z1 := frz hbv 1; have z2 := frz hbv 2; have i0 := set_id (j := 0) (v := .int .i64 0) hbv rfl; have i1 := set_id (j := 1) (v := .slice none 0 0) hbv rfl; have i2 := set_id (j := 2) (v := .int .i64 0) hbv rfl; obtain ⟨m8, m9, m10⟩ := cellN (hn1.gr gV).nd; obtain ⟨X, hX⟩ := ex (V.alloc (.cells #[.pointer (some ⟨q, 0, none⟩), .int .i64 0, .int .i64 2, .pointer none] 168)); have gX := gr_al hX; have hbx : X.heap[V.heap.size]? = some (.cells #[.pointer (some ⟨q, 0, none⟩), .int .i64 0, .int .i64 2, .pointer none] 168) := (by rw [← hX]; exact heap_alloc_new V _); have g2X := g1.tr (gV.tr gX); have hb5 := (g2X.block _ (lt_of_heap HB.out) id).trans HB.out; obtain ⟨x0, x1, x2⟩ := cell3V hb5; have s0 := frz hb5 0; have s1 := frz hb5 1; have s2 := frz hb5 2; have k0 := set_id (j := 0) (v := .int .i64 0) hb5 rfl; have k1 := set_id (j := 1) (v := .slice none 0 0) hb5 rfl; have k2 := set_id (j := 2) (v := .int .i64 0) hb5 rfl; have HE : Hid (Gr W X ∧ (W.heap.size ≤ V.heap.size ∧ W.heap.size ≤ q ∧ W.heap.size ≤ r) ∧ NdA nx X q r rc false fo fc 2 0 v2 2 c2 ∧ X.heap[V.heap.size]? = some (.cells #[.pointer (some ⟨q, 0, none⟩), .int .i64 0, .int .i64 2, .pointer none] 168)) := (by have h1 := HG.out.size; have h2 := g1.size; have h3 := gV.size; exact ⟨HG.out.tr g2X, ⟨by omega, by omega, by omega⟩, hn1.gr (gV.tr gX), hbx⟩); have HB5 := hidM hb5; clear gV hbv gX hbx g2X hb5 g1 hq1 hr1 hn1)
 (try simp only [Exit.inBlock, Exit.then])
 refine bodyPost_ret (results_tcell50 rfl rfl (by with_reducible exact HB5.out) (by kernel_rfl)) rfl ?_
 exact ⟨_, q, r, rc, fo, fc, rfl, HE.out⟩
theorem open18_d (qb bc v2 c2 : Nat) (ao : Option Addr) (ca : Nat) (W : World) (hD : DatC_d W qb v2 c2) :
  Calls Tryz.prog 72 #[.agg #[.string (nmB nx), .bool false, .int .i64 3, .int .i64 0, .int .i64 0, .int .i64 0, .slice ao 0 ca], .agg (dCo 3 0 (.slice (some ⟨qb, 0, none⟩) 2 bc))] W fun e w' => ∃ a q r rc fo fc, e = .returned (.tuple #[.pointer (some ⟨a, 0, none⟩), .agg #[.int .i64 0, .slice none 0 0, .int .i64 0]]) ∧ Gr W w' ∧ (W.heap.size ≤ a ∧ W.heap.size ≤ q ∧ W.heap.size ≤ r) ∧ NdA nx w' q r rc false fo fc 3 0 v2 3 c2 ∧ w'.heap[a]? = some (.cells #[.pointer (some ⟨q, 0, none⟩), .int .i64 0, .int .i64 3, .pointer none] 168) := by
 obtain ⟨A0, hA0, g0, b0⟩ := nw W (.cells #[.string (nmB nx), .bool false, .int .i64 3, .int .i64 0, .int .i64 0, .int .i64 0, .slice ao 0 ca] 58)
 obtain ⟨A1, hA1⟩ := ex (A0.alloc (.cells (dCo 3 0 (.slice (some ⟨qb, 0, none⟩) 2 bc)) 68))
 have g1 := gr_al hA1
 have b1 : A1.heap[A0.heap.size]? = some (.cells (dCo 3 0 (.slice (some ⟨qb, 0, none⟩) 2 bc)) 68) := by rw [← hA1]; exact heap_alloc_new A0 _
 obtain ⟨A2, hA2, g2, b2⟩ := nw A1 (.cells #[.int .i64 0, .slice none 0 0, .int .i64 0] 52)
 have g12 := g1.tr g2
 have gW : Gr W A2 := g0.tr g12
 obtain ⟨a0, a1, a2, a3, a4, a5, a6⟩ := cell7 ((g12.block _ (lt_of_heap b0) id).trans b0)
 obtain ⟨d0, d1, d2, d3, d4, d5⟩ := cell6 ((g2.block _ (lt_of_heap b1) id).trans b1)
 have HC : Hid (Calls Tryz.prog 92 #[.agg #[.string (nmB nx), .bool false, .int .i64 3, .int .i64 0, .int .i64 0, .int .i64 0, .slice ao 0 ca], .agg #[.int .i64 3, .int .i64 0, .int .i64 0, .slice (some ⟨qb, 0, none⟩) 2 bc, .slice none 0 0, .slice none 0 0]] A2 fun e w' => ∃ q r rc fo fc, e = .returned (.tuple #[.pointer (some ⟨q, 0, none⟩), .agg #[.int .i64 0, .slice none 0 0, .int .i64 0]]) ∧ Gr A2 w' ∧ A2.heap.size ≤ q ∧ A2.heap.size ≤ r ∧ NdA nx w' q r rc false fo fc 3 0 v2 3 c2) := opened34_d qb bc v2 c2 ao ca A2 (hD.gr gW)
 have HB := hidM b2
 have HG := hidM gW
 clear g0 b0 g1 b1 g2 b2 g12 gW hD
 unfold dCo at hA1 ⊢
 go_enter Tryz.func72, Tryz.ntmps72
 go_wp2_with (go_at_call 92; refine HC.out.mono ?_; rintro e w1 ⟨q, r, rc, fo, fc, rfl, g1, hq1, hr1, hn1⟩; clear a0 a1 a2 a3 a4 a5 a6 d0 d1 d2 d3 d4 d5 hA0 hA1 hA2; obtain ⟨V, hV⟩ := ex (w1.alloc (.cells #[.int .i64 0, .slice none 0 0, .int .i64 0] 52)); have gV := gr_al hV; have hbv := al_new hV; obtain ⟨y0, y1, y2⟩ := cell3V hbv; have z0 := frz hbv 0; have z1 := frz hbv 1; have z2 := frz hbv 2; have i0 := set_id (j := 0) (v := .int .i64 0) hbv rfl; have i1 := set_id (j := 1) (v := .slice none 0 0) hbv rfl; have i2 := set_id (j := 2) (v := .int .i64 0) hbv rfl; obtain ⟨m8, m9, m10⟩ := cellN (hn1.gr gV).nd; obtain ⟨X, hX⟩ := ex (V.alloc (.cells #[.pointer (some ⟨q, 0, none⟩), .int .i64 0, .int .i64 3, .pointer none] 168)); have gX := gr_al hX; have hbx : X.heap[V.heap.size]? = some (.cells #[.pointer (some ⟨q, 0, none⟩), .int .i64 0, .int .i64 3, .pointer none] 168) := (by rw [← hX]; exact heap_alloc_new V _); have g2X := g1.tr (gV.tr gX); have hb5 := (g2X.block _ (lt_of_heap HB.out) id).trans HB.out; obtain ⟨x0, x1, x2⟩ := cell3V hb5; have s0 := frz hb5 0; have s1 := frz hb5 1; have s2 := frz hb5 2; have k0 := set_id (j := 0) (v := .int .i64 0) hb5 rfl; have k1 := set_id (j := 1) (v := .slice none 0 0) hb5 rfl; have k2 := set_id (j := 2) (v := .int .i64 0) hb5 rfl; have HE : Hid (Gr W X ∧ (W.heap.size ≤ V.heap.size ∧ W.heap.size ≤ q ∧ W.heap.size ≤ r) ∧ NdA nx X q r rc false fo fc 3 0 v2 3 c2 ∧ X.heap[V.heap.size]? = some (.cells #[.pointer (some ⟨q, 0, none⟩), .int .i64 0, .int .i64 3, .pointer none] 168)) := (by have h1 := HG.out.size; have h2 := g1.size; have h3 := gV.size; exact ⟨HG.out.tr g2X, ⟨by omega, by omega, by omega⟩, hn1.gr (gV.tr gX), hbx⟩); have HB5 := hidM hb5; clear gV hbv gX hbx g2X hb5 g1 hq1 hr1 hn1)
 (try simp only [Exit.inBlock, Exit.then])
 refine bodyPost_ret (results_tcell50 rfl rfl (by with_reducible exact HB5.out) (by kernel_rfl)) rfl ?_
 exact ⟨_, q, r, rc, fo, fc, rfl, HE.out⟩
structure ArrC (nx : Bool) (W : World) (q r rc : Nat) (nu : Bool) (ao : Option Addr) (ca L : Nat) (v2 n2 c2 : Nat) (ab a : Nat) (xs : Nat → Int) : Prop where
 nd : NdA nx W q r rc nu ao ca L 0 v2 n2 c2
 hab : W.heap[ab]? = some (.cells #[.pointer (some ⟨a, 0, none⟩)] 138)
 ha : W.heap[a]? = some (.cells #[.pointer (some ⟨q, 0, none⟩), .int .i64 0, .int .i64 L, .pointer none] 168)
 hv : ∀ k, k < L → W.cell? ⟨v2, k, none⟩ = some (.int .u8 (xs k)) ∧ (xs k = 5 ∨ xs k = 7 ∨ xs k = 8)
 hm : L ≤ 3
 nn : L ≤ n2 ∧ n2 ≤ 100000 ∧ n2 ≤ c2
theorem ArrC.kp {W u : World} {q r rc : Nat} {nu : Bool} {ao : Option Addr} {ca L : Nat} {v2 n2 c2 : Nat} {ab a : Nat} {xs : Nat → Int} {S : Nat → Prop} (h : ArrC nx W q r rc nu ao ca L v2 n2 c2 ab a xs) (k : KpOf S W u) (s0 : S ab) (s1 : S a) (s2 : S q) (s3 : S r) (s5 : S v2) : ArrC nx u q r rc nu ao ca L v2 n2 c2 ab a xs := by
 have hc : ∀ (p : Addr) (v : Value), S p.block → W.cell? p = some v → u.cell? p = some v := fun p v hs hp => (World.cell?_of_block (w := W) (k p.block hs)).trans hp
 exact ⟨⟨(k q s2).trans h.nd.nd, h.nd.r0.imp fun _ e => e.imp fun _ e => hc _ _ s3 e, hc _ _ s3 h.nd.r1, hc _ _ s3 h.nd.r2, hc _ _ s3 h.nd.r3, hc _ _ s3 h.nd.r4, hc _ _ s3 h.nd.r5⟩, (k ab s0).trans h.hab, (k a s1).trans h.ha, fun j hj => ⟨hc _ _ s5 (h.hv j hj).1, (h.hv j hj).2⟩, h.hm, h.nn⟩
def valN (xs : Nat → Int) (x : Nat) : Array Value := #[.bool false, .int .i64 (xs x), .string ⟨#[]⟩, .slice none 0 0]
def encV (xs : Nat → Int) (x : Nat) : Array Value := #[.int .i64 x, .agg (valN xs x)]
theorem read50 (k a l left : Nat) (W : World) (q r rc : Nat) (nu : Bool) (ao : Option Addr) (ca L : Nat) (v2 n2 c2 : Nat) (ab : Nat) (xs : Nat → Int) (hk : k < L) (hC : ArrC nx W q r rc nu ao ca L v2 n2 c2 ab a xs) (hl : W.heap[l]? = some (.cells #[.pointer none, .int .i64 left] 188)) (hlq : q ≠ l) (hlr : r ≠ l) (hlv : v2 ≠ l) (h16 : 16 ≤ left) (hle : left ≤ 4194304) :
  Calls Tryz.prog 116 #[.pointer (some ⟨a, 0, none⟩), .pointer (some ⟨l, 0, none⟩), .int .i64 k] W fun e w' => e = .returned (.tuple #[.agg (valN xs k), .int .i64 0]) ∧ Rd1 W w' l left := by
 obtain ⟨n1', n2', n3'⟩ := hC.nn
 obtain ⟨h0, hx⟩ := hC.hv k hk
 have hm := hC.hm
 exact read50_K k k (xs k) (by omega) hx a l left W q r rc nu ao ca L v2 n2 c2 hC.ha hC.nd hl hlq hlr hlv h16 hle (by omega) n2' n3' h0 h0
def AllI (J : (Nat → Prop) → List Nat → World → Prop) (S : Nat → Prop) (l : Nat) (w0 : World) (k : Nat) (wr : World) : Prop :=
 J (fun b => b = l) (List.range k) wr ∧ wr.heap[l]? = some (.cells #[.pointer none, .int .i64 ((4194304 - 16 * k : Nat) : Int)] 188) ∧ KpOf S w0 wr
theorem all48_seq (n : Nat) (w : World) (q r rc : Nat) (nu : Bool) (ao : Option Addr) (ca L : Nat) (v2 n2 c2 : Nat) (ab a : Nat) (xs : Nat → Int) (S : Nat → Prop) (hS : ∀ b, S b → b < w.heap.size) (hC : ArrC nx w q r rc nu ao ca L v2 n2 c2 ab a xs) (s0 : S ab) (s1 : S a) (s2 : S q) (s3 : S r) (s5 : S v2) :
  SeqOwn n Tryz.prog 114 #[.pointer (some ⟨ab, 0, none⟩)] (encV xs) (fun _ pre x _ => pre = List.range x ∧ x < L) S (fun ys => ys = List.range L) (fun _ => True) w := by
 intro lp J Jx W hW hJ hJx hY h0
 have hm := hC.hm
 have hSW : ∀ b, S b → b < W.heap.size := fun b h => Nat.lt_of_lt_of_le (hS b h) hW.size
 have hCW : ArrC nx W q r rc nu ao ca L v2 n2 c2 ab a xs := hC.kp (S := S) (fun b h => hW.block b (hS b h) id) s0 s1 s2 s3 s5
 obtain ⟨W1, hW1, g1, hl1⟩ := nw W (.cells #[.pointer none, .int .i64 4194304] 188)
 obtain ⟨l, hl⟩ := ex (W.heap.size)
 have HLk : Hid (Calls Tryz.prog 115 #[.pointer (some ⟨a, 0, none⟩)] W fun e w' => e = .returned (.pointer (some ⟨l, 0, none⟩)) ∧ w' = W1) := by
  have h := look49 L a q W hCW.ha
  rw [hW1, hl] at h
  exact h
 rw [hl] at hl1
 have HI0 : Hid (AllI J S l W 0 W1) := ⟨hJ _ _ _ _ _ h0 (g1.mono fun _ _ h => h.elim) (fun k e => by have e' : k = l := e; subst e'; exact ⟨lt_of_heap hl1, .inr (by omega)⟩), hl1, fun b h => g1.block b (hSW b h) id⟩
 have c0 : W.cell? ⟨ab, 0, none⟩ = some (.pointer (some ⟨a, 0, none⟩)) := by simp [World.cell?, hCW.hab]
 have hSl : ∀ b, S b → b ≠ l := fun b h => by have := hSW b h; omega
 have HA : Hid (∀ wr, KpOf S W wr → wr.cell? ⟨ab, 0, none⟩ = some (.pointer (some ⟨a, 0, none⟩)) ∧ wr.cell? ⟨a, 2, none⟩ = some (.int .i64 L)) := fun wr k => by
  have h := hCW.kp k s0 s1 s2 s3 s5
  exact ⟨by simp [World.cell?, h.hab], (cell4 h.ha).2.2.1⟩
 have HR : Hid (∀ k wr, k < L → AllI J S l W k wr → Calls Tryz.prog 116 #[.pointer (some ⟨a, 0, none⟩), .pointer (some ⟨l, 0, none⟩), .int .i64 k] wr fun e w' => e = .returned (.tuple #[.agg (valN xs k), .int .i64 0]) ∧ Rd1 wr w' l (4194304 - 16 * k)) := fun k wr hk hI =>
  read50 k a l (4194304 - 16 * k) wr q r rc nu ao ca L v2 n2 c2 ab xs hk (hCW.kp hI.2.2 s0 s1 s2 s3 s5) hI.2.1 (hSl _ s2) (hSl _ s3) (hSl _ s5) (by have := hC.hm; omega) (by omega)
 have HYY : Hid (∀ k wr w2 V, k < L → AllI J S l W k wr → Rd1 wr w2 l (4194304 - 16 * k) → w2.alloc (.cells (valN xs k) 108) = V → V.heap[w2.heap.size]? = some (.cells (valN xs k) 108) ∧ YieldAt Fence.wide (n - 1) Tryz.prog lp (encV xs k) V fun e W' => (e = .returned (.bool true) ∧ AllI J S l W (k + 1) W') ∨ (e = .returned (.bool false) ∧ Jx (List.range k ++ [k]) W')) := fun k wr w2 V hk hI hR hV => by
  have gV := gr_al hV
  have hJV : J (fun b => b = l) (List.range k) V := by
   refine hJ _ _ _ _ _ hI.1 (hR.1.tr (gV.mono fun _ _ h => h.elim)) (fun k' e => ⟨?_, .inl e⟩)
   have e' : k' = l := e
   subst e'
   exact Nat.lt_of_lt_of_le (lt_of_heap hR.2) gV.size
  refine ⟨by rw [← hV]; exact heap_alloc_new w2 _, (hY _ _ k V hJV ⟨rfl, hk⟩).mono ?_⟩
  rintro e W' (⟨rfl, hj, hk'⟩ | h)
  ·refine .inl ⟨rfl, ?_, ?_, ?_⟩
   ·rw [List.range_succ]; exact hj
   ·rw [hk' l (.inr rfl), gV.block l (lt_of_heap hR.2) id, hR.2, show 4194304 - 16 * k - 16 = 4194304 - 16 * (k + 1) by omega]
   intro b hb
   have hbw : b < wr.heap.size := by
    have h1 := hI.2.2 b hb
    have h2 := hSW b hb
    have h3 : wr.heap[b]? ≠ none := by rw [h1]; simp; exact h2
    simpa using h3
   rw [hk' b (.inl hb), gV.block b (Nat.lt_of_lt_of_le hbw hR.1.size) id, hR.1.block b hbw (hSl b hb)]
   exact hI.2.2 b hb
  exact .inr h
 clear hW hJ hJx hY h0 hC hCW g1 hl1 hSl hSW hl hS
 refine callsIn_of_wp Tryz.func114 rfl trivial ?_ rfl
 simp only [Tryz.ntmps114, List.size_toArray, List.length_cons, List.length_nil, Nat.reduceAdd, Nat.reduceSub, Array.replicate_succ, Array.replicate_zero, List.push_toArray, List.append_toArray, List.nil_append, List.cons_append]
 gi_wp2_with (refine ⟨trivial, fun h => (by cases h), ?_⟩; gi_at_call 115; refine CallsIn.mono (callsIn_wide.2 HLk.out) ?_; rintro e w1 ⟨rfl, rfl⟩; clear c0 hW1; obtain ⟨c0, c2⟩ := HA.out w1 HI0.out.2.2)
 gi_loopw [13] (fun p wr => ∃ k : Nat, k ≤ L ∧ p = .int .i64 (k : Int) ∧ Hid (AllI J S l W k wr)) (fun p _ => L - (intOf p).toNat)
 case atStart => exact ⟨0, Nat.zero_le _, rfl, HI0⟩
 case round =>
  clear HI0 c0 c2
  obtain ⟨k, hk, rfl, HI⟩ := hrel
  by_cases hlt : k < L
  ·have hRk := HR.out k wr hlt HI.out
   have hYk := HYY.out k wr
   unfold encV at hYk
   unfold valN at hRk hYk
   have HRk := hidM hRk
   have HYk := hidM hYk
   obtain ⟨c0, c2⟩ := HA.out wr HI.out.2.2
   clear hRk hYk
   gi_wp2_with (first
    | (refine ⟨trivial, fun h => (by cases h), ?_⟩; gi_at_call 116; refine CallsIn.mono (callsIn_wide.2 HRk.out) ?_; rintro e w2 ⟨rfl, hr2⟩; obtain ⟨V, hV⟩ := ex (w2.alloc (.cells #[.bool false, .int .i64 (xs k), .string ⟨#[]⟩, .slice none 0 0] 108)); obtain ⟨hv9, fn, tm, asn, bdy, hy, hR⟩ := HYk.out w2 V hlt HI.out hr2 hV; obtain ⟨y0, y1, y2, y3⟩ := cell4 hv9; have z2 := frz hv9 2; have z3 := frz hv9 3; have z0 := frz hv9 0; have z1 := frz hv9 1; have i0 := set_id (j := 2) (v := .string ⟨#[]⟩) hv9 rfl; have i1 := set_id (j := 3) (v := .slice none 0 0) hv9 rfl; clear hr2 hv9 c0 c2)
    | (refine ⟨fun h => (by cases h), hR.mono ?_⟩; refine Hid.out ?_))
   unfold Hid
   rintro e W3 (⟨rfl, hI⟩ | ⟨rfl, hx⟩)
   ·have HI2 := hidM hI
    clear hI hR hy y0 y1 y2 y3 z0 z1 z2 z3 i0 i1 hV HI
    gi_wp2
    go_roundw
    case rel => exact ⟨k + 1, by omega, by go_num, HI2⟩
    case measure => simp [intOf]; omega
   have HX := hidM hx
   clear hx hR hy y0 y1 y2 y3 z0 z1 z2 z3 i0 i1 hV HI
   gi_wp2
   (try simp only [Exit.inBlock, Exit.then])
   refine bodyPost_ret (results_none rfl _ _ _) rfl ?_
   exact ⟨⟨_, rfl⟩, .inr ⟨_, trivial, HX.out⟩⟩
  obtain rfl : k = L := by omega
  have HE : Hid (J (fun b => b = l) (List.range k) wr) := HI.out.1
  clear HI
  gi_wp2
  go_end0
  exact ⟨⟨_, rfl⟩, .inl ⟨_, _, rfl, HE.out⟩⟩
theorem mk35_2 (w : World) : (Instr.makeSlice 84 (.int .i64 0) (.int .i64 2)).run Tryz.prog w = .ok (.slice (some ⟨w.heap.size, 0, none⟩) 0 2) (w.alloc (.cells #[.bool false, .int .i64 0, .string ⟨#[]⟩, .slice none 0 0, .bool false, .int .i64 0, .string ⟨#[]⟩, .slice none 0 0] 108)) := by kernel_rfl
theorem mk35_3 (w : World) : (Instr.makeSlice 84 (.int .i64 0) (.int .i64 3)).run Tryz.prog w = .ok (.slice (some ⟨w.heap.size, 0, none⟩) 0 3) (w.alloc (.cells #[.bool false, .int .i64 0, .string ⟨#[]⟩, .slice none 0 0, .bool false, .int .i64 0, .string ⟨#[]⟩, .slice none 0 0, .bool false, .int .i64 0, .string ⟨#[]⟩, .slice none 0 0] 108)) := by kernel_rfl
theorem info37 : (Tryz.prog.info? 108).map (fun i => (i.zero, i.size, i.bytes)) = some (some (.agg #[.bool false, .int .i64 0, .string ⟨#[]⟩, .slice none 0 0]), 4, 56) := by kernel_rfl
theorem step_append_run {P : Program} {w : World} {ops : Array Oper} {o : Oper} {a : Act} {K : Act → World → Prop} {Q : Exit → Act → World → Prop} {E : Prop} (hgd : o.guard = none) (s x : Operand) (t tx : TypeId)
  (ho : o.op = .call { callee := .builtin .append, args := #[s, x], argTypes := #[t, tx] }) (v y v' : Value) (w' : World) (hv : a.eval s = v) (hx : a.eval x = y)
  (hr : ∀ ty, (Builtin.append_ #[t, tx] ty #[v, y]).run P w = .ok v' w') (h : K (a.put o.dst v') w') :
  if Region.wanted o (yielded ops a.tmps) = true then Oper.wp P o a w K Q else E := by
 have hw : Region.wanted o (yielded ops a.tmps) = true := by simp [Region.wanted, hgd]
 rw [if_pos hw]
 unfold Oper.wp
 simp [execOp, ho, resolve, invoke, builtin, hv, hx, hr, Result.andThen]
 exact h
theorem setRow_same {W : World} {b t : Nat} {c : Array Value} (h : W.heap[b]? = some (.cells c t)) : W.setRow b c = W := by
 have hm : (W.setRow b c).heap = W.heap := by
  apply Array.ext_getElem?
  intro i
  by_cases e : i = b
  ·subst e
   rw [setRow_heap W i _ _ _ _ h, h]
  exact setRow_other W b i c e
 show ({ W with heap := (W.setRow b c).heap } : World) = W
 rw [hm]
def rwU (w : World) (g o : Nat) (vn : Bool) (x : Int) : World := setAll w g [(o, .bool vn), (o + 1, .int .i64 x), (o + 2, .string ⟨#[]⟩), (o + 3, .slice none 0 0)]
def rowK (xs : Nat → Int) (L k : Nat) : Array Value := ((List.range L).flatMap fun j => [.bool false, .int .i64 (if j < k then xs j else 0), .string ⟨#[]⟩, .slice none 0 0]).toArray
theorem LK {L k : Nat} (hL : L = 2 ∨ L = 3) (hk : k < L) : L = 2 ∧ k = 0 ∨ L = 2 ∧ k = 1 ∨ L = 3 ∧ k = 0 ∨ L = 3 ∧ k = 1 ∨ L = 3 ∧ k = 2 := by omega
def ValI (xs : Nat → Int) (L : Nat) (W0 : World) (g b3 : Nat) (pre : List Nat) (wr : World) : Prop := ∃ k, k ≤ L ∧ pre = List.range k ∧ Gr W0 wr ∧ wr.heap[g]? = some (.cells (rowK xs L k) 108) ∧ wr.heap[b3]? = some (.cells #[.slice (some ⟨g, 0, none⟩) k L] 84)
theorem append_room {xs : Nat → Int} {Z : World} {g z k L : Nat} (hL : L = 2 ∨ L = 3) (hk : k < L) (hg : Z.heap[g]? = some (.cells (rowK xs L k) 108)) (hz : Z.heap[z]? = some (.cells #[.bool false, .int .i64 0, .string ⟨#[]⟩, .slice none 0 0] 108)) (ty : TypeId) :
  (Builtin.append_ #[84, 84] ty #[.slice (some ⟨g, 0, none⟩) k L, .slice (some ⟨z, 0, none⟩) 1 1]).run Tryz.prog Z = .ok (.slice (some ⟨g, 0, none⟩) (k + 1) L) Z := by
 obtain ⟨i, hi, hzz⟩ := Option.map_eq_some_iff.1 info37
 simp only [Prod.mk.injEq] at hzz
 obtain ⟨-, hsz, -⟩ := hzz
 have hsrc : Src Tryz.prog i.size 84 (.slice (some ⟨z, 0, none⟩) 1 1) 1 [.bool false, .int .i64 0, .string ⟨#[]⟩, .slice none 0 0] Z := by
  rw [hsz]
  refine Src.ofSlice (w := Z) Tryz.underlying84 ⟨z, 0, none⟩ 1 1 [.bool false, .int .i64 0, .string ⟨#[]⟩, .slice none 0 0] rfl (fun j v hj => ?_) (fun v hv => by simp at hv; rcases hv with rfl | rfl | rfl | rfl <;> rfl)
  rw [Addr.add_lit, Nat.zero_add]
  obtain ⟨c0, c1, c2, c3⟩ := cell4 hz
  match j, hj with
  | 0, hj => cases hj; exact c0
  | 1, hj => cases hj; exact c1
  | 2, hj => cases hj; exact c2
  | 3, hj => cases hj; exact c3
  | j + 4, hj => simp at hj
 have h2 := LK hL hk
 have hfit : k * i.size + [(.bool false : Value), .int .i64 0, .string ⟨#[]⟩, .slice none 0 0].length ≤ (rowK xs L k).size := by
  rw [hsz]
  rcases h2 with ⟨rfl, rfl⟩ | ⟨rfl, rfl⟩ | ⟨rfl, rfl⟩ | ⟨rfl, rfl⟩ | ⟨rfl, rfl⟩ <;> (simp [rowK, List.range, List.range.loop])
 have h := run_append_room_row (P := Tryz.prog) Z 84 84 ty 108 i Tryz.underlying84 hi g k L (rowK xs L k) hg (.slice (some ⟨z, 0, none⟩) 1 1) 1 _ hsrc (by omega) hfit
 rw [h]
 have he : ((rowK xs L k).toList.take (k * i.size) ++ [(.bool false : Value), .int .i64 0, .string ⟨#[]⟩, .slice none 0 0] ++ (rowK xs L k).toList.drop (k * i.size + [(.bool false : Value), .int .i64 0, .string ⟨#[]⟩, .slice none 0 0].length)).toArray = rowK xs L k := by
  rw [hsz]
  rcases h2 with ⟨rfl, rfl⟩ | ⟨rfl, rfl⟩ | ⟨rfl, rfl⟩ | ⟨rfl, rfl⟩ | ⟨rfl, rfl⟩ <;> rfl
 rw [he, setRow_same hg]
theorem val_step {xs : Nat → Int} {L k o : Nat} (hL : L = 2 ∨ L = 3) (hk : k < L) (ho : o = 4 * k) {W0 W Z : World} {g b3 : Nat} (gW : Gr W0 W) (hg : W.heap[g]? = some (.cells (rowK xs L k) 108)) (hb : W.heap[b3]? = some (.cells #[.slice (some ⟨g, 0, none⟩) k L] 84)) (gZ : Gr W Z) (hW0g : W0.heap.size ≤ g) (hW0b : W0.heap.size ≤ b3) :
  Z.heap[g]? = some (.cells (rowK xs L k) 108) ∧ Z.heap[b3]? = some (.cells #[.slice (some ⟨g, 0, none⟩) k L] 84) ∧
  (rwU Z g o false (xs k)).heap[b3]? = some (.cells #[.slice (some ⟨g, 0, none⟩) k L] 84) ∧
  (Z.setCell ⟨b3, 0, none⟩ (.slice (some ⟨g, 0, none⟩) (k + 1) L)).heap[g]? = some (.cells (rowK xs L k) 108) ∧
  (Keeps W ((rwU Z g o false (xs k)).setCell ⟨b3, 0, none⟩ (.slice (some ⟨g, 0, none⟩) (k + 1) L)) (fun b => b = g ∨ b = b3) ∧ ValI xs L W0 g b3 (List.range k ++ [k]) ((rwU Z g o false (xs k)).setCell ⟨b3, 0, none⟩ (.slice (some ⟨g, 0, none⟩) (k + 1) L))) ∧
  (Keeps W (rwU (Z.setCell ⟨b3, 0, none⟩ (.slice (some ⟨g, 0, none⟩) (k + 1) L)) g o false (xs k)) (fun b => b = g ∨ b = b3) ∧ ValI xs L W0 g b3 (List.range k ++ [k]) (rwU (Z.setCell ⟨b3, 0, none⟩ (.slice (some ⟨g, 0, none⟩) (k + 1) L)) g o false (xs k))) := by
 have hne : g ≠ b3 := blk_ne hg hb (by decide)
 have zg := (gZ.block g (lt_of_heap hg) id).trans hg
 have zb := (gZ.block b3 (lt_of_heap hb) id).trans hb
 have k6 : Keeps Z (rwU Z g o false (xs k)) (fun b => b = g) := setAll_kp _ _ _
 have b6 := (k6.block b3 (lt_of_heap zb) (Ne.symm hne)).trans zb
 have g6 : (rwU Z g o false (xs k)).heap[g]? = some (.cells (rowK xs L (k + 1)) 108) := by
  unfold rwU
  rw [setAll_blk g 108 _ _ _ zg]
  subst ho
  rcases LK hL hk with ⟨rfl, rfl⟩ | ⟨rfl, rfl⟩ | ⟨rfl, rfl⟩ | ⟨rfl, rfl⟩ | ⟨rfl, rfl⟩ <;> rfl
 have k7 : Keeps Z (Z.setCell ⟨b3, 0, none⟩ (.slice (some ⟨g, 0, none⟩) (k + 1) L)) (fun b => b = b3) := (Keeps.refl Z (fun b => b = b3)).setCell (p := ⟨b3, 0, none⟩) (fun _ => rfl) _
 have g7 := (k7.block g (lt_of_heap zg) hne).trans zg
 have b7 : (Z.setCell ⟨b3, 0, none⟩ (.slice (some ⟨g, 0, none⟩) (k + 1) L)).heap[b3]? = some (.cells #[.slice (some ⟨g, 0, none⟩) (k + 1) L] 84) := by
  rw [heap_setCell_same Z b3 0 _ _ _ zb]; rfl
 have kWZ : Keeps W Z (fun b => b = g ∨ b = b3) := gZ.mono fun _ _ h => h.elim
 have k67 := (kWZ.trans k6 (fun _ _ h => .inl h)).setCell (p := ⟨b3, 0, none⟩) (fun _ => .inr rfl) (.slice (some ⟨g, 0, none⟩) (k + 1) L)
 have k76 : Keeps W (rwU (Z.setCell ⟨b3, 0, none⟩ (.slice (some ⟨g, 0, none⟩) (k + 1) L)) g o false (xs k)) (fun b => b = g ∨ b = b3) := (kWZ.trans k7 (fun _ _ h => .inr h)).trans (setAll_kp _ _ _) (fun _ _ h => .inl h)
 have low : ∀ u, Keeps W u (fun b => b = g ∨ b = b3) → Gr W0 u := fun u h => gW.trans h (fun j hj e => by rcases e with e | e <;> omega)
 refine ⟨zg, zb, b6, g7, ⟨k67, k + 1, by omega, by rw [← List.range_succ], low _ k67, ?_, ?_⟩, ⟨k76, k + 1, by omega, by rw [← List.range_succ], low _ k76, ?_, ?_⟩⟩
 ·rw [heap_setCell_other _ _ _ _ hne]; exact g6
 ·rw [heap_setCell_same _ b3 0 _ _ _ b6]; rfl
 ·unfold rwU
  rw [setAll_blk g 108 _ _ _ g7]
  subst ho
  rcases LK hL hk with ⟨rfl, rfl⟩ | ⟨rfl, rfl⟩ | ⟨rfl, rfl⟩ | ⟨rfl, rfl⟩ | ⟨rfl, rfl⟩ <;> rfl
 unfold rwU
 rw [setAll_oth g b3 (Ne.symm hne)]
 exact b7
theorem rowCells {xs : Nat → Int} {L k o : Nat} (hL : L = 2 ∨ L = 3) (hk : k < L) (ho : o = 4 * k) {W : World} {g : Nat} (h : W.heap[g]? = some (.cells (rowK xs L k) 108)) : W.cell? ⟨g, o, none⟩ = some (.bool false) ∧ W.cell? ⟨g, o + 1, none⟩ = some (.int .i64 0) ∧ W.cell? ⟨g, o + 2, none⟩ = some (.string ⟨#[]⟩) ∧ W.cell? ⟨g, o + 3, none⟩ = some (.slice none 0 0) := by
 subst ho
 rcases LK hL hk with ⟨rfl, rfl⟩ | ⟨rfl, rfl⟩ | ⟨rfl, rfl⟩ | ⟨rfl, rfl⟩ | ⟨rfl, rfl⟩ <;> (refine ⟨?_, ?_, ?_, ?_⟩ <;> simp [World.cell?, h] <;> rfl)
attribute [local go_sem] Oper.semAt_some
theorem frzA {W : World} {b ty : Nat} {c : Array Value} (h : W.heap[b]? = some (.cells c ty)) : ∀ j, W.frozen? ⟨b, j, none⟩ = false := fun j => frz h j
theorem all35 (a : Nat) (W : World) : Calls Tryz.prog 93 #[.pointer (some ⟨a, 0, none⟩)] W fun e w' => e = .returned (.func (.func 114) #[] #[.pointer (some ⟨W.heap.size, 0, none⟩)]) ∧ w' = W.alloc (.cells #[.pointer (some ⟨a, 0, none⟩)] 138) := by
 have hmf := mkf
 go_enter Tryz.func93, Tryz.ntmps93
 go_wp2_with fail
 go_ret
 exact ⟨rfl, rfl⟩
theorem values19 (a : Nat) (W : World) (q r rc : Nat) (nu : Bool) (ao : Option Addr) (ca L : Nat) (v2 n2 c2 : Nat) (xs : Nat → Int) (hL : L = 2 ∨ L = 3) (hC0 : ∀ u, Gr W u → ∀ ab, u.heap[ab]? = some (.cells #[.pointer (some ⟨a, 0, none⟩)] 138) → ArrC nx u q r rc nu ao ca L v2 n2 c2 ab a xs) (ha : W.heap[a]? = some (.cells #[.pointer (some ⟨q, 0, none⟩), .int .i64 0, .int .i64 L, .pointer none] 168)) (hq : q < W.heap.size) (hr : r < W.heap.size) (hv2 : v2 < W.heap.size) :
  Calls Tryz.prog 73 #[.pointer (some ⟨a, 0, none⟩)] W fun e w' => ∃ g, e = .returned (.slice (some ⟨g, 0, none⟩) L L) ∧ Gr W w' ∧ W.heap.size ≤ g ∧ w'.heap[g]? = some (.cells (rowK xs L L) 108) := by
 obtain ⟨g, hg⟩ := ex (W.heap.size)
 obtain ⟨A0, hA0⟩ := ex (W.alloc (.cells (rowK xs L 0) 108))
 have g0 := gr_al hA0
 have b0 : A0.heap[g]? = some (.cells (rowK xs L 0) 108) := by rw [← hA0, ← hg]; exact heap_alloc_new W _
 obtain ⟨A1, hA1, g1, b1⟩ := nw A0 (.cells #[.slice (some ⟨g, 0, none⟩) 0 L] 84)
 obtain ⟨A2, hA2, g2, b2⟩ := nw A1 (.cells #[.pointer (some ⟨a, 0, none⟩)] 138)
 have g12 := g1.tr g2
 have gW : Gr W A2 := g0.tr g12
 have z0 : A0.heap.size = g + 1 := by rw [← hA0, ← hg]; simp
 have z1 : A1.heap.size = A0.heap.size + 1 := by rw [← hA1]; simp
 have z2 : A2.heap.size = A1.heap.size + 1 := by rw [← hA2]; simp
 have hal := lt_of_heap ha
 have hseq := all48_seq (10 - 1) A2 q r rc nu ao ca L v2 n2 c2 A1.heap.size a xs (fun b => b < A2.heap.size ∧ b ≠ g ∧ b ≠ A0.heap.size) (fun b h => h.1) (hC0 A2 gW _ b2) ⟨by omega, by omega, by omega⟩ ⟨by omega, by omega, by omega⟩ ⟨by omega, by omega, by omega⟩ ⟨by omega, by omega, by omega⟩ ⟨by omega, by omega, by omega⟩
 have h0 : ValI xs L W g A0.heap.size [] A2 := ⟨0, by omega, rfl, gW, (g12.block _ (lt_of_heap b0) id).trans b0, (g2.block _ (lt_of_heap b1) id).trans b1⟩
 obtain ⟨a0, a1, a2, a3⟩ := cell4 ha
 have HSeq := hidM hseq
 have H0 := hidM h0
 have hmk : ∀ w : World, (Instr.makeSlice 84 (.int .i64 0) (.int .i64 L)).run Tryz.prog w = .ok (.slice (some ⟨w.heap.size, 0, none⟩) 0 L) (w.alloc (.cells (rowK xs L 0) 108)) := by
  rcases hL with rfl | rfl
  ·exact mk35_2
  exact mk35_3
 have hA : Calls Tryz.prog 93 #[.pointer (some ⟨a, 0, none⟩)] A1 fun e w' => e = .returned (.func (.func 114) #[] #[.pointer (some ⟨A1.heap.size, 0, none⟩)]) ∧ w' = A2 := by rw [← hA2]; exact all35 a A1
 have HA := hidM hA
 have HZ := hidM (And.intro hg (And.intro z0 (And.intro z1 z2)))
 clear hC0 ha hq hr hv2 g0 b0 g1 b1 hA2 g2 b2 g12 gW z0 z1 z2 hal hseq h0 hA
 refine (callsIn_wide (n := 10)).1 ?_
 refine callsIn_of_wp_marks Tryz.func73 rfl trivial ?_ rfl
 simp only [Tryz.ntmps73, List.size_toArray, List.length_cons, List.length_nil, Nat.reduceAdd, Nat.reduceSub, Array.replicate_succ, Array.replicate_zero, List.push_toArray, List.append_toArray, List.nil_append, List.cons_append]
 refine wpIn_wide.2 ?_
 go_wp2_with (go_at_call 93; refine HA.out.mono ?_; rintro e w2 ⟨rfl, rfl⟩)
 refine (wpIn_wide (n := 10)).1 ?_
 obtain ⟨hg', zz0, zz1, zz2⟩ := HZ.out
 refine rangeX (by decide) (gf := 114) (lb := #[.pointer (some ⟨A1.heap.size, 0, none⟩)]) rfl (enters_of Tryz.func114 (by kernel_rfl) rfl) HSeq.out (fun _ => rfl) (fun b h => h.1) (fun O pre x A B h k => h)
  (fun b => b = g ∨ b = A0.heap.size) (fun b h => ⟨by rcases h with h | h <;> omega, fun hs => by rcases h with h | h <;> omega⟩)
  (ValI xs L W g A0.heap.size) (fun pre Y Z h hz hb => by
   obtain ⟨k, h1, h2, h3, h4, h5⟩ := h
   exact ⟨k, h1, h2, gr_below h3 (by omega) hb, (hb.block g (by omega)).trans h4, (hb.block _ (by omega)).trans h5⟩)
  (fun _ _ _ => False) (fun c pre Y Z h hk => h) H0.out
  (fun x a' W => ∃ Bx, W.heap[Bx]? = some (.cells (valN xs x) 108) ∧ w2.heap.size + 2 ≤ Bx ∧ a' = { tmps := #[.pointer (some ⟨a, 0, none⟩), undef, .slice none 0 0, .pointer (some ⟨A0.heap.size, 0, none⟩), undef, .pointer (some ⟨Bx, 0, none⟩), .pointer (some ⟨a, 0, none⟩), .pointer (some ⟨a, 0, none⟩), .pointer (some ⟨a, 2, none⟩), .int .i64 L, .slice (some ⟨g, 0, none⟩) 0 L, .pointer (some ⟨a, 0, none⟩), .func (.func 114) #[] #[.pointer (some ⟨A1.heap.size, 0, none⟩)], .int .i64 x, .agg (valN xs x), undef, undef, undef, undef, undef, undef, undef], defers := [] })
  (fun x a' Y Z h hk => by
   obtain ⟨Bx, h1, h2, h3⟩ := h
   exact ⟨Bx, (hk.block Bx (lt_of_heap h1) (fun e => by have e' : Bx = w2.heap.size + 1 := e; omega)).trans h1, h2, h3⟩)
  ?assign ?body ?done ?stop
 case assign =>
  intro l x Wr K hz hK
  unfold encV
  unfold valN at hK ⊢
  clear zz0 zz1 zz2 hg hg'
  gi_wp2
  refine hK _ _ (gr_alloc Wr _) ⟨Wr.heap.size, heap_alloc_new Wr _, by omega, rfl⟩
 case body =>
  rintro l O pre x a' Wr hi ⟨rfl, hx2⟩ ⟨Bx, hbx, hBx, rfl⟩ hO hz
  have hx : x = 0 ∨ x = 1 ∨ x = 2 := by omega
  obtain ⟨k, hk, hpre, gW0, hgr, hbr⟩ := hi
  have hkx : k = x := by have := congrArg List.length hpre; simpa using this.symm
  subst hkx
  have hlg : W.heap.size ≤ g := by omega
  have hlb : W.heap.size ≤ A0.heap.size := by omega
  clear hk hpre HSeq H0 HA hmk hA0 hA1 a0 a1 a2 a3 HZ
  rcases hx with rfl | rfl | rfl
  ·have hvb : Wr.heap[Bx]? = some (.cells #[.bool false, .int .i64 (xs 0), .string ⟨#[]⟩, .slice none 0 0] 108) := hbx
   obtain ⟨Wd, hWd⟩ := ex (Wr.drew)
   have gd : Gr Wr Wd := by rw [← hWd]; exact gr_drew
   obtain ⟨Z, hZ⟩ := ex (Wd.alloc (.cells #[.bool false, .int .i64 0, .string ⟨#[]⟩, .slice none 0 0] 108))
   have gZ0 := gr_al hZ
   have gZ : Gr Wr Z := gd.tr gZ0
   have hzz := al_new hZ
   obtain ⟨z1, z2, z3, z4, z5, z6⟩ := val_step (o := 0) hL hx2 rfl gW0 hgr hbr gZ hlg hlb
   have HAp := hidM (fun ty => append_room hL hx2 z1 hzz ty)
   obtain ⟨U6, hU6⟩ := ex (rwU Z g 0 false (xs 0))
   obtain ⟨U67, hU67⟩ := ex (U6.setCell ⟨A0.heap.size, 0, none⟩ (.slice (some ⟨g, 0, none⟩) 1 L))
   obtain ⟨U7, hU7⟩ := ex (Z.setCell ⟨A0.heap.size, 0, none⟩ (.slice (some ⟨g, 0, none⟩) 1 L))
   obtain ⟨U76, hU76⟩ := ex (rwU U7 g 0 false (xs 0))
   rw [hU6] at z3 z5
   rw [hU67] at z5
   rw [hU7] at z4 z6
   rw [hU76] at z6
   have hcl : ∀ u, Keeps Wr u (fun b => b = g ∨ b = A0.heap.size) → u.cell? ⟨Bx, 0, none⟩ = some (.bool false) ∧ u.cell? ⟨Bx, 1, none⟩ = some (.int .i64 (xs 0)) ∧ u.cell? ⟨Bx, 2, none⟩ = some (.string ⟨#[]⟩) ∧ u.cell? ⟨Bx, 3, none⟩ = some (.slice none 0 0) := fun u h => cell4 ((h.block Bx (lt_of_heap hvb) (fun e => by rcases e with e | e <;> omega)).trans hvb)
   have HXd := hidM (hcl Wd (gd.mono fun _ _ h => h.elim))
   have HXZ := hidM (hcl Z (gZ.mono fun _ _ h => h.elim))
   have k6 : Keeps Wr U6 (fun b => b = g ∨ b = A0.heap.size) := by rw [← hU6]; exact (gZ.mono fun _ _ h => h.elim).trans (setAll_kp _ _ _) (fun _ _ h => .inl h)
   have k7 : Keeps Wr U7 (fun b => b = g ∨ b = A0.heap.size) := by rw [← hU7]; exact Keeps.setCell (S := fun b => b = g ∨ b = A0.heap.size) (p := ⟨A0.heap.size, 0, none⟩) (gZ.mono fun _ _ h => h.elim) (fun _ => .inr rfl) _
   have HX6 := hidM (hcl U6 k6)
   have HX67 := hidM (hcl U67 z5.1)
   have HX7 := hidM (hcl U7 k7)
   have HX76 := hidM (hcl U76 z6.1)
   have HE67 := hidM z5
   have HE76 := hidM z6
   obtain ⟨i0, i1, i2, i3⟩ := rowCells (o := 0) hL hx2 rfl z1
   obtain ⟨j0, j1, j2, j3⟩ := rowCells (o := 0) hL hx2 rfl z4
   have b0 := cell1 ((gd.block _ (lt_of_heap hbr) id).trans hbr)
   have b1 := cell1 z2
   have b6 := cell1 z3
   have f2 := frz z2 0
   have f3 := frz z3 0
   have f1 := frzA z1
   have f4 := frzA z4
   simp only [rwU, setAll] at hU6 hU76
   clear gd gZ0 gZ hzz z1 z2 z3 z4 z5 z6 hcl k6 k7 hvb hbx gW0 hgr hbr hz hO hBx hlg hlb zz0 zz1 zz2 hg hg'
   gi_wp2_with fail
   refine region_round (S := fun w' => w'.cell? ⟨Bx, 0, none⟩ = some (.bool false) ∧ w'.cell? ⟨Bx, 1, none⟩ = some (.int .i64 (xs 0)) ∧ w'.cell? ⟨Bx, 2, none⟩ = some (.string ⟨#[]⟩) ∧ w'.cell? ⟨Bx, 3, none⟩ = some (.slice none 0 0)) (by kernel_rfl) (noDefer_spec (by kernel_rfl)) (fun ⟨_, _, h⟩ => h) ?_
   rw [hWd]
   have hHeld : (fun w' : World => w'.cell? ⟨Bx, 0, none⟩ = some (.bool false) ∧ w'.cell? ⟨Bx, 1, none⟩ = some (.int .i64 (xs 0)) ∧ w'.cell? ⟨Bx, 2, none⟩ = some (.string ⟨#[]⟩) ∧ w'.cell? ⟨Bx, 3, none⟩ = some (.slice none 0 0)) Wd := HXd.out
   refine tk 1 ?_
   refine rd2 0 3 (fun Kc hK => ?_) fun Kc hK => ?_
   ·go_simp
    refine hK.out _ _ HXd.out fun _ => ?_
    clear hK Kc
    try simp only [Act.put, lA, lB, lC]
    refine tk 2 ?_
    refine rd1 3 fun Kc hK => ?_
    go_simp
    refine hK.out _ _ HXZ.out fun _ => ?_
    clear hK Kc
    try simp only [Act.put, lA, lB, lC]
    refine rd1 4 fun Kc hK => ?_
    refine step_append_run (P := Tryz.prog) rfl (.tmp 15) (.tmp 18) 84 84 rfl (.slice (some ⟨g, 0, none⟩) 0 L) (.slice (some ⟨Wd.heap.size, 0, none⟩) 1 1) (.slice (some ⟨g, 0, none⟩) 1 L) Z rfl rfl HAp.out ?_
    refine hK.out _ _ HXZ.out fun _ => ?_
    clear hK Kc
    try simp only [Act.put, lA, lB, lC]
    refine tk 5 ?_
    refine rd2 6 7 (fun Kc hK => ?_) fun Kc hK => ?_
    ·go_simp
     refine hK.out _ _ HX6.out fun _ => ?_
     clear hK Kc
     try simp only [Act.put, lA, lB, lC]
     refine rd1 7 fun Kc hK => ?_
     go_simp
     refine hK.out _ _ HX67.out fun _ => ?_
     clear hK Kc
     try simp only [Act.put, lA, lB, lC]
     refine wpAnyH_done (by kernel_rfl) ?_ _
     exact HE67.out
    go_simp
    refine hK.out _ _ HX7.out fun _ => ?_
    clear hK Kc
    try simp only [Act.put, lA, lB, lC]
    refine rd1 6 fun Kc hK => ?_
    go_simp
    refine hK.out _ _ HX76.out fun _ => ?_
    clear hK Kc
    try simp only [Act.put, lA, lB, lC]
    refine wpAnyH_done (by kernel_rfl) ?_ _
    exact HE76.out
   go_simp
   refine hK.out _ _ HXZ.out fun _ => ?_
   clear hK Kc
   try simp only [Act.put, lA, lB, lC]
   refine rd1 0 fun Kc hK => ?_
   go_simp
   refine hK.out _ _ HXZ.out fun _ => ?_
   clear hK Kc
   try simp only [Act.put, lA, lB, lC]
   refine tk 2 ?_
   refine rd1 4 fun Kc hK => ?_
   refine step_append_run (P := Tryz.prog) rfl (.tmp 15) (.tmp 18) 84 84 rfl (.slice (some ⟨g, 0, none⟩) 0 L) (.slice (some ⟨Wd.heap.size, 0, none⟩) 1 1) (.slice (some ⟨g, 0, none⟩) 1 L) Z rfl rfl HAp.out ?_
   refine hK.out _ _ HXZ.out fun _ => ?_
   clear hK Kc
   try simp only [Act.put, lA, lB, lC]
   refine tk 5 ?_
   refine rd2 6 7 (fun Kc hK => ?_) fun Kc hK => ?_
   ·go_simp
    refine hK.out _ _ HX6.out fun _ => ?_
    clear hK Kc
    try simp only [Act.put, lA, lB, lC]
    refine rd1 7 fun Kc hK => ?_
    go_simp
    refine hK.out _ _ HX67.out fun _ => ?_
    clear hK Kc
    try simp only [Act.put, lA, lB, lC]
    refine wpAnyH_done (by kernel_rfl) ?_ _
    exact HE67.out
   go_simp
   refine hK.out _ _ HX7.out fun _ => ?_
   clear hK Kc
   try simp only [Act.put, lA, lB, lC]
   refine rd1 6 fun Kc hK => ?_
   go_simp
   refine hK.out _ _ HX76.out fun _ => ?_
   clear hK Kc
   try simp only [Act.put, lA, lB, lC]
   refine wpAnyH_done (by kernel_rfl) ?_ _
   exact HE76.out
  ·have hvb : Wr.heap[Bx]? = some (.cells #[.bool false, .int .i64 (xs 1), .string ⟨#[]⟩, .slice none 0 0] 108) := hbx
   obtain ⟨Wd, hWd⟩ := ex (Wr.drew)
   have gd : Gr Wr Wd := by rw [← hWd]; exact gr_drew
   obtain ⟨Z, hZ⟩ := ex (Wd.alloc (.cells #[.bool false, .int .i64 0, .string ⟨#[]⟩, .slice none 0 0] 108))
   have gZ0 := gr_al hZ
   have gZ : Gr Wr Z := gd.tr gZ0
   have hzz := al_new hZ
   obtain ⟨z1, z2, z3, z4, z5, z6⟩ := val_step (o := 4) hL hx2 rfl gW0 hgr hbr gZ hlg hlb
   have HAp := hidM (fun ty => append_room hL hx2 z1 hzz ty)
   obtain ⟨U6, hU6⟩ := ex (rwU Z g 4 false (xs 1))
   obtain ⟨U67, hU67⟩ := ex (U6.setCell ⟨A0.heap.size, 0, none⟩ (.slice (some ⟨g, 0, none⟩) 2 L))
   obtain ⟨U7, hU7⟩ := ex (Z.setCell ⟨A0.heap.size, 0, none⟩ (.slice (some ⟨g, 0, none⟩) 2 L))
   obtain ⟨U76, hU76⟩ := ex (rwU U7 g 4 false (xs 1))
   rw [hU6] at z3 z5
   rw [hU67] at z5
   rw [hU7] at z4 z6
   rw [hU76] at z6
   have hcl : ∀ u, Keeps Wr u (fun b => b = g ∨ b = A0.heap.size) → u.cell? ⟨Bx, 0, none⟩ = some (.bool false) ∧ u.cell? ⟨Bx, 1, none⟩ = some (.int .i64 (xs 1)) ∧ u.cell? ⟨Bx, 2, none⟩ = some (.string ⟨#[]⟩) ∧ u.cell? ⟨Bx, 3, none⟩ = some (.slice none 0 0) := fun u h => cell4 ((h.block Bx (lt_of_heap hvb) (fun e => by rcases e with e | e <;> omega)).trans hvb)
   have HXd := hidM (hcl Wd (gd.mono fun _ _ h => h.elim))
   have HXZ := hidM (hcl Z (gZ.mono fun _ _ h => h.elim))
   have k6 : Keeps Wr U6 (fun b => b = g ∨ b = A0.heap.size) := by rw [← hU6]; exact (gZ.mono fun _ _ h => h.elim).trans (setAll_kp _ _ _) (fun _ _ h => .inl h)
   have k7 : Keeps Wr U7 (fun b => b = g ∨ b = A0.heap.size) := by rw [← hU7]; exact Keeps.setCell (S := fun b => b = g ∨ b = A0.heap.size) (p := ⟨A0.heap.size, 0, none⟩) (gZ.mono fun _ _ h => h.elim) (fun _ => .inr rfl) _
   have HX6 := hidM (hcl U6 k6)
   have HX67 := hidM (hcl U67 z5.1)
   have HX7 := hidM (hcl U7 k7)
   have HX76 := hidM (hcl U76 z6.1)
   have HE67 := hidM z5
   have HE76 := hidM z6
   obtain ⟨i0, i1, i2, i3⟩ := rowCells (o := 4) hL hx2 rfl z1
   obtain ⟨j0, j1, j2, j3⟩ := rowCells (o := 4) hL hx2 rfl z4
   have b0 := cell1 ((gd.block _ (lt_of_heap hbr) id).trans hbr)
   have b1 := cell1 z2
   have b6 := cell1 z3
   have f2 := frz z2 0
   have f3 := frz z3 0
   have f1 := frzA z1
   have f4 := frzA z4
   simp only [rwU, setAll] at hU6 hU76
   clear gd gZ0 gZ hzz z1 z2 z3 z4 z5 z6 hcl k6 k7 hvb hbx gW0 hgr hbr hz hO hBx hlg hlb zz0 zz1 zz2 hg hg'
   gi_wp2_with fail
   refine region_round (S := fun w' => w'.cell? ⟨Bx, 0, none⟩ = some (.bool false) ∧ w'.cell? ⟨Bx, 1, none⟩ = some (.int .i64 (xs 1)) ∧ w'.cell? ⟨Bx, 2, none⟩ = some (.string ⟨#[]⟩) ∧ w'.cell? ⟨Bx, 3, none⟩ = some (.slice none 0 0)) (by kernel_rfl) (noDefer_spec (by kernel_rfl)) (fun ⟨_, _, h⟩ => h) ?_
   rw [hWd]
   have hHeld : (fun w' : World => w'.cell? ⟨Bx, 0, none⟩ = some (.bool false) ∧ w'.cell? ⟨Bx, 1, none⟩ = some (.int .i64 (xs 1)) ∧ w'.cell? ⟨Bx, 2, none⟩ = some (.string ⟨#[]⟩) ∧ w'.cell? ⟨Bx, 3, none⟩ = some (.slice none 0 0)) Wd := HXd.out
   refine tk 1 ?_
   refine rd2 0 3 (fun Kc hK => ?_) fun Kc hK => ?_
   ·go_simp
    refine hK.out _ _ HXd.out fun _ => ?_
    clear hK Kc
    try simp only [Act.put, lA, lB, lC]
    refine tk 2 ?_
    refine rd1 3 fun Kc hK => ?_
    go_simp
    refine hK.out _ _ HXZ.out fun _ => ?_
    clear hK Kc
    try simp only [Act.put, lA, lB, lC]
    refine rd1 4 fun Kc hK => ?_
    refine step_append_run (P := Tryz.prog) rfl (.tmp 15) (.tmp 18) 84 84 rfl (.slice (some ⟨g, 0, none⟩) 1 L) (.slice (some ⟨Wd.heap.size, 0, none⟩) 1 1) (.slice (some ⟨g, 0, none⟩) 2 L) Z rfl rfl HAp.out ?_
    refine hK.out _ _ HXZ.out fun _ => ?_
    clear hK Kc
    try simp only [Act.put, lA, lB, lC]
    refine tk 5 ?_
    refine rd2 6 7 (fun Kc hK => ?_) fun Kc hK => ?_
    ·go_simp
     refine hK.out _ _ HX6.out fun _ => ?_
     clear hK Kc
     try simp only [Act.put, lA, lB, lC]
     refine rd1 7 fun Kc hK => ?_
     go_simp
     refine hK.out _ _ HX67.out fun _ => ?_
     clear hK Kc
     try simp only [Act.put, lA, lB, lC]
     refine wpAnyH_done (by kernel_rfl) ?_ _
     exact HE67.out
    go_simp
    refine hK.out _ _ HX7.out fun _ => ?_
    clear hK Kc
    try simp only [Act.put, lA, lB, lC]
    refine rd1 6 fun Kc hK => ?_
    go_simp
    refine hK.out _ _ HX76.out fun _ => ?_
    clear hK Kc
    try simp only [Act.put, lA, lB, lC]
    refine wpAnyH_done (by kernel_rfl) ?_ _
    exact HE76.out
   go_simp
   refine hK.out _ _ HXZ.out fun _ => ?_
   clear hK Kc
   try simp only [Act.put, lA, lB, lC]
   refine rd1 0 fun Kc hK => ?_
   go_simp
   refine hK.out _ _ HXZ.out fun _ => ?_
   clear hK Kc
   try simp only [Act.put, lA, lB, lC]
   refine tk 2 ?_
   refine rd1 4 fun Kc hK => ?_
   refine step_append_run (P := Tryz.prog) rfl (.tmp 15) (.tmp 18) 84 84 rfl (.slice (some ⟨g, 0, none⟩) 1 L) (.slice (some ⟨Wd.heap.size, 0, none⟩) 1 1) (.slice (some ⟨g, 0, none⟩) 2 L) Z rfl rfl HAp.out ?_
   refine hK.out _ _ HXZ.out fun _ => ?_
   clear hK Kc
   try simp only [Act.put, lA, lB, lC]
   refine tk 5 ?_
   refine rd2 6 7 (fun Kc hK => ?_) fun Kc hK => ?_
   ·go_simp
    refine hK.out _ _ HX6.out fun _ => ?_
    clear hK Kc
    try simp only [Act.put, lA, lB, lC]
    refine rd1 7 fun Kc hK => ?_
    go_simp
    refine hK.out _ _ HX67.out fun _ => ?_
    clear hK Kc
    try simp only [Act.put, lA, lB, lC]
    refine wpAnyH_done (by kernel_rfl) ?_ _
    exact HE67.out
   go_simp
   refine hK.out _ _ HX7.out fun _ => ?_
   clear hK Kc
   try simp only [Act.put, lA, lB, lC]
   refine rd1 6 fun Kc hK => ?_
   go_simp
   refine hK.out _ _ HX76.out fun _ => ?_
   clear hK Kc
   try simp only [Act.put, lA, lB, lC]
   refine wpAnyH_done (by kernel_rfl) ?_ _
   exact HE76.out
  have hvb : Wr.heap[Bx]? = some (.cells #[.bool false, .int .i64 (xs 2), .string ⟨#[]⟩, .slice none 0 0] 108) := hbx
  obtain ⟨Wd, hWd⟩ := ex (Wr.drew)
  have gd : Gr Wr Wd := by rw [← hWd]; exact gr_drew
  obtain ⟨Z, hZ⟩ := ex (Wd.alloc (.cells #[.bool false, .int .i64 0, .string ⟨#[]⟩, .slice none 0 0] 108))
  have gZ0 := gr_al hZ
  have gZ : Gr Wr Z := gd.tr gZ0
  have hzz := al_new hZ
  obtain ⟨z1, z2, z3, z4, z5, z6⟩ := val_step (o := 8) hL hx2 rfl gW0 hgr hbr gZ hlg hlb
  have HAp := hidM (fun ty => append_room hL hx2 z1 hzz ty)
  obtain ⟨U6, hU6⟩ := ex (rwU Z g 8 false (xs 2))
  obtain ⟨U67, hU67⟩ := ex (U6.setCell ⟨A0.heap.size, 0, none⟩ (.slice (some ⟨g, 0, none⟩) 3 L))
  obtain ⟨U7, hU7⟩ := ex (Z.setCell ⟨A0.heap.size, 0, none⟩ (.slice (some ⟨g, 0, none⟩) 3 L))
  obtain ⟨U76, hU76⟩ := ex (rwU U7 g 8 false (xs 2))
  rw [hU6] at z3 z5
  rw [hU67] at z5
  rw [hU7] at z4 z6
  rw [hU76] at z6
  have hcl : ∀ u, Keeps Wr u (fun b => b = g ∨ b = A0.heap.size) → u.cell? ⟨Bx, 0, none⟩ = some (.bool false) ∧ u.cell? ⟨Bx, 1, none⟩ = some (.int .i64 (xs 2)) ∧ u.cell? ⟨Bx, 2, none⟩ = some (.string ⟨#[]⟩) ∧ u.cell? ⟨Bx, 3, none⟩ = some (.slice none 0 0) := fun u h => cell4 ((h.block Bx (lt_of_heap hvb) (fun e => by rcases e with e | e <;> omega)).trans hvb)
  have HXd := hidM (hcl Wd (gd.mono fun _ _ h => h.elim))
  have HXZ := hidM (hcl Z (gZ.mono fun _ _ h => h.elim))
  have k6 : Keeps Wr U6 (fun b => b = g ∨ b = A0.heap.size) := by rw [← hU6]; exact (gZ.mono fun _ _ h => h.elim).trans (setAll_kp _ _ _) (fun _ _ h => .inl h)
  have k7 : Keeps Wr U7 (fun b => b = g ∨ b = A0.heap.size) := by rw [← hU7]; exact Keeps.setCell (S := fun b => b = g ∨ b = A0.heap.size) (p := ⟨A0.heap.size, 0, none⟩) (gZ.mono fun _ _ h => h.elim) (fun _ => .inr rfl) _
  have HX6 := hidM (hcl U6 k6)
  have HX67 := hidM (hcl U67 z5.1)
  have HX7 := hidM (hcl U7 k7)
  have HX76 := hidM (hcl U76 z6.1)
  have HE67 := hidM z5
  have HE76 := hidM z6
  obtain ⟨i0, i1, i2, i3⟩ := rowCells (o := 8) hL hx2 rfl z1
  obtain ⟨j0, j1, j2, j3⟩ := rowCells (o := 8) hL hx2 rfl z4
  have b0 := cell1 ((gd.block _ (lt_of_heap hbr) id).trans hbr)
  have b1 := cell1 z2
  have b6 := cell1 z3
  have f2 := frz z2 0
  have f3 := frz z3 0
  have f1 := frzA z1
  have f4 := frzA z4
  simp only [rwU, setAll] at hU6 hU76
  clear gd gZ0 gZ hzz z1 z2 z3 z4 z5 z6 hcl k6 k7 hvb hbx gW0 hgr hbr hz hO hBx hlg hlb zz0 zz1 zz2 hg hg'
  gi_wp2_with fail
  refine region_round (S := fun w' => w'.cell? ⟨Bx, 0, none⟩ = some (.bool false) ∧ w'.cell? ⟨Bx, 1, none⟩ = some (.int .i64 (xs 2)) ∧ w'.cell? ⟨Bx, 2, none⟩ = some (.string ⟨#[]⟩) ∧ w'.cell? ⟨Bx, 3, none⟩ = some (.slice none 0 0)) (by kernel_rfl) (noDefer_spec (by kernel_rfl)) (fun ⟨_, _, h⟩ => h) ?_
  rw [hWd]
  have hHeld : (fun w' : World => w'.cell? ⟨Bx, 0, none⟩ = some (.bool false) ∧ w'.cell? ⟨Bx, 1, none⟩ = some (.int .i64 (xs 2)) ∧ w'.cell? ⟨Bx, 2, none⟩ = some (.string ⟨#[]⟩) ∧ w'.cell? ⟨Bx, 3, none⟩ = some (.slice none 0 0)) Wd := HXd.out
  refine tk 1 ?_
  refine rd2 0 3 (fun Kc hK => ?_) fun Kc hK => ?_
  ·go_simp
   refine hK.out _ _ HXd.out fun _ => ?_
   clear hK Kc
   try simp only [Act.put, lA, lB, lC]
   refine tk 2 ?_
   refine rd1 3 fun Kc hK => ?_
   go_simp
   refine hK.out _ _ HXZ.out fun _ => ?_
   clear hK Kc
   try simp only [Act.put, lA, lB, lC]
   refine rd1 4 fun Kc hK => ?_
   refine step_append_run (P := Tryz.prog) rfl (.tmp 15) (.tmp 18) 84 84 rfl (.slice (some ⟨g, 0, none⟩) 2 L) (.slice (some ⟨Wd.heap.size, 0, none⟩) 1 1) (.slice (some ⟨g, 0, none⟩) 3 L) Z rfl rfl HAp.out ?_
   refine hK.out _ _ HXZ.out fun _ => ?_
   clear hK Kc
   try simp only [Act.put, lA, lB, lC]
   refine tk 5 ?_
   refine rd2 6 7 (fun Kc hK => ?_) fun Kc hK => ?_
   ·go_simp
    refine hK.out _ _ HX6.out fun _ => ?_
    clear hK Kc
    try simp only [Act.put, lA, lB, lC]
    refine rd1 7 fun Kc hK => ?_
    go_simp
    refine hK.out _ _ HX67.out fun _ => ?_
    clear hK Kc
    try simp only [Act.put, lA, lB, lC]
    refine wpAnyH_done (by kernel_rfl) ?_ _
    exact HE67.out
   go_simp
   refine hK.out _ _ HX7.out fun _ => ?_
   clear hK Kc
   try simp only [Act.put, lA, lB, lC]
   refine rd1 6 fun Kc hK => ?_
   go_simp
   refine hK.out _ _ HX76.out fun _ => ?_
   clear hK Kc
   try simp only [Act.put, lA, lB, lC]
   refine wpAnyH_done (by kernel_rfl) ?_ _
   exact HE76.out
  go_simp
  refine hK.out _ _ HXZ.out fun _ => ?_
  clear hK Kc
  try simp only [Act.put, lA, lB, lC]
  refine rd1 0 fun Kc hK => ?_
  go_simp
  refine hK.out _ _ HXZ.out fun _ => ?_
  clear hK Kc
  try simp only [Act.put, lA, lB, lC]
  refine tk 2 ?_
  refine rd1 4 fun Kc hK => ?_
  refine step_append_run (P := Tryz.prog) rfl (.tmp 15) (.tmp 18) 84 84 rfl (.slice (some ⟨g, 0, none⟩) 2 L) (.slice (some ⟨Wd.heap.size, 0, none⟩) 1 1) (.slice (some ⟨g, 0, none⟩) 3 L) Z rfl rfl HAp.out ?_
  refine hK.out _ _ HXZ.out fun _ => ?_
  clear hK Kc
  try simp only [Act.put, lA, lB, lC]
  refine tk 5 ?_
  refine rd2 6 7 (fun Kc hK => ?_) fun Kc hK => ?_
  ·go_simp
   refine hK.out _ _ HX6.out fun _ => ?_
   clear hK Kc
   try simp only [Act.put, lA, lB, lC]
   refine rd1 7 fun Kc hK => ?_
   go_simp
   refine hK.out _ _ HX67.out fun _ => ?_
   clear hK Kc
   try simp only [Act.put, lA, lB, lC]
   refine wpAnyH_done (by kernel_rfl) ?_ _
   exact HE67.out
  go_simp
  refine hK.out _ _ HX7.out fun _ => ?_
  clear hK Kc
  try simp only [Act.put, lA, lB, lC]
  refine rd1 6 fun Kc hK => ?_
  go_simp
  refine hK.out _ _ HX76.out fun _ => ?_
  clear hK Kc
  try simp only [Act.put, lA, lB, lC]
  refine wpAnyH_done (by kernel_rfl) ?_ _
  exact HE76.out
 case done =>
  rintro ys Wr rfl ⟨k, hk, hpre, gW0, hgr, hbr⟩ hz hd
  have hkx : k = L := by have := congrArg List.length hpre; simpa using this.symm
  subst hkx
  have c0 := cell1 hbr
  have HE : Hid (Gr W (Wr.putObj w2.heap.size (.deferred none)) ∧ (Wr.putObj w2.heap.size (.deferred none)).heap[g]? = some (.cells (rowK xs k k) 108)) := by
   refine ⟨gW0.trans (T := fun k => k = w2.heap.size) (keeps_put _ _ _) (fun j hj h => by have h' : j = w2.heap.size := h; omega), (World.putObj_heap_other (by omega)).trans hgr⟩
  have HD := hidM hd
  have HL : Hid (W.heap.size ≤ g) := (by omega : W.heap.size ≤ g)
  clear hk hpre gW0 hgr hbr hd hz HSeq H0 HA hmk hA0 hA1 a0 a1 a2 a3 HZ zz0 zz1 zz2 hg' hg
  go_wp2_with fail
  refine ⟨by simp, .inl ⟨_, _, rfl, run_takeDeferred HD.out, ?_⟩⟩
  refine ⟨.slice (some ⟨g, 0, none⟩) k k, ?_, g, rfl, HE.out.1, HL.out, HE.out.2⟩
  simp [results, Tryz.f73, go_sem]
 case stop => intro c pre W h1 h2; exact h2.elim
theorem letsNulls38 (g c : Nat) (W : World) (ao : Option Addr) (ca : Nat) (h : W.heap[g]? = some (.cells #[.string (nmB nx), .bool false, .int .i64 3, .int .i64 0, .int .i64 0, .int .i64 0, .slice ao 0 ca] 58)) : Calls Tryz.prog 61 #[.slice (some ⟨g, 0, none⟩) 1 c] W fun e w' => e = .returned (.bool false) ∧ Gr W w' := by
 obtain ⟨a0, a1, a2, a3, a4, a5, a6⟩ := cell7 h
 obtain ⟨A, hA⟩ := ex (W.alloc (.cells #[.string (nmB nx), .bool false, .int .i64 3, .int .i64 0, .int .i64 0, .int .i64 0, .slice ao 0 ca] 58))
 have HG : Hid (Gr W A) := by rw [← hA]; exact gr_alloc W _
 have hb := al_new hA
 obtain ⟨e0, e1, e2, e3, e4, e5, e6⟩ := cell7 hb
 clear h hb
 go_enter Tryz.func61, Tryz.ntmps61
 go_wp2_with fail
 go_loopw [7] (fun i wr => i = .int .i64 0 ∧ wr = W) (fun _ _ => 0)
 case atStart => exact ⟨rfl, rfl⟩
 case round =>
  obtain ⟨rfl, rfl⟩ := hrel
  go_wp2_with fail
  go_ret
  exact ⟨rfl, HG.out⟩
theorem check17 (fb fcc : Nat) (ao : Option Addr) (ca : Nat) (W : World) (hT : Tab W) (hc : 1 ≤ fcc) (hf : W.heap[fb]? = some (.cells #[.string (nmB nx), .bool false, .int .i64 3, .int .i64 0, .int .i64 0, .int .i64 0, .slice ao 0 ca] 58)) : Calls Tryz.prog 21 #[.agg #[.slice (some ⟨fb, 0, none⟩) 1 fcc, .slice none 0 0]] W fun e w' => ∃ vo vn vc tt, e = .returned (.agg #[.int .i64 0, .slice vo vn vc, .int .i64 tt]) ∧ Gr W w' := by
 refine (check_fault (S := fun b => b = fb) (D := 1) (fo := some ⟨fb, 0, none⟩) (no := none) (cf := fcc) (cn := 0) (fs := [leafF (nmB nx) false 3]) (ns := []) (w := W) hT (row_leaf rfl hf) hc (by decide) (fun b e => by have e' : b = fb := e; rw [e']; exact lt_of_heap hf) ⟨by decide, fun h => absurd rfl h⟩ W (Keeps.refl _ _)).mono ?_
 rintro e w' ⟨er, vo, vn, vc, tt, rfl, g, p, h1, h2, -⟩
 have hF : FaultIs (listsE 1 []) (nodes 1 [leafF (nmB nx) false 3] [] false) 0 [] 0 := .inr (.inl ⟨rfl, allR (nx := nx) false, rfl, rfl, rfl⟩)
 obtain ⟨rfl, -, -⟩ := hF.one h2
 exact ⟨vo, vn, vc, tt, rfl, g⟩
structure S1f (nx : Bool) (W : World) (g c : Nat) (ao : Option Addr) (ca : Nat) : Prop where
 f : W.heap[g]? = some (.cells #[.string (nmB nx), .bool false, .int .i64 3, .int .i64 0, .int .i64 0, .int .i64 0, .slice ao 0 ca] 58)
 c1 : 1 ≤ c
 T : Tab W
theorem S1f.gr {W u : World} {g c : Nat} {ao : Option Addr} {ca : Nat} (h : S1f nx W g c ao ca) (k : Gr W u) : S1f nx u g c ao ca := ⟨(k.block _ (lt_of_heap h.f) id).trans h.f, h.c1, h.T.gr k⟩
variable {ny : Bool}
def Left (S O : Nat → Prop) (s : Nat) (W W' : World) : Prop := KpOf (fun b => S b ∨ O b ∨ b = s ∨ b = s + 1) W W' ∧ W.heap.size ≤ W'.heap.size
structure DatN (W : World) (L qb v2 c2 : Nat) : Prop where
 b0 : ∃ bo0 bc0, W.cell? ⟨qb, 0, none⟩ = some (.slice bo0 0 bc0)
 b1 : W.cell? ⟨qb, 1, none⟩ = some (.slice (some ⟨v2, 0, none⟩) L c2)
 n2 : L ≤ c2
 T : Tab W
 hL : L = 2 ∨ L = 3
theorem DatN.gr {W u : World} {L qb v2 c2 : Nat} (h : DatN W L qb v2 c2) (g : Gr W u) : DatN u L qb v2 c2 := ⟨h.b0.imp fun _ e => e.imp fun _ e => g.cell' e id, g.cell' h.b1 id, h.n2, h.T.gr g, h.hL⟩
structure OpA (nx : Bool) (W w' : World) (L v2 c2 a : Nat) : Prop where
 g : Gr W w'
 p : ∃ q r rc fo fc, (W.heap.size ≤ a ∧ W.heap.size ≤ q ∧ W.heap.size ≤ r) ∧ NdA nx w' q r rc false fo fc L 0 v2 L c2 ∧ w'.heap[a]? = some (.cells #[.pointer (some ⟨q, 0, none⟩), .int .i64 0, .int .i64 L, .pointer none] 168)
theorem OpA.gr {W w' u : World} {L v2 c2 a : Nat} (h : OpA nx W w' L v2 c2 a) (k : Gr w' u) : OpA nx W u L v2 c2 a := by
 obtain ⟨q, r, rc, fo, fc, h1, h2, h3⟩ := h.p
 exact ⟨h.g.tr k, q, r, rc, fo, fc, h1, h2.gr k, (k.block _ (lt_of_heap h3) id).trans h3⟩
theorem OpA.low {W V w' : World} {L v2 c2 a : Nat} (h : OpA nx V w' L v2 c2 a) (k : Gr W V) : OpA nx W w' L v2 c2 a := by
 obtain ⟨q, r, rc, fo, fc, ⟨h1, h4, h5⟩, h2, h3⟩ := h.p
 have := k.size
 exact ⟨k.tr h.g, q, r, rc, fo, fc, ⟨by omega, by omega, by omega⟩, h2, h3⟩
theorem open49 (L qb bc v2 c2 : Nat) (ao : Option Addr) (ca : Nat) (W : World) (hD : DatN W L qb v2 c2) :
  Calls Tryz.prog 72 #[.agg #[.string (nmB nx), .bool false, .int .i64 3, .int .i64 0, .int .i64 0, .int .i64 0, .slice ao 0 ca], .agg #[.int .i64 L, .int .i64 0, .int .i64 0, .slice (some ⟨qb, 0, none⟩) 2 bc, .slice none 0 0, .slice none 0 0]] W fun e w' => ∃ a, e = .returned (.tuple #[.pointer (some ⟨a, 0, none⟩), .agg #[.int .i64 0, .slice none 0 0, .int .i64 0]]) ∧ OpA nx W w' L v2 c2 a := by
 rcases hD.hL with rfl | rfl
 ·refine (open18_c qb bc v2 c2 ao ca W ⟨hD.b0, hD.b1, hD.n2, hD.T⟩).mono ?_
  rintro e w' ⟨a, q, r, rc, fo, fc, rfl, h1, h2, h3, h4⟩
  exact ⟨a, rfl, h1, q, r, rc, fo, fc, h2, h3, h4⟩
 refine (open18_d qb bc v2 c2 ao ca W ⟨hD.b0, hD.b1, hD.n2, hD.T⟩).mono ?_
 rintro e w' ⟨a, q, r, rc, fo, fc, rfl, h1, h2, h3, h4⟩
 exact ⟨a, rfl, h1, q, r, rc, fo, fc, h2, h3, h4⟩
theorem opened59 (L qb bc v2 c2 : Nat) (ao : Option Addr) (ca : Nat) (W : World) (hD : DatN W L qb v2 c2) :
  Calls Tryz.prog 83 #[.agg #[.string (nmB nx), .bool false, .int .i64 3, .int .i64 0, .int .i64 0, .int .i64 0, .slice ao 0 ca], .agg #[.int .i64 L, .int .i64 0, .int .i64 0, .slice (some ⟨qb, 0, none⟩) 2 bc, .slice none 0 0, .slice none 0 0]] W fun e w' => ∃ a, e = .returned (.tuple #[.pointer (some ⟨a, 0, none⟩), .int .i64 0]) ∧ OpA nx W w' L v2 c2 a := by
 obtain ⟨A0, hA0⟩ := ex (W.alloc (.cells #[.string (nmB nx), .bool false, .int .i64 3, .int .i64 0, .int .i64 0, .int .i64 0, .slice ao 0 ca] 58))
 have g0 := gr_al hA0
 have b0 : A0.heap[W.heap.size]? = some (.cells #[.string (nmB nx), .bool false, .int .i64 3, .int .i64 0, .int .i64 0, .int .i64 0, .slice ao 0 ca] 58) := by rw [← hA0]; exact heap_alloc_new W _
 obtain ⟨A1, hA1⟩ := ex (A0.alloc (.cells #[.int .i64 L, .int .i64 0, .int .i64 0, .slice (some ⟨qb, 0, none⟩) 2 bc, .slice none 0 0, .slice none 0 0] 68))
 have g1 := gr_al hA1
 have b1 : A1.heap[A0.heap.size]? = some (.cells #[.int .i64 L, .int .i64 0, .int .i64 0, .slice (some ⟨qb, 0, none⟩) 2 bc, .slice none 0 0, .slice none 0 0] 68) := by rw [← hA1]; exact heap_alloc_new A0 _
 have gW : Gr W A1 := g0.tr g1
 have HC := hidM (open49 (nx := nx) L qb bc v2 c2 ao ca A1 (hD.gr gW))
 have HG := hidM gW
 obtain ⟨e0, e1, e2, e3, e4, e5, e6⟩ := cell7 ((g1.block _ (lt_of_heap b0) id).trans b0)
 obtain ⟨f0, f1, f2, f3, f4, f5⟩ := cell6 b1
 clear g0 b0 g1 b1 gW hD
 go_enter Tryz.func83, Tryz.ntmps83
 go_wp2_with (go_at_call 72; refine HC.out.mono ?_; rintro e w1 ⟨a, rfl, hO⟩; clear e0 e1 e2 e3 e4 e5 e6 f0 f1 f2 f3 f4 f5 hA0 hA1; obtain ⟨V, hV⟩ := ex (w1.alloc (.cells #[.int .i64 0, .slice none 0 0, .int .i64 0] 52)); have gV := gr_al hV; have hbv := al_new hV; obtain ⟨y0, y1, y2⟩ := cell3V hbv; have z0 := frz hbv 0; have z1 := frz hbv 1; have z2 := frz hbv 2; have i0 := set_id (j := 0) (v := .int .i64 0) hbv rfl; have i1 := set_id (j := 1) (v := .slice none 0 0) hbv rfl; have i2 := set_id (j := 2) (v := .int .i64 0) hbv rfl; have HO := hidM ((hO.gr gV).low HG.out); have HY : Hid (V.drew.cell? ⟨w1.heap.size, 0, none⟩ = some (.int .i64 0)) := (gr_drew.cell' y0 id); have HX := hidM (HO.out.gr gr_drew); clear hO gV hbv)
 clear y0 y1 y2 z0 z1 z2 i0 i1 i2 hV
 go_region_held3 (fun u => u.cell? ⟨w1.heap.size, 0, none⟩ = some (.int .i64 0)) (first | with_reducible exact HY.out) (fail)
 go_wp2_with fail
 go_ret2
 exact ⟨a, rfl, HX.out⟩
theorem hasColumns58 (L : Int) (g ac db dbc qb bc : Nat) (hL : L = 2 ∨ L = 3) (W : World) (hd : W.heap[db]? = some (.cells #[.int .i64 L, .int .i64 0, .int .i64 0, .slice (some ⟨qb, 0, none⟩) 2 bc, .slice none 0 0, .slice none 0 0] 68)) : Calls Tryz.prog 82 #[.agg #[.slice (some ⟨g, 0, none⟩) 1 ac, .slice none 0 0], .agg #[.int .i64 L, .slice (some ⟨db, 0, none⟩) 1 dbc]] W fun e w' => e = .returned (.bool true) ∧ Gr W w' := by
 obtain ⟨A0, hA0⟩ := ex (W.alloc (.cells #[.slice (some ⟨g, 0, none⟩) 1 ac, .slice none 0 0] 25))
 have g0 := gr_al hA0
 have b0 : A0.heap[W.heap.size]? = some (.cells #[.slice (some ⟨g, 0, none⟩) 1 ac, .slice none 0 0] 25) := by rw [← hA0]; exact heap_alloc_new W _
 obtain ⟨A1, hA1⟩ := ex (A0.alloc (.cells #[.int .i64 L, .slice (some ⟨db, 0, none⟩) 1 dbc] 28))
 have g1 := gr_al hA1
 have b1 : A1.heap[A0.heap.size]? = some (.cells #[.int .i64 L, .slice (some ⟨db, 0, none⟩) 1 dbc] 28) := by rw [← hA1]; exact heap_alloc_new A0 _
 obtain ⟨A2, hA2, g2, b2⟩ := nw A1 (.cells #[.int .i64 L, .int .i64 0, .int .i64 0, .slice (some ⟨qb, 0, none⟩) 2 bc, .slice none 0 0, .slice none 0 0] 68)
 have gW : Gr W A1 := g0.tr g1
 have HG : Hid (Gr W A2) := gW.tr g2
 obtain ⟨e0, e1⟩ := cell2 ((g1.block _ (lt_of_heap b0) id).trans b0)
 obtain ⟨f0, f1⟩ := cell2 b1
 obtain ⟨k0, k1⟩ := cell2 ((g2.block _ (lt_of_heap b1) id).trans b1)
 obtain ⟨d0, d1, d2, d3, d4, d5⟩ := cell6 ((gW.block _ (lt_of_heap hd) id).trans hd)
 obtain ⟨h0, h1, h2, h3, h4, h5⟩ := cell6 b2
 have z := frzA b2
 have i0 := set_id (j := 0) (v := .int .i64 L) b2 rfl
 have i1 := set_id (j := 1) (v := .int .i64 0) b2 rfl
 have i2 := set_id (j := 2) (v := .int .i64 0) b2 rfl
 have i3 := set_id (j := 3) (v := .slice (some ⟨qb, 0, none⟩) 2 bc) b2 rfl
 have i4 := set_id (j := 4) (v := .slice none 0 0) b2 rfl
 have i5 := set_id (j := 5) (v := .slice none 0 0) b2 rfl
 clear g0 b0 g1 b1 g2 b2 gW hd
 rcases hL with rfl | rfl
 all_goals
  go_enter Tryz.func82, Tryz.ntmps82
  go_wp2_with fail
  go_loopw [27] (fun i wr => ∃ k : Nat, k ≤ 1 ∧ i = .int .i64 k ∧ wr = (if k = 0 then A1 else A2)) (fun i _ => 1 - (intOf i).toNat)
  case atStart => exact ⟨0, by omega, rfl, rfl⟩
  case round =>
   obtain ⟨k, hk, rfl, rfl⟩ := hrel
   have hk3 : k = 0 ∨ k = 1 := by omega
   rcases hk3 with rfl | rfl
   ·simp only [if_pos rfl]
    go_wp2_with fail
    go_roundw
    case rel => exact ⟨1, by omega, by go_num, rfl⟩
    case measure => simp [intOf]
   go_wp2_with fail
   go_ret
   exact ⟨rfl, HG.out⟩
end Go.Proofs.YthhpamhfnpacpaaGreatDoor.Kit
