import Derived.Test.YtknnoiomdngmfaaGreatDoorLQ
import Derived.Test.YtknnoiomdngmfaaGreatDoorCW
set_option maxRecDepth 100000
set_option maxHeartbeats 4000000
namespace Go.Proofs.YtknnoiomdngmfaaGreatDoor.Kit
open Go.RowKit Go.Shelf Go.Deep
open Go.Proofs.YtknnoiomdngmfaaGreatDoor.Ink (OwnRow)
set_option linter.unusedVariables false
set_option linter.unusedSimpArgs false
attribute [local go_sem] run_store_func
theorem need_2 (w : World) : Calls Tryz.prog 259 #[.int .i64 2] w fun e w' => e = .returned (.int .i64 1) ∧ w' = w := (Bits.need_pos 2 (by decide) w).mono fun e w' h => ⟨h.1, h.2.symm⟩
theorem end_2 (q : Nat) (nu : Bool) (ao : Option Addr) (ca : Nat) (bv : Value) (W : World) (h : W.heap[q]? = some (.cells (ndC nu ao ca (2 : Nat) (0 : Nat) bv) 120)) : Calls Tryz.prog 256 #[.pointer (some ⟨q, 0, none⟩)] W fun e w' => e = .returned (.int .i64 2) ∧ Gr W w' := (end96 q nu ao ca 2 0 bv W h (by decide)).mono fun e w' h => ⟨h.1, by rw [h.2]; exact gr_drew⟩
theorem tooSmall68 (W : World) (q r rc : Nat) (nu : Bool) (ao : Option Addr) (ca : Nat) (v2 c2 : Nat) (h : NdA W q r rc nu ao ca 2 0 v2 2 c2) : Calls Tryz.prog 174 #[.pointer (some ⟨q, 0, none⟩)] W fun e w' => e = .returned (.tuple #[.int .i64 0, .int .i64 0]) ∧ Gr W w' := by
  have HN : Hid (∀ u, Gr W u → NdA u q r rc nu ao ca 2 0 v2 2 c2) := fun u g => h.gr g
  have hS : ∀ u, Gr W u → u.cell? ⟨q, 7, none⟩ = some (.iface 302 (.agg #[.int .i64 1, .bool true])) := fun u g => (cellF (h.gr g).nd).1
  have HS0 := hidM (hS W.drew gr_drew)
  have HS := hidM hS
  have hmeth := method_needs
  clear h hS
  go_enter Tryz.func174, Tryz.ntmps174
  go_wp2_with fail
  go_region_held3 (fun u => u.cell? ⟨q, 7, none⟩ = some (.iface 302 (.agg #[.int .i64 1, .bool true]))) (first | with_reducible exact HS0.out | with_reducible exact HS1.out | with_reducible exact HS2.out) (first
    | (go_at_call 256; refine (end_2 q nu ao ca _ _ (HN.out _ gr_drew).nd).mono ?_; rintro e w1 ⟨rfl, g1⟩; have HG1 : Hid (Gr W w1) := Keeps.trans gr_drew g1 (fun _ _ h => h); have HS1 := hidM (HS.out w1 HG1.out); clear g1)
    | (go_at_call 488; refine (needs308 _).mono ?_; rintro e w2 ⟨gg, rfl, g2, hgl, hcg⟩; have HG2 := hidM (HG1.out.tr g2); have HS2 := hidM (HS.out w2 HG2.out); have HCG := hidM hcg; clear g2 hgl hcg))
  clear hmeth
  go_wp2_with (first
    | (go_at_call 257; refine (masked97 q nu ao ca (2 : Nat) (0 : Nat) _ w2 (HN.out w2 HG2.out).nd).mono ?_; rintro e w3 ⟨rfl, rfl⟩)
    | (go_at_call 256; refine (end_2 q nu ao ca _ _ (HN.out _ HG2.out).nd).mono ?_; rintro e w3 ⟨rfl, g3⟩; have HG3 := hidM (HG2.out.tr g3); have HC3 := hidM (g3.cell' HCG.out id); clear g3)
    | (go_at_call 259; refine (need_2 _).mono ?_; rintro e w4 ⟨rfl, rfl⟩; obtain ⟨V4, hV4⟩ := ex (w4.alloc (.cells #[.int .i64 1] 3)); have g4 := gr_al hV4; have HI4 := hidM (insert98 gg w4.heap.size 2 1 V4 (g4.cell' HC3.out id) (by rw [← hV4]; exact cell1 (heap_alloc_new w4 _))); have HG4 := hidM (HG3.out.tr g4); clear g4)
    | (go_at_call 258; refine HI4.out.mono ?_; rintro e w5 ⟨gn, cn, rfl, g5, hn0, hn1⟩; have HG5 := hidM (HG4.out.tr g5); have HCn := hidM (And.intro hn0 hn1); have cr := cellB (HN.out w5 HG5.out).nd; clear g5 hn0 hn1))
  replace HN : Hid (∀ u, Gr w5 u → NdA u q r rc nu ao ca 2 0 v2 2 c2) := fun u g => HN.out u (HG5.out.tr g)
  clear HS HS0 HS1 HS2 HG1 HG2 HG3 HG4 HCG HC3 HI4
  go_loopw [36] (fun i wr => ∃ k : Nat, k ≤ 2 ∧ i = .int .i64 k ∧ Hid (Gr w5 wr)) (fun i _ => 2 - (intOf i).toNat)
  case atStart => exact ⟨0, by omega, rfl, Keeps.refl _ _⟩
  case round =>
    obtain ⟨k, hk, rfl, HI⟩ := hrel
    have hk3 : k = 0 ∨ k = 1 ∨ k = 2 := by omega
    rcases hk3 with rfl | rfl | rfl
    · have cr := cellB (HN.out wr HI.out).nd
      obtain ⟨q0, q1, q2⟩ := And.intro (HN.out wr HI.out).r0 (And.intro (HN.out wr HI.out).r1 (HN.out wr HI.out).r2)
      obtain ⟨V, hV⟩ := ex (wr.alloc (.cells #[.slice none 0 0, .int .i64 0, .pointer none] 311))
      have gV := gr_al hV
      have hbv : V.heap[wr.heap.size]? = some (.cells #[.slice none 0 0, .int .i64 0, .pointer none] 311) := by rw [← hV]; exact heap_alloc_new wr _
      obtain ⟨y0, y1, y2⟩ := cell3V hbv
      have z0 := frz hbv 0
      have i0 := set_id (j := 0) (v := .slice none 0 0) hbv rfl
      have z1 := frz hbv 1
      have z2 := frz hbv 2
      have i1 := set_id (j := 1) (v := .int .i64 0) hbv rfl
      have i2 := set_id (j := 2) (v := .pointer none) hbv rfl
      have HM := hidM (masked97 q nu ao ca (2 : Nat) (0 : Nat) (.slice (some ⟨r, 0, none⟩) 2 rc) V (HN.out V (HI.out.tr gV)).nd)
      have HBV := hidM hbv
      have HGV := hidM (HI.out.tr gV)
      have HSS : Hid (∀ u, Gr V u → u.cell? ⟨wr.heap.size, 0, none⟩ = some (.slice none 0 0) ∧ u.cell? ⟨wr.heap.size, 1, none⟩ = some (.int .i64 0) ∧ u.cell? ⟨wr.heap.size, 2, none⟩ = some (.pointer none) ∧ u.cell? ⟨gn, 0, none⟩ = some (.int .i64 1)) := fun u g => by
        obtain ⟨y0, y1, y2⟩ := cell3V ((g.block _ (lt_of_heap hbv) id).trans hbv)
        have gu := (HI.out.tr gV).tr g
        exact ⟨y0, y1, y2, gu.cell' HCn.out.1 id⟩
      clear gV hbv
      go_wp2_with (first
        | (go_at_call 257; refine HM.out.mono ?_; rintro e w6 ⟨rfl, rfl⟩)
        | (go_at_call 260; refine (len100 _ _ _ _).mono ?_; rintro e w7 ⟨rfl, g7⟩; have HG7 := hidM g7; obtain ⟨y0, y1, y2⟩ := cell3V ((g7.block _ (lt_of_heap HBV.out) id).trans HBV.out); have HS7 := hidM (HSS.out w7.drew (HG7.out.tr gr_drew)); have HN7 := hidM (HG7.out.tr gr_drew); clear g7))
      refine wp_region_held_drew (S := fun w' => w'.cell? ⟨wr.heap.size, 0, none⟩ = some (.slice none 0 0) ∧ w'.cell? ⟨wr.heap.size, 1, none⟩ = some (.int .i64 0) ∧ w'.cell? ⟨wr.heap.size, 2, none⟩ = some (.pointer none) ∧ w'.cell? ⟨gn, 0, none⟩ = some (.int .i64 1)) (by kernel_rfl) (HS7.out) (fun hHeld => ?_)
      refine tk 0 ?_
      refine tk 2 ?_
      refine tk 3 ?_
      refine tk 4 ?_
      refine tk 5 ?_
      refine rd1 1 fun Kc hK => ?_
      go_simp
      go_at_call 260
      refine Calls.mono (len100 _ _ _ _) ?_
      rintro e' w8 ⟨rfl, g8⟩; have HG8 := hidM (HN7.out.tr g8); have HS8 := hidM (HSS.out w8 HG8.out); clear g8
      go_wp2_with fail
      refine hK.out _ _ (HS8.out) (fun hHeld => ?_)
      clear hK Kc
      try simp only [Act.put, lA, lB, lC]
      refine tk 6 ?_
      refine tk 7 ?_
      refine tk 8 ?_
      refine tk 9 ?_
      refine tk 10 ?_
      refine wpAnyH_done (by kernel_rfl) ?_ _
      go_wp2_with fail
      go_roundw
      case rel => exact ⟨1, by omega, by go_num, HGV.out.tr HG8.out⟩
      case measure => simp [intOf]
    · have cr := cellB (HN.out wr HI.out).nd
      obtain ⟨q0, q1, q2⟩ := And.intro (HN.out wr HI.out).r3 (And.intro (HN.out wr HI.out).r4 (HN.out wr HI.out).r5)
      obtain ⟨V, hV⟩ := ex (wr.alloc (.cells #[.slice (some ⟨v2, 0, none⟩) 2 c2, .int .i64 0, .pointer none] 311))
      have gV := gr_al hV
      have hbv : V.heap[wr.heap.size]? = some (.cells #[.slice (some ⟨v2, 0, none⟩) 2 c2, .int .i64 0, .pointer none] 311) := by rw [← hV]; exact heap_alloc_new wr _
      obtain ⟨y0, y1, y2⟩ := cell3V hbv
      have z1 := frz hbv 1
      have z2 := frz hbv 2
      have i1 := set_id (j := 1) (v := .int .i64 0) hbv rfl
      have i2 := set_id (j := 2) (v := .pointer none) hbv rfl
      have HM := hidM (masked97 q nu ao ca (2 : Nat) (0 : Nat) (.slice (some ⟨r, 0, none⟩) 2 rc) V (HN.out V (HI.out.tr gV)).nd)
      have HBV := hidM hbv
      have HGV := hidM (HI.out.tr gV)
      have HSS : Hid (∀ u, Gr V u → u.cell? ⟨wr.heap.size, 0, none⟩ = some (.slice (some ⟨v2, 0, none⟩) 2 c2) ∧ u.cell? ⟨wr.heap.size, 1, none⟩ = some (.int .i64 0) ∧ u.cell? ⟨wr.heap.size, 2, none⟩ = some (.pointer none) ∧ u.cell? ⟨gn, 1, none⟩ = some (.int .i64 2)) := fun u g => by
        obtain ⟨y0, y1, y2⟩ := cell3V ((g.block _ (lt_of_heap hbv) id).trans hbv)
        have gu := (HI.out.tr gV).tr g
        exact ⟨y0, y1, y2, gu.cell' HCn.out.2 id⟩
      have HS7 := hidM (HSS.out V.drew gr_drew)
      have HN7 := hidM (gr_drew : Gr V V.drew)
      clear gV hbv
      go_wp2_with fail
      refine wp_region_held_drew (S := fun w' => w'.cell? ⟨wr.heap.size, 0, none⟩ = some (.slice (some ⟨v2, 0, none⟩) 2 c2) ∧ w'.cell? ⟨wr.heap.size, 1, none⟩ = some (.int .i64 0) ∧ w'.cell? ⟨wr.heap.size, 2, none⟩ = some (.pointer none) ∧ w'.cell? ⟨gn, 1, none⟩ = some (.int .i64 2)) (by kernel_rfl) (HS7.out) (fun hHeld => ?_)
      refine tk 0 ?_
      refine tk 2 ?_
      refine tk 3 ?_
      refine tk 4 ?_
      refine tk 5 ?_
      refine rd1 1 fun Kc hK => ?_
      go_simp
      go_at_call 260
      refine Calls.mono (len100 _ _ _ _) ?_
      rintro e' w8 ⟨rfl, g8⟩; have HG8 := hidM (HN7.out.tr g8); have HS8 := hidM (HSS.out w8 HG8.out); clear g8
      go_wp2_with fail
      refine hK.out _ _ (HS8.out) (fun hHeld => ?_)
      clear hK Kc
      try simp only [Act.put, lA, lB, lC]
      refine tk 6 ?_
      refine tk 7 ?_
      refine sk 8 ?_
      refine sk 9 ?_
      refine tk 10 ?_
      refine wpAnyH_done (by kernel_rfl) ?_ _
      go_wp2_with fail
      go_roundw
      case rel => exact ⟨2, by omega, by go_num, HGV.out.tr HG8.out⟩
      case measure => simp [intOf]
    obtain ⟨c7, c9, c12⟩ := cellF (HN.out wr HI.out).nd
    go_wp2_with fail
    go_loopw [70] (fun i u => i = .int .i64 0 ∧ u = wr) (fun i _ => 0)
    case atStart => exact ⟨rfl, rfl⟩
    case round =>
      obtain ⟨rfl, rfl⟩ := hrel
      go_wp2_with fail
      go_ret2
      exact ⟨rfl, HG5.out.tr HI.out⟩
theorem countNulls101 (qb bc : Nat) (W : World) (q r rc : Nat) (nu : Bool) (ao : Option Addr) (ca : Nat) (v2 c2 : Nat) (h : NdA W q r rc nu ao ca 2 0 v2 2 c2) (hb : W.cell? ⟨qb, 0, none⟩ = some (.slice none 0 0)) : Calls Tryz.prog 261 #[.pointer (some ⟨q, 0, none⟩), .agg (dC 2 0 (.slice (some ⟨qb, 0, none⟩) 2 bc))] W fun e w' => e = .returned (.int .i64 0) ∧ Gr W w' := by
  obtain ⟨A, hA⟩ := ex (W.alloc (.cells (dC 2 0 (.slice (some ⟨qb, 0, none⟩) 2 bc)) 54))
  have gA := gr_al hA
  have hd := al_new hA
  have hS : ∀ u, Gr A u → u.cell? ⟨W.heap.size, 0, none⟩ = some (.int .i64 2) ∧ u.cell? ⟨W.heap.size, 1, none⟩ = some (.int .i64 0) ∧ u.cell? ⟨W.heap.size, 3, none⟩ = some (.slice (some ⟨qb, 0, none⟩) 2 bc) ∧ u.cell? ⟨qb, 0, none⟩ = some (.slice none 0 0) := fun u g => by
    obtain ⟨d0, d1, d2, d3, d4, d5⟩ := cell6 ((g.block _ (lt_of_heap hd) id).trans hd)
    exact ⟨d0, d1, d3, g.cell' (gA.cell' hb id) id⟩
  obtain ⟨d0, d1, d3, qb0⟩ := hS A (Keeps.refl _ _)
  have HM := hidM (masked97 q nu ao ca (2 : Nat) (0 : Nat) (.slice (some ⟨r, 0, none⟩) 2 rc) A (h.gr gA).nd)
  have HK := hidM (kind118 q nu ao ca (2 : Nat) (0 : Nat) (.slice (some ⟨r, 0, none⟩) 2 rc) A (h.gr gA).nd)
  have HS0 := hidM (hS A.drew gr_drew)
  have HSS := hidM hS
  have HG := hidM gA
  clear gA hd hS h hb
  unfold dC at hA ⊢
  go_enter Tryz.func261, Tryz.ntmps261
  go_wp2_with (first
    | (go_at_call 290; refine HK.out.mono ?_; rintro e w1 ⟨rfl, rfl⟩)
    | (go_at_call 257; refine HM.out.mono ?_; rintro e w1 ⟨rfl, rfl⟩))
  go_ret
  exact ⟨rfl, HG.out⟩
theorem wrongNulls69 (qb bc : Nat) (W : World) (q r rc : Nat) (nu : Bool) (ao : Option Addr) (ca : Nat) (v2 c2 : Nat) (hnu : nu = false) (h : NdA W q r rc nu ao ca 2 0 v2 2 c2) (hb : W.cell? ⟨qb, 0, none⟩ = some (.slice none 0 0)) : Calls Tryz.prog 175 #[.pointer (some ⟨q, 0, none⟩), .agg (dC 2 0 (.slice (some ⟨qb, 0, none⟩) 2 bc))] W fun e w' => e = .returned (.int .i64 0) ∧ Gr W w' := by
  subst hnu
  obtain ⟨A, hA⟩ := ex (W.alloc (.cells (dC 2 0 (.slice (some ⟨qb, 0, none⟩) 2 bc)) 54))
  have gA := gr_al hA
  have hd := al_new hA
  have hS : ∀ u, Gr A u → u.cell? ⟨q, 10, none⟩ = some (.int .i64 0) ∧ u.cell? ⟨q, 1, none⟩ = some (.bool false) ∧ u.cell? ⟨W.heap.size, 0, none⟩ = some (.int .i64 2) ∧ u.cell? ⟨W.heap.size, 1, none⟩ = some (.int .i64 0) ∧ u.cell? ⟨W.heap.size, 2, none⟩ = some (.int .i64 0) ∧ u.cell? ⟨W.heap.size, 3, none⟩ = some (.slice (some ⟨qb, 0, none⟩) 2 bc) ∧ u.cell? ⟨W.heap.size, 4, none⟩ = some (.slice none 0 0) ∧ u.cell? ⟨W.heap.size, 5, none⟩ = some (.slice none 0 0) := fun u g => by
    obtain ⟨d0, d1, d2, d3, d4, d5⟩ := cell6 ((g.block _ (lt_of_heap hd) id).trans hd)
    have hn := (h.gr (gA.tr g)).nd
    exact ⟨(cellN hn).2.2, by simp [World.cell?, hn, ndC], d0, d1, d2, d3, d4, d5⟩
  have HC : Hid (Calls Tryz.prog 261 #[.pointer (some ⟨q, 0, none⟩), .agg #[.int .i64 2, .int .i64 0, .int .i64 0, .slice (some ⟨qb, 0, none⟩) 2 bc, .slice none 0 0, .slice none 0 0]] A.drew fun e w' => e = .returned (.int .i64 0) ∧ Gr A.drew w') := countNulls101 qb bc A.drew q r rc false ao ca v2 c2 (h.gr gA.drew) (gA.drew.cell' hb id)
  have HS0 := hidM (hS A.drew gr_drew)
  have HGd : Hid (Gr A A.drew) := gr_drew
  have HSS := hidM hS
  have HG := hidM gA
  clear gA hd hS h hb
  unfold dC at hA ⊢
  go_enter Tryz.func175, Tryz.ntmps175
  go_wp2_with fail
  clear hA
  refine wp_region_held_drew (S := fun w' => w'.cell? ⟨q, 10, none⟩ = some (.int .i64 0) ∧ w'.cell? ⟨q, 1, none⟩ = some (.bool false) ∧ w'.cell? ⟨W.heap.size, 0, none⟩ = some (.int .i64 2) ∧ w'.cell? ⟨W.heap.size, 1, none⟩ = some (.int .i64 0) ∧ w'.cell? ⟨W.heap.size, 2, none⟩ = some (.int .i64 0) ∧ w'.cell? ⟨W.heap.size, 3, none⟩ = some (.slice (some ⟨qb, 0, none⟩) 2 bc) ∧ w'.cell? ⟨W.heap.size, 4, none⟩ = some (.slice none 0 0) ∧ w'.cell? ⟨W.heap.size, 5, none⟩ = some (.slice none 0 0)) (by kernel_rfl) (HS0.out) (fun hHeld => ?_)
  refine tk 0 ?_
  refine tk 1 ?_
  refine tk 2 ?_
  refine tk 3 ?_
  refine tk 4 ?_
  refine tk 5 ?_
  refine rd1 6 fun Kc hK => ?_
  go_simp
  go_at_call 261
  refine Calls.mono (HC.out) ?_
  rintro e' w8 ⟨rfl, g8⟩; have HG8 := hidM (HGd.out.tr g8); have HS8 := hidM (HSS.out w8 HG8.out); clear g8
  go_wp2_with fail
  refine hK.out _ _ (HS8.out) (fun hHeld => ?_)
  clear hK Kc
  try simp only [Act.put, lA, lB, lC]
  refine tk 7 ?_
  refine tk 8 ?_
  refine tk 9 ?_
  refine tk 10 ?_
  refine tk 11 ?_
  refine tk 12 ?_
  refine tk 13 ?_
  refine tk 14 ?_
  refine sk 15 ?_
  refine sk 16 ?_
  refine sk 17 ?_
  refine sk 18 ?_
  refine sk 19 ?_
  refine sk 20 ?_
  refine tk 21 ?_
  refine tk 22 ?_
  refine wpAnyH_done (by kernel_rfl) ?_ _
  go_wp2_with fail
  go_ret
  exact ⟨rfl, HG.out.tr HG8.out⟩
theorem mk191 (w : World) : (Instr.makeSlice 232 (.int .i64 0) (.int .i64 0)).run Tryz.prog w = .ok (.slice (some ⟨w.heap.size, 0, none⟩) 0 0) (w.alloc (.cells #[] 44)) := by kernel_rfl
theorem mk48 (w : World) : (Instr.makeSlice 44 (.int .i64 2) (.int .i64 2)).run Tryz.prog w = .ok (.slice (some ⟨w.heap.size, 0, none⟩) 2 2) (w.alloc (.cells #[.int .i64 0, .int .i64 0] 3)) := by kernel_rfl
theorem parts70 (c : Value) (qb bc : Nat) (W : World) (q r rc : Nat) (nu : Bool) (ao : Option Addr) (ca : Nat) (v2 c2 : Nat) (h : NdA W q r rc nu ao ca 2 0 v2 2 c2) : Calls Tryz.prog 176 #[c, .pointer (some ⟨q, 0, none⟩), .agg (dC 2 0 (.slice (some ⟨qb, 0, none⟩) 2 bc))] W fun e w' => ∃ g, e = .returned (.slice (some ⟨g, 0, none⟩) 0 0) ∧ Gr W w' := by
  obtain ⟨A, hA⟩ := ex (W.alloc (.cells (dC 2 0 (.slice (some ⟨qb, 0, none⟩) 2 bc)) 54))
  have gA := gr_al hA
  have hd : A.heap[W.heap.size]? = some (.cells (dC 2 0 (.slice (some ⟨qb, 0, none⟩) 2 bc)) 54) := by rw [← hA]; exact heap_alloc_new W _
  obtain ⟨c7, c9, c12⟩ := cellF (h.gr gA).nd
  obtain ⟨B, hB⟩ := ex (A.alloc (.cells #[] 44))
  have gB := gr_al hB
  obtain ⟨d0, d1, d2, d3, d4, d5⟩ := cell6 ((gB.block _ (lt_of_heap hd) id).trans hd)
  have HC : Hid (Calls Tryz.prog 255 #[.agg #[.int .i64 2, .int .i64 0, .int .i64 0, .slice (some ⟨qb, 0, none⟩) 2 bc, .slice none 0 0, .slice none 0 0]] B fun e w' => ∃ uo uc, e = .returned (.slice uo 0 uc) ∧ Gr B w') := partData95 2 0 (.slice (some ⟨qb, 0, none⟩) 2 bc) B
  have HG := hidM (gA.tr gB)
  have hmk := mk191
  clear gA hd gB h
  unfold dC at hA ⊢
  go_enter Tryz.func176, Tryz.ntmps176
  go_wp2_with (go_at_call 255; refine HC.out.mono ?_; rintro e w2 ⟨uo, uc, rfl, g2⟩; have HG2 := hidM (HG.out.tr g2); clear g2)
  go_loopw [19] (fun i u => i = .int .i64 0 ∧ u = w2) (fun i _ => 0)
  case atStart => exact ⟨rfl, rfl⟩
  case round =>
    obtain ⟨rfl, rfl⟩ := hrel
    go_wp2_with fail
    go_ret
    exact ⟨_, rfl, HG2.out⟩
def wtK (k : Nat) : Array Value := if k = 0 then #[.int .i64 0, .int .i64 0] else if k = 1 then #[.int .i64 16, .int .i64 0] else #[.int .i64 16, .int .i64 16]
def WtI (W : World) (z k : Nat) (wr : World) : Prop := Keeps W wr (fun b => b = z) ∧ wr.heap[z]? = some (.cells (wtK k) 3)
theorem weights71 (l : Nat) (within : Value) (W : World) (q r rc : Nat) (nu : Bool) (ao : Option Addr) (ca : Nat) (v2 c2 : Nat) (h : NdA W q r rc nu ao ca 2 0 v2 2 c2) (hl : W.cell? ⟨l, 0, none⟩ = some (.pointer none)) : Calls Tryz.prog 177 #[.pointer (some ⟨l, 0, none⟩), .pointer (some ⟨q, 0, none⟩), within] W fun e w' => ∃ z, e = .returned (.slice (some ⟨z, 0, none⟩) 2 2) ∧ Gr W w' ∧ w'.cell? ⟨z, 0, none⟩ = some (.int .i64 16) ∧ w'.cell? ⟨z, 1, none⟩ = some (.int .i64 16) := by
  obtain ⟨z, hz⟩ := ex (W.heap.size)
  obtain ⟨A, hA⟩ := ex (W.alloc (.cells #[.int .i64 0, .int .i64 0] 3))
  have gA := gr_al hA
  have hb : A.heap[z]? = some (.cells (wtK 0) 3) := by rw [← hA, ← hz]; exact heap_alloc_new W _
  have nq : q ≠ z := by have := lt_of_heap h.nd; omega
  have nr : r ≠ z := by have := block_lt_of_cell h.r0; simp at this; omega
  have nl : l ≠ z := by have := block_lt_of_cell hl; simp at this; omega
  have HI0 : Hid (WtI W z 0 A) := ⟨gA.mono fun _ _ h => h.elim, hb⟩
  have HN : Hid (∀ u, Keeps W u (fun b => b = z) → NdA u q r rc nu ao ca 2 0 v2 2 c2 ∧ u.cell? ⟨l, 0, none⟩ = some (.pointer none)) := fun u g => ⟨h.kp g nq nr, g.cell' hl nl⟩
  have HZ := hidM hz
  obtain ⟨a8, a9, a10⟩ := cellN h.nd
  have hmk := mk48
  clear gA hb nq nr nl h hl
  go_enter Tryz.func177, Tryz.ntmps177
  go_wp2_with fail
  clear a8 a9 a10 hA hz
  go_loopw [17] (fun i wr => ∃ k : Nat, k ≤ 2 ∧ i = .int .i64 k ∧ Hid (WtI W z k wr)) (fun i _ => 2 - (intOf i).toNat)
  case atStart => exact ⟨0, by omega, rfl, HI0⟩
  case round =>
    clear HI0
    obtain ⟨k, hk, rfl, HI⟩ := hrel
    have hk3 : k = 0 ∨ k = 1 ∨ k = 2 := by omega
    rcases hk3 with rfl | rfl | rfl
    · obtain ⟨c7, c9, c12⟩ := cellF (HN.out wr HI.out.1).1.nd
      obtain ⟨U, hU⟩ := ex (wr.setCell ⟨z, 0, none⟩ (.int .i64 16))
      have hu : U.heap[z]? = some (.cells (wtK 1) 3) := by rw [← hU, heap_setCell_same wr z 0 _ _ _ HI.out.2]; rfl
      have hk1 : Keeps W U (fun b => b = z) := by rw [← hU]; exact HI.out.1.setCell (p := ⟨z, 0, none⟩) (fun _ => rfl) _
      have HO := hidM (isOff102 0 l U q r rc nu ao ca 2 0 v2 2 c2 (HN.out U hk1).1)
      have HT : Hid (∀ u, Gr U u → WtI W z 1 u) := fun u g => ⟨hk1.tr (g.mono fun _ _ h => h.elim), (g.block z (lt_of_heap hu) id).trans hu⟩
      have w0 := cell2 HI.out.2
      have w00 := w0.1
      have f0 := frz HI.out.2 0
      have hmeth := method_weight
      clear w0 hu hk1 HI hmk
      go_wp2_with (first
        | (go_at_call 262; refine HO.out.mono ?_; rintro e w2 ⟨rfl, g2⟩; have HT2 := hidM (HT.out w2 g2); have HG2 := hidM g2; obtain ⟨c7, c9, c12⟩ := cellF (HN.out w2 HT2.out.1).1.nd; clear g2)
        | (go_at_call 490; refine (weight310 _ _ _ _ _).mono ?_; rintro e w3 ⟨rfl, g3⟩; have HT3 := hidM (HT.out w3 (HG2.out.tr g3)); have w30 := (cell2 HT3.out.2).1; have f3 := frz HT3.out.2 0; have i3 := set_id (j := 0) (v := .int .i64 16) HT3.out.2 rfl; clear g3))
      go_roundw
      case rel => exact ⟨1, by omega, by go_num, HT3⟩
      case measure => simp [intOf]
    · obtain ⟨c7, c9, c12⟩ := cellF (HN.out wr HI.out.1).1.nd
      obtain ⟨U, hU⟩ := ex (wr.setCell ⟨z, 1, none⟩ (.int .i64 16))
      have hu : U.heap[z]? = some (.cells (wtK 2) 3) := by rw [← hU, heap_setCell_same wr z 1 _ _ _ HI.out.2]; rfl
      have hk1 : Keeps W U (fun b => b = z) := by rw [← hU]; exact HI.out.1.setCell (p := ⟨z, 1, none⟩) (fun _ => rfl) _
      have HO := hidM (isOff102 1 l U q r rc nu ao ca 2 0 v2 2 c2 (HN.out U hk1).1)
      have HT : Hid (∀ u, Gr U u → WtI W z 2 u) := fun u g => ⟨hk1.tr (g.mono fun _ _ h => h.elim), (g.block z (lt_of_heap hu) id).trans hu⟩
      have w0 := cell2 HI.out.2
      have w00 := w0.2
      have f0 := frz HI.out.2 1
      have hmeth := method_weight
      clear w0 hu hk1 HI hmk
      go_wp2_with (first
        | (go_at_call 262; refine HO.out.mono ?_; rintro e w2 ⟨rfl, g2⟩; have HT2 := hidM (HT.out w2 g2); have HG2 := hidM g2; obtain ⟨c7, c9, c12⟩ := cellF (HN.out w2 HT2.out.1).1.nd; clear g2)
        | (go_at_call 490; refine (weight310 _ _ _ _ _).mono ?_; rintro e w3 ⟨rfl, g3⟩; have HT3 := hidM (HT.out w3 (HG2.out.tr g3)); have w30 := (cell2 HT3.out.2).2; have f3 := frz HT3.out.2 1; have i3 := set_id (j := 1) (v := .int .i64 16) HT3.out.2 rfl; clear g3))
      go_roundw
      case rel => exact ⟨2, by omega, by go_num, HT3⟩
      case measure => simp [intOf]
    have HE : Hid (Gr W wr ∧ wr.cell? ⟨z, 0, none⟩ = some (.int .i64 16) ∧ wr.cell? ⟨z, 1, none⟩ = some (.int .i64 16)) := ⟨HI.out.1.mono fun j hj (e : j = z) => by have := HZ.out; omega, cell2 HI.out.2⟩
    clear HI hmk
    go_wp2_with fail
    go_ret
    exact ⟨z, rfl, HE.out⟩
theorem fill_nd {A wr : World} {q v2 c2 : Nat} {nu : Bool} {ao : Option Addr} {ca : Nat} {ro : Option Addr} {rc : Nat} (h : FillI A wr q nu ao ca 2 0 [.slice none 0 0, .int .i64 0, .pointer none, .slice (some ⟨v2, 0, none⟩) 2 c2, .int .i64 0, .pointer none] 2 ro rc) : ∃ r, ro = some ⟨r, 0, none⟩ ∧ A.heap.size ≤ r ∧ NdA wr q r rc nu ao ca 2 0 v2 2 c2 := by
  obtain ⟨hk, hn, ho, hl⟩ := h
  rcases ho.2 with ⟨_, h0⟩ | ⟨g, cap, cur, hv, _, hg, h1, h2, h3, h4⟩
  · exact absurd h0 (by decide)
  cases hv
  have hc : ∀ j v, ([.slice none 0 0, .int .i64 0, .pointer none, .slice (some ⟨v2, 0, none⟩) 2 c2, .int .i64 0, .pointer none] : List Value)[j]? = some v → wr.cell? ⟨g, j, none⟩ = some v := fun j v hj => by
    have e : cur.toList[j]? = some v := by
      have h4' : cur.toList.take (2 * 3) = [.slice none 0 0, .int .i64 0, .pointer none, .slice (some ⟨v2, 0, none⟩) 2 c2, .int .i64 0, .pointer none] := h4
      rw [← h4', List.getElem?_take] at hj
      split at hj
      · exact hj
      cases hj
    simp only [World.cell?, hg]
    simpa using e
  exact ⟨g, rfl, hl g rfl, ⟨hn, hc 0 _ rfl, hc 1 _ rfl, hc 2 _ rfl, hc 3 _ rfl, hc 4 _ rfl, hc 5 _ rfl⟩⟩
theorem node47 (c qb bc : Nat) (W : World) (q : Nat) (ao : Option Addr) (ca : Nat) (v2 c2 : Nat) (hq : W.heap[q]? = some (.cells (ndC false ao ca 2 0 (.slice none 0 0)) 120)) (hcc : W.heap[c]? = some (.cells #[.pointer none, .int .i64 0, .slice none 0 0] 168)) (hb0 : W.cell? ⟨qb, 0, none⟩ = some (.slice none 0 0)) (hb1 : W.cell? ⟨qb, 1, none⟩ = some (.slice (some ⟨v2, 0, none⟩) 2 c2)) (hqb : qb ≠ q) (hT : ∀ u, Keeps W u (fun z => z = q) → Tab u) :
    Calls Tryz.prog 118 #[.pointer (some ⟨c, 0, none⟩), .pointer (some ⟨q, 0, none⟩), .agg (dC 2 0 (.slice (some ⟨qb, 0, none⟩) 2 bc))] W fun e w' => ∃ v r rc, e = .returned v ∧ Keeps W w' (fun z => z = q) ∧ W.heap.size ≤ r ∧ NdA w' q r rc false ao ca 2 0 v2 2 c2 := by
  obtain ⟨A, hA⟩ := ex (W.alloc (.cells (dC 2 0 (.slice (some ⟨qb, 0, none⟩) 2 bc)) 54))
  have gA := gr_al hA
  have hd := al_new hA
  have hql := lt_of_heap hq
  have ncq : c ≠ q := blk_ne hcc hq (by decide)
  have hcell : W.cell? ⟨c, 0, none⟩ = some (.pointer none) := (cell3V hcc).1
  have hS : ∀ u, Gr A u → u.cell? ⟨q, 2, none⟩ = some (.int .i64 3) ∧ u.cell? ⟨q, 3, none⟩ = some (.int .i64 0) ∧ u.cell? ⟨q, 4, none⟩ = some (.int .i64 0) ∧ u.cell? ⟨q, 5, none⟩ = some (.int .i64 0) ∧ u.cell? ⟨q, 6, none⟩ = some (.slice ao 0 ca) ∧ u.cell? ⟨W.heap.size, 0, none⟩ = some (.int .i64 2) ∧ u.cell? ⟨W.heap.size, 1, none⟩ = some (.int .i64 0) ∧ u.cell? ⟨W.heap.size, 2, none⟩ = some (.int .i64 0) ∧ u.cell? ⟨W.heap.size, 3, none⟩ = some (.slice (some ⟨qb, 0, none⟩) 2 bc) ∧ u.cell? ⟨W.heap.size, 4, none⟩ = some (.slice none 0 0) ∧ u.cell? ⟨W.heap.size, 5, none⟩ = some (.slice none 0 0) := fun u g => by
    obtain ⟨d0, d1, d2, d3, d4, d5⟩ := cell6 ((g.block _ (lt_of_heap hd) id).trans hd)
    obtain ⟨t0, t1, t2, t3, t4⟩ := cellT (((gA.tr g).block q hql id).trans hq)
    exact ⟨t0, t1, t2, t3, t4, d0, d1, d2, d3, d4, d5⟩
  have HS0 := hidM (hS A.drew gr_drew)
  have HSS := hidM hS
  have H64 : Hid (∀ u, Gr A u → Calls Tryz.prog 170 #[.agg #[.int .i64 3, .int .i64 0, .int .i64 0, .int .i64 0, .slice ao 0 ca], .agg #[.int .i64 2, .int .i64 0, .int .i64 0, .slice (some ⟨qb, 0, none⟩) 2 bc, .slice none 0 0, .slice none 0 0]] u fun e w' => e = .returned (.int .i64 0) ∧ Gr u w') := fun u g => wrongShape64 ao ca 2 0 (some ⟨qb, 0, none⟩) bc u (hT u ((gA.tr g).mono fun _ _ h => h.elim))
  have H65 : Hid (∀ u, Gr A u → Calls Tryz.prog 171 #[.pointer (some ⟨q, 0, none⟩)] u fun e w' => e = .returned (.int .i64 0) ∧ Gr u w') := fun u g => wrongNumbers65 q false ao ca 2 0 (.slice none 0 0) u (((gA.tr g).block q hql id).trans hq) (by decide) (by decide)
  have H66 : Hid (∀ u, Gr A u → Calls Tryz.prog 172 #[.slice (some ⟨qb, 0, none⟩) 2 bc] u fun e w' => e = .returned (.tuple #[.int .i64 0, .int .i64 0]) ∧ w' = u) := fun u g => tooMany66 qb 2 bc u (fun k hk => by
    have g' := gA.tr g
    have : k = 0 ∨ k = 1 := by omega
    rcases this with rfl | rfl
    · exact ⟨_, _, _, g'.cell' hb0 id, by decide⟩
    exact ⟨_, _, _, g'.cell' hb1 id, by decide⟩) (by decide)
  have H67 : Hid (∀ u, Gr A u → Calls Tryz.prog 173 #[.pointer (some ⟨c, 0, none⟩), .pointer (some ⟨q, 0, none⟩), .agg #[.int .i64 2, .int .i64 0, .int .i64 0, .slice (some ⟨qb, 0, none⟩) 2 bc, .slice none 0 0, .slice none 0 0]] u fun e w' => e = .returned (.tuple #[]) ∧ Keeps u w' (fun z => z = q) ∧ ∃ r rc, u.heap.size ≤ r ∧ NdA w' q r rc false ao ca 2 0 v2 2 c2) := fun u g => by
    have g' := gA.tr g
    refine (fill67 c q qb bc (fun k => if k = 0 then none else some ⟨v2, 0, none⟩) (fun k => if k = 0 then 0 else 2) (fun k => if k = 0 then 0 else c2) false ao ca 2 0 u ((g'.block q hql id).trans hq) (fun k hk => by
      have : k = 0 ∨ k = 1 := by omega
      rcases this with rfl | rfl
      · exact g'.cell' hb0 id
      exact g'.cell' hb1 id) hqb (hT u (g'.mono fun _ _ h => h.elim)) (fun v k => hT v ((g'.mono fun _ _ h => h.elim).tr k))).mono ?_
    rintro e w' ⟨ro, rc, he, hf⟩
    obtain ⟨r, -, hr, hn⟩ := fill_nd hf
    exact ⟨he, hf.1, r, rc, hr, hn⟩
  have H2 : Hid (∀ u w3 r rc, Gr A u → Keeps u w3 (fun z => z = q) → u.heap.size ≤ r → NdA w3 q r rc false ao ca 2 0 v2 2 c2 → ∀ w, Gr w3 w → NdA w q r rc false ao ca 2 0 v2 2 c2 ∧ w.heap[W.heap.size]? = some (.cells (dC 2 0 (.slice (some ⟨qb, 0, none⟩) 2 bc)) 54) ∧ w.cell? ⟨c, 0, none⟩ = some (.pointer none) ∧ w.cell? ⟨qb, 0, none⟩ = some (.slice none 0 0) ∧ Keeps W w (fun z => z = q) ∧ W.heap.size ≤ r) := fun u w3 r rc g k hr hn w gw => by
    have g' := gA.tr g
    have kW : Keeps W w (fun z => z = q) := ((g'.mono fun _ _ h => h.elim).tr k).tr (gw.mono fun _ _ h => h.elim)
    have kA : Keeps A w (fun z => z = q) := ((g.mono fun _ _ h => h.elim).tr k).tr (gw.mono fun _ _ h => h.elim)
    exact ⟨hn.gr gw, (kA.block _ (lt_of_heap hd) (fun e => by have e' : W.heap.size = q := e; omega)).trans hd, kW.cell' hcell ncq, kW.cell' hb0 hqb, kW, Nat.le_trans g'.size hr⟩
  clear gA hd hql ncq hcell hS hq hcc hb0 hb1 hqb hT
  unfold dC at hA ⊢
  go_enter Tryz.func118, Tryz.ntmps118
  go_wp2_with fail
  clear hA
  go_region_held3 (fun u => u.cell? ⟨q, 2, none⟩ = some (.int .i64 3) ∧ u.cell? ⟨q, 3, none⟩ = some (.int .i64 0) ∧ u.cell? ⟨q, 4, none⟩ = some (.int .i64 0) ∧ u.cell? ⟨q, 5, none⟩ = some (.int .i64 0) ∧ u.cell? ⟨q, 6, none⟩ = some (.slice ao 0 ca) ∧ u.cell? ⟨W.heap.size, 0, none⟩ = some (.int .i64 2) ∧ u.cell? ⟨W.heap.size, 1, none⟩ = some (.int .i64 0) ∧ u.cell? ⟨W.heap.size, 2, none⟩ = some (.int .i64 0) ∧ u.cell? ⟨W.heap.size, 3, none⟩ = some (.slice (some ⟨qb, 0, none⟩) 2 bc) ∧ u.cell? ⟨W.heap.size, 4, none⟩ = some (.slice none 0 0) ∧ u.cell? ⟨W.heap.size, 5, none⟩ = some (.slice none 0 0)) (first | with_reducible exact HS0.out | with_reducible exact HS1.out) (first
    | (go_at_call 170; refine (H64.out _ gr_drew).mono ?_; rintro e w1 ⟨rfl, g1⟩; have HG1 : Hid (Gr A w1) := Keeps.trans gr_drew g1 (fun _ _ h => h); have HS1 := hidM (HSS.out w1 HG1.out); clear g1)
    | (go_at_call 169; refine (must63 _ _ _).mono ?_; rintro e w2 ⟨rfl, rfl⟩))
  go_wp2_with (first
    | (go_at_call 171; refine (H65.out _ HG1.out).mono ?_; rintro e w2 ⟨rfl, g2⟩; have HG2 := hidM (HG1.out.tr g2); obtain ⟨t0, t1, t2, t3, t4, d0, d1, d2, d3, d4, d5⟩ := HSS.out w2 HG2.out; clear g2)
    | (go_at_call 172; refine (H66.out _ HG2.out).mono ?_; rintro e w3 ⟨rfl, rfl⟩)
    | (go_at_call 173; refine (H67.out _ HG2.out).mono ?_; rintro e w3 ⟨rfl, k3, r, rc, hr3, hn3⟩; have HA := hidM (H2.out _ w3 r rc HG2.out k3 hr3 hn3); clear k3 hr3 hn3 t0 t1 t2 t3 t4 d0 d1 d2 d3 d4 d5)
    | (go_at_call 174; refine (tooSmall68 _ q r rc false ao ca v2 c2 (HA.out _ (Keeps.refl _ _)).1).mono ?_; rintro e w4 ⟨rfl, g4⟩; have HG4 := hidM g4; obtain ⟨hn, hbx, hcp, hqb0, -, -⟩ := HA.out w4 g4; obtain ⟨d0, d1, d2, d3, d4, d5⟩ := cell6 hbx; have H69 : Hid (Calls Tryz.prog 175 #[.pointer (some ⟨q, 0, none⟩), .agg #[.int .i64 2, .int .i64 0, .int .i64 0, .slice (some ⟨qb, 0, none⟩) 2 bc, .slice none 0 0, .slice none 0 0]] w4 fun e w' => e = .returned (.int .i64 0) ∧ Gr w4 w') := wrongNulls69 qb bc w4 q r rc false ao ca v2 c2 rfl hn hqb0; clear g4 hn hbx hcp hqb0)
    | (go_at_call 175; refine H69.out.mono ?_; rintro e w5 ⟨rfl, g5⟩; have HG5 := hidM (HG4.out.tr g5); clear g5 d0 d1 d2 d3 d4 d5)
    | (go_at_call 169; refine (must63 _ _ _).mono ?_; rintro e w99 ⟨rfl, hw⟩; replace hw := hw.symm; subst hw))
  have hmeth := method_wrong
  have HS5 := hidM ((cellF (HA.out w5.drew HG5.out.drew).1.nd).1)
  go_region_held3 (fun u => u.cell? ⟨q, 7, none⟩ = some (.iface 302 (.agg #[.int .i64 1, .bool true]))) (first | with_reducible exact HS5.out | with_reducible exact HS6.out) (first
    | (go_at_call 446; refine (wrong266 _ _ _).mono ?_; rintro e w6 ⟨rfl, g6⟩; have HG6 := hidM (HG5.out.drew.tr g6); have HS6 := hidM ((cellF (HA.out w6 HG6.out).1.nd).1); clear g6)
    | (go_at_call 169; refine (must63 _ _ _).mono ?_; rintro e w99 ⟨rfl, hw⟩; replace hw := hw.symm; subst hw))
  clear hmeth
  obtain ⟨hn, hbx, -, -, -, -⟩ := HA.out w6 HG6.out
  obtain ⟨d0, d1, d2, d3, d4, d5⟩ := cell6 hbx
  have H70 : Hid (Calls Tryz.prog 176 #[.pointer (some ⟨c, 0, none⟩), .pointer (some ⟨q, 0, none⟩), .agg #[.int .i64 2, .int .i64 0, .int .i64 0, .slice (some ⟨qb, 0, none⟩) 2 bc, .slice none 0 0, .slice none 0 0]] w6 fun e w' => ∃ g, e = .returned (.slice (some ⟨g, 0, none⟩) 0 0) ∧ Gr w6 w') := parts70 _ qb bc w6 q r rc false ao ca v2 c2 hn
  clear hn hbx
  go_wp2_with (go_at_call 176; refine H70.out.mono ?_; rintro e w7 ⟨g, rfl, g7⟩; have HG7 := hidM (HG6.out.tr g7); clear g7 d0 d1 d2 d3 d4 d5)
  have hmeth := method_wrongBehind
  have HS7 := hidM ((cellF (HA.out w7.drew HG7.out.drew).1.nd).1)
  go_region_held3 (fun u => u.cell? ⟨q, 7, none⟩ = some (.iface 302 (.agg #[.int .i64 1, .bool true]))) (first | with_reducible exact HS7.out | with_reducible exact HS8.out) (first
    | (go_at_call 447; refine (wrong267 _ _ _).mono ?_; rintro e w8 ⟨rfl, g8⟩; have HG8 := hidM (HG7.out.drew.tr g8); have HS8 := hidM ((cellF (HA.out w8 HG8.out).1.nd).1); clear g8)
    | (go_at_call 169; refine (must63 _ _ _).mono ?_; rintro e w99 ⟨rfl, hw⟩; replace hw := hw.symm; subst hw))
  clear hmeth
  obtain ⟨hn, -, hcp, -, -, -⟩ := HA.out w8 HG8.out
  have H71 := hidM (weights71 c (.slice (some ⟨g, 0, none⟩) 0 0) w8 q r rc false ao ca v2 c2 hn hcp)
  clear hn hcp
  go_wp2_with (first
    | (go_at_call 177; refine H71.out.mono ?_; rintro e w9 ⟨z, rfl, g9, z0, z1⟩; have HG9 := hidM (HG8.out.tr g9); have H72 := hidM (sum72 z 2 w9 z0 z1); clear g9 z0 z1)
    | (go_at_call 178; refine H72.out.mono ?_; rintro e w10 ⟨rfl, rfl⟩))
  go_ret
  obtain ⟨hn, -, -, -, hk, hr⟩ := HA.out _ HG9.out
  exact ⟨_, r, rc, rfl, hk, hr, hn⟩
end Go.Proofs.YtknnoiomdngmfaaGreatDoor.Kit
