import Derived.Test.YtknnoiomdngmfaaGreatDoorLQ
import Derived.Test.YtknnoiomdngmfaaGreatDoorCW
import Derived.Test.YtknnoiomdngmfaaGreatDoorXC
set_option maxRecDepth 100000
set_option maxHeartbeats 4000000
namespace Go.Proofs.YtknnoiomdngmfaaGreatDoor.Kit
open Go.RowKit Go.Shelf Go.Deep
open Go.Proofs.YtknnoiomdngmfaaGreatDoor.Ink (OwnRow)
set_option linter.unusedVariables false
set_option linter.unusedSimpArgs false
attribute [local go_sem] run_store_func
theorem mk39 (w : World) : (Instr.makeSlice 69 (.int .i64 2) (.int .i64 2)).run Tryz.prog w = .ok (.slice (some ⟨w.heap.size, 0, none⟩) 2 2) (w.alloc (.cells #[.slice none 0 0, .slice none 0 0] 72)) := by kernel_rfl
theorem cell12 {W : World} {g t : Nat} {a0 a1 a2 a3 a4 a5 b0 b1 b2 b3 b4 b5 : Value} (h : W.heap[g]? = some (.cells #[a0, a1, a2, a3, a4, a5, b0, b1, b2, b3, b4, b5] t)) : (W.cell? ⟨g, 0, none⟩ = some a0 ∧ W.cell? ⟨g, 1, none⟩ = some a1 ∧ W.cell? ⟨g, 2, none⟩ = some a2 ∧ W.cell? ⟨g, 3, none⟩ = some a3 ∧ W.cell? ⟨g, 4, none⟩ = some a4 ∧ W.cell? ⟨g, 5, none⟩ = some a5) ∧ (W.cell? ⟨g, 6, none⟩ = some b0 ∧ W.cell? ⟨g, 7, none⟩ = some b1 ∧ W.cell? ⟨g, 8, none⟩ = some b2 ∧ W.cell? ⟨g, 9, none⟩ = some b3 ∧ W.cell? ⟨g, 10, none⟩ = some b4 ∧ W.cell? ⟨g, 11, none⟩ = some b5) := by
  simp [World.cell?, h]
def da2 (qb : Nat) : Array Value := #[.int .i64 2, .int .i64 0, .int .i64 0, .slice (some ⟨qb, 0, none⟩) 2 2, .slice none 0 0, .slice none 0 0, .int .i64 2, .int .i64 0, .int .i64 0, .slice (some ⟨qb, 0, none⟩) 2 2, .slice none 0 0, .slice none 0 0]
def coK (ga gb k : Nat) : Array Value := if k = 0 then #[.slice none 0 0, .slice none 0 0] else if k = 1 then #[.slice (some ⟨ga, 0, none⟩) 2 2, .slice none 0 0] else #[.slice (some ⟨ga, 0, none⟩) 2 2, .slice (some ⟨gb, 0, none⟩) 2 2]
def CoI (A : World) (cb k : Nat) (wr : World) : Prop := Keeps A wr (fun b => b = cb) ∧ ∃ ga gb, wr.heap[cb]? = some (.cells (coK ga gb k) 72) ∧ (1 ≤ k → wr.heap[ga]? = some (.cells #[.bool false, .int .i64 3, .string ⟨#[]⟩, .slice none 0 0, .bool false, .int .i64 4, .string ⟨#[]⟩, .slice none 0 0] 98)) ∧ (2 ≤ k → wr.heap[gb]? = some (.cells #[.bool false, .int .i64 3, .string ⟨#[]⟩, .slice none 0 0, .bool false, .int .i64 4, .string ⟨#[]⟩, .slice none 0 0] 98))
theorem col_vals {X : World} {a q r rc : Nat} {fo : Option Addr} {fc qb v2 : Nat} (hn : NdA X q r rc false fo fc 2 0 v2 2 2) (ha : X.heap[a]? = some (.cells #[.pointer (some ⟨q, 0, none⟩), .int .i64 0, .int .i64 2, .pointer none] 123)) (hD : DatC X qb v2 2) :
    Calls Tryz.prog 54 #[.pointer (some ⟨a, 0, none⟩)] X fun e w' => ∃ g, e = .returned (.slice (some ⟨g, 0, none⟩) 2 2) ∧ Gr X w' ∧ X.heap.size ≤ g ∧ w'.heap[g]? = some (.cells #[.bool false, .int .i64 3, .string ⟨#[]⟩, .slice none 0 0, .bool false, .int .i64 4, .string ⟨#[]⟩, .slice none 0 0] 98) :=
  values19 a X q r rc false fo fc 2 0 v2 2 2 0 (fun x gx ab hab => ⟨hn.gr gx, hab, (gx.block _ (lt_of_heap ha) id).trans ha, gx.cell' hD.x0 id, gx.cell' hD.x1 id, by decide, by decide, by decide⟩) ha (lt_of_heap hn.nd) (block_lt_of_cell hn.r1) (block_lt_of_cell hD.x0)
theorem co_next {A wr w6 : World} {cb k g : Nat} (hk : k < 2) (hI : CoI A cb k wr) (g6 : Gr wr w6) (hg : w6.heap[g]? = some (.cells #[.bool false, .int .i64 3, .string ⟨#[]⟩, .slice none 0 0, .bool false, .int .i64 4, .string ⟨#[]⟩, .slice none 0 0] 98)) : (∃ c0 c1, w6.heap[cb]? = some (.cells #[c0, c1] 72)) ∧ CoI A cb (k + 1) (w6.setCell ⟨cb, k, none⟩ (.slice (some ⟨g, 0, none⟩) 2 2)) := by
  obtain ⟨hK, ga, gb, h1, h2, h3⟩ := hI
  have hc := (g6.block cb (lt_of_heap h1) id).trans h1
  have kS : Keeps w6 (w6.setCell ⟨cb, k, none⟩ (.slice (some ⟨g, 0, none⟩) 2 2)) (fun b => b = cb) := (Keeps.refl w6 (fun b => b = cb)).setCell (p := ⟨cb, k, none⟩) (fun _ => rfl) _
  have hne : ∀ b : Nat, w6.heap[b]? = some (Obj.cells #[.bool false, .int .i64 3, .string ⟨#[]⟩, .slice none 0 0, .bool false, .int .i64 4, .string ⟨#[]⟩, .slice none 0 0] 98) → (w6.setCell ⟨cb, k, none⟩ (.slice (some ⟨g, 0, none⟩) 2 2)).heap[b]? = some (.cells #[.bool false, .int .i64 3, .string ⟨#[]⟩, .slice none 0 0, .bool false, .int .i64 4, .string ⟨#[]⟩, .slice none 0 0] 98) := fun b hb => (kS.block b (lt_of_heap hb) (blk_ne hb hc (by decide))).trans hb
  have kA := (hK.tr (g6.mono fun _ _ h => h.elim)).tr kS
  have : k = 0 ∨ k = 1 := by omega
  rcases this with rfl | rfl
  · refine ⟨⟨_, _, hc⟩, kA, g, 0, ?_, fun _ => hne g hg, fun h => absurd h (by decide)⟩
    rw [heap_setCell_same w6 cb 0 _ _ _ hc]
    rfl
  refine ⟨⟨_, _, hc⟩, kA, ga, g, ?_, fun _ => ?_, fun _ => hne g hg⟩
  · rw [heap_setCell_same w6 cb 1 _ _ _ hc]
    rfl
  have ha := h2 (by decide)
  exact hne ga ((g6.block ga (lt_of_heap ha) id).trans ha)
theorem columns8 (fb fc db dc qb v2 : Nat) (W : World) (hb : W.heap[fb]? = some (.cells fd2 26)) (hd : W.heap[db]? = some (.cells (da2 qb) 54)) (hD : DatC W qb v2 2) : Calls Tryz.prog 39 #[.slice (some ⟨fb, 0, none⟩) 2 fc, .slice (some ⟨db, 0, none⟩) 2 dc] W fun e w' => ∃ cb ga gb, e = .returned (.tuple #[.slice (some ⟨cb, 0, none⟩) 2 2, .int .i64 0]) ∧ Gr W w' ∧ ColA w' cb ga gb := by
  obtain ⟨cb, hcb⟩ := ex (W.heap.size)
  obtain ⟨A, hA⟩ := ex (W.alloc (.cells #[.slice none 0 0, .slice none 0 0] 72))
  have gA := gr_al hA
  have hbA : A.heap[cb]? = some (.cells #[.slice none 0 0, .slice none 0 0] 72) := by rw [← hA, ← hcb]; exact heap_alloc_new W _
  have n1 : fb ≠ cb := by have := lt_of_heap hb; omega
  have n2 : db ≠ cb := by have := lt_of_heap hd; omega
  have kW : ∀ u, Keeps A u (fun b => b = cb) → Gr W u := fun u g => gA.trans g (fun j hj (e : j = cb) => by omega)
  have HB : Hid (∀ u, Keeps A u (fun b => b = cb) → u.heap[fb]? = some (.cells fd2 26)) := fun u g => ((kW u g).block fb (lt_of_heap hb) id).trans hb
  have HDa : Hid (∀ u, Keeps A u (fun b => b = cb) → u.heap[db]? = some (.cells (da2 qb) 54)) := fun u g => ((kW u g).block db (lt_of_heap hd) id).trans hd
  have HDd : Hid (∀ u, Keeps A u (fun b => b = cb) → DatC u qb v2 2) := fun u g => hD.gr (kW u g)
  have HKW := hidM kW
  have HI0 : Hid (CoI A cb 0 A) := ⟨Keeps.refl _ _, 0, 0, hbA, fun h => absurd h (by decide), fun h => absurd h (by decide)⟩
  have hmk := mk39
  clear gA hbA n1 n2 kW hb hd hD
  go_enter Tryz.func39, Tryz.ntmps39
  go_wp2_with fail
  clear hA hmk hcb
  go_loopw [18] (fun i wr => ∃ k : Nat, k ≤ 2 ∧ i = .int .i64 k ∧ Hid (CoI A cb k wr)) (fun i _ => 2 - (intOf i).toNat)
  case atStart => exact ⟨0, by omega, rfl, HI0⟩
  case round =>
    clear HI0
    obtain ⟨k, hk, rfl, HI⟩ := hrel
    have hk3 : k = 0 ∨ k = 1 ∨ k = 2 := by omega
    rcases hk3 with rfl | rfl | rfl
    · obtain ⟨⟨a0, a1, a2, a3, a4, a5, a6⟩, -⟩ := cell14 (HB.out wr HI.out.1)
      obtain ⟨A2, hA2⟩ := ex (wr.alloc (.cells #[.string ⟨#[]⟩, .bool false, .int .i64 0, .int .i64 0, .int .i64 0, .int .i64 0, .slice none 0 0] 26))
      have g2 := gr_al hA2
      have b2 : A2.heap[wr.heap.size]? = some (.cells fdZ 26) := by rw [← hA2]; exact heap_alloc_new wr _
      obtain ⟨y0, y1, y2, y3, y4, y5, y6⟩ := cell7 b2
      obtain ⟨z0, z1, z2, z3, z4, z5, z6⟩ := frz7 b2
      have hV0 := fd_blk b2
      have gV0 : Gr wr (fdU A2 wr.heap.size) := g2.trans (setAll_kp _ _ _) (fun j hj (e : j = wr.heap.size) => by omega)
      obtain ⟨V, hV⟩ := ex (fdU A2 wr.heap.size)
      rw [hV] at hV0 gV0
      simp only [fdU, setAll] at hV
      have HV0 := hidM hV0
      have HGV0 := hidM gV0
      clear g2 b2 hV0 gV0
      go_wp2_with fail
      clear y0 y1 y2 y3 y4 y5 y6 z0 z1 z2 z3 z4 z5 z6 a0 a1 a2 a3 a4 a5 a6 hV hA2
      obtain ⟨b8, hb8⟩ := ex (wr.heap.size)
      rw [hb8] at HV0 ⊢
      clear hb8
      have hS : ∀ u, Gr wr u → u.heap[b8]? = some (.cells fdC 26) → u.cell? ⟨b8, 0, none⟩ = some (.string nmA) ∧ u.cell? ⟨b8, 1, none⟩ = some (.bool false) ∧ u.cell? ⟨b8, 2, none⟩ = some (.int .i64 3) ∧ u.cell? ⟨b8, 3, none⟩ = some (.int .i64 0) ∧ u.cell? ⟨b8, 4, none⟩ = some (.int .i64 0) ∧ u.cell? ⟨b8, 5, none⟩ = some (.int .i64 0) ∧ u.cell? ⟨b8, 6, none⟩ = some (.slice none 0 0) ∧ u.cell? ⟨db, 0, none⟩ = some (.int .i64 2) ∧ u.cell? ⟨db, 1, none⟩ = some (.int .i64 0) ∧ u.cell? ⟨db, 2, none⟩ = some (.int .i64 0) ∧ u.cell? ⟨db, 3, none⟩ = some (.slice (some ⟨qb, 0, none⟩) 2 2) ∧ u.cell? ⟨db, 4, none⟩ = some (.slice none 0 0) ∧ u.cell? ⟨db, 5, none⟩ = some (.slice none 0 0) := fun u g h8 => by
        obtain ⟨c0, c1, c2, c3, c4, c5, c6⟩ := cell7 h8
        obtain ⟨⟨d0, d1, d2, d3, d4, d5⟩, -⟩ := cell12 (HDa.out u (HI.out.1.tr (g.mono fun _ _ h => h.elim)))
        exact ⟨c0, c1, c2, c3, c4, c5, c6, d0, d1, d2, d3, d4, d5⟩
      have HSS : Hid (∀ u, Gr V u → u.cell? ⟨b8, 0, none⟩ = some (.string nmA) ∧ u.cell? ⟨b8, 1, none⟩ = some (.bool false) ∧ u.cell? ⟨b8, 2, none⟩ = some (.int .i64 3) ∧ u.cell? ⟨b8, 3, none⟩ = some (.int .i64 0) ∧ u.cell? ⟨b8, 4, none⟩ = some (.int .i64 0) ∧ u.cell? ⟨b8, 5, none⟩ = some (.int .i64 0) ∧ u.cell? ⟨b8, 6, none⟩ = some (.slice none 0 0) ∧ u.cell? ⟨db, 0, none⟩ = some (.int .i64 2) ∧ u.cell? ⟨db, 1, none⟩ = some (.int .i64 0) ∧ u.cell? ⟨db, 2, none⟩ = some (.int .i64 0) ∧ u.cell? ⟨db, 3, none⟩ = some (.slice (some ⟨qb, 0, none⟩) 2 2) ∧ u.cell? ⟨db, 4, none⟩ = some (.slice none 0 0) ∧ u.cell? ⟨db, 5, none⟩ = some (.slice none 0 0)) := fun u g => hS u (HGV0.out.tr g) ((g.block _ (lt_of_heap HV0.out) id).trans HV0.out)
      have HGD : Hid (Gr V V.drew) := gr_drew
      have HS0 := hidM (HSS.out V.drew HGD.out)
      have HDt : Hid (∀ u, Gr wr u → DatC u qb v2 2) := fun u g => HDd.out u (HI.out.1.tr (g.mono fun _ _ h => h.elim))
      have H21 : Hid (∀ u, Gr V u → Calls Tryz.prog 53 #[.agg #[.string nmA, .bool false, .int .i64 3, .int .i64 0, .int .i64 0, .int .i64 0, .slice none 0 0], .agg #[.int .i64 2, .int .i64 0, .int .i64 0, .slice (some ⟨qb, 0, none⟩) 2 2, .slice none 0 0, .slice none 0 0]] u fun e w' => ∃ a q r rc fo fc, e = .returned (.tuple #[.pointer (some ⟨a, 0, none⟩), .agg #[.int .i64 0, .slice none 0 0, .int .i64 0]]) ∧ Gr u w' ∧ (u.heap.size ≤ a ∧ u.heap.size ≤ q ∧ u.heap.size ≤ r) ∧ NdA w' q r rc false fo fc 2 0 v2 2 2 ∧ w'.heap[a]? = some (.cells #[.pointer (some ⟨q, 0, none⟩), .int .i64 0, .int .i64 2, .pointer none] 123)) := fun u g => open18 qb 2 v2 2 none 0 u (HDt.out u (HGV0.out.tr g))
      clear hS
      refine wp_region_held_drew (S := fun w' => w'.cell? ⟨b8, 0, none⟩ = some (.string nmA) ∧ w'.cell? ⟨b8, 1, none⟩ = some (.bool false) ∧ w'.cell? ⟨b8, 2, none⟩ = some (.int .i64 3) ∧ w'.cell? ⟨b8, 3, none⟩ = some (.int .i64 0) ∧ w'.cell? ⟨b8, 4, none⟩ = some (.int .i64 0) ∧ w'.cell? ⟨b8, 5, none⟩ = some (.int .i64 0) ∧ w'.cell? ⟨b8, 6, none⟩ = some (.slice none 0 0) ∧ w'.cell? ⟨db, 0, none⟩ = some (.int .i64 2) ∧ w'.cell? ⟨db, 1, none⟩ = some (.int .i64 0) ∧ w'.cell? ⟨db, 2, none⟩ = some (.int .i64 0) ∧ w'.cell? ⟨db, 3, none⟩ = some (.slice (some ⟨qb, 0, none⟩) 2 2) ∧ w'.cell? ⟨db, 4, none⟩ = some (.slice none 0 0) ∧ w'.cell? ⟨db, 5, none⟩ = some (.slice none 0 0)) (by kernel_rfl) (HS0.out) (fun hHeld => ?_)
      refine tk 0 ?_
      refine tk 1 ?_
      refine tk 2 ?_
      refine tk 3 ?_
      refine tk 4 ?_
      refine wpAnyH_ready (rs := [5, 9]) (by kernel_rfl) (by simp) ?_
      refine AllReadyH.cons (o := { dst := some 29, op := Op.call { callee := Callee.value (Operand.func 53), args := #[Operand.tmp 24, Operand.tmp 28], argTypes := #[26, 54] }, type := 90, pos := "calc.go:55", after := #[{ on := 0, ground := Ground.data }, { on := 4, ground := Ground.data }], guard := none }) rfl (fun Kc hK => ?_) (AllReadyH.cons (o := { dst := some 10, op := Op.alloc 60, type := 0, pos := "calc.go:55", after := #[], guard := none }) rfl (fun Kc hK => ?_) AllReadyH.nil)
      · go_simp
        go_at_call 53
        refine Calls.mono (H21.out _ HGD.out) ?_
        rintro e' w2 ⟨a, q, r, rc, fo, fo2, rfl, g2, -, hn, ha⟩
        have HG2 := hidM (HGD.out.tr g2)
        have HS2 := hidM (HSS.out w2 HG2.out)
        have HNA := hidM (And.intro hn ha)
        clear g2 hn ha
        go_wp2_with fail
        refine hK.out _ _ (HS2.out) (fun hHeld => ?_)
        clear hK Kc
        try simp only [Act.put, lA, lB, lC]
        refine tk 6 ?_
        refine tk 7 ?_
        refine tk 8 ?_
        refine rd1 9 fun Kc hK => ?_
        obtain ⟨A5, hA5⟩ := ex (w2.alloc (.cells #[.int .i64 0, .slice none 0 0, .int .i64 0] 60))
        have g5 := gr_al hA5
        have hZ : A5.heap[w2.heap.size]? = some (.cells #[.int .i64 0, .slice none 0 0, .int .i64 0] 60) := by rw [← hA5]; exact heap_alloc_new w2 _
        have HZ := hidM hZ
        have HGX5 := hidM (HG2.out.tr g5)
        have HSX := hidM (HSS.out A5 HGX5.out)
        have HNX := hidM (And.intro (HNA.out.1.gr g5) ((g5.block _ (lt_of_heap HNA.out.2) id).trans HNA.out.2))
        have HGX := hidM (HGV0.out.tr HGX5.out)
        go_simp
        clear g5 hZ hA5
        refine hK.out _ _ (HSX.out) (fun hHeld => ?_)
        clear hK Kc
        try simp only [Act.put, lA, lB, lC]
        refine tk 10 ?_
        refine rd1 11 fun Kc hK => ?_
        obtain ⟨y0, y1, y2⟩ := cell3V HZ.out
        have z0 := frz HZ.out 0
        have z1 := frz HZ.out 1
        have z2 := frz HZ.out 2
        have i0 := set_id (j := 0) (v := .int .i64 0) HZ.out rfl
        have i1 := set_id (j := 1) (v := .slice none 0 0) HZ.out rfl
        have i2 := set_id (j := 2) (v := .int .i64 0) HZ.out rfl
        go_simp
        refine hK.out _ _ (HSX.out) (fun hHeld => ?_)
        clear hK Kc
        try simp only [Act.put, lA, lB, lC]
        refine wpAnyH_done (by kernel_rfl) ?_ _
        clear hHeld z0 z1 z2 i0 i1 i2
        have H22 := hidM (col_vals (HNX.out).1 (HNX.out).2 (HDt.out A5 HGX.out))
        have HFin : Hid (∀ w6 g, Gr A5 w6 → w6.heap[g]? = some (.cells #[.bool false, .int .i64 3, .string ⟨#[]⟩, .slice none 0 0, .bool false, .int .i64 4, .string ⟨#[]⟩, .slice none 0 0] 98) → (∃ c0 c1, w6.heap[cb]? = some (.cells #[c0, c1] 72)) ∧ CoI A cb 1 (w6.setCell ⟨cb, 0, none⟩ (.slice (some ⟨g, 0, none⟩) 2 2))) := fun w6 g g6 hg => co_next (k := 0) (by decide) HI.out (HGX.out.tr g6) hg
        go_wp2_with (go_at_call 54; refine H22.out.mono ?_; rintro e w6 ⟨g, rfl, g6, -, hg⟩; obtain ⟨⟨c0, c1, hcb⟩, hn⟩ := HFin.out w6 g g6 hg; obtain ⟨k0, k1⟩ := cell2 hcb; have x0 := frz hcb 0; obtain ⟨U, hU⟩ := ex (w6.setCell ⟨cb, 0, none⟩ (.slice (some ⟨g, 0, none⟩) 2 2)); rw [hU] at hn; have HN := hidM hn; clear g6 hg hcb hn y0 y1 y2)
        go_roundw
        case rel => exact ⟨1, by omega, by go_num, HN⟩
        case measure => simp [intOf]
      obtain ⟨A5, hA5⟩ := ex (V.drew.alloc (.cells #[.int .i64 0, .slice none 0 0, .int .i64 0] 60))
      have g5 : Gr V.drew A5 := by rw [← hA5]; exact gr_alloc V.drew _
      have hZ : A5.heap[V.drew.heap.size]? = some (.cells #[.int .i64 0, .slice none 0 0, .int .i64 0] 60) := by rw [← hA5]; exact heap_alloc_new V.drew _
      have HZ5 := hidM hZ
      have HGD5 := hidM (HGD.out.tr g5)
      have HS5 := hidM (HSS.out A5 HGD5.out)
      go_simp
      clear g5 hZ hA5 HGD
      have HGD := HGD5
      refine hK.out _ _ (HS5.out) (fun hHeld => ?_)
      clear hK Kc
      try simp only [Act.put, lA, lB, lC]
      refine rd1 5 fun Kc hK => ?_
      go_simp
      go_at_call 53
      refine Calls.mono (H21.out _ HGD.out) ?_
      rintro e' w2 ⟨a, q, r, rc, fo, fo2, rfl, g2, -, hn, ha⟩
      have HG2 := hidM (HGD.out.tr g2)
      have HS2 := hidM (HSS.out w2 HG2.out)
      have HNA := hidM (And.intro hn ha)
      have HZ : Hid (w2.heap[V.heap.size]? = some (.cells #[.int .i64 0, .slice none 0 0, .int .i64 0] 60)) := (g2.block _ (lt_of_heap HZ5.out) id).trans HZ5.out
      have HSX := HS2
      have HNX := HNA
      have HGX := hidM (HGV0.out.tr HG2.out)
      clear g2 hn ha
      go_wp2_with fail
      refine hK.out _ _ (HS2.out) (fun hHeld => ?_)
      clear hK Kc
      try simp only [Act.put, lA, lB, lC]
      refine tk 6 ?_
      refine tk 7 ?_
      refine tk 8 ?_
      refine tk 10 ?_
      refine rd1 11 fun Kc hK => ?_
      obtain ⟨y0, y1, y2⟩ := cell3V HZ.out
      have z0 := frz HZ.out 0
      have z1 := frz HZ.out 1
      have z2 := frz HZ.out 2
      have i0 := set_id (j := 0) (v := .int .i64 0) HZ.out rfl
      have i1 := set_id (j := 1) (v := .slice none 0 0) HZ.out rfl
      have i2 := set_id (j := 2) (v := .int .i64 0) HZ.out rfl
      go_simp
      refine hK.out _ _ (HSX.out) (fun hHeld => ?_)
      clear hK Kc
      try simp only [Act.put, lA, lB, lC]
      refine wpAnyH_done (by kernel_rfl) ?_ _
      clear hHeld z0 z1 z2 i0 i1 i2
      have H22 := hidM (col_vals (HNX.out).1 (HNX.out).2 (HDt.out w2 HGX.out))
      have HFin : Hid (∀ w6 g, Gr w2 w6 → w6.heap[g]? = some (.cells #[.bool false, .int .i64 3, .string ⟨#[]⟩, .slice none 0 0, .bool false, .int .i64 4, .string ⟨#[]⟩, .slice none 0 0] 98) → (∃ c0 c1, w6.heap[cb]? = some (.cells #[c0, c1] 72)) ∧ CoI A cb 1 (w6.setCell ⟨cb, 0, none⟩ (.slice (some ⟨g, 0, none⟩) 2 2))) := fun w6 g g6 hg => co_next (k := 0) (by decide) HI.out (HGX.out.tr g6) hg
      go_wp2_with (go_at_call 54; refine H22.out.mono ?_; rintro e w6 ⟨g, rfl, g6, -, hg⟩; obtain ⟨⟨c0, c1, hcb⟩, hn⟩ := HFin.out w6 g g6 hg; obtain ⟨k0, k1⟩ := cell2 hcb; have x0 := frz hcb 0; obtain ⟨U, hU⟩ := ex (w6.setCell ⟨cb, 0, none⟩ (.slice (some ⟨g, 0, none⟩) 2 2)); rw [hU] at hn; have HN := hidM hn; clear g6 hg hcb hn y0 y1 y2)
      go_roundw
      case rel => exact ⟨1, by omega, by go_num, HN⟩
      case measure => simp [intOf]
    · obtain ⟨-, a0, a1, a2, a3, a4, a5, a6⟩ := cell14 (HB.out wr HI.out.1)
      obtain ⟨A2, hA2⟩ := ex (wr.alloc (.cells #[.string ⟨#[]⟩, .bool false, .int .i64 0, .int .i64 0, .int .i64 0, .int .i64 0, .slice none 0 0] 26))
      have g2 := gr_al hA2
      have b2 : A2.heap[wr.heap.size]? = some (.cells fdZ 26) := by rw [← hA2]; exact heap_alloc_new wr _
      obtain ⟨y0, y1, y2, y3, y4, y5, y6⟩ := cell7 b2
      obtain ⟨z0, z1, z2, z3, z4, z5, z6⟩ := frz7 b2
      have hV0 := fd_blk b2
      have gV0 : Gr wr (fdU A2 wr.heap.size) := g2.trans (setAll_kp _ _ _) (fun j hj (e : j = wr.heap.size) => by omega)
      obtain ⟨V, hV⟩ := ex (fdU A2 wr.heap.size)
      rw [hV] at hV0 gV0
      simp only [fdU, setAll] at hV
      have HV0 := hidM hV0
      have HGV0 := hidM gV0
      clear g2 b2 hV0 gV0
      go_wp2_with fail
      clear y0 y1 y2 y3 y4 y5 y6 z0 z1 z2 z3 z4 z5 z6 a0 a1 a2 a3 a4 a5 a6 hV hA2
      obtain ⟨b8, hb8⟩ := ex (wr.heap.size)
      rw [hb8] at HV0 ⊢
      clear hb8
      have hS : ∀ u, Gr wr u → u.heap[b8]? = some (.cells fdC 26) → u.cell? ⟨b8, 0, none⟩ = some (.string nmA) ∧ u.cell? ⟨b8, 1, none⟩ = some (.bool false) ∧ u.cell? ⟨b8, 2, none⟩ = some (.int .i64 3) ∧ u.cell? ⟨b8, 3, none⟩ = some (.int .i64 0) ∧ u.cell? ⟨b8, 4, none⟩ = some (.int .i64 0) ∧ u.cell? ⟨b8, 5, none⟩ = some (.int .i64 0) ∧ u.cell? ⟨b8, 6, none⟩ = some (.slice none 0 0) ∧ u.cell? ⟨db, 6, none⟩ = some (.int .i64 2) ∧ u.cell? ⟨db, 7, none⟩ = some (.int .i64 0) ∧ u.cell? ⟨db, 8, none⟩ = some (.int .i64 0) ∧ u.cell? ⟨db, 9, none⟩ = some (.slice (some ⟨qb, 0, none⟩) 2 2) ∧ u.cell? ⟨db, 10, none⟩ = some (.slice none 0 0) ∧ u.cell? ⟨db, 11, none⟩ = some (.slice none 0 0) := fun u g h8 => by
        obtain ⟨c0, c1, c2, c3, c4, c5, c6⟩ := cell7 h8
        obtain ⟨-, d0, d1, d2, d3, d4, d5⟩ := cell12 (HDa.out u (HI.out.1.tr (g.mono fun _ _ h => h.elim)))
        exact ⟨c0, c1, c2, c3, c4, c5, c6, d0, d1, d2, d3, d4, d5⟩
      have HSS : Hid (∀ u, Gr V u → u.cell? ⟨b8, 0, none⟩ = some (.string nmA) ∧ u.cell? ⟨b8, 1, none⟩ = some (.bool false) ∧ u.cell? ⟨b8, 2, none⟩ = some (.int .i64 3) ∧ u.cell? ⟨b8, 3, none⟩ = some (.int .i64 0) ∧ u.cell? ⟨b8, 4, none⟩ = some (.int .i64 0) ∧ u.cell? ⟨b8, 5, none⟩ = some (.int .i64 0) ∧ u.cell? ⟨b8, 6, none⟩ = some (.slice none 0 0) ∧ u.cell? ⟨db, 6, none⟩ = some (.int .i64 2) ∧ u.cell? ⟨db, 7, none⟩ = some (.int .i64 0) ∧ u.cell? ⟨db, 8, none⟩ = some (.int .i64 0) ∧ u.cell? ⟨db, 9, none⟩ = some (.slice (some ⟨qb, 0, none⟩) 2 2) ∧ u.cell? ⟨db, 10, none⟩ = some (.slice none 0 0) ∧ u.cell? ⟨db, 11, none⟩ = some (.slice none 0 0)) := fun u g => hS u (HGV0.out.tr g) ((g.block _ (lt_of_heap HV0.out) id).trans HV0.out)
      have HGD : Hid (Gr V V.drew) := gr_drew
      have HS0 := hidM (HSS.out V.drew HGD.out)
      have HDt : Hid (∀ u, Gr wr u → DatC u qb v2 2) := fun u g => HDd.out u (HI.out.1.tr (g.mono fun _ _ h => h.elim))
      have H21 : Hid (∀ u, Gr V u → Calls Tryz.prog 53 #[.agg #[.string nmA, .bool false, .int .i64 3, .int .i64 0, .int .i64 0, .int .i64 0, .slice none 0 0], .agg #[.int .i64 2, .int .i64 0, .int .i64 0, .slice (some ⟨qb, 0, none⟩) 2 2, .slice none 0 0, .slice none 0 0]] u fun e w' => ∃ a q r rc fo fc, e = .returned (.tuple #[.pointer (some ⟨a, 0, none⟩), .agg #[.int .i64 0, .slice none 0 0, .int .i64 0]]) ∧ Gr u w' ∧ (u.heap.size ≤ a ∧ u.heap.size ≤ q ∧ u.heap.size ≤ r) ∧ NdA w' q r rc false fo fc 2 0 v2 2 2 ∧ w'.heap[a]? = some (.cells #[.pointer (some ⟨q, 0, none⟩), .int .i64 0, .int .i64 2, .pointer none] 123)) := fun u g => open18 qb 2 v2 2 none 0 u (HDt.out u (HGV0.out.tr g))
      clear hS
      refine wp_region_held_drew (S := fun w' => w'.cell? ⟨b8, 0, none⟩ = some (.string nmA) ∧ w'.cell? ⟨b8, 1, none⟩ = some (.bool false) ∧ w'.cell? ⟨b8, 2, none⟩ = some (.int .i64 3) ∧ w'.cell? ⟨b8, 3, none⟩ = some (.int .i64 0) ∧ w'.cell? ⟨b8, 4, none⟩ = some (.int .i64 0) ∧ w'.cell? ⟨b8, 5, none⟩ = some (.int .i64 0) ∧ w'.cell? ⟨b8, 6, none⟩ = some (.slice none 0 0) ∧ w'.cell? ⟨db, 6, none⟩ = some (.int .i64 2) ∧ w'.cell? ⟨db, 7, none⟩ = some (.int .i64 0) ∧ w'.cell? ⟨db, 8, none⟩ = some (.int .i64 0) ∧ w'.cell? ⟨db, 9, none⟩ = some (.slice (some ⟨qb, 0, none⟩) 2 2) ∧ w'.cell? ⟨db, 10, none⟩ = some (.slice none 0 0) ∧ w'.cell? ⟨db, 11, none⟩ = some (.slice none 0 0)) (by kernel_rfl) (HS0.out) (fun hHeld => ?_)
      refine tk 0 ?_
      refine tk 1 ?_
      refine tk 2 ?_
      refine tk 3 ?_
      refine tk 4 ?_
      refine wpAnyH_ready (rs := [5, 9]) (by kernel_rfl) (by simp) ?_
      refine AllReadyH.cons (o := { dst := some 29, op := Op.call { callee := Callee.value (Operand.func 53), args := #[Operand.tmp 24, Operand.tmp 28], argTypes := #[26, 54] }, type := 90, pos := "calc.go:55", after := #[{ on := 0, ground := Ground.data }, { on := 4, ground := Ground.data }], guard := none }) rfl (fun Kc hK => ?_) (AllReadyH.cons (o := { dst := some 10, op := Op.alloc 60, type := 0, pos := "calc.go:55", after := #[], guard := none }) rfl (fun Kc hK => ?_) AllReadyH.nil)
      · go_simp
        go_at_call 53
        refine Calls.mono (H21.out _ HGD.out) ?_
        rintro e' w2 ⟨a, q, r, rc, fo, fo2, rfl, g2, -, hn, ha⟩
        have HG2 := hidM (HGD.out.tr g2)
        have HS2 := hidM (HSS.out w2 HG2.out)
        have HNA := hidM (And.intro hn ha)
        clear g2 hn ha
        go_wp2_with fail
        refine hK.out _ _ (HS2.out) (fun hHeld => ?_)
        clear hK Kc
        try simp only [Act.put, lA, lB, lC]
        refine tk 6 ?_
        refine tk 7 ?_
        refine tk 8 ?_
        refine rd1 9 fun Kc hK => ?_
        obtain ⟨A5, hA5⟩ := ex (w2.alloc (.cells #[.int .i64 0, .slice none 0 0, .int .i64 0] 60))
        have g5 := gr_al hA5
        have hZ : A5.heap[w2.heap.size]? = some (.cells #[.int .i64 0, .slice none 0 0, .int .i64 0] 60) := by rw [← hA5]; exact heap_alloc_new w2 _
        have HZ := hidM hZ
        have HGX5 := hidM (HG2.out.tr g5)
        have HSX := hidM (HSS.out A5 HGX5.out)
        have HNX := hidM (And.intro (HNA.out.1.gr g5) ((g5.block _ (lt_of_heap HNA.out.2) id).trans HNA.out.2))
        have HGX := hidM (HGV0.out.tr HGX5.out)
        go_simp
        clear g5 hZ hA5
        refine hK.out _ _ (HSX.out) (fun hHeld => ?_)
        clear hK Kc
        try simp only [Act.put, lA, lB, lC]
        refine tk 10 ?_
        refine rd1 11 fun Kc hK => ?_
        obtain ⟨y0, y1, y2⟩ := cell3V HZ.out
        have z0 := frz HZ.out 0
        have z1 := frz HZ.out 1
        have z2 := frz HZ.out 2
        have i0 := set_id (j := 0) (v := .int .i64 0) HZ.out rfl
        have i1 := set_id (j := 1) (v := .slice none 0 0) HZ.out rfl
        have i2 := set_id (j := 2) (v := .int .i64 0) HZ.out rfl
        go_simp
        refine hK.out _ _ (HSX.out) (fun hHeld => ?_)
        clear hK Kc
        try simp only [Act.put, lA, lB, lC]
        refine wpAnyH_done (by kernel_rfl) ?_ _
        clear hHeld z0 z1 z2 i0 i1 i2
        have H22 := hidM (col_vals (HNX.out).1 (HNX.out).2 (HDt.out A5 HGX.out))
        have HFin : Hid (∀ w6 g, Gr A5 w6 → w6.heap[g]? = some (.cells #[.bool false, .int .i64 3, .string ⟨#[]⟩, .slice none 0 0, .bool false, .int .i64 4, .string ⟨#[]⟩, .slice none 0 0] 98) → (∃ c0 c1, w6.heap[cb]? = some (.cells #[c0, c1] 72)) ∧ CoI A cb 2 (w6.setCell ⟨cb, 1, none⟩ (.slice (some ⟨g, 0, none⟩) 2 2))) := fun w6 g g6 hg => co_next (k := 1) (by decide) HI.out (HGX.out.tr g6) hg
        go_wp2_with (go_at_call 54; refine H22.out.mono ?_; rintro e w6 ⟨g, rfl, g6, -, hg⟩; obtain ⟨⟨c0, c1, hcb⟩, hn⟩ := HFin.out w6 g g6 hg; obtain ⟨k0, k1⟩ := cell2 hcb; have x0 := frz hcb 1; obtain ⟨U, hU⟩ := ex (w6.setCell ⟨cb, 1, none⟩ (.slice (some ⟨g, 0, none⟩) 2 2)); rw [hU] at hn; have HN := hidM hn; clear g6 hg hcb hn y0 y1 y2)
        go_roundw
        case rel => exact ⟨2, by omega, by go_num, HN⟩
        case measure => simp [intOf]
      obtain ⟨A5, hA5⟩ := ex (V.drew.alloc (.cells #[.int .i64 0, .slice none 0 0, .int .i64 0] 60))
      have g5 : Gr V.drew A5 := by rw [← hA5]; exact gr_alloc V.drew _
      have hZ : A5.heap[V.drew.heap.size]? = some (.cells #[.int .i64 0, .slice none 0 0, .int .i64 0] 60) := by rw [← hA5]; exact heap_alloc_new V.drew _
      have HZ5 := hidM hZ
      have HGD5 := hidM (HGD.out.tr g5)
      have HS5 := hidM (HSS.out A5 HGD5.out)
      go_simp
      clear g5 hZ hA5 HGD
      have HGD := HGD5
      refine hK.out _ _ (HS5.out) (fun hHeld => ?_)
      clear hK Kc
      try simp only [Act.put, lA, lB, lC]
      refine rd1 5 fun Kc hK => ?_
      go_simp
      go_at_call 53
      refine Calls.mono (H21.out _ HGD.out) ?_
      rintro e' w2 ⟨a, q, r, rc, fo, fo2, rfl, g2, -, hn, ha⟩
      have HG2 := hidM (HGD.out.tr g2)
      have HS2 := hidM (HSS.out w2 HG2.out)
      have HNA := hidM (And.intro hn ha)
      have HZ : Hid (w2.heap[V.heap.size]? = some (.cells #[.int .i64 0, .slice none 0 0, .int .i64 0] 60)) := (g2.block _ (lt_of_heap HZ5.out) id).trans HZ5.out
      have HSX := HS2
      have HNX := HNA
      have HGX := hidM (HGV0.out.tr HG2.out)
      clear g2 hn ha
      go_wp2_with fail
      refine hK.out _ _ (HS2.out) (fun hHeld => ?_)
      clear hK Kc
      try simp only [Act.put, lA, lB, lC]
      refine tk 6 ?_
      refine tk 7 ?_
      refine tk 8 ?_
      refine tk 10 ?_
      refine rd1 11 fun Kc hK => ?_
      obtain ⟨y0, y1, y2⟩ := cell3V HZ.out
      have z0 := frz HZ.out 0
      have z1 := frz HZ.out 1
      have z2 := frz HZ.out 2
      have i0 := set_id (j := 0) (v := .int .i64 0) HZ.out rfl
      have i1 := set_id (j := 1) (v := .slice none 0 0) HZ.out rfl
      have i2 := set_id (j := 2) (v := .int .i64 0) HZ.out rfl
      go_simp
      refine hK.out _ _ (HSX.out) (fun hHeld => ?_)
      clear hK Kc
      try simp only [Act.put, lA, lB, lC]
      refine wpAnyH_done (by kernel_rfl) ?_ _
      clear hHeld z0 z1 z2 i0 i1 i2
      have H22 := hidM (col_vals (HNX.out).1 (HNX.out).2 (HDt.out w2 HGX.out))
      have HFin : Hid (∀ w6 g, Gr w2 w6 → w6.heap[g]? = some (.cells #[.bool false, .int .i64 3, .string ⟨#[]⟩, .slice none 0 0, .bool false, .int .i64 4, .string ⟨#[]⟩, .slice none 0 0] 98) → (∃ c0 c1, w6.heap[cb]? = some (.cells #[c0, c1] 72)) ∧ CoI A cb 2 (w6.setCell ⟨cb, 1, none⟩ (.slice (some ⟨g, 0, none⟩) 2 2))) := fun w6 g g6 hg => co_next (k := 1) (by decide) HI.out (HGX.out.tr g6) hg
      go_wp2_with (go_at_call 54; refine H22.out.mono ?_; rintro e w6 ⟨g, rfl, g6, -, hg⟩; obtain ⟨⟨c0, c1, hcb⟩, hn⟩ := HFin.out w6 g g6 hg; obtain ⟨k0, k1⟩ := cell2 hcb; have x0 := frz hcb 1; obtain ⟨U, hU⟩ := ex (w6.setCell ⟨cb, 1, none⟩ (.slice (some ⟨g, 0, none⟩) 2 2)); rw [hU] at hn; have HN := hidM hn; clear g6 hg hcb hn y0 y1 y2)
      go_roundw
      case rel => exact ⟨2, by omega, by go_num, HN⟩
      case measure => simp [intOf]
    obtain ⟨hK, ga, gb, h1, h2, h3⟩ := HI.out
    have HE : Hid (Gr W wr ∧ ColA wr cb ga gb) := ⟨HKW.out wr hK, h1, h2 (by decide), h3 (by decide)⟩
    obtain ⟨k0, k1⟩ := cell2 HE.out.2.c0
    clear hK h1 h2 h3 HI
    go_wp2_with fail
    go_loopw [45] (fun i ww => ∃ m : Nat, m ≤ 2 ∧ i = .int .i64 m ∧ ww = wr) (fun i _ => 2 - (intOf i).toNat)
    case atStart => exact ⟨0, by omega, rfl, rfl⟩
    case round =>
      obtain ⟨m, hm, rfl, hw⟩ := hrel
      subst hw
      have hm3 : m = 0 ∨ m = 1 ∨ m = 2 := by omega
      rcases hm3 with rfl | rfl | rfl
      · go_wp2_with fail
        go_roundw
        case rel => exact ⟨1, by omega, by go_num, by first | trivial | rfl⟩
        case measure => simp [intOf]
      · go_wp2_with fail
        go_roundw
        case rel => exact ⟨2, by omega, by go_num, by first | trivial | rfl⟩
        case measure => simp [intOf]
      go_wp2_with fail
      go_ret2
      exact ⟨cb, ga, gb, rfl, HE.out⟩
end Go.Proofs.YtknnoiomdngmfaaGreatDoor.Kit
