import Derived.Test.YtfoifmacobldbaaGreatDoorRE
set_option maxRecDepth 100000
set_option maxHeartbeats 4000000
namespace Go.Proofs.YtfoifmacobldbaaGreatDoor.Kit
open Go.RowKit Go.Shelf Go.Deep
set_option linter.unusedVariables false
set_option linter.unusedSimpArgs false
attribute [local go_sem] run_store_func
theorem Fr.cell2 {a w W : World} (h : Fr a w W) {b o : Nat} {v : Value} (hc : w.cell? ⟨b, o, none⟩ = some v) (hn : ¬ IsB a w b) : W.cell? ⟨b, o, none⟩ = some v := Keeps.cell' h hc hn
theorem val23_choice (f0 : ByteArray) (f1 : Bool)  (f3 f4 f5 : Int) (fb fo n0 ca : Nat) (v2 : ByteArray) (vc j eb eo : Nat) (k0 : ByteArray) (k1 : Bool) (k2 k3 k4 k5 : Int) (kp : Option Addr) (kn kc : Nat) (e0 : Bool) (e1 : Int) (e2 : ByteArray) (ep : Option Addr) (en ec : Nat) (a u W : World) (bo : Option Addr) (bc n : Nat) (bs : List UInt8) (hB : Byts (a, u) W bo bc n bs) (hl : n ≤ 65536) (T : List UInt8) (c0 : W.cell? ⟨fb, fo + j * 7, none⟩ = some (.string k0)) (c1 : W.cell? ⟨fb, fo + j * 7 + 1, none⟩ = some (.bool k1)) (c2 : W.cell? ⟨fb, fo + j * 7 + 2, none⟩ = some (.int .i64 k2)) (c3 : W.cell? ⟨fb, fo + j * 7 + 3, none⟩ = some (.int .i64 k3)) (c4 : W.cell? ⟨fb, fo + j * 7 + 4, none⟩ = some (.int .i64 k4)) (c5 : W.cell? ⟨fb, fo + j * 7 + 5, none⟩ = some (.int .i64 k5)) (c6 : W.cell? ⟨fb, fo + j * 7 + 6, none⟩ = some (.slice kp kn kc)) (c7 : W.cell? ⟨eb, eo, none⟩ = some (.bool e0)) (c8 : W.cell? ⟨eb, eo + 1, none⟩ = some (.int .i64 e1)) (c9 : W.cell? ⟨eb, eo + 2, none⟩ = some (.string e2)) (c10 : W.cell? ⟨eb, eo + 3, none⟩ = some (.slice ep en ec)) (hj : j < n0) (hn0 : n0 ≤ 1000000000000) (hfb : ¬ IsB a W fb) (heb : ¬ IsB a W eb)
    (hC : ∀ u W, Byts (a, u) W bo bc n bs → Calls Tryz.prog 49 #[.slice bo n bc, .agg #[.string k0, .bool k1, .int .i64 k2, .int .i64 k3, .int .i64 k4, .int .i64 k5, .slice kp kn kc], .agg #[.bool e0, .int .i64 e1, .string e2, .slice ep en ec]] W (PrA (a, u) bs T)) :
    Calls Tryz.prog 23 #[.slice bo n bc, .agg #[.string f0, .bool f1, .int .i64 18, .int .i64 f3, .int .i64 f4, .int .i64 f5, .slice (some ⟨fb, fo, none⟩) n0 ca], .agg #[.bool false, .int .i64 (j : Int), .string v2, .slice (some ⟨eb, eo, none⟩) 1 vc]] W (PrA (a, u) bs T) := by
  have hlI : ¬ (65536 : Int) < (n : Int) := by omega
  have HI := hidM (noNum 18 (by omega))
  obtain ⟨W3, hW3⟩ : ∃ W3, (((W.alloc (.cells #[.string f0, .bool f1, .int .i64 18, .int .i64 f3, .int .i64 f4, .int .i64 f5, .slice (some ⟨fb, fo, none⟩) n0 ca] 26)).alloc (.cells #[.bool false, .int .i64 (j : Int), .string v2, .slice (some ⟨eb, eo, none⟩) 1 vc] 29)).alloc (.cells #[.int .i64 18, .int .i64 f3, .int .i64 f4, .int .i64 f5, .slice (some ⟨fb, fo, none⟩) n0 ca] 24)) = W3 := ⟨_, rfl⟩
  have hG : Gr W W3 := by rw [← hW3]; exact gr3 W _ _ _
  have h29 : W3.heap[W.heap.size + 1]? = some (.cells #[.bool false, .int .i64 (j : Int), .string v2, .slice (some ⟨eb, eo, none⟩) 1 vc] 29) := by
    rw [← hW3]
    have e := heap_alloc_new (W.alloc (.cells #[.string f0, .bool f1, .int .i64 18, .int .i64 f3, .int .i64 f4, .int .i64 f5, .slice (some ⟨fb, fo, none⟩) n0 ca] 26)) (.cells #[.bool false, .int .i64 (j : Int), .string v2, .slice (some ⟨eb, eo, none⟩) 1 vc] 29)
    rw [show (W.alloc (.cells #[.string f0, .bool f1, .int .i64 18, .int .i64 f3, .int .i64 f4, .int .i64 f5, .slice (some ⟨fb, fo, none⟩) n0 ca] 26)).heap.size = W.heap.size + 1 by simp] at e
    exact ((gr_alloc _ _).block _ (by simp) id).trans e
  have h24 : W3.heap[W.heap.size + 1 + 1]? = some (.cells #[.int .i64 18, .int .i64 f3, .int .i64 f4, .int .i64 f5, .slice (some ⟨fb, fo, none⟩) n0 ca] 24) := by
    rw [← hW3]
    have e := heap_alloc_new ((W.alloc (.cells #[.string f0, .bool f1, .int .i64 18, .int .i64 f3, .int .i64 f4, .int .i64 f5, .slice (some ⟨fb, fo, none⟩) n0 ca] 26)).alloc (.cells #[.bool false, .int .i64 (j : Int), .string v2, .slice (some ⟨eb, eo, none⟩) 1 vc] 29)) (.cells #[.int .i64 18, .int .i64 f3, .int .i64 f4, .int .i64 f5, .slice (some ⟨fb, fo, none⟩) n0 ca] 24)
    rw [show ((W.alloc (.cells #[.string f0, .bool f1, .int .i64 18, .int .i64 f3, .int .i64 f4, .int .i64 f5, .slice (some ⟨fb, fo, none⟩) n0 ca] 26)).alloc (.cells #[.bool false, .int .i64 (j : Int), .string v2, .slice (some ⟨eb, eo, none⟩) 1 vc] 29)).heap.size = W.heap.size + 1 + 1 by simp] at e
    exact e
  have HC : Hid (W3.drew.cell? ⟨W.heap.size + 1 + 1, 4, none⟩ = some (.slice (some ⟨fb, fo, none⟩) n0 ca) ∧ W3.drew.cell? ⟨W.heap.size + 1, 1, none⟩ = some (.int .i64 (j : Int)) ∧ W3.drew.cell? ⟨W.heap.size + 1, 3, none⟩ = some (.slice (some ⟨eb, eo, none⟩) 1 vc) ∧ W3.drew.cell? ⟨fb, fo + j * 7, none⟩ = some (.string k0) ∧ W3.drew.cell? ⟨fb, fo + j * 7 + 1, none⟩ = some (.bool k1) ∧ W3.drew.cell? ⟨fb, fo + j * 7 + 2, none⟩ = some (.int .i64 k2) ∧ W3.drew.cell? ⟨fb, fo + j * 7 + 3, none⟩ = some (.int .i64 k3) ∧ W3.drew.cell? ⟨fb, fo + j * 7 + 4, none⟩ = some (.int .i64 k4) ∧ W3.drew.cell? ⟨fb, fo + j * 7 + 5, none⟩ = some (.int .i64 k5) ∧ W3.drew.cell? ⟨fb, fo + j * 7 + 6, none⟩ = some (.slice kp kn kc) ∧ W3.drew.cell? ⟨eb, eo, none⟩ = some (.bool e0) ∧ W3.drew.cell? ⟨eb, eo + 1, none⟩ = some (.int .i64 e1) ∧ W3.drew.cell? ⟨eb, eo + 2, none⟩ = some (.string e2) ∧ W3.drew.cell? ⟨eb, eo + 3, none⟩ = some (.slice ep en ec)) := by
    refine ⟨?_, ?_, ?_, hG.cell' c0 id, hG.cell' c1 id, hG.cell' c2 id, hG.cell' c3 id, hG.cell' c4 id, hG.cell' c5 id, hG.cell' c6 id, hG.cell' c7 id, hG.cell' c8 id, hG.cell' c9 id, hG.cell' c10 id⟩
    all_goals
      first
      | (show W3.cell? _ = _; simp [World.cell?, h29]; done)
      | (show W3.cell? _ = _; simp [World.cell?, h24]; done)
  have nb : ∀ b, b < W.heap.size → ¬ IsB a W b → ¬ IsB a W3.drew b := fun b hb h0 ⟨hl, cs, fz, e⟩ => h0 ⟨hl, cs, fz, (hG.block b hb id).symm.trans e⟩
  have hN : Hid (¬ IsB a W3.drew (W.heap.size + 1) ∧ ¬ IsB a W3.drew (W.heap.size + 1 + 1) ∧ ¬ IsB a W3.drew fb ∧ ¬ IsB a W3.drew eb) := ⟨notB (a := a) (W := W3.drew) h29 (by decide), notB (a := a) (W := W3.drew) h24 (by decide), nb fb (block_lt_of_cell c0) hfb, nb eb (block_lt_of_cell c7) heb⟩
  have HCL := hidM (hC W3.drew _ (((hB.gr' hG).gr' gr_drew).here))
  have HFB := hidM ((hB.gr' hG).gr' gr_drew).fr
  have HW3 := hidM hW3
  clear hB hC hG h29 h24 nb hW3 c0 c1 c2 c3 c4 c5 c6 c7 c8 c9 c10
  go_enter Tryz.func23, Tryz.ntmps23
  go_wp2_with (go_at_call 44; refine (HI.out _).mono ?_; rintro e w' ⟨rfl, rfl⟩)
  rw [HW3.out]
  go_region_held3 (fun w' => w'.cell? ⟨W.heap.size + 1 + 1, 4, none⟩ = some (.slice (some ⟨fb, fo, none⟩) n0 ca) ∧ w'.cell? ⟨W.heap.size + 1, 1, none⟩ = some (.int .i64 (j : Int)) ∧ w'.cell? ⟨W.heap.size + 1, 3, none⟩ = some (.slice (some ⟨eb, eo, none⟩) 1 vc) ∧ w'.cell? ⟨fb, fo + j * 7, none⟩ = some (.string k0) ∧ w'.cell? ⟨fb, fo + j * 7 + 1, none⟩ = some (.bool k1) ∧ w'.cell? ⟨fb, fo + j * 7 + 2, none⟩ = some (.int .i64 k2) ∧ w'.cell? ⟨fb, fo + j * 7 + 3, none⟩ = some (.int .i64 k3) ∧ w'.cell? ⟨fb, fo + j * 7 + 4, none⟩ = some (.int .i64 k4) ∧ w'.cell? ⟨fb, fo + j * 7 + 5, none⟩ = some (.int .i64 k5) ∧ w'.cell? ⟨fb, fo + j * 7 + 6, none⟩ = some (.slice kp kn kc) ∧ w'.cell? ⟨eb, eo, none⟩ = some (.bool e0) ∧ w'.cell? ⟨eb, eo + 1, none⟩ = some (.int .i64 e1) ∧ w'.cell? ⟨eb, eo + 2, none⟩ = some (.string e2) ∧ w'.cell? ⟨eb, eo + 3, none⟩ = some (.slice ep en ec)) (first | with_reducible exact HC.out | with_reducible exact ⟨Fr.cell2 HV.out HC.out.1 hN.out.2.1, Fr.cell2 HV.out HC.out.2.1 hN.out.1, Fr.cell2 HV.out HC.out.2.2.1 hN.out.1, Fr.cell2 HV.out HC.out.2.2.2.1 hN.out.2.2.1, Fr.cell2 HV.out HC.out.2.2.2.2.1 hN.out.2.2.1, Fr.cell2 HV.out HC.out.2.2.2.2.2.1 hN.out.2.2.1, Fr.cell2 HV.out HC.out.2.2.2.2.2.2.1 hN.out.2.2.1, Fr.cell2 HV.out HC.out.2.2.2.2.2.2.2.1 hN.out.2.2.1, Fr.cell2 HV.out HC.out.2.2.2.2.2.2.2.2.1 hN.out.2.2.1, Fr.cell2 HV.out HC.out.2.2.2.2.2.2.2.2.2.1 hN.out.2.2.1, Fr.cell2 HV.out HC.out.2.2.2.2.2.2.2.2.2.2.1 hN.out.2.2.2, Fr.cell2 HV.out HC.out.2.2.2.2.2.2.2.2.2.2.2.1 hN.out.2.2.2, Fr.cell2 HV.out HC.out.2.2.2.2.2.2.2.2.2.2.2.2.1 hN.out.2.2.2, Fr.cell2 HV.out HC.out.2.2.2.2.2.2.2.2.2.2.2.2.2 hN.out.2.2.2⟩) ((go_at_call 49; refine Calls.mono HCL.out ?_; rintro e v1' ⟨vo1, vc1, n1, b1, rfl, hb1, hq1⟩; have HV := hidM (show Fr a W3.drew v1' from hb1.fr); have HN := hidM (And.intro hb1 hq1); clear hb1 hq1))
  all_goals
    go_wp2_with fail
    go_ret
    exact ⟨_, _, _, _, rfl, HN.out.1.back HFB.out, HN.out.2⟩
theorem val23_in19 (f0 : ByteArray) (f1 : Bool)  (f3 f4 f5 : Int) (fb fo n0 ca : Nat) (v1 : Int) (v2 : ByteArray) (vo : Option Addr) (m0 vc : Nat) (k0 : ByteArray) (k1 : Bool) (k2 k3 k4 k5 : Int) (kp : Option Addr) (kn kc : Nat) (a u W : World) (bo : Option Addr) (bc n : Nat) (bs : List UInt8) (hB : Byts (a, u) W bo bc n bs) (hl : n ≤ 65536) (T : List UInt8) (c0 : W.cell? ⟨fb, fo, none⟩ = some (.string k0)) (c1 : W.cell? ⟨fb, fo + 1, none⟩ = some (.bool k1)) (c2 : W.cell? ⟨fb, fo + 2, none⟩ = some (.int .i64 k2)) (c3 : W.cell? ⟨fb, fo + 3, none⟩ = some (.int .i64 k3)) (c4 : W.cell? ⟨fb, fo + 4, none⟩ = some (.int .i64 k4)) (c5 : W.cell? ⟨fb, fo + 5, none⟩ = some (.int .i64 k5)) (c6 : W.cell? ⟨fb, fo + 6, none⟩ = some (.slice kp kn kc)) (hn0 : 0 < n0) (hn1 : n0 ≤ 1000000000000) (hfb : ¬ IsB a W fb)
    (hC : ∀ u W, Byts (a, u) W bo bc n bs → Calls Tryz.prog 23 #[.slice bo n bc, .agg #[.string k0, .bool k1, .int .i64 k2, .int .i64 k3, .int .i64 k4, .int .i64 k5, .slice kp kn kc], .agg #[.bool false, .int .i64 v1, .string v2, .slice vo m0 vc]] W (PrA (a, u) bs T)) :
    Calls Tryz.prog 23 #[.slice bo n bc, .agg #[.string f0, .bool f1, .int .i64 19, .int .i64 f3, .int .i64 f4, .int .i64 f5, .slice (some ⟨fb, fo, none⟩) n0 ca], .agg #[.bool false, .int .i64 v1, .string v2, .slice vo m0 vc]] W (PrA (a, u) bs T) := by
  have hlI : ¬ (65536 : Int) < (n : Int) := by omega
  have HI := hidM (noNum 19 (by omega))
  obtain ⟨W3, hW3⟩ : ∃ W3, (((W.alloc (.cells #[.string f0, .bool f1, .int .i64 19, .int .i64 f3, .int .i64 f4, .int .i64 f5, .slice (some ⟨fb, fo, none⟩) n0 ca] 26)).alloc (.cells #[.bool false, .int .i64 v1, .string v2, .slice vo m0 vc] 29)).alloc (.cells #[.int .i64 19, .int .i64 f3, .int .i64 f4, .int .i64 f5, .slice (some ⟨fb, fo, none⟩) n0 ca] 24)) = W3 := ⟨_, rfl⟩
  have hG : Gr W W3 := by rw [← hW3]; exact gr3 W _ _ _
  have h29 : W3.heap[W.heap.size + 1]? = some (.cells #[.bool false, .int .i64 v1, .string v2, .slice vo m0 vc] 29) := by
    rw [← hW3]
    have e := heap_alloc_new (W.alloc (.cells #[.string f0, .bool f1, .int .i64 19, .int .i64 f3, .int .i64 f4, .int .i64 f5, .slice (some ⟨fb, fo, none⟩) n0 ca] 26)) (.cells #[.bool false, .int .i64 v1, .string v2, .slice vo m0 vc] 29)
    rw [show (W.alloc (.cells #[.string f0, .bool f1, .int .i64 19, .int .i64 f3, .int .i64 f4, .int .i64 f5, .slice (some ⟨fb, fo, none⟩) n0 ca] 26)).heap.size = W.heap.size + 1 by simp] at e
    exact ((gr_alloc _ _).block _ (by simp) id).trans e
  have h24 : W3.heap[W.heap.size + 1 + 1]? = some (.cells #[.int .i64 19, .int .i64 f3, .int .i64 f4, .int .i64 f5, .slice (some ⟨fb, fo, none⟩) n0 ca] 24) := by
    rw [← hW3]
    have e := heap_alloc_new ((W.alloc (.cells #[.string f0, .bool f1, .int .i64 19, .int .i64 f3, .int .i64 f4, .int .i64 f5, .slice (some ⟨fb, fo, none⟩) n0 ca] 26)).alloc (.cells #[.bool false, .int .i64 v1, .string v2, .slice vo m0 vc] 29)) (.cells #[.int .i64 19, .int .i64 f3, .int .i64 f4, .int .i64 f5, .slice (some ⟨fb, fo, none⟩) n0 ca] 24)
    rw [show ((W.alloc (.cells #[.string f0, .bool f1, .int .i64 19, .int .i64 f3, .int .i64 f4, .int .i64 f5, .slice (some ⟨fb, fo, none⟩) n0 ca] 26)).alloc (.cells #[.bool false, .int .i64 v1, .string v2, .slice vo m0 vc] 29)).heap.size = W.heap.size + 1 + 1 by simp] at e
    exact e
  have HC : Hid (W3.drew.cell? ⟨W.heap.size + 1 + 1, 4, none⟩ = some (.slice (some ⟨fb, fo, none⟩) n0 ca) ∧ W3.drew.cell? ⟨W.heap.size + 1, 0, none⟩ = some (.bool false) ∧ W3.drew.cell? ⟨W.heap.size + 1, 1, none⟩ = some (.int .i64 v1) ∧ W3.drew.cell? ⟨W.heap.size + 1, 2, none⟩ = some (.string v2) ∧ W3.drew.cell? ⟨W.heap.size + 1, 3, none⟩ = some (.slice vo m0 vc) ∧ W3.drew.cell? ⟨fb, fo, none⟩ = some (.string k0) ∧ W3.drew.cell? ⟨fb, fo + 1, none⟩ = some (.bool k1) ∧ W3.drew.cell? ⟨fb, fo + 2, none⟩ = some (.int .i64 k2) ∧ W3.drew.cell? ⟨fb, fo + 3, none⟩ = some (.int .i64 k3) ∧ W3.drew.cell? ⟨fb, fo + 4, none⟩ = some (.int .i64 k4) ∧ W3.drew.cell? ⟨fb, fo + 5, none⟩ = some (.int .i64 k5) ∧ W3.drew.cell? ⟨fb, fo + 6, none⟩ = some (.slice kp kn kc)) := by
    refine ⟨?_, ?_, ?_, ?_, ?_, hG.cell' c0 id, hG.cell' c1 id, hG.cell' c2 id, hG.cell' c3 id, hG.cell' c4 id, hG.cell' c5 id, hG.cell' c6 id⟩
    all_goals
      first
      | (show W3.cell? _ = _; simp [World.cell?, h29]; done)
      | (show W3.cell? _ = _; simp [World.cell?, h24]; done)
  have nb : ∀ b, b < W.heap.size → ¬ IsB a W b → ¬ IsB a W3.drew b := fun b hb h0 ⟨hl, cs, fz, e⟩ => h0 ⟨hl, cs, fz, (hG.block b hb id).symm.trans e⟩
  have hN : Hid (¬ IsB a W3.drew (W.heap.size + 1) ∧ ¬ IsB a W3.drew (W.heap.size + 1 + 1) ∧ ¬ IsB a W3.drew fb ∧ True) := ⟨notB (a := a) (W := W3.drew) h29 (by decide), notB (a := a) (W := W3.drew) h24 (by decide), nb fb (block_lt_of_cell c0) hfb, trivial⟩
  have HCL := hidM (hC W3.drew _ (((hB.gr' hG).gr' gr_drew).here))
  have HFB := hidM ((hB.gr' hG).gr' gr_drew).fr
  have HW3 := hidM hW3
  clear hB hC hG h29 h24 nb hW3 c0 c1 c2 c3 c4 c5 c6
  go_enter Tryz.func23, Tryz.ntmps23
  go_wp2_with (go_at_call 44; refine (HI.out _).mono ?_; rintro e w' ⟨rfl, rfl⟩)
  rw [HW3.out]
  go_region_held3 (fun w' => w'.cell? ⟨W.heap.size + 1 + 1, 4, none⟩ = some (.slice (some ⟨fb, fo, none⟩) n0 ca) ∧ w'.cell? ⟨W.heap.size + 1, 0, none⟩ = some (.bool false) ∧ w'.cell? ⟨W.heap.size + 1, 1, none⟩ = some (.int .i64 v1) ∧ w'.cell? ⟨W.heap.size + 1, 2, none⟩ = some (.string v2) ∧ w'.cell? ⟨W.heap.size + 1, 3, none⟩ = some (.slice vo m0 vc) ∧ w'.cell? ⟨fb, fo, none⟩ = some (.string k0) ∧ w'.cell? ⟨fb, fo + 1, none⟩ = some (.bool k1) ∧ w'.cell? ⟨fb, fo + 2, none⟩ = some (.int .i64 k2) ∧ w'.cell? ⟨fb, fo + 3, none⟩ = some (.int .i64 k3) ∧ w'.cell? ⟨fb, fo + 4, none⟩ = some (.int .i64 k4) ∧ w'.cell? ⟨fb, fo + 5, none⟩ = some (.int .i64 k5) ∧ w'.cell? ⟨fb, fo + 6, none⟩ = some (.slice kp kn kc)) (first | with_reducible exact HC.out | with_reducible exact ⟨Fr.cell2 HV.out HC.out.1 hN.out.2.1, Fr.cell2 HV.out HC.out.2.1 hN.out.1, Fr.cell2 HV.out HC.out.2.2.1 hN.out.1, Fr.cell2 HV.out HC.out.2.2.2.1 hN.out.1, Fr.cell2 HV.out HC.out.2.2.2.2.1 hN.out.1, Fr.cell2 HV.out HC.out.2.2.2.2.2.1 hN.out.2.2.1, Fr.cell2 HV.out HC.out.2.2.2.2.2.2.1 hN.out.2.2.1, Fr.cell2 HV.out HC.out.2.2.2.2.2.2.2.1 hN.out.2.2.1, Fr.cell2 HV.out HC.out.2.2.2.2.2.2.2.2.1 hN.out.2.2.1, Fr.cell2 HV.out HC.out.2.2.2.2.2.2.2.2.2.1 hN.out.2.2.1, Fr.cell2 HV.out HC.out.2.2.2.2.2.2.2.2.2.2.1 hN.out.2.2.1, Fr.cell2 HV.out HC.out.2.2.2.2.2.2.2.2.2.2.2 hN.out.2.2.1⟩) ((go_at_call 23; refine Calls.mono HCL.out ?_; rintro e v1' ⟨vo1, vc1, n1, b1, rfl, hb1, hq1⟩; have HV := hidM (show Fr a W3.drew v1' from hb1.fr); have HN := hidM (And.intro hb1 hq1); clear hb1 hq1))
  all_goals
    go_wp2_with fail
    go_ret
    exact ⟨_, _, _, _, rfl, HN.out.1.back HFB.out, HN.out.2⟩
theorem val23_in20 (f0 : ByteArray) (f1 : Bool)  (f3 f4 f5 : Int) (fb fo n0 ca : Nat) (v1 : Int) (v2 : ByteArray) (vo : Option Addr) (m0 vc : Nat) (k0 : ByteArray) (k1 : Bool) (k2 k3 k4 k5 : Int) (kp : Option Addr) (kn kc : Nat) (a u W : World) (bo : Option Addr) (bc n : Nat) (bs : List UInt8) (hB : Byts (a, u) W bo bc n bs) (hl : n ≤ 65536) (T : List UInt8) (c0 : W.cell? ⟨fb, fo, none⟩ = some (.string k0)) (c1 : W.cell? ⟨fb, fo + 1, none⟩ = some (.bool k1)) (c2 : W.cell? ⟨fb, fo + 2, none⟩ = some (.int .i64 k2)) (c3 : W.cell? ⟨fb, fo + 3, none⟩ = some (.int .i64 k3)) (c4 : W.cell? ⟨fb, fo + 4, none⟩ = some (.int .i64 k4)) (c5 : W.cell? ⟨fb, fo + 5, none⟩ = some (.int .i64 k5)) (c6 : W.cell? ⟨fb, fo + 6, none⟩ = some (.slice kp kn kc)) (hn0 : 0 < n0) (hn1 : n0 ≤ 1000000000000) (hfb : ¬ IsB a W fb)
    (hC : ∀ u W, Byts (a, u) W bo bc n bs → Calls Tryz.prog 23 #[.slice bo n bc, .agg #[.string k0, .bool k1, .int .i64 k2, .int .i64 k3, .int .i64 k4, .int .i64 k5, .slice kp kn kc], .agg #[.bool false, .int .i64 v1, .string v2, .slice vo m0 vc]] W (PrA (a, u) bs T)) :
    Calls Tryz.prog 23 #[.slice bo n bc, .agg #[.string f0, .bool f1, .int .i64 20, .int .i64 f3, .int .i64 f4, .int .i64 f5, .slice (some ⟨fb, fo, none⟩) n0 ca], .agg #[.bool false, .int .i64 v1, .string v2, .slice vo m0 vc]] W (PrA (a, u) bs T) := by
  have hlI : ¬ (65536 : Int) < (n : Int) := by omega
  have HI := hidM (noNum 20 (by omega))
  obtain ⟨W3, hW3⟩ : ∃ W3, (((W.alloc (.cells #[.string f0, .bool f1, .int .i64 20, .int .i64 f3, .int .i64 f4, .int .i64 f5, .slice (some ⟨fb, fo, none⟩) n0 ca] 26)).alloc (.cells #[.bool false, .int .i64 v1, .string v2, .slice vo m0 vc] 29)).alloc (.cells #[.int .i64 20, .int .i64 f3, .int .i64 f4, .int .i64 f5, .slice (some ⟨fb, fo, none⟩) n0 ca] 24)) = W3 := ⟨_, rfl⟩
  have hG : Gr W W3 := by rw [← hW3]; exact gr3 W _ _ _
  have h29 : W3.heap[W.heap.size + 1]? = some (.cells #[.bool false, .int .i64 v1, .string v2, .slice vo m0 vc] 29) := by
    rw [← hW3]
    have e := heap_alloc_new (W.alloc (.cells #[.string f0, .bool f1, .int .i64 20, .int .i64 f3, .int .i64 f4, .int .i64 f5, .slice (some ⟨fb, fo, none⟩) n0 ca] 26)) (.cells #[.bool false, .int .i64 v1, .string v2, .slice vo m0 vc] 29)
    rw [show (W.alloc (.cells #[.string f0, .bool f1, .int .i64 20, .int .i64 f3, .int .i64 f4, .int .i64 f5, .slice (some ⟨fb, fo, none⟩) n0 ca] 26)).heap.size = W.heap.size + 1 by simp] at e
    exact ((gr_alloc _ _).block _ (by simp) id).trans e
  have h24 : W3.heap[W.heap.size + 1 + 1]? = some (.cells #[.int .i64 20, .int .i64 f3, .int .i64 f4, .int .i64 f5, .slice (some ⟨fb, fo, none⟩) n0 ca] 24) := by
    rw [← hW3]
    have e := heap_alloc_new ((W.alloc (.cells #[.string f0, .bool f1, .int .i64 20, .int .i64 f3, .int .i64 f4, .int .i64 f5, .slice (some ⟨fb, fo, none⟩) n0 ca] 26)).alloc (.cells #[.bool false, .int .i64 v1, .string v2, .slice vo m0 vc] 29)) (.cells #[.int .i64 20, .int .i64 f3, .int .i64 f4, .int .i64 f5, .slice (some ⟨fb, fo, none⟩) n0 ca] 24)
    rw [show ((W.alloc (.cells #[.string f0, .bool f1, .int .i64 20, .int .i64 f3, .int .i64 f4, .int .i64 f5, .slice (some ⟨fb, fo, none⟩) n0 ca] 26)).alloc (.cells #[.bool false, .int .i64 v1, .string v2, .slice vo m0 vc] 29)).heap.size = W.heap.size + 1 + 1 by simp] at e
    exact e
  have HC : Hid (W3.drew.cell? ⟨W.heap.size + 1 + 1, 4, none⟩ = some (.slice (some ⟨fb, fo, none⟩) n0 ca) ∧ W3.drew.cell? ⟨W.heap.size + 1, 0, none⟩ = some (.bool false) ∧ W3.drew.cell? ⟨W.heap.size + 1, 1, none⟩ = some (.int .i64 v1) ∧ W3.drew.cell? ⟨W.heap.size + 1, 2, none⟩ = some (.string v2) ∧ W3.drew.cell? ⟨W.heap.size + 1, 3, none⟩ = some (.slice vo m0 vc) ∧ W3.drew.cell? ⟨fb, fo, none⟩ = some (.string k0) ∧ W3.drew.cell? ⟨fb, fo + 1, none⟩ = some (.bool k1) ∧ W3.drew.cell? ⟨fb, fo + 2, none⟩ = some (.int .i64 k2) ∧ W3.drew.cell? ⟨fb, fo + 3, none⟩ = some (.int .i64 k3) ∧ W3.drew.cell? ⟨fb, fo + 4, none⟩ = some (.int .i64 k4) ∧ W3.drew.cell? ⟨fb, fo + 5, none⟩ = some (.int .i64 k5) ∧ W3.drew.cell? ⟨fb, fo + 6, none⟩ = some (.slice kp kn kc)) := by
    refine ⟨?_, ?_, ?_, ?_, ?_, hG.cell' c0 id, hG.cell' c1 id, hG.cell' c2 id, hG.cell' c3 id, hG.cell' c4 id, hG.cell' c5 id, hG.cell' c6 id⟩
    all_goals
      first
      | (show W3.cell? _ = _; simp [World.cell?, h29]; done)
      | (show W3.cell? _ = _; simp [World.cell?, h24]; done)
  have nb : ∀ b, b < W.heap.size → ¬ IsB a W b → ¬ IsB a W3.drew b := fun b hb h0 ⟨hl, cs, fz, e⟩ => h0 ⟨hl, cs, fz, (hG.block b hb id).symm.trans e⟩
  have hN : Hid (¬ IsB a W3.drew (W.heap.size + 1) ∧ ¬ IsB a W3.drew (W.heap.size + 1 + 1) ∧ ¬ IsB a W3.drew fb ∧ True) := ⟨notB (a := a) (W := W3.drew) h29 (by decide), notB (a := a) (W := W3.drew) h24 (by decide), nb fb (block_lt_of_cell c0) hfb, trivial⟩
  have HCL := hidM (hC W3.drew _ (((hB.gr' hG).gr' gr_drew).here))
  have HFB := hidM ((hB.gr' hG).gr' gr_drew).fr
  have HW3 := hidM hW3
  clear hB hC hG h29 h24 nb hW3 c0 c1 c2 c3 c4 c5 c6
  go_enter Tryz.func23, Tryz.ntmps23
  go_wp2_with (go_at_call 44; refine (HI.out _).mono ?_; rintro e w' ⟨rfl, rfl⟩)
  rw [HW3.out]
  go_region_held3 (fun w' => w'.cell? ⟨W.heap.size + 1 + 1, 4, none⟩ = some (.slice (some ⟨fb, fo, none⟩) n0 ca) ∧ w'.cell? ⟨W.heap.size + 1, 0, none⟩ = some (.bool false) ∧ w'.cell? ⟨W.heap.size + 1, 1, none⟩ = some (.int .i64 v1) ∧ w'.cell? ⟨W.heap.size + 1, 2, none⟩ = some (.string v2) ∧ w'.cell? ⟨W.heap.size + 1, 3, none⟩ = some (.slice vo m0 vc) ∧ w'.cell? ⟨fb, fo, none⟩ = some (.string k0) ∧ w'.cell? ⟨fb, fo + 1, none⟩ = some (.bool k1) ∧ w'.cell? ⟨fb, fo + 2, none⟩ = some (.int .i64 k2) ∧ w'.cell? ⟨fb, fo + 3, none⟩ = some (.int .i64 k3) ∧ w'.cell? ⟨fb, fo + 4, none⟩ = some (.int .i64 k4) ∧ w'.cell? ⟨fb, fo + 5, none⟩ = some (.int .i64 k5) ∧ w'.cell? ⟨fb, fo + 6, none⟩ = some (.slice kp kn kc)) (first | with_reducible exact HC.out | with_reducible exact ⟨Fr.cell2 HV.out HC.out.1 hN.out.2.1, Fr.cell2 HV.out HC.out.2.1 hN.out.1, Fr.cell2 HV.out HC.out.2.2.1 hN.out.1, Fr.cell2 HV.out HC.out.2.2.2.1 hN.out.1, Fr.cell2 HV.out HC.out.2.2.2.2.1 hN.out.1, Fr.cell2 HV.out HC.out.2.2.2.2.2.1 hN.out.2.2.1, Fr.cell2 HV.out HC.out.2.2.2.2.2.2.1 hN.out.2.2.1, Fr.cell2 HV.out HC.out.2.2.2.2.2.2.2.1 hN.out.2.2.1, Fr.cell2 HV.out HC.out.2.2.2.2.2.2.2.2.1 hN.out.2.2.1, Fr.cell2 HV.out HC.out.2.2.2.2.2.2.2.2.2.1 hN.out.2.2.1, Fr.cell2 HV.out HC.out.2.2.2.2.2.2.2.2.2.2.1 hN.out.2.2.1, Fr.cell2 HV.out HC.out.2.2.2.2.2.2.2.2.2.2.2 hN.out.2.2.1⟩) ((go_at_call 23; refine Calls.mono HCL.out ?_; rintro e v1' ⟨vo1, vc1, n1, b1, rfl, hb1, hq1⟩; have HV := hidM (show Fr a W3.drew v1' from hb1.fr); have HN := hidM (And.intro hb1 hq1); clear hb1 hq1))
  all_goals
    go_wp2_with fail
    go_ret
    exact ⟨_, _, _, _, rfl, HN.out.1.back HFB.out, HN.out.2⟩
theorem val23_items15 (f0 : ByteArray) (f1 : Bool)  (f3 f4 f5 : Int) (fb fo n0 ca : Nat) (v1 : Int) (v2 : ByteArray) (vo : Option Addr) (m0 vc : Nat) (k0 : ByteArray) (k1 : Bool) (k2 k3 k4 k5 : Int) (kp : Option Addr) (kn kc : Nat) (a u W : World) (bo : Option Addr) (bc n : Nat) (bs : List UInt8) (hB : Byts (a, u) W bo bc n bs) (hl : n ≤ 65536) (T : List UInt8) (c0 : W.cell? ⟨fb, fo, none⟩ = some (.string k0)) (c1 : W.cell? ⟨fb, fo + 1, none⟩ = some (.bool k1)) (c2 : W.cell? ⟨fb, fo + 2, none⟩ = some (.int .i64 k2)) (c3 : W.cell? ⟨fb, fo + 3, none⟩ = some (.int .i64 k3)) (c4 : W.cell? ⟨fb, fo + 4, none⟩ = some (.int .i64 k4)) (c5 : W.cell? ⟨fb, fo + 5, none⟩ = some (.int .i64 k5)) (c6 : W.cell? ⟨fb, fo + 6, none⟩ = some (.slice kp kn kc)) (hn0 : 0 < n0) (hn1 : n0 ≤ 1000000000000) (hfb : ¬ IsB a W fb)
    (hC : ∀ u W, Byts (a, u) W bo bc n bs → Calls Tryz.prog 50 #[.slice bo n bc, .agg #[.string k0, .bool k1, .int .i64 k2, .int .i64 k3, .int .i64 k4, .int .i64 k5, .slice kp kn kc], .slice vo m0 vc] W (PrA (a, u) bs T)) :
    Calls Tryz.prog 23 #[.slice bo n bc, .agg #[.string f0, .bool f1, .int .i64 15, .int .i64 f3, .int .i64 f4, .int .i64 f5, .slice (some ⟨fb, fo, none⟩) n0 ca], .agg #[.bool false, .int .i64 v1, .string v2, .slice vo m0 vc]] W (PrA (a, u) bs T) := by
  have hlI : ¬ (65536 : Int) < (n : Int) := by omega
  have HI := hidM (noNum 15 (by omega))
  obtain ⟨W3, hW3⟩ : ∃ W3, (((W.alloc (.cells #[.string f0, .bool f1, .int .i64 15, .int .i64 f3, .int .i64 f4, .int .i64 f5, .slice (some ⟨fb, fo, none⟩) n0 ca] 26)).alloc (.cells #[.bool false, .int .i64 v1, .string v2, .slice vo m0 vc] 29)).alloc (.cells #[.int .i64 15, .int .i64 f3, .int .i64 f4, .int .i64 f5, .slice (some ⟨fb, fo, none⟩) n0 ca] 24)) = W3 := ⟨_, rfl⟩
  have hG : Gr W W3 := by rw [← hW3]; exact gr3 W _ _ _
  have h29 : W3.heap[W.heap.size + 1]? = some (.cells #[.bool false, .int .i64 v1, .string v2, .slice vo m0 vc] 29) := by
    rw [← hW3]
    have e := heap_alloc_new (W.alloc (.cells #[.string f0, .bool f1, .int .i64 15, .int .i64 f3, .int .i64 f4, .int .i64 f5, .slice (some ⟨fb, fo, none⟩) n0 ca] 26)) (.cells #[.bool false, .int .i64 v1, .string v2, .slice vo m0 vc] 29)
    rw [show (W.alloc (.cells #[.string f0, .bool f1, .int .i64 15, .int .i64 f3, .int .i64 f4, .int .i64 f5, .slice (some ⟨fb, fo, none⟩) n0 ca] 26)).heap.size = W.heap.size + 1 by simp] at e
    exact ((gr_alloc _ _).block _ (by simp) id).trans e
  have h24 : W3.heap[W.heap.size + 1 + 1]? = some (.cells #[.int .i64 15, .int .i64 f3, .int .i64 f4, .int .i64 f5, .slice (some ⟨fb, fo, none⟩) n0 ca] 24) := by
    rw [← hW3]
    have e := heap_alloc_new ((W.alloc (.cells #[.string f0, .bool f1, .int .i64 15, .int .i64 f3, .int .i64 f4, .int .i64 f5, .slice (some ⟨fb, fo, none⟩) n0 ca] 26)).alloc (.cells #[.bool false, .int .i64 v1, .string v2, .slice vo m0 vc] 29)) (.cells #[.int .i64 15, .int .i64 f3, .int .i64 f4, .int .i64 f5, .slice (some ⟨fb, fo, none⟩) n0 ca] 24)
    rw [show ((W.alloc (.cells #[.string f0, .bool f1, .int .i64 15, .int .i64 f3, .int .i64 f4, .int .i64 f5, .slice (some ⟨fb, fo, none⟩) n0 ca] 26)).alloc (.cells #[.bool false, .int .i64 v1, .string v2, .slice vo m0 vc] 29)).heap.size = W.heap.size + 1 + 1 by simp] at e
    exact e
  have HC : Hid (W3.drew.cell? ⟨W.heap.size + 1 + 1, 4, none⟩ = some (.slice (some ⟨fb, fo, none⟩) n0 ca) ∧ W3.drew.cell? ⟨W.heap.size + 1, 3, none⟩ = some (.slice vo m0 vc) ∧ W3.drew.cell? ⟨fb, fo, none⟩ = some (.string k0) ∧ W3.drew.cell? ⟨fb, fo + 1, none⟩ = some (.bool k1) ∧ W3.drew.cell? ⟨fb, fo + 2, none⟩ = some (.int .i64 k2) ∧ W3.drew.cell? ⟨fb, fo + 3, none⟩ = some (.int .i64 k3) ∧ W3.drew.cell? ⟨fb, fo + 4, none⟩ = some (.int .i64 k4) ∧ W3.drew.cell? ⟨fb, fo + 5, none⟩ = some (.int .i64 k5) ∧ W3.drew.cell? ⟨fb, fo + 6, none⟩ = some (.slice kp kn kc)) := by
    refine ⟨?_, ?_, hG.cell' c0 id, hG.cell' c1 id, hG.cell' c2 id, hG.cell' c3 id, hG.cell' c4 id, hG.cell' c5 id, hG.cell' c6 id⟩
    all_goals
      first
      | (show W3.cell? _ = _; simp [World.cell?, h29]; done)
      | (show W3.cell? _ = _; simp [World.cell?, h24]; done)
  have nb : ∀ b, b < W.heap.size → ¬ IsB a W b → ¬ IsB a W3.drew b := fun b hb h0 ⟨hl, cs, fz, e⟩ => h0 ⟨hl, cs, fz, (hG.block b hb id).symm.trans e⟩
  have hN : Hid (¬ IsB a W3.drew (W.heap.size + 1) ∧ ¬ IsB a W3.drew (W.heap.size + 1 + 1) ∧ ¬ IsB a W3.drew fb ∧ True) := ⟨notB (a := a) (W := W3.drew) h29 (by decide), notB (a := a) (W := W3.drew) h24 (by decide), nb fb (block_lt_of_cell c0) hfb, trivial⟩
  have HCL := hidM (hC W3.drew _ (((hB.gr' hG).gr' gr_drew).here))
  have HFB := hidM ((hB.gr' hG).gr' gr_drew).fr
  have HW3 := hidM hW3
  clear hB hC hG h29 h24 nb hW3 c0 c1 c2 c3 c4 c5 c6
  go_enter Tryz.func23, Tryz.ntmps23
  go_wp2_with (go_at_call 44; refine (HI.out _).mono ?_; rintro e w' ⟨rfl, rfl⟩)
  rw [HW3.out]
  go_region_held3 (fun w' => w'.cell? ⟨W.heap.size + 1 + 1, 4, none⟩ = some (.slice (some ⟨fb, fo, none⟩) n0 ca) ∧ w'.cell? ⟨W.heap.size + 1, 3, none⟩ = some (.slice vo m0 vc) ∧ w'.cell? ⟨fb, fo, none⟩ = some (.string k0) ∧ w'.cell? ⟨fb, fo + 1, none⟩ = some (.bool k1) ∧ w'.cell? ⟨fb, fo + 2, none⟩ = some (.int .i64 k2) ∧ w'.cell? ⟨fb, fo + 3, none⟩ = some (.int .i64 k3) ∧ w'.cell? ⟨fb, fo + 4, none⟩ = some (.int .i64 k4) ∧ w'.cell? ⟨fb, fo + 5, none⟩ = some (.int .i64 k5) ∧ w'.cell? ⟨fb, fo + 6, none⟩ = some (.slice kp kn kc)) (first | with_reducible exact HC.out | with_reducible exact ⟨Fr.cell2 HV.out HC.out.1 hN.out.2.1, Fr.cell2 HV.out HC.out.2.1 hN.out.1, Fr.cell2 HV.out HC.out.2.2.1 hN.out.2.2.1, Fr.cell2 HV.out HC.out.2.2.2.1 hN.out.2.2.1, Fr.cell2 HV.out HC.out.2.2.2.2.1 hN.out.2.2.1, Fr.cell2 HV.out HC.out.2.2.2.2.2.1 hN.out.2.2.1, Fr.cell2 HV.out HC.out.2.2.2.2.2.2.1 hN.out.2.2.1, Fr.cell2 HV.out HC.out.2.2.2.2.2.2.2.1 hN.out.2.2.1, Fr.cell2 HV.out HC.out.2.2.2.2.2.2.2.2 hN.out.2.2.1⟩) ((go_at_call 50; refine Calls.mono HCL.out ?_; rintro e v1' ⟨vo1, vc1, n1, b1, rfl, hb1, hq1⟩; have HV := hidM (show Fr a W3.drew v1' from hb1.fr); have HN := hidM (And.intro hb1 hq1); clear hb1 hq1))
  all_goals
    go_wp2_with fail
    go_ret
    exact ⟨_, _, _, _, rfl, HN.out.1.back HFB.out, HN.out.2⟩
theorem val23_items16 (f0 : ByteArray) (f1 : Bool)  (f3 f4 f5 : Int) (fb fo n0 ca : Nat) (v1 : Int) (v2 : ByteArray) (vo : Option Addr) (m0 vc : Nat) (k0 : ByteArray) (k1 : Bool) (k2 k3 k4 k5 : Int) (kp : Option Addr) (kn kc : Nat) (a u W : World) (bo : Option Addr) (bc n : Nat) (bs : List UInt8) (hB : Byts (a, u) W bo bc n bs) (hl : n ≤ 65536) (T : List UInt8) (c0 : W.cell? ⟨fb, fo, none⟩ = some (.string k0)) (c1 : W.cell? ⟨fb, fo + 1, none⟩ = some (.bool k1)) (c2 : W.cell? ⟨fb, fo + 2, none⟩ = some (.int .i64 k2)) (c3 : W.cell? ⟨fb, fo + 3, none⟩ = some (.int .i64 k3)) (c4 : W.cell? ⟨fb, fo + 4, none⟩ = some (.int .i64 k4)) (c5 : W.cell? ⟨fb, fo + 5, none⟩ = some (.int .i64 k5)) (c6 : W.cell? ⟨fb, fo + 6, none⟩ = some (.slice kp kn kc)) (hn0 : 0 < n0) (hn1 : n0 ≤ 1000000000000) (hfb : ¬ IsB a W fb)
    (hC : ∀ u W, Byts (a, u) W bo bc n bs → Calls Tryz.prog 50 #[.slice bo n bc, .agg #[.string k0, .bool k1, .int .i64 k2, .int .i64 k3, .int .i64 k4, .int .i64 k5, .slice kp kn kc], .slice vo m0 vc] W (PrA (a, u) bs T)) :
    Calls Tryz.prog 23 #[.slice bo n bc, .agg #[.string f0, .bool f1, .int .i64 16, .int .i64 f3, .int .i64 f4, .int .i64 f5, .slice (some ⟨fb, fo, none⟩) n0 ca], .agg #[.bool false, .int .i64 v1, .string v2, .slice vo m0 vc]] W (PrA (a, u) bs T) := by
  have hlI : ¬ (65536 : Int) < (n : Int) := by omega
  have HI := hidM (noNum 16 (by omega))
  obtain ⟨W3, hW3⟩ : ∃ W3, (((W.alloc (.cells #[.string f0, .bool f1, .int .i64 16, .int .i64 f3, .int .i64 f4, .int .i64 f5, .slice (some ⟨fb, fo, none⟩) n0 ca] 26)).alloc (.cells #[.bool false, .int .i64 v1, .string v2, .slice vo m0 vc] 29)).alloc (.cells #[.int .i64 16, .int .i64 f3, .int .i64 f4, .int .i64 f5, .slice (some ⟨fb, fo, none⟩) n0 ca] 24)) = W3 := ⟨_, rfl⟩
  have hG : Gr W W3 := by rw [← hW3]; exact gr3 W _ _ _
  have h29 : W3.heap[W.heap.size + 1]? = some (.cells #[.bool false, .int .i64 v1, .string v2, .slice vo m0 vc] 29) := by
    rw [← hW3]
    have e := heap_alloc_new (W.alloc (.cells #[.string f0, .bool f1, .int .i64 16, .int .i64 f3, .int .i64 f4, .int .i64 f5, .slice (some ⟨fb, fo, none⟩) n0 ca] 26)) (.cells #[.bool false, .int .i64 v1, .string v2, .slice vo m0 vc] 29)
    rw [show (W.alloc (.cells #[.string f0, .bool f1, .int .i64 16, .int .i64 f3, .int .i64 f4, .int .i64 f5, .slice (some ⟨fb, fo, none⟩) n0 ca] 26)).heap.size = W.heap.size + 1 by simp] at e
    exact ((gr_alloc _ _).block _ (by simp) id).trans e
  have h24 : W3.heap[W.heap.size + 1 + 1]? = some (.cells #[.int .i64 16, .int .i64 f3, .int .i64 f4, .int .i64 f5, .slice (some ⟨fb, fo, none⟩) n0 ca] 24) := by
    rw [← hW3]
    have e := heap_alloc_new ((W.alloc (.cells #[.string f0, .bool f1, .int .i64 16, .int .i64 f3, .int .i64 f4, .int .i64 f5, .slice (some ⟨fb, fo, none⟩) n0 ca] 26)).alloc (.cells #[.bool false, .int .i64 v1, .string v2, .slice vo m0 vc] 29)) (.cells #[.int .i64 16, .int .i64 f3, .int .i64 f4, .int .i64 f5, .slice (some ⟨fb, fo, none⟩) n0 ca] 24)
    rw [show ((W.alloc (.cells #[.string f0, .bool f1, .int .i64 16, .int .i64 f3, .int .i64 f4, .int .i64 f5, .slice (some ⟨fb, fo, none⟩) n0 ca] 26)).alloc (.cells #[.bool false, .int .i64 v1, .string v2, .slice vo m0 vc] 29)).heap.size = W.heap.size + 1 + 1 by simp] at e
    exact e
  have HC : Hid (W3.drew.cell? ⟨W.heap.size + 1 + 1, 4, none⟩ = some (.slice (some ⟨fb, fo, none⟩) n0 ca) ∧ W3.drew.cell? ⟨W.heap.size + 1, 3, none⟩ = some (.slice vo m0 vc) ∧ W3.drew.cell? ⟨fb, fo, none⟩ = some (.string k0) ∧ W3.drew.cell? ⟨fb, fo + 1, none⟩ = some (.bool k1) ∧ W3.drew.cell? ⟨fb, fo + 2, none⟩ = some (.int .i64 k2) ∧ W3.drew.cell? ⟨fb, fo + 3, none⟩ = some (.int .i64 k3) ∧ W3.drew.cell? ⟨fb, fo + 4, none⟩ = some (.int .i64 k4) ∧ W3.drew.cell? ⟨fb, fo + 5, none⟩ = some (.int .i64 k5) ∧ W3.drew.cell? ⟨fb, fo + 6, none⟩ = some (.slice kp kn kc)) := by
    refine ⟨?_, ?_, hG.cell' c0 id, hG.cell' c1 id, hG.cell' c2 id, hG.cell' c3 id, hG.cell' c4 id, hG.cell' c5 id, hG.cell' c6 id⟩
    all_goals
      first
      | (show W3.cell? _ = _; simp [World.cell?, h29]; done)
      | (show W3.cell? _ = _; simp [World.cell?, h24]; done)
  have nb : ∀ b, b < W.heap.size → ¬ IsB a W b → ¬ IsB a W3.drew b := fun b hb h0 ⟨hl, cs, fz, e⟩ => h0 ⟨hl, cs, fz, (hG.block b hb id).symm.trans e⟩
  have hN : Hid (¬ IsB a W3.drew (W.heap.size + 1) ∧ ¬ IsB a W3.drew (W.heap.size + 1 + 1) ∧ ¬ IsB a W3.drew fb ∧ True) := ⟨notB (a := a) (W := W3.drew) h29 (by decide), notB (a := a) (W := W3.drew) h24 (by decide), nb fb (block_lt_of_cell c0) hfb, trivial⟩
  have HCL := hidM (hC W3.drew _ (((hB.gr' hG).gr' gr_drew).here))
  have HFB := hidM ((hB.gr' hG).gr' gr_drew).fr
  have HW3 := hidM hW3
  clear hB hC hG h29 h24 nb hW3 c0 c1 c2 c3 c4 c5 c6
  go_enter Tryz.func23, Tryz.ntmps23
  go_wp2_with (go_at_call 44; refine (HI.out _).mono ?_; rintro e w' ⟨rfl, rfl⟩)
  rw [HW3.out]
  go_region_held3 (fun w' => w'.cell? ⟨W.heap.size + 1 + 1, 4, none⟩ = some (.slice (some ⟨fb, fo, none⟩) n0 ca) ∧ w'.cell? ⟨W.heap.size + 1, 3, none⟩ = some (.slice vo m0 vc) ∧ w'.cell? ⟨fb, fo, none⟩ = some (.string k0) ∧ w'.cell? ⟨fb, fo + 1, none⟩ = some (.bool k1) ∧ w'.cell? ⟨fb, fo + 2, none⟩ = some (.int .i64 k2) ∧ w'.cell? ⟨fb, fo + 3, none⟩ = some (.int .i64 k3) ∧ w'.cell? ⟨fb, fo + 4, none⟩ = some (.int .i64 k4) ∧ w'.cell? ⟨fb, fo + 5, none⟩ = some (.int .i64 k5) ∧ w'.cell? ⟨fb, fo + 6, none⟩ = some (.slice kp kn kc)) (first | with_reducible exact HC.out | with_reducible exact ⟨Fr.cell2 HV.out HC.out.1 hN.out.2.1, Fr.cell2 HV.out HC.out.2.1 hN.out.1, Fr.cell2 HV.out HC.out.2.2.1 hN.out.2.2.1, Fr.cell2 HV.out HC.out.2.2.2.1 hN.out.2.2.1, Fr.cell2 HV.out HC.out.2.2.2.2.1 hN.out.2.2.1, Fr.cell2 HV.out HC.out.2.2.2.2.2.1 hN.out.2.2.1, Fr.cell2 HV.out HC.out.2.2.2.2.2.2.1 hN.out.2.2.1, Fr.cell2 HV.out HC.out.2.2.2.2.2.2.2.1 hN.out.2.2.1, Fr.cell2 HV.out HC.out.2.2.2.2.2.2.2.2 hN.out.2.2.1⟩) ((go_at_call 50; refine Calls.mono HCL.out ?_; rintro e v1' ⟨vo1, vc1, n1, b1, rfl, hb1, hq1⟩; have HV := hidM (show Fr a W3.drew v1' from hb1.fr); have HN := hidM (And.intro hb1 hq1); clear hb1 hq1))
  all_goals
    go_wp2_with fail
    go_ret
    exact ⟨_, _, _, _, rfl, HN.out.1.back HFB.out, HN.out.2⟩

end Go.Proofs.YtfoifmacobldbaaGreatDoor.Kit
