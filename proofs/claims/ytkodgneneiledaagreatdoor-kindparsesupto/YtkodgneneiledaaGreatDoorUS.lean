import Derived.Test.YtkodgneneiledaaGreatDoorUR
import Derived.Test.YtkodgneneiledaaGreatDoorJD
set_option maxRecDepth 100000
set_option maxHeartbeats 4000000
namespace Go.Proofs.YtkodgneneiledaaGreatDoor.Kit
open Go.RowKit Go.Shelf Go.Deep
set_option linter.unusedVariables false
attribute [local go_sem] run_store_func
def TV (p D : Nat) (W w' : World) (t : Int × TP) (v : Value) : Prop := ∃ ko kc, v = .agg #[.int .i64 t.1, .int .i64 t.2.width, .int .i64 t.2.id, .int .i64 t.2.index, .slice ko t.2.kids.length kc] ∧ t.2.kids.length ≤ kc ∧ RowAt (NB p W w') w' D ko t.2.kids
structure TB (W U : World) (p b c : Nat) (k x y z : Int) (kv : Value) : Prop where
  rb : U.heap[b]? = some (.cells #[.int .i64 0, .int .i64 0, .int .i64 0, .int .i64 0, .slice none 0 0] 35 (0, 0))
  tb : U.heap[c]? = some (.cells #[.int .i64 k, .int .i64 x, .int .i64 y, .int .i64 z, kv] 35 (0, 0))
  lt : W.heap.size ≤ b ∧ b < c ∧ p < W.heap.size
theorem TB.kpn {W U U' : World} {p b c : Nat} {k x y z : Int} {kv : Value} (h : TB W U p b c k x y z kv) (q : KpN U U' p) : TB W U' p b c k x y z kv :=
  ⟨(q.blk (lt_of_heap h.rb) (by have := h.lt; omega) (IntsB.of h.rb (by decide))).trans h.rb, (q.blk (lt_of_heap h.tb) (by have := h.lt; omega) (IntsB.of h.tb (by decide))).trans h.tb, h.lt⟩
theorem TB.cok {W U : World} {p b c : Nat} {k x y z : Int} {kv : Value} (h : TB W U p b c k x y z kv) : c ≠ p ∧ c ≠ 0 ∧ ¬ IntsB p U c := ⟨by have := h.lt; omega, by have := h.lt; omega, IntsB.of h.tb (by decide)⟩
theorem TB.bok {W U : World} {p b c : Nat} {k x y z : Int} {kv : Value} (h : TB W U p b c k x y z kv) : b ≠ p ∧ b ≠ 0 ∧ ¬ IntsB p U b := ⟨by have := h.lt; omega, by have := h.lt; omega, IntsB.of h.rb (by decide)⟩
theorem typ62 (p : Nat) (s : ByteArray) (d : Nat) (r : Pr FT) (hrec : Fn (fun f => nP d [f]) r) (h48 : PnC p s d 78 #[.pointer (some ⟨p, 0, none⟩)] r (OV p d)) (h28 : PnC p s d 51 #[.pointer (some ⟨p, 0, none⟩)] (manyP s.data.toList r) (LV p d)) :
    PnC p s d 60 #[.pointer (some ⟨p, 0, none⟩)] (typP s.data.toList r) (TV p (d + 1)) := by
  intro W a0 g0 hN hd
  have hp : p ≠ 0 := by obtain ⟨_, _, h⟩ := hN; exact h.pz
  obtain ⟨R, hRes⟩ : ∃ R, R = typP s.data.toList r (a0, g0) := ⟨_, rfl⟩
  rw [← hRes]
  have HRes := hidP hRes
  obtain ⟨V0, hV0⟩ : ∃ V0, W.alloc (.cells #[.int .i64 0, .int .i64 0, .int .i64 0, .int .i64 0, .slice none 0 0] 35) = V0 := ⟨_, rfl⟩
  have g0' : Gr W V0 := by rw [← hV0]; exact gr_alloc W _
  have HBx0 : Hid (V0.heap[W.heap.size]? = some (.cells #[.int .i64 0, .int .i64 0, .int .i64 0, .int .i64 0, .slice none 0 0] 35 (0, 0))) := by show _ = _; rw [← hV0]; exact heap_alloc_new W _
  have HR0 := hidP (hN.gr g0')
  have HG0 : Hid (KpN W V0 p) := Gr.n p g0'
  have HNe : Hid (p < W.heap.size) := hN.lt
  have HV := hidP hV0
  have HK78 := hidP ((mean78 p hp s kind78).n (fw_mean _ _) d)
  have HK79 := hidP ((mean79 p s number79).n (fw_mean _ _) d)
  have HK80 := hidP ((mean80 p hp s (index80 kind78)).n (fw_mean _ _) d)
  have HM40 := hidP ((must_any p s 40 (by decide)).n (fw_must _ _) d)
  have HM41 := hidP ((must_any p s 41 (by decide)).n (fw_must _ _) d)
  have HM44 := hidP ((must_any p s 44 (by decide)).n (fw_must _ _) d)
  have HPk := hidP (peek_n p s d)
  have H48 := hidP h48
  have H28 := hidP h28
  obtain ⟨b, hb⟩ : ∃ b, b = W.heap.size := ⟨_, rfl⟩
  have hl0 : a0 ≤ a0 := Nat.le_refl _
  clear hRes hN g0' hV0 h48 h28 hp
  go_enter Tryz.func60, Tryz.ntmps60
  go_wp2_with (go_at_call 88; refine Hid.out ?_)
  unfold Hid
  rw [HV.out, ← hb]
  rw [← hb] at HBx0
  have HB := hidP hb
  clear HV hb
  have hq := HK78.out _ _ _ HR0.out (by have := HR0.out.pos; omega)
  rcases hr : meanP s.data.toList kindO (a0, g0) with o | q
  · rw [hr] at hq
    refine Calls.mono hq ?_
    rintro e' U ⟨hk, rfl⟩
    have HGe := hidP (HG0.out.tr hk)
    have HE : Hid (R = .error o) := by show R = _; rw [HRes.out]; exact Pr.bind_err hr
    clear hk hq hr
    go_wp2_with fail
    exact ⟨rfl, PnQ.err HGe.out HE.out⟩
  obtain ⟨x1, a1, g1⟩ := q
  rw [hr] at hq
  refine Calls.mono hq ?_
  rintro e' U1 ⟨hk, v, rfl, rfl, hR⟩
  have Hr1 := hidP hr
  have hl1 : a0 ≤ a1 := Nat.le_trans hl0 (fw_mean _ _ _ _ _ hr).1
  obtain ⟨V2, hV2⟩ : ∃ V2, U1.alloc (.cells #[.int .i64 x1, .int .i64 0, .int .i64 0, .int .i64 0, .slice none 0 0] 35) = V2 := ⟨_, rfl⟩
  have g2' : Gr U1 V2 := by rw [← hV2]; exact gr_alloc U1 _
  have hbx := (hk.blk (lt_of_heap HBx0.out) (by have := HNe.out; have := HB.out; omega) (IntsB.of HBx0.out (by decide))).trans HBx0.out
  have hct : V2.heap[U1.heap.size]? = some (.cells #[.int .i64 x1, .int .i64 0, .int .i64 0, .int .i64 0, .slice none 0 0] 35 (0, 0)) := by rw [← hV2]; exact heap_alloc_new U1 _
  obtain ⟨c, hc⟩ : ∃ c, c = U1.heap.size := ⟨_, rfl⟩
  have HT1 : Hid (TB W V2 p b c x1 0 0 0 (.slice none 0 0)) := ⟨(g2'.block b (lt_of_heap hbx) id).trans hbx, by rw [hc]; exact hct, by have := HB.out; omega, by rw [hc]; exact lt_of_heap hbx, HNe.out⟩
  have HG1 : Hid (KpN W V2 p) := (HG0.out.tr hk).tr (Gr.n p g2')
  have HR1 := hidP (hR.gr g2')
  have HV2 := hidP hV2
  have Hc := hidP hc
  clear hc
  have HS1 : Hid (R = (if x1 < 14 then Pr.pure (x1, ⟨0, 0, 0, []⟩) else (mustP s.data.toList 40).bind fun _ => (innP s.data.toList r x1).bind fun t => (mustP s.data.toList 41).bind fun _ => Pr.pure (x1, t) : Pr (Int × TP)) (a1, g1)) := by show R = _; rw [HRes.out]; exact Pr.bind_ok hr
  have HBr := hidP (fun V => isBracketed_any x1 V)
  obtain ⟨c0, hc0⟩ : ∃ z : Value, z = .int .i64 x1 := ⟨_, rfl⟩
  clear hc0 c0
  clear hk hq hr hR hbx hct g2' HBx0 hV2 HG0 HR0
  have t0 : V2.cell? ⟨c, 0, none⟩ = some (.int .i64 x1) := by simp [World.cell?, HT1.out.tb]
  by_cases h14 : 14 ≤ x1
  · rw [decide_eq_true h14] at HBr
    have HS1b : Hid (R = ((mustP s.data.toList 40).bind fun _ => (innP s.data.toList r x1).bind fun t => (mustP s.data.toList 41).bind fun _ => Pr.pure (x1, t)) (a1, g1)) := by show R = _; rw [HS1.out, if_neg (by omega)]
    clear h14 HS1
    go_wp2_with (first | (go_at_call 90; rw [HV2.out, ← Hc.out]; refine Calls.mono (HBr.out _) ?_; rintro e u ⟨rfl, rfl⟩) | (go_at_call 91; refine Hid.out ?_))
    unfold Hid
    (try rw [HV2.out])
    clear Hc
    have hq := HM40.out _ _ _ HR1.out (by have := HR1.out.pos; omega)
    rcases hr : mustP s.data.toList 40 (a1, g1) with o | q
    · rw [hr] at hq
      refine Calls.mono hq ?_
      rintro e' U ⟨hk, rfl⟩
      have HGe := hidP (HG1.out.tr hk)
      have HE : Hid (R = .error o) := by show R = _; rw [HS1b.out]; exact Pr.bind_err hr
      clear hk hq hr
      go_wp2_with fail
      exact ⟨rfl, PnQ.err HGe.out HE.out⟩
    obtain ⟨x2, a2, g2⟩ := q
    rw [hr] at hq
    refine Calls.mono hq ?_
    rintro e' U2 ⟨hk, v, rfl, rfl, hR⟩
    have Hr2 := hidP hr
    have hl2 : a0 ≤ a2 := Nat.le_trans hl1 (fw_must _ _ _ _ _ hr).1
    have HT2 := hidP (HT1.out.kpn hk)
    have HG2 := hidP (HG1.out.tr hk)
    have HR2 := hidP hR
    have t2 : U2.cell? ⟨c, 0, none⟩ = some (.int .i64 x1) := by simp [World.cell?, HT2.out.tb]
    have HS2 : Hid (R = ((innP s.data.toList r x1).bind fun t => (mustP s.data.toList 41).bind fun _ => Pr.pure (x1, t)) (a2, g2)) := by show R = _; rw [HS1b.out]; exact Pr.bind_ok hr
    clear hk hq hr hR HT1 HG1 HR1 t0 HS1b HBr HV2
    by_cases c14 : x1 = 14
    · have d14 : (x1 == 14) = true := beq_iff_eq.2 c14
      have C14 := hidP c14
      clear c14
      go_wp2_with (go_at_call 88; refine Hid.out ?_)
      unfold Hid
      have hq := HK79.out _ _ _ HR2.out (by have := HR2.out.pos; omega)
      rcases hr : meanP s.data.toList numO (a2, g2) with o | q
      · rw [hr] at hq
        refine Calls.mono hq ?_
        rintro e' U ⟨hk, rfl⟩
        have HGe := hidP (HG2.out.tr hk)
        have HE : Hid (R = .error o) := by show R = _; rw [HS2.out]; exact Pr.bind_err (by unfold innP; rw [if_pos C14.out]; exact Pr.bind_err hr)
        clear hk hq hr
        go_wp2_with fail
        exact ⟨rfl, PnQ.err HGe.out HE.out⟩
      obtain ⟨x3, a3, g3⟩ := q
      rw [hr] at hq
      refine Calls.mono hq ?_
      rintro e' U3 ⟨hk, v, rfl, rfl, hR⟩
      have Hr3 := hidP hr
      have hl3 : a0 ≤ a3 := Nat.le_trans hl2 (fw_mean _ _ _ _ _ hr).1
      have hT := HT2.out.kpn hk
      have w0 := frz hT.tb 1
      have w1 : U3.cell? ⟨c, 1, none⟩ = some (.int .i64 0) := by simp [World.cell?, hT.tb]
      have HT3 : Hid (TB W (U3.setCell ⟨c, 1, none⟩ (.int .i64 x3)) p b c x1 x3 0 0 (.slice none 0 0)) := ⟨(set_other _ (by have := hT.lt; omega)).trans hT.rb, heap_setCell_same _ c 1 _ _ _ hT.tb, hT.lt⟩
      have kS : Keeps U3 (U3.setCell ⟨c, 1, none⟩ (.int .i64 x3)) (fun z => z = c) := (Keeps.refl U3 (fun z => z = c)).setCell (p := ⟨c, 1, none⟩) (fun _ => rfl) _
      have HG3 : Hid (KpN W (U3.setCell ⟨c, 1, none⟩ (.int .i64 x3)) p) := (HG2.out.tr hk).trans kS fun z hz h => by have := hT.lt; omega
      have HR3 := hidP (hR.kept kS fun z h => by rw [h]; exact hT.cok)
      clear hk hq hr hR hT kS
      have HS7 : Hid (R = ((mustP s.data.toList 41).bind fun _ => Pr.pure (x1, (⟨x3, 0, 0, []⟩ : TP))) (a3, g3)) := by show R = _; rw [HS2.out]; exact Pr.bind_ok (by unfold innP; rw [if_pos C14.out]; exact Pr.bind_ok Hr3.out)
      go_wp2_with (go_at_call 91; refine Hid.out ?_)
      unfold Hid
      (try clear w0 w1)
      have hq := HM41.out _ _ _ HR3.out (by have := HR3.out.pos; omega)
      rcases hr : mustP s.data.toList 41 (a3, g3) with o | q
      · rw [hr] at hq
        refine Calls.mono hq ?_
        rintro e' U ⟨hk, rfl⟩
        have HGe := hidP (HG3.out.tr hk)
        have HE : Hid (R = .error o) := by show R = _; rw [HS7.out]; exact Pr.bind_err hr
        clear hk hq hr
        go_wp2_with fail
        exact ⟨rfl, PnQ.err HGe.out HE.out⟩
      obtain ⟨x8, a8, g8⟩ := q
      rw [hr] at hq
      refine Calls.mono hq ?_
      rintro e' U8 ⟨hk, v, rfl, rfl, hR⟩
      have Hr8 := hidP hr
      have hl8 : a0 ≤ a8 := Nat.le_trans hl3 (fw_must _ _ _ _ _ hr).1
      have HT8 := hidP (HT3.out.kpn hk)
      have HG8 := hidP (HG3.out.tr hk)
      have HR8 := hidP hR
      have HS8 : Hid (R = .ok ((x1, ⟨x3, 0, 0, []⟩), (a8, g8))) := by show R = _; rw [HS7.out]; exact Pr.bind_ok hr
      clear hk hq hr hR
      have u0 := frz HT8.out.rb 0
      have v0 : U8.cell? ⟨b, 0, none⟩ = some (.int .i64 0) := by simp [World.cell?, HT8.out.rb]
      have u1 := frz HT8.out.rb 1
      have v1 : U8.cell? ⟨b, 1, none⟩ = some (.int .i64 0) := by simp [World.cell?, HT8.out.rb]
      have u2 := frz HT8.out.rb 2
      have v2 : U8.cell? ⟨b, 2, none⟩ = some (.int .i64 0) := by simp [World.cell?, HT8.out.rb]
      have u3 := frz HT8.out.rb 3
      have v3 : U8.cell? ⟨b, 3, none⟩ = some (.int .i64 0) := by simp [World.cell?, HT8.out.rb]
      have u4 := frz HT8.out.rb 4
      have v4 : U8.cell? ⟨b, 4, none⟩ = some (.slice none 0 0) := by simp [World.cell?, HT8.out.rb]
      have s0 : U8.cell? ⟨c, 0, none⟩ = some (.int .i64 x1) := by simp [World.cell?, HT8.out.tb]
      have s1 : U8.cell? ⟨c, 1, none⟩ = some (.int .i64 x3) := by simp [World.cell?, HT8.out.tb]
      have s2 : U8.cell? ⟨c, 2, none⟩ = some (.int .i64 0) := by simp [World.cell?, HT8.out.tb]
      have s3 : U8.cell? ⟨c, 3, none⟩ = some (.int .i64 0) := by simp [World.cell?, HT8.out.tb]
      have s4 : U8.cell? ⟨c, 4, none⟩ = some (.slice none 0 0) := by simp [World.cell?, HT8.out.tb]
      have hcb : ¬ c = b := by have := HT8.out.lt; omega
      have hbc : ¬ b = c := by have := HT8.out.lt; omega
      go_wp2_with fail
      have hb3 := put5_box (.int .i64 x1) (.int .i64 x3) (.int .i64 0) (.int .i64 0) (.slice none 0 0) HT8.out.rb
      have k3 := put5_keeps U8 b (.int .i64 x1) (.int .i64 x3) (.int .i64 0) (.int .i64 0) (.slice none 0 0)
      have kW : KpN W _ p := HG8.out.trans k3 fun z hz h => by have := HT8.out.lt; omega
      have hE : R = .ok ((x1, ⟨x3, 0, 0, []⟩), (a8, g8)) := HS8.out
      (try simp only [Exit.inBlock, Exit.then])
      exact bodyPost_ret (results_cell39 rfl rfl hb3 (by kernel_rfl)) rfl (PnQ.ok kW hE ⟨none, 0, rfl, (Nat.zero_le _), (by exact ⟨by simp [big], fun h => absurd rfl h⟩)⟩ (HR8.out.kept k3 fun z h => by rw [h]; exact HT8.out.bok))
    have d14 : (x1 == 14) = false := beq_eq_false_iff_ne.2 c14
    have C14 := hidP c14
    clear c14
    by_cases c15 : x1 = 15
    · have d15 : (x1 == 15) = true := beq_iff_eq.2 c15
      have C15 := hidP c15
      clear c15
      go_wp2_with (go_at_call 78; refine Hid.out ?_)
      unfold Hid
      (try clear w0 w1)
      have hq := H48.out _ _ _ HR2.out (by have := HR2.out.pos; omega)
      rcases hr : r (a2, g2) with o | q
      · rw [hr] at hq
        refine Calls.mono hq ?_
        rintro e' U ⟨hk, rfl⟩
        have HGe := hidP (HG2.out.tr hk)
        have HE : Hid (R = .error o) := by show R = _; rw [HS2.out]; exact Pr.bind_err (by unfold innP; rw [if_neg C14.out, if_pos (.inl C15.out)]; exact Pr.bind_err hr)
        clear hk hq hr
        go_wp2_with fail
        exact ⟨rfl, PnQ.err HGe.out HE.out⟩
      obtain ⟨x3, a3, g3⟩ := q
      rw [hr] at hq
      refine Calls.mono hq ?_
      rintro e' U3 ⟨hk, v, rfl, ⟨ko1, kc1, ko, kc, rfl, hfl⟩, hR⟩
      have Hr3 := hidP hr
      have hl3 : a0 ≤ a3 := Nat.le_trans hl2 (hrec _ _ _ hr).1
      obtain ⟨hkc, hrow⟩ := hfl.rowAt (by simp [big])
      clear hfl
      have hT := HT2.out.kpn hk
      have w0 := frz hT.tb 4
      have w1 : U3.cell? ⟨c, 4, none⟩ = some (.slice none 0 0) := by simp [World.cell?, hT.tb]
      have HT3 : Hid (TB W (U3.setCell ⟨c, 4, none⟩ (.slice ko 1 kc)) p b c x1 0 0 0 (.slice ko 1 kc)) := ⟨(set_other _ (by have := hT.lt; omega)).trans hT.rb, heap_setCell_same _ c 4 _ _ _ hT.tb, hT.lt⟩
      have kS : Keeps U3 (U3.setCell ⟨c, 4, none⟩ (.slice ko 1 kc)) (fun z => z = c) := (Keeps.refl U3 (fun z => z = c)).setCell (p := ⟨c, 4, none⟩) (fun _ => rfl) _
      have HG3 : Hid (KpN W (U3.setCell ⟨c, 4, none⟩ (.slice ko 1 kc)) p) := (HG2.out.tr hk).trans kS fun z hz h => by have := hT.lt; omega
      have HR3 := hidP (hR.kept kS fun z h => by rw [h]; exact hT.cok)
      have Hbl : Hid (b < U2.heap.size ∧ c < U2.heap.size) := ⟨lt_of_heap HT2.out.rb, lt_of_heap HT2.out.tb⟩
      have Hpl : Hid (p < U2.heap.size) := HR2.out.lt
      have Hlow : Hid (W.heap.size ≤ U2.heap.size) := HG2.out.size
      have HK : Hid (1 ≤ kc ∧ RowAt (NB p U2 _) _ (d + 1) ko ([x3])) := ⟨hkc, hrow.nb (fun z hz => kS.block z hz.2.1 (by have := hz.1; have := Hbl.out; omega)) kS.size⟩
      clear hk hq hr hR hT hkc hrow kS
      have HS7 : Hid (R = ((mustP s.data.toList 41).bind fun _ => Pr.pure (x1, (⟨0, 0, 0, [x3]⟩ : TP))) (a3, g3)) := by show R = _; rw [HS2.out]; exact Pr.bind_ok (by unfold innP; rw [if_neg C14.out, if_pos (.inl C15.out)]; exact Pr.bind_ok Hr3.out)
      go_wp2_with (go_at_call 91; refine Hid.out ?_)
      unfold Hid
      (try clear w0 w1)
      have hq := HM41.out _ _ _ HR3.out (by have := HR3.out.pos; omega)
      rcases hr : mustP s.data.toList 41 (a3, g3) with o | q
      · rw [hr] at hq
        refine Calls.mono hq ?_
        rintro e' U ⟨hk, rfl⟩
        have HGe := hidP (HG3.out.tr hk)
        have HE : Hid (R = .error o) := by show R = _; rw [HS7.out]; exact Pr.bind_err hr
        clear hk hq hr
        go_wp2_with fail
        exact ⟨rfl, PnQ.err HGe.out HE.out⟩
      obtain ⟨x8, a8, g8⟩ := q
      rw [hr] at hq
      refine Calls.mono hq ?_
      rintro e' U8 ⟨hk, v, rfl, rfl, hR⟩
      have Hr8 := hidP hr
      have hl8 : a0 ≤ a8 := Nat.le_trans hl3 (fw_must _ _ _ _ _ hr).1
      have HT8 := hidP (HT3.out.kpn hk)
      have HG8 := hidP (HG3.out.tr hk)
      have HR8 := hidP hR
      have HS8 : Hid (R = .ok ((x1, ⟨0, 0, 0, [x3]⟩), (a8, g8))) := by show R = _; rw [HS7.out]; exact Pr.bind_ok hr
      replace HK := hidP (And.intro HK.out.1 (HK.out.2.nb (fun z hz => hz.kpn hk Hpl.out) hk.size))
      clear hk hq hr hR
      have u0 := frz HT8.out.rb 0
      have v0 : U8.cell? ⟨b, 0, none⟩ = some (.int .i64 0) := by simp [World.cell?, HT8.out.rb]
      have u1 := frz HT8.out.rb 1
      have v1 : U8.cell? ⟨b, 1, none⟩ = some (.int .i64 0) := by simp [World.cell?, HT8.out.rb]
      have u2 := frz HT8.out.rb 2
      have v2 : U8.cell? ⟨b, 2, none⟩ = some (.int .i64 0) := by simp [World.cell?, HT8.out.rb]
      have u3 := frz HT8.out.rb 3
      have v3 : U8.cell? ⟨b, 3, none⟩ = some (.int .i64 0) := by simp [World.cell?, HT8.out.rb]
      have u4 := frz HT8.out.rb 4
      have v4 : U8.cell? ⟨b, 4, none⟩ = some (.slice none 0 0) := by simp [World.cell?, HT8.out.rb]
      have s0 : U8.cell? ⟨c, 0, none⟩ = some (.int .i64 x1) := by simp [World.cell?, HT8.out.tb]
      have s1 : U8.cell? ⟨c, 1, none⟩ = some (.int .i64 0) := by simp [World.cell?, HT8.out.tb]
      have s2 : U8.cell? ⟨c, 2, none⟩ = some (.int .i64 0) := by simp [World.cell?, HT8.out.tb]
      have s3 : U8.cell? ⟨c, 3, none⟩ = some (.int .i64 0) := by simp [World.cell?, HT8.out.tb]
      have s4 : U8.cell? ⟨c, 4, none⟩ = some (.slice ko 1 kc) := by simp [World.cell?, HT8.out.tb]
      have hcb : ¬ c = b := by have := HT8.out.lt; omega
      have hbc : ¬ b = c := by have := HT8.out.lt; omega
      go_wp2_with fail
      have hb3 := put5_box (.int .i64 x1) (.int .i64 0) (.int .i64 0) (.int .i64 0) (.slice ko 1 kc) HT8.out.rb
      have k3 := put5_keeps U8 b (.int .i64 x1) (.int .i64 0) (.int .i64 0) (.int .i64 0) (.slice ko 1 kc)
      have kW : KpN W _ p := HG8.out.trans k3 fun z hz h => by have := HT8.out.lt; omega
      have hE : R = .ok ((x1, ⟨0, 0, 0, [x3]⟩), (a8, g8)) := HS8.out
      have hrow' := (HK.out.2.nb (fun z hz => k3.block z hz.2.1 (by have := hz.1; have := HT8.out.lt; have := Hbl.out; omega)) k3.size).low Hlow.out
      (try simp only [Exit.inBlock, Exit.then])
      exact bodyPost_ret (results_cell39 rfl rfl hb3 (by kernel_rfl)) rfl (PnQ.ok kW hE ⟨ko, kc, rfl, HK.out.1, hrow'⟩ (HR8.out.kept k3 fun z h => by rw [h]; exact HT8.out.bok))
    have d15 : (x1 == 15) = false := beq_eq_false_iff_ne.2 c15
    have C15 := hidP c15
    clear c15
    by_cases c20 : x1 = 20
    · have d20 : (x1 == 20) = true := beq_iff_eq.2 c20
      have C20 := hidP c20
      clear c20
      go_wp2_with (go_at_call 78; refine Hid.out ?_)
      unfold Hid
      (try clear w0 w1)
      have hq := H48.out _ _ _ HR2.out (by have := HR2.out.pos; omega)
      rcases hr : r (a2, g2) with o | q
      · rw [hr] at hq
        refine Calls.mono hq ?_
        rintro e' U ⟨hk, rfl⟩
        have HGe := hidP (HG2.out.tr hk)
        have HE : Hid (R = .error o) := by show R = _; rw [HS2.out]; exact Pr.bind_err (by unfold innP; rw [if_neg C14.out, if_pos (.inr C20.out)]; exact Pr.bind_err hr)
        clear hk hq hr
        go_wp2_with fail
        exact ⟨rfl, PnQ.err HGe.out HE.out⟩
      obtain ⟨x3, a3, g3⟩ := q
      rw [hr] at hq
      refine Calls.mono hq ?_
      rintro e' U3 ⟨hk, v, rfl, ⟨ko1, kc1, ko, kc, rfl, hfl⟩, hR⟩
      have Hr3 := hidP hr
      have hl3 : a0 ≤ a3 := Nat.le_trans hl2 (hrec _ _ _ hr).1
      obtain ⟨hkc, hrow⟩ := hfl.rowAt (by simp [big])
      clear hfl
      have hT := HT2.out.kpn hk
      have w0 := frz hT.tb 4
      have w1 : U3.cell? ⟨c, 4, none⟩ = some (.slice none 0 0) := by simp [World.cell?, hT.tb]
      have HT3 : Hid (TB W (U3.setCell ⟨c, 4, none⟩ (.slice ko 1 kc)) p b c x1 0 0 0 (.slice ko 1 kc)) := ⟨(set_other _ (by have := hT.lt; omega)).trans hT.rb, heap_setCell_same _ c 4 _ _ _ hT.tb, hT.lt⟩
      have kS : Keeps U3 (U3.setCell ⟨c, 4, none⟩ (.slice ko 1 kc)) (fun z => z = c) := (Keeps.refl U3 (fun z => z = c)).setCell (p := ⟨c, 4, none⟩) (fun _ => rfl) _
      have HG3 : Hid (KpN W (U3.setCell ⟨c, 4, none⟩ (.slice ko 1 kc)) p) := (HG2.out.tr hk).trans kS fun z hz h => by have := hT.lt; omega
      have HR3 := hidP (hR.kept kS fun z h => by rw [h]; exact hT.cok)
      have Hbl : Hid (b < U2.heap.size ∧ c < U2.heap.size) := ⟨lt_of_heap HT2.out.rb, lt_of_heap HT2.out.tb⟩
      have Hpl : Hid (p < U2.heap.size) := HR2.out.lt
      have Hlow : Hid (W.heap.size ≤ U2.heap.size) := HG2.out.size
      have HK : Hid (1 ≤ kc ∧ RowAt (NB p U2 _) _ (d + 1) ko ([x3])) := ⟨hkc, hrow.nb (fun z hz => kS.block z hz.2.1 (by have := hz.1; have := Hbl.out; omega)) kS.size⟩
      clear hk hq hr hR hT hkc hrow kS
      have HS7 : Hid (R = ((mustP s.data.toList 41).bind fun _ => Pr.pure (x1, (⟨0, 0, 0, [x3]⟩ : TP))) (a3, g3)) := by show R = _; rw [HS2.out]; exact Pr.bind_ok (by unfold innP; rw [if_neg C14.out, if_pos (.inr C20.out)]; exact Pr.bind_ok Hr3.out)
      go_wp2_with (go_at_call 91; refine Hid.out ?_)
      unfold Hid
      (try clear w0 w1)
      have hq := HM41.out _ _ _ HR3.out (by have := HR3.out.pos; omega)
      rcases hr : mustP s.data.toList 41 (a3, g3) with o | q
      · rw [hr] at hq
        refine Calls.mono hq ?_
        rintro e' U ⟨hk, rfl⟩
        have HGe := hidP (HG3.out.tr hk)
        have HE : Hid (R = .error o) := by show R = _; rw [HS7.out]; exact Pr.bind_err hr
        clear hk hq hr
        go_wp2_with fail
        exact ⟨rfl, PnQ.err HGe.out HE.out⟩
      obtain ⟨x8, a8, g8⟩ := q
      rw [hr] at hq
      refine Calls.mono hq ?_
      rintro e' U8 ⟨hk, v, rfl, rfl, hR⟩
      have Hr8 := hidP hr
      have hl8 : a0 ≤ a8 := Nat.le_trans hl3 (fw_must _ _ _ _ _ hr).1
      have HT8 := hidP (HT3.out.kpn hk)
      have HG8 := hidP (HG3.out.tr hk)
      have HR8 := hidP hR
      have HS8 : Hid (R = .ok ((x1, ⟨0, 0, 0, [x3]⟩), (a8, g8))) := by show R = _; rw [HS7.out]; exact Pr.bind_ok hr
      replace HK := hidP (And.intro HK.out.1 (HK.out.2.nb (fun z hz => hz.kpn hk Hpl.out) hk.size))
      clear hk hq hr hR
      have u0 := frz HT8.out.rb 0
      have v0 : U8.cell? ⟨b, 0, none⟩ = some (.int .i64 0) := by simp [World.cell?, HT8.out.rb]
      have u1 := frz HT8.out.rb 1
      have v1 : U8.cell? ⟨b, 1, none⟩ = some (.int .i64 0) := by simp [World.cell?, HT8.out.rb]
      have u2 := frz HT8.out.rb 2
      have v2 : U8.cell? ⟨b, 2, none⟩ = some (.int .i64 0) := by simp [World.cell?, HT8.out.rb]
      have u3 := frz HT8.out.rb 3
      have v3 : U8.cell? ⟨b, 3, none⟩ = some (.int .i64 0) := by simp [World.cell?, HT8.out.rb]
      have u4 := frz HT8.out.rb 4
      have v4 : U8.cell? ⟨b, 4, none⟩ = some (.slice none 0 0) := by simp [World.cell?, HT8.out.rb]
      have s0 : U8.cell? ⟨c, 0, none⟩ = some (.int .i64 x1) := by simp [World.cell?, HT8.out.tb]
      have s1 : U8.cell? ⟨c, 1, none⟩ = some (.int .i64 0) := by simp [World.cell?, HT8.out.tb]
      have s2 : U8.cell? ⟨c, 2, none⟩ = some (.int .i64 0) := by simp [World.cell?, HT8.out.tb]
      have s3 : U8.cell? ⟨c, 3, none⟩ = some (.int .i64 0) := by simp [World.cell?, HT8.out.tb]
      have s4 : U8.cell? ⟨c, 4, none⟩ = some (.slice ko 1 kc) := by simp [World.cell?, HT8.out.tb]
      have hcb : ¬ c = b := by have := HT8.out.lt; omega
      have hbc : ¬ b = c := by have := HT8.out.lt; omega
      go_wp2_with fail
      have hb3 := put5_box (.int .i64 x1) (.int .i64 0) (.int .i64 0) (.int .i64 0) (.slice ko 1 kc) HT8.out.rb
      have k3 := put5_keeps U8 b (.int .i64 x1) (.int .i64 0) (.int .i64 0) (.int .i64 0) (.slice ko 1 kc)
      have kW : KpN W _ p := HG8.out.trans k3 fun z hz h => by have := HT8.out.lt; omega
      have hE : R = .ok ((x1, ⟨0, 0, 0, [x3]⟩), (a8, g8)) := HS8.out
      have hrow' := (HK.out.2.nb (fun z hz => k3.block z hz.2.1 (by have := hz.1; have := HT8.out.lt; have := Hbl.out; omega)) k3.size).low Hlow.out
      (try simp only [Exit.inBlock, Exit.then])
      exact bodyPost_ret (results_cell39 rfl rfl hb3 (by kernel_rfl)) rfl (PnQ.ok kW hE ⟨ko, kc, rfl, HK.out.1, hrow'⟩ (HR8.out.kept k3 fun z h => by rw [h]; exact HT8.out.bok))
    have d20 : (x1 == 20) = false := beq_eq_false_iff_ne.2 c20
    have C20 := hidP c20
    clear c20
    by_cases c16 : x1 = 16
    · have d16 : (x1 == 16) = true := beq_iff_eq.2 c16
      have C16 := hidP c16
      clear c16
      go_wp2_with (go_at_call 88; refine Hid.out ?_)
      unfold Hid
      have hq := HK79.out _ _ _ HR2.out (by have := HR2.out.pos; omega)
      rcases hr : meanP s.data.toList numO (a2, g2) with o | q
      · rw [hr] at hq
        refine Calls.mono hq ?_
        rintro e' U ⟨hk, rfl⟩
        have HGe := hidP (HG2.out.tr hk)
        have HE : Hid (R = .error o) := by show R = _; rw [HS2.out]; exact Pr.bind_err (by unfold innP; rw [if_neg C14.out, if_neg (fun h => h.elim C15.out C20.out), if_pos C16.out]; exact Pr.bind_err hr)
        clear hk hq hr
        go_wp2_with fail
        exact ⟨rfl, PnQ.err HGe.out HE.out⟩
      obtain ⟨x3, a3, g3⟩ := q
      rw [hr] at hq
      refine Calls.mono hq ?_
      rintro e' U3 ⟨hk, v, rfl, rfl, hR⟩
      have Hr3 := hidP hr
      have hl3 : a0 ≤ a3 := Nat.le_trans hl2 (fw_mean _ _ _ _ _ hr).1
      have hT := HT2.out.kpn hk
      have w0 := frz hT.tb 1
      have w1 : U3.cell? ⟨c, 1, none⟩ = some (.int .i64 0) := by simp [World.cell?, hT.tb]
      have HT3 : Hid (TB W (U3.setCell ⟨c, 1, none⟩ (.int .i64 x3)) p b c x1 x3 0 0 (.slice none 0 0)) := ⟨(set_other _ (by have := hT.lt; omega)).trans hT.rb, heap_setCell_same _ c 1 _ _ _ hT.tb, hT.lt⟩
      have kS : Keeps U3 (U3.setCell ⟨c, 1, none⟩ (.int .i64 x3)) (fun z => z = c) := (Keeps.refl U3 (fun z => z = c)).setCell (p := ⟨c, 1, none⟩) (fun _ => rfl) _
      have HG3 : Hid (KpN W (U3.setCell ⟨c, 1, none⟩ (.int .i64 x3)) p) := (HG2.out.tr hk).trans kS fun z hz h => by have := hT.lt; omega
      have HR3 := hidP (hR.kept kS fun z h => by rw [h]; exact hT.cok)
      clear hk hq hr hR hT kS
      go_wp2_with (go_at_call 91; refine Hid.out ?_)
      unfold Hid
      (try clear w0 w1)
      have hq := HM44.out _ _ _ HR3.out (by have := HR3.out.pos; omega)
      rcases hr : mustP s.data.toList 44 (a3, g3) with o | q
      · rw [hr] at hq
        refine Calls.mono hq ?_
        rintro e' U ⟨hk, rfl⟩
        have HGe := hidP (HG3.out.tr hk)
        have HE : Hid (R = .error o) := by show R = _; rw [HS2.out]; exact Pr.bind_err (by unfold innP; rw [if_neg C14.out, if_neg (fun h => h.elim C15.out C20.out), if_pos C16.out]; exact (Pr.bind_ok Hr3.out).trans (Pr.bind_err hr))
        clear hk hq hr
        go_wp2_with fail
        exact ⟨rfl, PnQ.err HGe.out HE.out⟩
      obtain ⟨x4, a4, g4⟩ := q
      rw [hr] at hq
      refine Calls.mono hq ?_
      rintro e' U4 ⟨hk, v, rfl, rfl, hR⟩
      have Hr4 := hidP hr
      have hl4 : a0 ≤ a4 := Nat.le_trans hl3 (fw_must _ _ _ _ _ hr).1
      have HT4 := hidP (HT3.out.kpn hk)
      have HG4 := hidP (HG3.out.tr hk)
      have HR4 := hidP hR
      clear hk hq hr hR
      go_wp2_with (go_at_call 78; refine Hid.out ?_)
      unfold Hid
      (try clear w0 w1)
      have hq := H48.out _ _ _ HR4.out (by have := HR4.out.pos; omega)
      rcases hr : r (a4, g4) with o | q
      · rw [hr] at hq
        refine Calls.mono hq ?_
        rintro e' U ⟨hk, rfl⟩
        have HGe := hidP (HG4.out.tr hk)
        have HE : Hid (R = .error o) := by show R = _; rw [HS2.out]; exact Pr.bind_err (by unfold innP; rw [if_neg C14.out, if_neg (fun h => h.elim C15.out C20.out), if_pos C16.out]; exact (Pr.bind_ok Hr3.out).trans ((Pr.bind_ok Hr4.out).trans (Pr.bind_err hr)))
        clear hk hq hr
        go_wp2_with fail
        exact ⟨rfl, PnQ.err HGe.out HE.out⟩
      obtain ⟨x5, a5, g5⟩ := q
      rw [hr] at hq
      refine Calls.mono hq ?_
      rintro e' U5 ⟨hk, v, rfl, ⟨ko1, kc1, ko, kc, rfl, hfl⟩, hR⟩
      have Hr5 := hidP hr
      have hl5 : a0 ≤ a5 := Nat.le_trans hl4 (hrec _ _ _ hr).1
      obtain ⟨hkc, hrow⟩ := hfl.rowAt (by simp [big])
      clear hfl
      have hT := HT4.out.kpn hk
      have w0 := frz hT.tb 4
      have w1 : U5.cell? ⟨c, 4, none⟩ = some (.slice none 0 0) := by simp [World.cell?, hT.tb]
      have HT5 : Hid (TB W (U5.setCell ⟨c, 4, none⟩ (.slice ko 1 kc)) p b c x1 x3 0 0 (.slice ko 1 kc)) := ⟨(set_other _ (by have := hT.lt; omega)).trans hT.rb, heap_setCell_same _ c 4 _ _ _ hT.tb, hT.lt⟩
      have kS : Keeps U5 (U5.setCell ⟨c, 4, none⟩ (.slice ko 1 kc)) (fun z => z = c) := (Keeps.refl U5 (fun z => z = c)).setCell (p := ⟨c, 4, none⟩) (fun _ => rfl) _
      have HG5 : Hid (KpN W (U5.setCell ⟨c, 4, none⟩ (.slice ko 1 kc)) p) := (HG4.out.tr hk).trans kS fun z hz h => by have := hT.lt; omega
      have HR5 := hidP (hR.kept kS fun z h => by rw [h]; exact hT.cok)
      have Hbl : Hid (b < U4.heap.size ∧ c < U4.heap.size) := ⟨lt_of_heap HT4.out.rb, lt_of_heap HT4.out.tb⟩
      have Hpl : Hid (p < U4.heap.size) := HR4.out.lt
      have Hlow : Hid (W.heap.size ≤ U4.heap.size) := HG4.out.size
      have HK : Hid (1 ≤ kc ∧ RowAt (NB p U4 _) _ (d + 1) ko ([x5])) := ⟨hkc, hrow.nb (fun z hz => kS.block z hz.2.1 (by have := hz.1; have := Hbl.out; omega)) kS.size⟩
      clear hk hq hr hR hT hkc hrow kS
      have HS7 : Hid (R = ((mustP s.data.toList 41).bind fun _ => Pr.pure (x1, (⟨x3, 0, 0, [x5]⟩ : TP))) (a5, g5)) := by show R = _; rw [HS2.out]; exact Pr.bind_ok (by unfold innP; rw [if_neg C14.out, if_neg (fun h => h.elim C15.out C20.out), if_pos C16.out]; exact (Pr.bind_ok Hr3.out).trans ((Pr.bind_ok Hr4.out).trans (Pr.bind_ok Hr5.out)))
      go_wp2_with (go_at_call 91; refine Hid.out ?_)
      unfold Hid
      (try clear w0 w1)
      have hq := HM41.out _ _ _ HR5.out (by have := HR5.out.pos; omega)
      rcases hr : mustP s.data.toList 41 (a5, g5) with o | q
      · rw [hr] at hq
        refine Calls.mono hq ?_
        rintro e' U ⟨hk, rfl⟩
        have HGe := hidP (HG5.out.tr hk)
        have HE : Hid (R = .error o) := by show R = _; rw [HS7.out]; exact Pr.bind_err hr
        clear hk hq hr
        go_wp2_with fail
        exact ⟨rfl, PnQ.err HGe.out HE.out⟩
      obtain ⟨x8, a8, g8⟩ := q
      rw [hr] at hq
      refine Calls.mono hq ?_
      rintro e' U8 ⟨hk, v, rfl, rfl, hR⟩
      have Hr8 := hidP hr
      have hl8 : a0 ≤ a8 := Nat.le_trans hl5 (fw_must _ _ _ _ _ hr).1
      have HT8 := hidP (HT5.out.kpn hk)
      have HG8 := hidP (HG5.out.tr hk)
      have HR8 := hidP hR
      have HS8 : Hid (R = .ok ((x1, ⟨x3, 0, 0, [x5]⟩), (a8, g8))) := by show R = _; rw [HS7.out]; exact Pr.bind_ok hr
      replace HK := hidP (And.intro HK.out.1 (HK.out.2.nb (fun z hz => hz.kpn hk Hpl.out) hk.size))
      clear hk hq hr hR
      have u0 := frz HT8.out.rb 0
      have v0 : U8.cell? ⟨b, 0, none⟩ = some (.int .i64 0) := by simp [World.cell?, HT8.out.rb]
      have u1 := frz HT8.out.rb 1
      have v1 : U8.cell? ⟨b, 1, none⟩ = some (.int .i64 0) := by simp [World.cell?, HT8.out.rb]
      have u2 := frz HT8.out.rb 2
      have v2 : U8.cell? ⟨b, 2, none⟩ = some (.int .i64 0) := by simp [World.cell?, HT8.out.rb]
      have u3 := frz HT8.out.rb 3
      have v3 : U8.cell? ⟨b, 3, none⟩ = some (.int .i64 0) := by simp [World.cell?, HT8.out.rb]
      have u4 := frz HT8.out.rb 4
      have v4 : U8.cell? ⟨b, 4, none⟩ = some (.slice none 0 0) := by simp [World.cell?, HT8.out.rb]
      have s0 : U8.cell? ⟨c, 0, none⟩ = some (.int .i64 x1) := by simp [World.cell?, HT8.out.tb]
      have s1 : U8.cell? ⟨c, 1, none⟩ = some (.int .i64 x3) := by simp [World.cell?, HT8.out.tb]
      have s2 : U8.cell? ⟨c, 2, none⟩ = some (.int .i64 0) := by simp [World.cell?, HT8.out.tb]
      have s3 : U8.cell? ⟨c, 3, none⟩ = some (.int .i64 0) := by simp [World.cell?, HT8.out.tb]
      have s4 : U8.cell? ⟨c, 4, none⟩ = some (.slice ko 1 kc) := by simp [World.cell?, HT8.out.tb]
      have hcb : ¬ c = b := by have := HT8.out.lt; omega
      have hbc : ¬ b = c := by have := HT8.out.lt; omega
      go_wp2_with fail
      have hb3 := put5_box (.int .i64 x1) (.int .i64 x3) (.int .i64 0) (.int .i64 0) (.slice ko 1 kc) HT8.out.rb
      have k3 := put5_keeps U8 b (.int .i64 x1) (.int .i64 x3) (.int .i64 0) (.int .i64 0) (.slice ko 1 kc)
      have kW : KpN W _ p := HG8.out.trans k3 fun z hz h => by have := HT8.out.lt; omega
      have hE : R = .ok ((x1, ⟨x3, 0, 0, [x5]⟩), (a8, g8)) := HS8.out
      have hrow' := (HK.out.2.nb (fun z hz => k3.block z hz.2.1 (by have := hz.1; have := HT8.out.lt; have := Hbl.out; omega)) k3.size).low Hlow.out
      (try simp only [Exit.inBlock, Exit.then])
      exact bodyPost_ret (results_cell39 rfl rfl hb3 (by kernel_rfl)) rfl (PnQ.ok kW hE ⟨ko, kc, rfl, HK.out.1, hrow'⟩ (HR8.out.kept k3 fun z h => by rw [h]; exact HT8.out.bok))
    have d16 : (x1 == 16) = false := beq_eq_false_iff_ne.2 c16
    have C16 := hidP c16
    clear c16
    by_cases c17 : x1 = 17
    · have d17 : (x1 == 17) = true := beq_iff_eq.2 c17
      have C17 := hidP c17
      clear c17
      go_wp2_with (go_at_call 50; refine Hid.out ?_)
      unfold Hid
      have hq := HPk.out _ _ _ HR2.out (by have := HR2.out.pos; omega)
      rcases hr : peekP s.data.toList (a2, g2) with o | q
      · rw [hr] at hq
        refine Calls.mono hq ?_
        rintro e' U ⟨hk, rfl⟩
        have HGe := hidP (HG2.out.tr hk)
        have HE : Hid (R = .error o) := by show R = _; exact absurd hr (by unfold peekP; simp)
        clear hk hq hr
        go_wp2_with fail
        exact ⟨rfl, PnQ.err HGe.out HE.out⟩
      obtain ⟨x3, a3, g3⟩ := q
      rw [hr] at hq
      refine Calls.mono hq ?_
      rintro e' U3 ⟨hk, v, rfl, rfl, hR⟩
      have Hr3 := hidP hr
      have hl3 : a0 ≤ a3 := Nat.le_trans hl2 (fw_peek _ _ _ _ hr).1
      have HT3 := hidP (HT2.out.kpn hk)
      have HG3 := hidP (HG2.out.tr hk)
      have HR3 := hidP hR
      clear hk hq hr hR
      by_cases h41 : x3 = 41
      · have d41 : ((x3.toNat : Int) == 41) = true := by rw [h41]; rfl
        have C41 := hidP h41
        clear h41
        have HS7 : Hid (R = ((mustP s.data.toList 41).bind fun _ => Pr.pure (x1, (⟨0, 0, 0, []⟩ : TP))) (a3, g3)) := by show R = _; rw [HS2.out]; exact Pr.bind_ok (by unfold innP; rw [if_neg C14.out, if_neg (fun h => h.elim C15.out C20.out), if_neg C16.out, if_pos C17.out]; exact (Pr.bind_ok Hr3.out).trans (by (try dsimp only); rw [if_pos C41.out]; rfl))
        go_wp2_with (go_at_call 91; refine Hid.out ?_)
        unfold Hid
        (try clear w0 w1)
        have hq := HM41.out _ _ _ HR3.out (by have := HR3.out.pos; omega)
        rcases hr : mustP s.data.toList 41 (a3, g3) with o | q
        · rw [hr] at hq
          refine Calls.mono hq ?_
          rintro e' U ⟨hk, rfl⟩
          have HGe := hidP (HG3.out.tr hk)
          have HE : Hid (R = .error o) := by show R = _; rw [HS7.out]; exact Pr.bind_err hr
          clear hk hq hr
          go_wp2_with fail
          exact ⟨rfl, PnQ.err HGe.out HE.out⟩
        obtain ⟨x8, a8, g8⟩ := q
        rw [hr] at hq
        refine Calls.mono hq ?_
        rintro e' U8 ⟨hk, v, rfl, rfl, hR⟩
        have Hr8 := hidP hr
        have hl8 : a0 ≤ a8 := Nat.le_trans hl3 (fw_must _ _ _ _ _ hr).1
        have HT8 := hidP (HT3.out.kpn hk)
        have HG8 := hidP (HG3.out.tr hk)
        have HR8 := hidP hR
        have HS8 : Hid (R = .ok ((x1, ⟨0, 0, 0, []⟩), (a8, g8))) := by show R = _; rw [HS7.out]; exact Pr.bind_ok hr
        clear hk hq hr hR
        have u0 := frz HT8.out.rb 0
        have v0 : U8.cell? ⟨b, 0, none⟩ = some (.int .i64 0) := by simp [World.cell?, HT8.out.rb]
        have u1 := frz HT8.out.rb 1
        have v1 : U8.cell? ⟨b, 1, none⟩ = some (.int .i64 0) := by simp [World.cell?, HT8.out.rb]
        have u2 := frz HT8.out.rb 2
        have v2 : U8.cell? ⟨b, 2, none⟩ = some (.int .i64 0) := by simp [World.cell?, HT8.out.rb]
        have u3 := frz HT8.out.rb 3
        have v3 : U8.cell? ⟨b, 3, none⟩ = some (.int .i64 0) := by simp [World.cell?, HT8.out.rb]
        have u4 := frz HT8.out.rb 4
        have v4 : U8.cell? ⟨b, 4, none⟩ = some (.slice none 0 0) := by simp [World.cell?, HT8.out.rb]
        have s0 : U8.cell? ⟨c, 0, none⟩ = some (.int .i64 x1) := by simp [World.cell?, HT8.out.tb]
        have s1 : U8.cell? ⟨c, 1, none⟩ = some (.int .i64 0) := by simp [World.cell?, HT8.out.tb]
        have s2 : U8.cell? ⟨c, 2, none⟩ = some (.int .i64 0) := by simp [World.cell?, HT8.out.tb]
        have s3 : U8.cell? ⟨c, 3, none⟩ = some (.int .i64 0) := by simp [World.cell?, HT8.out.tb]
        have s4 : U8.cell? ⟨c, 4, none⟩ = some (.slice none 0 0) := by simp [World.cell?, HT8.out.tb]
        have hcb : ¬ c = b := by have := HT8.out.lt; omega
        have hbc : ¬ b = c := by have := HT8.out.lt; omega
        go_wp2_with fail
        have hb3 := put5_box (.int .i64 x1) (.int .i64 0) (.int .i64 0) (.int .i64 0) (.slice none 0 0) HT8.out.rb
        have k3 := put5_keeps U8 b (.int .i64 x1) (.int .i64 0) (.int .i64 0) (.int .i64 0) (.slice none 0 0)
        have kW : KpN W _ p := HG8.out.trans k3 fun z hz h => by have := HT8.out.lt; omega
        have hE : R = .ok ((x1, ⟨0, 0, 0, []⟩), (a8, g8)) := HS8.out
        (try simp only [Exit.inBlock, Exit.then])
        exact bodyPost_ret (results_cell39 rfl rfl hb3 (by kernel_rfl)) rfl (PnQ.ok kW hE ⟨none, 0, rfl, (Nat.zero_le _), (by exact ⟨by simp [big], fun h => absurd rfl h⟩)⟩ (HR8.out.kept k3 fun z h => by rw [h]; exact HT8.out.bok))
      have d41 : ((x3.toNat : Int) == 41) = false := beq_eq_false_iff_ne.2 fun h => h41 (UInt8.toNat_inj.1 (by show x3.toNat = 41; omega))
      have C41 := hidP h41
      clear h41
      go_wp2_with (go_at_call 51; refine Hid.out ?_)
      unfold Hid
      (try clear w0 w1)
      have hq := H28.out _ _ _ HR3.out (by have := HR3.out.pos; omega)
      rcases hr : manyP s.data.toList r (a3, g3) with o | q
      · rw [hr] at hq
        refine Calls.mono hq ?_
        rintro e' U ⟨hk, rfl⟩
        have HGe := hidP (HG3.out.tr hk)
        have HE : Hid (R = .error o) := by show R = _; rw [HS2.out]; exact Pr.bind_err (by unfold innP; rw [if_neg C14.out, if_neg (fun h => h.elim C15.out C20.out), if_neg C16.out, if_pos C17.out]; exact (Pr.bind_ok Hr3.out).trans (by (try dsimp only); rw [if_neg C41.out]; exact Pr.bind_err hr))
        clear hk hq hr
        go_wp2_with fail
        exact ⟨rfl, PnQ.err HGe.out HE.out⟩
      obtain ⟨x4, a4, g4⟩ := q
      rw [hr] at hq
      refine Calls.mono hq ?_
      rintro e' U4 ⟨hk, v, rfl, ⟨ko, kc, rfl, hkc, hrow⟩, hR⟩
      have Hr4 := hidP hr
      have hl4 : a0 ≤ a4 := Nat.le_trans hl3 (fn_many hrec _ _ _ hr).1
      have hT := HT3.out.kpn hk
      have w0 := frz hT.tb 4
      have w1 : U4.cell? ⟨c, 4, none⟩ = some (.slice none 0 0) := by simp [World.cell?, hT.tb]
      have HT4 : Hid (TB W (U4.setCell ⟨c, 4, none⟩ (.slice ko x4.length kc)) p b c x1 0 0 0 (.slice ko x4.length kc)) := ⟨(set_other _ (by have := hT.lt; omega)).trans hT.rb, heap_setCell_same _ c 4 _ _ _ hT.tb, hT.lt⟩
      have kS : Keeps U4 (U4.setCell ⟨c, 4, none⟩ (.slice ko x4.length kc)) (fun z => z = c) := (Keeps.refl U4 (fun z => z = c)).setCell (p := ⟨c, 4, none⟩) (fun _ => rfl) _
      have HG4 : Hid (KpN W (U4.setCell ⟨c, 4, none⟩ (.slice ko x4.length kc)) p) := (HG3.out.tr hk).trans kS fun z hz h => by have := hT.lt; omega
      have HR4 := hidP (hR.kept kS fun z h => by rw [h]; exact hT.cok)
      have Hbl : Hid (b < U3.heap.size ∧ c < U3.heap.size) := ⟨lt_of_heap HT3.out.rb, lt_of_heap HT3.out.tb⟩
      have Hpl : Hid (p < U3.heap.size) := HR3.out.lt
      have Hlow : Hid (W.heap.size ≤ U3.heap.size) := HG3.out.size
      have HK : Hid (x4.length ≤ kc ∧ RowAt (NB p U3 _) _ (d + 1) ko (x4)) := ⟨hkc, hrow.nb (fun z hz => kS.block z hz.2.1 (by have := hz.1; have := Hbl.out; omega)) kS.size⟩
      clear hk hq hr hR hT hkc hrow kS
      have HS7 : Hid (R = ((mustP s.data.toList 41).bind fun _ => Pr.pure (x1, (⟨0, 0, 0, x4⟩ : TP))) (a4, g4)) := by show R = _; rw [HS2.out]; exact Pr.bind_ok (by unfold innP; rw [if_neg C14.out, if_neg (fun h => h.elim C15.out C20.out), if_neg C16.out, if_pos C17.out]; exact (Pr.bind_ok Hr3.out).trans (by (try dsimp only); rw [if_neg C41.out]; exact Pr.bind_ok Hr4.out))
      go_wp2_with (go_at_call 91; refine Hid.out ?_)
      unfold Hid
      (try clear w0 w1)
      have hq := HM41.out _ _ _ HR4.out (by have := HR4.out.pos; omega)
      rcases hr : mustP s.data.toList 41 (a4, g4) with o | q
      · rw [hr] at hq
        refine Calls.mono hq ?_
        rintro e' U ⟨hk, rfl⟩
        have HGe := hidP (HG4.out.tr hk)
        have HE : Hid (R = .error o) := by show R = _; rw [HS7.out]; exact Pr.bind_err hr
        clear hk hq hr
        go_wp2_with fail
        exact ⟨rfl, PnQ.err HGe.out HE.out⟩
      obtain ⟨x8, a8, g8⟩ := q
      rw [hr] at hq
      refine Calls.mono hq ?_
      rintro e' U8 ⟨hk, v, rfl, rfl, hR⟩
      have Hr8 := hidP hr
      have hl8 : a0 ≤ a8 := Nat.le_trans hl4 (fw_must _ _ _ _ _ hr).1
      have HT8 := hidP (HT4.out.kpn hk)
      have HG8 := hidP (HG4.out.tr hk)
      have HR8 := hidP hR
      have HS8 : Hid (R = .ok ((x1, ⟨0, 0, 0, x4⟩), (a8, g8))) := by show R = _; rw [HS7.out]; exact Pr.bind_ok hr
      replace HK := hidP (And.intro HK.out.1 (HK.out.2.nb (fun z hz => hz.kpn hk Hpl.out) hk.size))
      clear hk hq hr hR
      have u0 := frz HT8.out.rb 0
      have v0 : U8.cell? ⟨b, 0, none⟩ = some (.int .i64 0) := by simp [World.cell?, HT8.out.rb]
      have u1 := frz HT8.out.rb 1
      have v1 : U8.cell? ⟨b, 1, none⟩ = some (.int .i64 0) := by simp [World.cell?, HT8.out.rb]
      have u2 := frz HT8.out.rb 2
      have v2 : U8.cell? ⟨b, 2, none⟩ = some (.int .i64 0) := by simp [World.cell?, HT8.out.rb]
      have u3 := frz HT8.out.rb 3
      have v3 : U8.cell? ⟨b, 3, none⟩ = some (.int .i64 0) := by simp [World.cell?, HT8.out.rb]
      have u4 := frz HT8.out.rb 4
      have v4 : U8.cell? ⟨b, 4, none⟩ = some (.slice none 0 0) := by simp [World.cell?, HT8.out.rb]
      have s0 : U8.cell? ⟨c, 0, none⟩ = some (.int .i64 x1) := by simp [World.cell?, HT8.out.tb]
      have s1 : U8.cell? ⟨c, 1, none⟩ = some (.int .i64 0) := by simp [World.cell?, HT8.out.tb]
      have s2 : U8.cell? ⟨c, 2, none⟩ = some (.int .i64 0) := by simp [World.cell?, HT8.out.tb]
      have s3 : U8.cell? ⟨c, 3, none⟩ = some (.int .i64 0) := by simp [World.cell?, HT8.out.tb]
      have s4 : U8.cell? ⟨c, 4, none⟩ = some (.slice ko x4.length kc) := by simp [World.cell?, HT8.out.tb]
      have hcb : ¬ c = b := by have := HT8.out.lt; omega
      have hbc : ¬ b = c := by have := HT8.out.lt; omega
      go_wp2_with fail
      have hb3 := put5_box (.int .i64 x1) (.int .i64 0) (.int .i64 0) (.int .i64 0) (.slice ko x4.length kc) HT8.out.rb
      have k3 := put5_keeps U8 b (.int .i64 x1) (.int .i64 0) (.int .i64 0) (.int .i64 0) (.slice ko x4.length kc)
      have kW : KpN W _ p := HG8.out.trans k3 fun z hz h => by have := HT8.out.lt; omega
      have hE : R = .ok ((x1, ⟨0, 0, 0, x4⟩), (a8, g8)) := HS8.out
      have hrow' := (HK.out.2.nb (fun z hz => k3.block z hz.2.1 (by have := hz.1; have := HT8.out.lt; have := Hbl.out; omega)) k3.size).low Hlow.out
      (try simp only [Exit.inBlock, Exit.then])
      exact bodyPost_ret (results_cell39 rfl rfl hb3 (by kernel_rfl)) rfl (PnQ.ok kW hE ⟨ko, kc, rfl, HK.out.1, hrow'⟩ (HR8.out.kept k3 fun z h => by rw [h]; exact HT8.out.bok))
    have d17 : (x1 == 17) = false := beq_eq_false_iff_ne.2 c17
    have C17 := hidP c17
    clear c17
    by_cases c18 : x1 = 18
    · have d18 : (x1 == 18) = true := beq_iff_eq.2 c18
      have C18 := hidP c18
      clear c18
      go_wp2_with (go_at_call 51; refine Hid.out ?_)
      unfold Hid
      (try clear w0 w1)
      have hq := H28.out _ _ _ HR2.out (by have := HR2.out.pos; omega)
      rcases hr : manyP s.data.toList r (a2, g2) with o | q
      · rw [hr] at hq
        refine Calls.mono hq ?_
        rintro e' U ⟨hk, rfl⟩
        have HGe := hidP (HG2.out.tr hk)
        have HE : Hid (R = .error o) := by show R = _; rw [HS2.out]; exact Pr.bind_err (by unfold innP; rw [if_neg C14.out, if_neg (fun h => h.elim C15.out C20.out), if_neg C16.out, if_neg C17.out, if_pos C18.out]; exact Pr.bind_err hr)
        clear hk hq hr
        go_wp2_with fail
        exact ⟨rfl, PnQ.err HGe.out HE.out⟩
      obtain ⟨x3, a3, g3⟩ := q
      rw [hr] at hq
      refine Calls.mono hq ?_
      rintro e' U3 ⟨hk, v, rfl, ⟨ko, kc, rfl, hkc, hrow⟩, hR⟩
      have Hr3 := hidP hr
      have hl3 : a0 ≤ a3 := Nat.le_trans hl2 (fn_many hrec _ _ _ hr).1
      have hT := HT2.out.kpn hk
      have w0 := frz hT.tb 4
      have w1 : U3.cell? ⟨c, 4, none⟩ = some (.slice none 0 0) := by simp [World.cell?, hT.tb]
      have HT3 : Hid (TB W (U3.setCell ⟨c, 4, none⟩ (.slice ko x3.length kc)) p b c x1 0 0 0 (.slice ko x3.length kc)) := ⟨(set_other _ (by have := hT.lt; omega)).trans hT.rb, heap_setCell_same _ c 4 _ _ _ hT.tb, hT.lt⟩
      have kS : Keeps U3 (U3.setCell ⟨c, 4, none⟩ (.slice ko x3.length kc)) (fun z => z = c) := (Keeps.refl U3 (fun z => z = c)).setCell (p := ⟨c, 4, none⟩) (fun _ => rfl) _
      have HG3 : Hid (KpN W (U3.setCell ⟨c, 4, none⟩ (.slice ko x3.length kc)) p) := (HG2.out.tr hk).trans kS fun z hz h => by have := hT.lt; omega
      have HR3 := hidP (hR.kept kS fun z h => by rw [h]; exact hT.cok)
      have Hbl : Hid (b < U2.heap.size ∧ c < U2.heap.size) := ⟨lt_of_heap HT2.out.rb, lt_of_heap HT2.out.tb⟩
      have Hpl : Hid (p < U2.heap.size) := HR2.out.lt
      have Hlow : Hid (W.heap.size ≤ U2.heap.size) := HG2.out.size
      have HK : Hid (x3.length ≤ kc ∧ RowAt (NB p U2 _) _ (d + 1) ko (x3)) := ⟨hkc, hrow.nb (fun z hz => kS.block z hz.2.1 (by have := hz.1; have := Hbl.out; omega)) kS.size⟩
      clear hk hq hr hR hT hkc hrow kS
      have HS7 : Hid (R = ((mustP s.data.toList 41).bind fun _ => Pr.pure (x1, (⟨0, 0, 0, x3⟩ : TP))) (a3, g3)) := by show R = _; rw [HS2.out]; exact Pr.bind_ok (by unfold innP; rw [if_neg C14.out, if_neg (fun h => h.elim C15.out C20.out), if_neg C16.out, if_neg C17.out, if_pos C18.out]; exact Pr.bind_ok Hr3.out)
      go_wp2_with (go_at_call 91; refine Hid.out ?_)
      unfold Hid
      (try clear w0 w1)
      have hq := HM41.out _ _ _ HR3.out (by have := HR3.out.pos; omega)
      rcases hr : mustP s.data.toList 41 (a3, g3) with o | q
      · rw [hr] at hq
        refine Calls.mono hq ?_
        rintro e' U ⟨hk, rfl⟩
        have HGe := hidP (HG3.out.tr hk)
        have HE : Hid (R = .error o) := by show R = _; rw [HS7.out]; exact Pr.bind_err hr
        clear hk hq hr
        go_wp2_with fail
        exact ⟨rfl, PnQ.err HGe.out HE.out⟩
      obtain ⟨x8, a8, g8⟩ := q
      rw [hr] at hq
      refine Calls.mono hq ?_
      rintro e' U8 ⟨hk, v, rfl, rfl, hR⟩
      have Hr8 := hidP hr
      have hl8 : a0 ≤ a8 := Nat.le_trans hl3 (fw_must _ _ _ _ _ hr).1
      have HT8 := hidP (HT3.out.kpn hk)
      have HG8 := hidP (HG3.out.tr hk)
      have HR8 := hidP hR
      have HS8 : Hid (R = .ok ((x1, ⟨0, 0, 0, x3⟩), (a8, g8))) := by show R = _; rw [HS7.out]; exact Pr.bind_ok hr
      replace HK := hidP (And.intro HK.out.1 (HK.out.2.nb (fun z hz => hz.kpn hk Hpl.out) hk.size))
      clear hk hq hr hR
      have u0 := frz HT8.out.rb 0
      have v0 : U8.cell? ⟨b, 0, none⟩ = some (.int .i64 0) := by simp [World.cell?, HT8.out.rb]
      have u1 := frz HT8.out.rb 1
      have v1 : U8.cell? ⟨b, 1, none⟩ = some (.int .i64 0) := by simp [World.cell?, HT8.out.rb]
      have u2 := frz HT8.out.rb 2
      have v2 : U8.cell? ⟨b, 2, none⟩ = some (.int .i64 0) := by simp [World.cell?, HT8.out.rb]
      have u3 := frz HT8.out.rb 3
      have v3 : U8.cell? ⟨b, 3, none⟩ = some (.int .i64 0) := by simp [World.cell?, HT8.out.rb]
      have u4 := frz HT8.out.rb 4
      have v4 : U8.cell? ⟨b, 4, none⟩ = some (.slice none 0 0) := by simp [World.cell?, HT8.out.rb]
      have s0 : U8.cell? ⟨c, 0, none⟩ = some (.int .i64 x1) := by simp [World.cell?, HT8.out.tb]
      have s1 : U8.cell? ⟨c, 1, none⟩ = some (.int .i64 0) := by simp [World.cell?, HT8.out.tb]
      have s2 : U8.cell? ⟨c, 2, none⟩ = some (.int .i64 0) := by simp [World.cell?, HT8.out.tb]
      have s3 : U8.cell? ⟨c, 3, none⟩ = some (.int .i64 0) := by simp [World.cell?, HT8.out.tb]
      have s4 : U8.cell? ⟨c, 4, none⟩ = some (.slice ko x3.length kc) := by simp [World.cell?, HT8.out.tb]
      have hcb : ¬ c = b := by have := HT8.out.lt; omega
      have hbc : ¬ b = c := by have := HT8.out.lt; omega
      go_wp2_with fail
      have hb3 := put5_box (.int .i64 x1) (.int .i64 0) (.int .i64 0) (.int .i64 0) (.slice ko x3.length kc) HT8.out.rb
      have k3 := put5_keeps U8 b (.int .i64 x1) (.int .i64 0) (.int .i64 0) (.int .i64 0) (.slice ko x3.length kc)
      have kW : KpN W _ p := HG8.out.trans k3 fun z hz h => by have := HT8.out.lt; omega
      have hE : R = .ok ((x1, ⟨0, 0, 0, x3⟩), (a8, g8)) := HS8.out
      have hrow' := (HK.out.2.nb (fun z hz => k3.block z hz.2.1 (by have := hz.1; have := HT8.out.lt; have := Hbl.out; omega)) k3.size).low Hlow.out
      (try simp only [Exit.inBlock, Exit.then])
      exact bodyPost_ret (results_cell39 rfl rfl hb3 (by kernel_rfl)) rfl (PnQ.ok kW hE ⟨ko, kc, rfl, HK.out.1, hrow'⟩ (HR8.out.kept k3 fun z h => by rw [h]; exact HT8.out.bok))
    have d18 : (x1 == 18) = false := beq_eq_false_iff_ne.2 c18
    have C18 := hidP c18
    clear c18
    by_cases c19 : x1 = 19
    · have d19 : (x1 == 19) = true := beq_iff_eq.2 c19
      have C19 := hidP c19
      clear c19
      go_wp2_with (go_at_call 88; refine Hid.out ?_)
      unfold Hid
      have hq := HK79.out _ _ _ HR2.out (by have := HR2.out.pos; omega)
      rcases hr : meanP s.data.toList numO (a2, g2) with o | q
      · rw [hr] at hq
        refine Calls.mono hq ?_
        rintro e' U ⟨hk, rfl⟩
        have HGe := hidP (HG2.out.tr hk)
        have HE : Hid (R = .error o) := by show R = _; rw [HS2.out]; exact Pr.bind_err (by unfold innP; rw [if_neg C14.out, if_neg (fun h => h.elim C15.out C20.out), if_neg C16.out, if_neg C17.out, if_neg C18.out, if_pos C19.out]; exact Pr.bind_err hr)
        clear hk hq hr
        go_wp2_with fail
        exact ⟨rfl, PnQ.err HGe.out HE.out⟩
      obtain ⟨x3, a3, g3⟩ := q
      rw [hr] at hq
      refine Calls.mono hq ?_
      rintro e' U3 ⟨hk, v, rfl, rfl, hR⟩
      have Hr3 := hidP hr
      have hl3 : a0 ≤ a3 := Nat.le_trans hl2 (fw_mean _ _ _ _ _ hr).1
      have hT := HT2.out.kpn hk
      have w0 := frz hT.tb 2
      have w1 : U3.cell? ⟨c, 2, none⟩ = some (.int .i64 0) := by simp [World.cell?, hT.tb]
      have HT3 : Hid (TB W (U3.setCell ⟨c, 2, none⟩ (.int .i64 x3)) p b c x1 0 x3 0 (.slice none 0 0)) := ⟨(set_other _ (by have := hT.lt; omega)).trans hT.rb, heap_setCell_same _ c 2 _ _ _ hT.tb, hT.lt⟩
      have kS : Keeps U3 (U3.setCell ⟨c, 2, none⟩ (.int .i64 x3)) (fun z => z = c) := (Keeps.refl U3 (fun z => z = c)).setCell (p := ⟨c, 2, none⟩) (fun _ => rfl) _
      have HG3 : Hid (KpN W (U3.setCell ⟨c, 2, none⟩ (.int .i64 x3)) p) := (HG2.out.tr hk).trans kS fun z hz h => by have := hT.lt; omega
      have HR3 := hidP (hR.kept kS fun z h => by rw [h]; exact hT.cok)
      clear hk hq hr hR hT kS
      go_wp2_with (go_at_call 91; refine Hid.out ?_)
      unfold Hid
      (try clear w0 w1)
      have hq := HM44.out _ _ _ HR3.out (by have := HR3.out.pos; omega)
      rcases hr : mustP s.data.toList 44 (a3, g3) with o | q
      · rw [hr] at hq
        refine Calls.mono hq ?_
        rintro e' U ⟨hk, rfl⟩
        have HGe := hidP (HG3.out.tr hk)
        have HE : Hid (R = .error o) := by show R = _; rw [HS2.out]; exact Pr.bind_err (by unfold innP; rw [if_neg C14.out, if_neg (fun h => h.elim C15.out C20.out), if_neg C16.out, if_neg C17.out, if_neg C18.out, if_pos C19.out]; exact (Pr.bind_ok Hr3.out).trans (Pr.bind_err hr))
        clear hk hq hr
        go_wp2_with fail
        exact ⟨rfl, PnQ.err HGe.out HE.out⟩
      obtain ⟨x4, a4, g4⟩ := q
      rw [hr] at hq
      refine Calls.mono hq ?_
      rintro e' U4 ⟨hk, v, rfl, rfl, hR⟩
      have Hr4 := hidP hr
      have hl4 : a0 ≤ a4 := Nat.le_trans hl3 (fw_must _ _ _ _ _ hr).1
      have HT4 := hidP (HT3.out.kpn hk)
      have HG4 := hidP (HG3.out.tr hk)
      have HR4 := hidP hR
      clear hk hq hr hR
      go_wp2_with (go_at_call 88; refine Hid.out ?_)
      unfold Hid
      have hq := HK80.out _ _ _ HR4.out (by have := HR4.out.pos; omega)
      rcases hr : meanP s.data.toList indexO (a4, g4) with o | q
      · rw [hr] at hq
        refine Calls.mono hq ?_
        rintro e' U ⟨hk, rfl⟩
        have HGe := hidP (HG4.out.tr hk)
        have HE : Hid (R = .error o) := by show R = _; rw [HS2.out]; exact Pr.bind_err (by unfold innP; rw [if_neg C14.out, if_neg (fun h => h.elim C15.out C20.out), if_neg C16.out, if_neg C17.out, if_neg C18.out, if_pos C19.out]; exact (Pr.bind_ok Hr3.out).trans ((Pr.bind_ok Hr4.out).trans (Pr.bind_err hr)))
        clear hk hq hr
        go_wp2_with fail
        exact ⟨rfl, PnQ.err HGe.out HE.out⟩
      obtain ⟨x5, a5, g5⟩ := q
      rw [hr] at hq
      refine Calls.mono hq ?_
      rintro e' U5 ⟨hk, v, rfl, rfl, hR⟩
      have Hr5 := hidP hr
      have hl5 : a0 ≤ a5 := Nat.le_trans hl4 (fw_mean _ _ _ _ _ hr).1
      have hT := HT4.out.kpn hk
      have w0 := frz hT.tb 3
      have w1 : U5.cell? ⟨c, 3, none⟩ = some (.int .i64 0) := by simp [World.cell?, hT.tb]
      have HT5 : Hid (TB W (U5.setCell ⟨c, 3, none⟩ (.int .i64 x5)) p b c x1 0 x3 x5 (.slice none 0 0)) := ⟨(set_other _ (by have := hT.lt; omega)).trans hT.rb, heap_setCell_same _ c 3 _ _ _ hT.tb, hT.lt⟩
      have kS : Keeps U5 (U5.setCell ⟨c, 3, none⟩ (.int .i64 x5)) (fun z => z = c) := (Keeps.refl U5 (fun z => z = c)).setCell (p := ⟨c, 3, none⟩) (fun _ => rfl) _
      have HG5 : Hid (KpN W (U5.setCell ⟨c, 3, none⟩ (.int .i64 x5)) p) := (HG4.out.tr hk).trans kS fun z hz h => by have := hT.lt; omega
      have HR5 := hidP (hR.kept kS fun z h => by rw [h]; exact hT.cok)
      clear hk hq hr hR hT kS
      go_wp2_with (go_at_call 91; refine Hid.out ?_)
      unfold Hid
      (try clear w0 w1)
      have hq := HM44.out _ _ _ HR5.out (by have := HR5.out.pos; omega)
      rcases hr : mustP s.data.toList 44 (a5, g5) with o | q
      · rw [hr] at hq
        refine Calls.mono hq ?_
        rintro e' U ⟨hk, rfl⟩
        have HGe := hidP (HG5.out.tr hk)
        have HE : Hid (R = .error o) := by show R = _; rw [HS2.out]; exact Pr.bind_err (by unfold innP; rw [if_neg C14.out, if_neg (fun h => h.elim C15.out C20.out), if_neg C16.out, if_neg C17.out, if_neg C18.out, if_pos C19.out]; exact (Pr.bind_ok Hr3.out).trans ((Pr.bind_ok Hr4.out).trans ((Pr.bind_ok Hr5.out).trans (Pr.bind_err hr))))
        clear hk hq hr
        go_wp2_with fail
        exact ⟨rfl, PnQ.err HGe.out HE.out⟩
      obtain ⟨x6, a6, g6⟩ := q
      rw [hr] at hq
      refine Calls.mono hq ?_
      rintro e' U6 ⟨hk, v, rfl, rfl, hR⟩
      have Hr6 := hidP hr
      have hl6 : a0 ≤ a6 := Nat.le_trans hl5 (fw_must _ _ _ _ _ hr).1
      have HT6 := hidP (HT5.out.kpn hk)
      have HG6 := hidP (HG5.out.tr hk)
      have HR6 := hidP hR
      clear hk hq hr hR
      go_wp2_with (go_at_call 78; refine Hid.out ?_)
      unfold Hid
      (try clear w0 w1)
      have hq := H48.out _ _ _ HR6.out (by have := HR6.out.pos; omega)
      rcases hr : r (a6, g6) with o | q
      · rw [hr] at hq
        refine Calls.mono hq ?_
        rintro e' U ⟨hk, rfl⟩
        have HGe := hidP (HG6.out.tr hk)
        have HE : Hid (R = .error o) := by show R = _; rw [HS2.out]; exact Pr.bind_err (by unfold innP; rw [if_neg C14.out, if_neg (fun h => h.elim C15.out C20.out), if_neg C16.out, if_neg C17.out, if_neg C18.out, if_pos C19.out]; exact (Pr.bind_ok Hr3.out).trans ((Pr.bind_ok Hr4.out).trans ((Pr.bind_ok Hr5.out).trans ((Pr.bind_ok Hr6.out).trans (Pr.bind_err hr)))))
        clear hk hq hr
        go_wp2_with fail
        exact ⟨rfl, PnQ.err HGe.out HE.out⟩
      obtain ⟨x7, a7, g7⟩ := q
      rw [hr] at hq
      refine Calls.mono hq ?_
      rintro e' U7 ⟨hk, v, rfl, ⟨ko1, kc1, ko, kc, rfl, hfl⟩, hR⟩
      have Hr7 := hidP hr
      have hl7 : a0 ≤ a7 := Nat.le_trans hl6 (hrec _ _ _ hr).1
      obtain ⟨hkc, hrow⟩ := hfl.rowAt (by simp [big])
      clear hfl
      have hT := HT6.out.kpn hk
      have w0 := frz hT.tb 4
      have w1 : U7.cell? ⟨c, 4, none⟩ = some (.slice none 0 0) := by simp [World.cell?, hT.tb]
      have HT7 : Hid (TB W (U7.setCell ⟨c, 4, none⟩ (.slice ko 1 kc)) p b c x1 0 x3 x5 (.slice ko 1 kc)) := ⟨(set_other _ (by have := hT.lt; omega)).trans hT.rb, heap_setCell_same _ c 4 _ _ _ hT.tb, hT.lt⟩
      have kS : Keeps U7 (U7.setCell ⟨c, 4, none⟩ (.slice ko 1 kc)) (fun z => z = c) := (Keeps.refl U7 (fun z => z = c)).setCell (p := ⟨c, 4, none⟩) (fun _ => rfl) _
      have HG7 : Hid (KpN W (U7.setCell ⟨c, 4, none⟩ (.slice ko 1 kc)) p) := (HG6.out.tr hk).trans kS fun z hz h => by have := hT.lt; omega
      have HR7 := hidP (hR.kept kS fun z h => by rw [h]; exact hT.cok)
      have Hbl : Hid (b < U6.heap.size ∧ c < U6.heap.size) := ⟨lt_of_heap HT6.out.rb, lt_of_heap HT6.out.tb⟩
      have Hpl : Hid (p < U6.heap.size) := HR6.out.lt
      have Hlow : Hid (W.heap.size ≤ U6.heap.size) := HG6.out.size
      have HK : Hid (1 ≤ kc ∧ RowAt (NB p U6 _) _ (d + 1) ko ([x7])) := ⟨hkc, hrow.nb (fun z hz => kS.block z hz.2.1 (by have := hz.1; have := Hbl.out; omega)) kS.size⟩
      clear hk hq hr hR hT hkc hrow kS
      have HS7 : Hid (R = ((mustP s.data.toList 41).bind fun _ => Pr.pure (x1, (⟨0, x3, x5, [x7]⟩ : TP))) (a7, g7)) := by show R = _; rw [HS2.out]; exact Pr.bind_ok (by unfold innP; rw [if_neg C14.out, if_neg (fun h => h.elim C15.out C20.out), if_neg C16.out, if_neg C17.out, if_neg C18.out, if_pos C19.out]; exact (Pr.bind_ok Hr3.out).trans ((Pr.bind_ok Hr4.out).trans ((Pr.bind_ok Hr5.out).trans ((Pr.bind_ok Hr6.out).trans (Pr.bind_ok Hr7.out)))))
      go_wp2_with (go_at_call 91; refine Hid.out ?_)
      unfold Hid
      (try clear w0 w1)
      have hq := HM41.out _ _ _ HR7.out (by have := HR7.out.pos; omega)
      rcases hr : mustP s.data.toList 41 (a7, g7) with o | q
      · rw [hr] at hq
        refine Calls.mono hq ?_
        rintro e' U ⟨hk, rfl⟩
        have HGe := hidP (HG7.out.tr hk)
        have HE : Hid (R = .error o) := by show R = _; rw [HS7.out]; exact Pr.bind_err hr
        clear hk hq hr
        go_wp2_with fail
        exact ⟨rfl, PnQ.err HGe.out HE.out⟩
      obtain ⟨x8, a8, g8⟩ := q
      rw [hr] at hq
      refine Calls.mono hq ?_
      rintro e' U8 ⟨hk, v, rfl, rfl, hR⟩
      have Hr8 := hidP hr
      have hl8 : a0 ≤ a8 := Nat.le_trans hl7 (fw_must _ _ _ _ _ hr).1
      have HT8 := hidP (HT7.out.kpn hk)
      have HG8 := hidP (HG7.out.tr hk)
      have HR8 := hidP hR
      have HS8 : Hid (R = .ok ((x1, ⟨0, x3, x5, [x7]⟩), (a8, g8))) := by show R = _; rw [HS7.out]; exact Pr.bind_ok hr
      replace HK := hidP (And.intro HK.out.1 (HK.out.2.nb (fun z hz => hz.kpn hk Hpl.out) hk.size))
      clear hk hq hr hR
      have u0 := frz HT8.out.rb 0
      have v0 : U8.cell? ⟨b, 0, none⟩ = some (.int .i64 0) := by simp [World.cell?, HT8.out.rb]
      have u1 := frz HT8.out.rb 1
      have v1 : U8.cell? ⟨b, 1, none⟩ = some (.int .i64 0) := by simp [World.cell?, HT8.out.rb]
      have u2 := frz HT8.out.rb 2
      have v2 : U8.cell? ⟨b, 2, none⟩ = some (.int .i64 0) := by simp [World.cell?, HT8.out.rb]
      have u3 := frz HT8.out.rb 3
      have v3 : U8.cell? ⟨b, 3, none⟩ = some (.int .i64 0) := by simp [World.cell?, HT8.out.rb]
      have u4 := frz HT8.out.rb 4
      have v4 : U8.cell? ⟨b, 4, none⟩ = some (.slice none 0 0) := by simp [World.cell?, HT8.out.rb]
      have s0 : U8.cell? ⟨c, 0, none⟩ = some (.int .i64 x1) := by simp [World.cell?, HT8.out.tb]
      have s1 : U8.cell? ⟨c, 1, none⟩ = some (.int .i64 0) := by simp [World.cell?, HT8.out.tb]
      have s2 : U8.cell? ⟨c, 2, none⟩ = some (.int .i64 x3) := by simp [World.cell?, HT8.out.tb]
      have s3 : U8.cell? ⟨c, 3, none⟩ = some (.int .i64 x5) := by simp [World.cell?, HT8.out.tb]
      have s4 : U8.cell? ⟨c, 4, none⟩ = some (.slice ko 1 kc) := by simp [World.cell?, HT8.out.tb]
      have hcb : ¬ c = b := by have := HT8.out.lt; omega
      have hbc : ¬ b = c := by have := HT8.out.lt; omega
      go_wp2_with fail
      have hb3 := put5_box (.int .i64 x1) (.int .i64 0) (.int .i64 x3) (.int .i64 x5) (.slice ko 1 kc) HT8.out.rb
      have k3 := put5_keeps U8 b (.int .i64 x1) (.int .i64 0) (.int .i64 x3) (.int .i64 x5) (.slice ko 1 kc)
      have kW : KpN W _ p := HG8.out.trans k3 fun z hz h => by have := HT8.out.lt; omega
      have hE : R = .ok ((x1, ⟨0, x3, x5, [x7]⟩), (a8, g8)) := HS8.out
      have hrow' := (HK.out.2.nb (fun z hz => k3.block z hz.2.1 (by have := hz.1; have := HT8.out.lt; have := Hbl.out; omega)) k3.size).low Hlow.out
      (try simp only [Exit.inBlock, Exit.then])
      exact bodyPost_ret (results_cell39 rfl rfl hb3 (by kernel_rfl)) rfl (PnQ.ok kW hE ⟨ko, kc, rfl, HK.out.1, hrow'⟩ (HR8.out.kept k3 fun z h => by rw [h]; exact HT8.out.bok))
    have d19 : (x1 == 19) = false := beq_eq_false_iff_ne.2 c19
    have C19 := hidP c19
    clear c19
    have HS7 : Hid (R = ((mustP s.data.toList 41).bind fun _ => Pr.pure (x1, (⟨0, 0, 0, []⟩ : TP))) (a2, g2)) := by show R = _; rw [HS2.out]; exact Pr.bind_ok (by unfold innP; rw [if_neg C14.out, if_neg (fun h => h.elim C15.out C20.out), if_neg C16.out, if_neg C17.out, if_neg C18.out, if_neg C19.out]; rfl)
    go_wp2_with (go_at_call 91; refine Hid.out ?_)
    unfold Hid
    (try clear w0 w1)
    have hq := HM41.out _ _ _ HR2.out (by have := HR2.out.pos; omega)
    rcases hr : mustP s.data.toList 41 (a2, g2) with o | q
    · rw [hr] at hq
      refine Calls.mono hq ?_
      rintro e' U ⟨hk, rfl⟩
      have HGe := hidP (HG2.out.tr hk)
      have HE : Hid (R = .error o) := by show R = _; rw [HS7.out]; exact Pr.bind_err hr
      clear hk hq hr
      go_wp2_with fail
      exact ⟨rfl, PnQ.err HGe.out HE.out⟩
    obtain ⟨x8, a8, g8⟩ := q
    rw [hr] at hq
    refine Calls.mono hq ?_
    rintro e' U8 ⟨hk, v, rfl, rfl, hR⟩
    have Hr8 := hidP hr
    have hl8 : a0 ≤ a8 := Nat.le_trans hl2 (fw_must _ _ _ _ _ hr).1
    have HT8 := hidP (HT2.out.kpn hk)
    have HG8 := hidP (HG2.out.tr hk)
    have HR8 := hidP hR
    have HS8 : Hid (R = .ok ((x1, ⟨0, 0, 0, []⟩), (a8, g8))) := by show R = _; rw [HS7.out]; exact Pr.bind_ok hr
    clear hk hq hr hR
    have u0 := frz HT8.out.rb 0
    have v0 : U8.cell? ⟨b, 0, none⟩ = some (.int .i64 0) := by simp [World.cell?, HT8.out.rb]
    have u1 := frz HT8.out.rb 1
    have v1 : U8.cell? ⟨b, 1, none⟩ = some (.int .i64 0) := by simp [World.cell?, HT8.out.rb]
    have u2 := frz HT8.out.rb 2
    have v2 : U8.cell? ⟨b, 2, none⟩ = some (.int .i64 0) := by simp [World.cell?, HT8.out.rb]
    have u3 := frz HT8.out.rb 3
    have v3 : U8.cell? ⟨b, 3, none⟩ = some (.int .i64 0) := by simp [World.cell?, HT8.out.rb]
    have u4 := frz HT8.out.rb 4
    have v4 : U8.cell? ⟨b, 4, none⟩ = some (.slice none 0 0) := by simp [World.cell?, HT8.out.rb]
    have s0 : U8.cell? ⟨c, 0, none⟩ = some (.int .i64 x1) := by simp [World.cell?, HT8.out.tb]
    have s1 : U8.cell? ⟨c, 1, none⟩ = some (.int .i64 0) := by simp [World.cell?, HT8.out.tb]
    have s2 : U8.cell? ⟨c, 2, none⟩ = some (.int .i64 0) := by simp [World.cell?, HT8.out.tb]
    have s3 : U8.cell? ⟨c, 3, none⟩ = some (.int .i64 0) := by simp [World.cell?, HT8.out.tb]
    have s4 : U8.cell? ⟨c, 4, none⟩ = some (.slice none 0 0) := by simp [World.cell?, HT8.out.tb]
    have hcb : ¬ c = b := by have := HT8.out.lt; omega
    have hbc : ¬ b = c := by have := HT8.out.lt; omega
    go_wp2_with fail
    have hb3 := put5_box (.int .i64 x1) (.int .i64 0) (.int .i64 0) (.int .i64 0) (.slice none 0 0) HT8.out.rb
    have k3 := put5_keeps U8 b (.int .i64 x1) (.int .i64 0) (.int .i64 0) (.int .i64 0) (.slice none 0 0)
    have kW : KpN W _ p := HG8.out.trans k3 fun z hz h => by have := HT8.out.lt; omega
    have hE : R = .ok ((x1, ⟨0, 0, 0, []⟩), (a8, g8)) := HS8.out
    (try simp only [Exit.inBlock, Exit.then])
    exact bodyPost_ret (results_cell39 rfl rfl hb3 (by kernel_rfl)) rfl (PnQ.ok kW hE ⟨none, 0, rfl, (Nat.zero_le _), (by exact ⟨by simp [big], fun h => absurd rfl h⟩)⟩ (HR8.out.kept k3 fun z h => by rw [h]; exact HT8.out.bok))
  rw [decide_eq_false h14] at HBr
  have HS1b : Hid (R = .ok ((x1, ⟨0, 0, 0, []⟩), (a1, g1))) := by show R = _; rw [HS1.out, if_pos (by omega)]; rfl
  clear h14 HS1
  obtain ⟨U1', hU1'⟩ : ∃ U', U' = V2 := ⟨_, rfl⟩
  clear hU1' U1'
  go_wp2_with (go_at_call 90; rw [HV2.out, ← Hc.out]; refine Hid.out ?_)
  unfold Hid
  refine Calls.mono (HBr.out _) ?_
  rintro e U8 ⟨rfl, hU8⟩
  rw [hU8]
  clear hU8 U8
  have HT8 := HT1
  have HG8 := HG1
  have HR8 := HR1
  have u0 := frz HT8.out.rb 0
  have v0 : V2.cell? ⟨b, 0, none⟩ = some (.int .i64 0) := by simp [World.cell?, HT8.out.rb]
  have u1 := frz HT8.out.rb 1
  have v1 : V2.cell? ⟨b, 1, none⟩ = some (.int .i64 0) := by simp [World.cell?, HT8.out.rb]
  have u2 := frz HT8.out.rb 2
  have v2 : V2.cell? ⟨b, 2, none⟩ = some (.int .i64 0) := by simp [World.cell?, HT8.out.rb]
  have u3 := frz HT8.out.rb 3
  have v3 : V2.cell? ⟨b, 3, none⟩ = some (.int .i64 0) := by simp [World.cell?, HT8.out.rb]
  have u4 := frz HT8.out.rb 4
  have v4 : V2.cell? ⟨b, 4, none⟩ = some (.slice none 0 0) := by simp [World.cell?, HT8.out.rb]
  have s0 : V2.cell? ⟨c, 0, none⟩ = some (.int .i64 x1) := by simp [World.cell?, HT8.out.tb]
  have s1 : V2.cell? ⟨c, 1, none⟩ = some (.int .i64 0) := by simp [World.cell?, HT8.out.tb]
  have s2 : V2.cell? ⟨c, 2, none⟩ = some (.int .i64 0) := by simp [World.cell?, HT8.out.tb]
  have s3 : V2.cell? ⟨c, 3, none⟩ = some (.int .i64 0) := by simp [World.cell?, HT8.out.tb]
  have s4 : V2.cell? ⟨c, 4, none⟩ = some (.slice none 0 0) := by simp [World.cell?, HT8.out.tb]
  have hcb : ¬ c = b := by have := HT8.out.lt; omega
  have hbc : ¬ b = c := by have := HT8.out.lt; omega
  go_wp2_with fail
  have hb3 := put5_box (.int .i64 x1) (.int .i64 0) (.int .i64 0) (.int .i64 0) (.slice none 0 0) HT8.out.rb
  have k3 := put5_keeps V2 b (.int .i64 x1) (.int .i64 0) (.int .i64 0) (.int .i64 0) (.slice none 0 0)
  have kW : KpN W _ p := HG8.out.trans k3 fun z hz h => by have := HT8.out.lt; omega
  have hE : R = .ok ((x1, ⟨0, 0, 0, []⟩), (a1, g1)) := HS1b.out
  (try simp only [Exit.inBlock, Exit.then])
  exact bodyPost_ret (results_cell39 rfl rfl hb3 (by kernel_rfl)) rfl (PnQ.ok kW hE ⟨none, 0, rfl, (Nat.zero_le _), (by exact ⟨by simp [big], fun h => absurd rfl h⟩)⟩ (HR8.out.kept k3 fun z h => by rw [h]; exact HT8.out.bok))
end Go.Proofs.YtkodgneneiledaaGreatDoor.Kit
