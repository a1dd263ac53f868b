import Derived.Test.YtkodgneneiledaaGreatDoorYK
set_option maxRecDepth 100000
set_option maxHeartbeats 4000000
namespace Go.Proofs.YtkodgneneiledaaGreatDoor.Kit
open Go.RowKit Go.Shelf Go.Deep
set_option linter.unusedVariables false
attribute [local go_sem] run_store_func
theorem inner64_14 (p : Nat) (s : ByteArray) (d : Nat) (r : Pr FT) (hf : ∀ s0 x s1, r s0 = .ok (x, s1) → s0.1 < s1.1) (h35 : CmC p s d 35 #[.pointer (some ⟨p, 0, none⟩)] r (FV p d) XF) (h25 : ∀ nn, CmC p s d 25 #[.pointer (some ⟨p, 0, none⟩), .bool nn] (fldsP s.data.toList r nn) (LV p d) XL) : DnC p s d 64 #[.pointer (some ⟨p, 0, none⟩), .int .i64 14] (inrP s.data.toList r 14) (fun W w' t v => TV p (d + 1) W w' (14, t) v) XT := by
  intro W a0 g0 hN hd
  obtain ⟨R, hRes⟩ : ∃ R, R = inrP s.data.toList r 14 (a0, g0) := ⟨_, rfl⟩
  rw [← hRes]
  rw [inr14, bp_start] at hRes
  have HR0 := hidP hRes
  obtain ⟨V0, hV0⟩ : ∃ V0, (W.alloc (.cells #[.int .i64 0, .int .i64 0, .int .i64 0, .int .i64 0, .slice none 0 0] 35)).alloc (.cells #[.int .i64 14, .int .i64 0, .int .i64 0, .int .i64 0, .slice none 0 0] 35) = V0 := ⟨_, rfl⟩
  have g1' : Gr W (W.alloc (.cells #[.int .i64 0, .int .i64 0, .int .i64 0, .int .i64 0, .slice none 0 0] 35)) := gr_alloc W _
  have g2' : Gr (W.alloc (.cells #[.int .i64 0, .int .i64 0, .int .i64 0, .int .i64 0, .slice none 0 0] 35)) V0 := by rw [← hV0]; exact gr_alloc _ _
  have g0' : Gr W V0 := g1'.trans g2' (fun _ _ h => h)
  have hs1 : (W.alloc (.cells #[.int .i64 0, .int .i64 0, .int .i64 0, .int .i64 0, .slice none 0 0] 35)).heap.size = W.heap.size + 1 := by simp
  have hct : V0.heap[W.heap.size + 1]? = some (.cells #[.int .i64 14, .int .i64 0, .int .i64 0, .int .i64 0, .slice none 0 0] 35 (0, 0)) := by have := heap_alloc_new (W.alloc (.cells #[.int .i64 0, .int .i64 0, .int .i64 0, .int .i64 0, .slice none 0 0] 35)) (.cells #[.int .i64 14, .int .i64 0, .int .i64 0, .int .i64 0, .slice none 0 0] 35); rw [hs1, hV0] at this; exact this
  have HI : Hid (IS W V0 p s W.heap.size (W.heap.size + 1) (.ok (a0, g0)) 14 0 0 0 (.slice none 0 0)) := ⟨⟨(g2'.block _ (by omega) id).trans (heap_alloc_new W _), hct, Nat.le_refl _, by omega, hN.lt⟩, Gr.n p g0', hN.gr g0'⟩
  have HGe : Hid (Ge a0 (.ok (a0, g0))) := fun st e => by cases e; exact Nat.le_refl _
  have HV := hidP hV0
  have HLt := hidP hN.lt
  have H35 := hidP h35
  have HM40 := hidP (cm_of (must95 p s (s.size + 1) 40 (by unfold signB; decide)) (must95_dead p s _))
  have HM41 := hidP (cm_of (must95 p s (s.size + 1) 41 (by unfold signB; decide)) (must95_dead p s _))
  have HM44 := hidP (cm_of (must95 p s (s.size + 1) 44 (by unfold signB; decide)) (must95_dead p s _))
  have HNu := hidP (cm_of (number96 p s (s.size + 1)) (number96_dead p s))
  obtain ⟨b, hb⟩ : ∃ b, b = W.heap.size := ⟨_, rfl⟩
  rw [← hb] at HI
  have HB := hidP hb
  obtain ⟨c, hc⟩ : ∃ c, c = b + 1 := ⟨_, rfl⟩
  rw [← hc] at HI
  have HC := hidP hc
  generalize hq0 : (Except.ok (a0, g0) : Except Nat Ps) = q0 at HI HR0 HGe
  have Hq0 := hidP hq0
  clear hRes hN g0' g1' g2' hs1 hV0 h35 hct hq0 hb hc
  go_enter Tryz.func64, Tryz.ntmps64
  go_wp2_with (go_at_call 95; refine Hid.out ?_)
  unfold Hid
  rw [HV.out, ← HB.out, ← HC.out]
  clear HV HB HC
  have hq := HM40.out V0 q0 HI.out.ds (fun st _ => by omega)
  refine Calls.mono hq ?_
  intro e U1 hp
  obtain ⟨rfl, hk, hD⟩ := unit_post hp
  have HI' := hidP (HI.out.call hk hD)
  have HGe' : Hid (Ge a0 (qs (bnd q0 (mustP s.data.toList 40)))) := HGe.out.bnd (fw_must _ _)
  clear HI hq hp hk hD HGe
  obtain ⟨y1, hy1⟩ : ∃ y, y = bnd q0 (mustP s.data.toList 40) := ⟨_, rfl⟩
  rw [← hy1] at HI' HGe' HR0
  have HI := HI'
  have HGe := HGe'; clear HGe'
  clear HI'
  have Hy1 := hidP hy1
  clear hy1
  have HR1 := hidP (HR0.out.trans (bp_step _ _ _))
  clear HR0
  go_wp2_with (go_at_call 96; refine Hid.out ?_)
  unfold Hid
  have hq := HNu.out U1 (qs y1) HI.out.ds (fun st _ => by omega)
  refine Calls.mono hq ?_
  intro e U2 hp
  obtain ⟨n2, rfl, hk, hD, hv2⟩ := int_post hp
  have HI' := hidP (HI.out.call hk hD)
  have HGe' : Hid (Ge a0 (qs (bnd (qs y1) (meanP s.data.toList numO)))) := HGe.out.bnd (fw_mean _ _)
  have Hv2 := hidP hv2
  clear HI HGe hq hp hk hD hv2
  have HRn := hidP (HR1.out.trans (bp_val _ Hv2.out))
  clear HR1 Hv2
  have HR1 := HRn
  clear HRn
  obtain ⟨y2, hy2⟩ : ∃ y, y = bnd (qs y1) (meanP s.data.toList numO) := ⟨_, rfl⟩
  rw [← hy2] at HI' HGe' HR1
  have HI := HI'
  have HGe := HGe'; clear HGe'
  clear HI'
  have Hy2 := hidP hy2
  clear hy2
  have w0 := frz HI.out.tb.tb 1
  have w1 : U2.cell? ⟨c, 1, none⟩ = some (.int .i64 0) := by simp [World.cell?, HI.out.tb.tb]
  have HI' := hidP (HI.out.set1 n2)
  clear HI
  have HR2 := hidP (HR1.out.trans (bp_step _ _ _))
  clear HR1
  go_wp2_with (go_at_call 95; refine Hid.out ?_)
  unfold Hid
  (try clear w0 w1)
  have HI := HI'
  clear HI'
  generalize (U2.setCell ⟨c, 1, none⟩ (.int .i64 n2)) = V2 at HI ⊢
  have hq := HM41.out V2 (qs y2) HI.out.ds (fun st _ => by omega)
  refine Calls.mono hq ?_
  intro e U3 hp
  obtain ⟨rfl, hk, hD⟩ := unit_post hp
  have HI' := hidP (HI.out.call hk hD)
  have HGe' : Hid (Ge a0 (qs (bnd (qs y2) (mustP s.data.toList 41)))) := HGe.out.bnd (fw_must _ _)
  clear HI hq hp hk hD HGe
  obtain ⟨y3, hy3⟩ : ∃ y, y = bnd (qs y2) (mustP s.data.toList 41) := ⟨_, rfl⟩
  rw [← hy3] at HI' HGe' HR2
  have HI := HI'
  have HGe := HGe'; clear HGe'
  clear HI'
  have Hy3 := hidP hy3
  clear hy3
  have u0 := frz HI.out.tb.rb 0
  have v0 : U3.cell? ⟨b, 0, none⟩ = some (.int .i64 0) := by simp [World.cell?, HI.out.tb.rb]
  have u1 := frz HI.out.tb.rb 1
  have v1 : U3.cell? ⟨b, 1, none⟩ = some (.int .i64 0) := by simp [World.cell?, HI.out.tb.rb]
  have u2 := frz HI.out.tb.rb 2
  have v2 : U3.cell? ⟨b, 2, none⟩ = some (.int .i64 0) := by simp [World.cell?, HI.out.tb.rb]
  have u3 := frz HI.out.tb.rb 3
  have v3 : U3.cell? ⟨b, 3, none⟩ = some (.int .i64 0) := by simp [World.cell?, HI.out.tb.rb]
  have u4 := frz HI.out.tb.rb 4
  have v4 : U3.cell? ⟨b, 4, none⟩ = some (.slice none 0 0) := by simp [World.cell?, HI.out.tb.rb]
  have s0 : U3.cell? ⟨c, 0, none⟩ = some (.int .i64 14) := by simp [World.cell?, HI.out.tb.tb]
  have s1 : U3.cell? ⟨c, 1, none⟩ = some (.int .i64 n2) := by simp [World.cell?, HI.out.tb.tb]
  have s2 : U3.cell? ⟨c, 2, none⟩ = some (.int .i64 0) := by simp [World.cell?, HI.out.tb.tb]
  have s3 : U3.cell? ⟨c, 3, none⟩ = some (.int .i64 0) := by simp [World.cell?, HI.out.tb.tb]
  have s4 : U3.cell? ⟨c, 4, none⟩ = some (.slice none 0 0) := by simp [World.cell?, HI.out.tb.tb]
  have hcb : ¬ c = b := by have := HI.out.tb.lt; omega
  have hbc : ¬ b = c := by have := HI.out.tb.lt; omega
  go_wp2_with fail
  have hb3 := put5_box (.int .i64 14) (.int .i64 n2) (.int .i64 0) (.int .i64 0) (.slice none 0 0) HI.out.tb.rb
  have k3 := put5_keeps U3 b (.int .i64 14) (.int .i64 n2) (.int .i64 0) (.int .i64 0) (.slice none 0 0)
  (try simp only [Exit.inBlock, Exit.then])
  exact bodyPost_ret (results_cell39 rfl rfl hb3 (by kernel_rfl)) rfl (inner_end HI.out HR2.out ⟨rfl, rfl, rfl⟩ (fun u st e => ⟨rfl, Nat.zero_le _, by simp [big], fun h => absurd rfl h⟩) k3)
theorem inner64_15 (p : Nat) (s : ByteArray) (d : Nat) (r : Pr FT) (hf : ∀ s0 x s1, r s0 = .ok (x, s1) → s0.1 < s1.1) (h35 : CmC p s d 35 #[.pointer (some ⟨p, 0, none⟩)] r (FV p d) XF) (h25 : ∀ nn, CmC p s d 25 #[.pointer (some ⟨p, 0, none⟩), .bool nn] (fldsP s.data.toList r nn) (LV p d) XL) : DnC p s d 64 #[.pointer (some ⟨p, 0, none⟩), .int .i64 15] (inrP s.data.toList r 15) (fun W w' t v => TV p (d + 1) W w' (15, t) v) XT := by
  intro W a0 g0 hN hd
  obtain ⟨R, hRes⟩ : ∃ R, R = inrP s.data.toList r 15 (a0, g0) := ⟨_, rfl⟩
  rw [← hRes]
  rw [inr15, bp_start] at hRes
  have HR0 := hidP hRes
  obtain ⟨V0, hV0⟩ : ∃ V0, (W.alloc (.cells #[.int .i64 0, .int .i64 0, .int .i64 0, .int .i64 0, .slice none 0 0] 35)).alloc (.cells #[.int .i64 15, .int .i64 0, .int .i64 0, .int .i64 0, .slice none 0 0] 35) = V0 := ⟨_, rfl⟩
  have g1' : Gr W (W.alloc (.cells #[.int .i64 0, .int .i64 0, .int .i64 0, .int .i64 0, .slice none 0 0] 35)) := gr_alloc W _
  have g2' : Gr (W.alloc (.cells #[.int .i64 0, .int .i64 0, .int .i64 0, .int .i64 0, .slice none 0 0] 35)) V0 := by rw [← hV0]; exact gr_alloc _ _
  have g0' : Gr W V0 := g1'.trans g2' (fun _ _ h => h)
  have hs1 : (W.alloc (.cells #[.int .i64 0, .int .i64 0, .int .i64 0, .int .i64 0, .slice none 0 0] 35)).heap.size = W.heap.size + 1 := by simp
  have hct : V0.heap[W.heap.size + 1]? = some (.cells #[.int .i64 15, .int .i64 0, .int .i64 0, .int .i64 0, .slice none 0 0] 35 (0, 0)) := by have := heap_alloc_new (W.alloc (.cells #[.int .i64 0, .int .i64 0, .int .i64 0, .int .i64 0, .slice none 0 0] 35)) (.cells #[.int .i64 15, .int .i64 0, .int .i64 0, .int .i64 0, .slice none 0 0] 35); rw [hs1, hV0] at this; exact this
  have HI : Hid (IS W V0 p s W.heap.size (W.heap.size + 1) (.ok (a0, g0)) 15 0 0 0 (.slice none 0 0)) := ⟨⟨(g2'.block _ (by omega) id).trans (heap_alloc_new W _), hct, Nat.le_refl _, by omega, hN.lt⟩, Gr.n p g0', hN.gr g0'⟩
  have HGe : Hid (Ge a0 (.ok (a0, g0))) := fun st e => by cases e; exact Nat.le_refl _
  have HV := hidP hV0
  have HLt := hidP hN.lt
  have H35 := hidP h35
  have HM40 := hidP (cm_of (must95 p s (s.size + 1) 40 (by unfold signB; decide)) (must95_dead p s _))
  have HM41 := hidP (cm_of (must95 p s (s.size + 1) 41 (by unfold signB; decide)) (must95_dead p s _))
  have HM44 := hidP (cm_of (must95 p s (s.size + 1) 44 (by unfold signB; decide)) (must95_dead p s _))
  obtain ⟨b, hb⟩ : ∃ b, b = W.heap.size := ⟨_, rfl⟩
  rw [← hb] at HI
  have HB := hidP hb
  obtain ⟨c, hc⟩ : ∃ c, c = b + 1 := ⟨_, rfl⟩
  rw [← hc] at HI
  have HC := hidP hc
  generalize hq0 : (Except.ok (a0, g0) : Except Nat Ps) = q0 at HI HR0 HGe
  have Hq0 := hidP hq0
  clear hRes hN g0' g1' g2' hs1 hV0 h35 hct hq0 hb hc
  go_enter Tryz.func64, Tryz.ntmps64
  go_wp2_with (go_at_call 95; refine Hid.out ?_)
  unfold Hid
  rw [HV.out, ← HB.out, ← HC.out]
  clear HV HB HC
  have hq := HM40.out V0 q0 HI.out.ds (fun st _ => by omega)
  refine Calls.mono hq ?_
  intro e U1 hp
  obtain ⟨rfl, hk, hD⟩ := unit_post hp
  have HI' := hidP (HI.out.call hk hD)
  have HGe' : Hid (Ge a0 (qs (bnd q0 (mustP s.data.toList 40)))) := HGe.out.bnd (fw_must _ _)
  clear HI hq hp hk hD HGe
  obtain ⟨y1, hy1⟩ : ∃ y, y = bnd q0 (mustP s.data.toList 40) := ⟨_, rfl⟩
  rw [← hy1] at HI' HGe' HR0
  have HI := HI'
  have HGe := HGe'; clear HGe'
  clear HI'
  have Hy1 := hidP hy1
  clear hy1
  have HR1 := hidP (HR0.out.trans (bp_step _ _ _))
  clear HR0
  go_wp2_with (go_at_call 35; refine Hid.out ?_)
  unfold Hid
  (try clear w0 w1)
  have hq := H35.out U1 (qs y1) HI.out.ds (fun st e => by have := HGe.out st e; omega)
  refine Calls.mono hq ?_
  intro e U2 hp
  obtain ⟨x, ko, kc, rfl, hk, hD, hrow⟩ := one_post hp
  have HI' := hidP ((HI.out.call hk hD).gr (gr_alloc U2 (.cells #[Value.string x.name, .bool x.nul, .int .i64 x.kind, .int .i64 x.width, .int .i64 x.id, .int .i64 x.index, .slice ko x.kids.length kc] 37)))
  have HVp : Hid (p < U1.heap.size) := HI.out.ds.lt
  have HVb : Hid (b < U1.heap.size ∧ c < U1.heap.size) := ⟨lt_of_heap HI.out.tb.rb, lt_of_heap HI.out.tb.tb⟩
  have HVw : Hid (W.heap.size ≤ U1.heap.size) := HI.out.kp.size
  have HRow := hidP hrow
  clear HI HGe hq hp hk hD hrow
  have HRn := hidP (HR1.out.trans (bp_val _ lOf_ok))
  clear HR1
  have HR1 := HRn
  clear HRn
  obtain ⟨y2, hy2⟩ : ∃ y, y = bnd (qs y1) (oneP r) := ⟨_, rfl⟩
  rw [← hy2] at HI' HR1
  rw [← hy2] at HRow
  have HI := HI'
  clear HI'
  have Hy2 := hidP hy2
  clear hy2
  have w0 : (U2.alloc (.cells #[Value.string x.name, .bool x.nul, .int .i64 x.kind, .int .i64 x.width, .int .i64 x.id, .int .i64 x.index, .slice ko x.kids.length kc] 37)).frozen? ⟨c, 4, none⟩ = false := frz HI.out.tb.tb 4
  have w1 : (U2.alloc (.cells #[Value.string x.name, .bool x.nul, .int .i64 x.kind, .int .i64 x.width, .int .i64 x.id, .int .i64 x.index, .slice ko x.kids.length kc] 37)).cell? ⟨c, 4, none⟩ = some (.slice none 0 0) := by simp [World.cell?, HI.out.tb.tb]
  obtain ⟨go, hgo⟩ : ∃ go : Option Addr, go = some ⟨U2.heap.size, 0, none⟩ := ⟨_, rfl⟩
  have Hgo := hidP hgo
  rw [← hgo] at HRow
  obtain ⟨A, hA⟩ : ∃ A, A = U2.alloc (.cells #[Value.string x.name, .bool x.nul, .int .i64 x.kind, .int .i64 x.width, .int .i64 x.id, .int .i64 x.index, .slice ko x.kids.length kc] 37) := ⟨_, rfl⟩
  rw [← hA] at HI HRow
  have HA := hidP hA
  clear hA hgo
  have HI' := hidP (HI.out.set4 (.slice go 1 1))
  have HRow' := hidP (HRow.out.set (IS.kS (c := c) (i := 4) (v := .slice go 1 1)) HVb.out.2)
  clear HI HRow
  have HRow := HRow'
  clear HRow'
  have HR2 := hidP (HR1.out.trans (bp_step _ _ _))
  clear HR1
  go_wp2_with (go_at_call 95; refine Hid.out ?_)
  unfold Hid
  (try clear w0 w1)
  rw [← Hgo.out, ← HA.out]
  clear HA Hgo
  have HI := HI'
  clear HI'
  generalize (A.setCell ⟨c, 4, none⟩ (.slice go 1 1)) = V2 at HI HRow ⊢
  have hq := HM41.out V2 (qs y2) HI.out.ds (fun st _ => by omega)
  refine Calls.mono hq ?_
  intro e U3 hp
  obtain ⟨rfl, hk, hD⟩ := unit_post hp
  have HI' := hidP (HI.out.call hk hD)
  have HRow' := hidP (HRow.out.kp hk HVp.out)
  clear HRow
  have HRow := HRow'
  clear HRow'
  clear HI hq hp hk hD
  obtain ⟨y3, hy3⟩ : ∃ y, y = bnd (qs y2) (mustP s.data.toList 41) := ⟨_, rfl⟩
  rw [← hy3] at HI' HR2
  have HI := HI'
  clear HI'
  have Hy3 := hidP hy3
  clear hy3
  have u0 := frz HI.out.tb.rb 0
  have v0 : U3.cell? ⟨b, 0, none⟩ = some (.int .i64 0) := by simp [World.cell?, HI.out.tb.rb]
  have u1 := frz HI.out.tb.rb 1
  have v1 : U3.cell? ⟨b, 1, none⟩ = some (.int .i64 0) := by simp [World.cell?, HI.out.tb.rb]
  have u2 := frz HI.out.tb.rb 2
  have v2 : U3.cell? ⟨b, 2, none⟩ = some (.int .i64 0) := by simp [World.cell?, HI.out.tb.rb]
  have u3 := frz HI.out.tb.rb 3
  have v3 : U3.cell? ⟨b, 3, none⟩ = some (.int .i64 0) := by simp [World.cell?, HI.out.tb.rb]
  have u4 := frz HI.out.tb.rb 4
  have v4 : U3.cell? ⟨b, 4, none⟩ = some (.slice none 0 0) := by simp [World.cell?, HI.out.tb.rb]
  have s0 : U3.cell? ⟨c, 0, none⟩ = some (.int .i64 15) := by simp [World.cell?, HI.out.tb.tb]
  have s1 : U3.cell? ⟨c, 1, none⟩ = some (.int .i64 0) := by simp [World.cell?, HI.out.tb.tb]
  have s2 : U3.cell? ⟨c, 2, none⟩ = some (.int .i64 0) := by simp [World.cell?, HI.out.tb.tb]
  have s3 : U3.cell? ⟨c, 3, none⟩ = some (.int .i64 0) := by simp [World.cell?, HI.out.tb.tb]
  have s4 : U3.cell? ⟨c, 4, none⟩ = some (.slice go 1 1) := by simp [World.cell?, HI.out.tb.tb]
  have hcb : ¬ c = b := by have := HI.out.tb.lt; omega
  have hbc : ¬ b = c := by have := HI.out.tb.lt; omega
  go_wp2_with fail
  have hb3 := put5_box (.int .i64 15) (.int .i64 0) (.int .i64 0) (.int .i64 0) (.slice go 1 1) HI.out.tb.rb
  have k3 := put5_keeps U3 b (.int .i64 15) (.int .i64 0) (.int .i64 0) (.int .i64 0) (.slice go 1 1)
  (try simp only [Exit.inBlock, Exit.then])
  exact bodyPost_ret (results_cell39 rfl rfl hb3 (by kernel_rfl)) rfl (inner_end HI.out HR2.out ⟨rfl, rfl, rfl⟩ (fun u st e => by obtain ⟨l, st2, e2⟩ := bnd_from (Hy3.out.symm.trans e); have hh := HRow.out.set k3 HVb.out.1 l st2 e2; rw [lOf_ok l st2 e2] at hh; exact ⟨hh.1, hh.2.1, hh.2.2.low HVw.out⟩) k3)
theorem inner64_16 (p : Nat) (s : ByteArray) (d : Nat) (r : Pr FT) (hf : ∀ s0 x s1, r s0 = .ok (x, s1) → s0.1 < s1.1) (h35 : CmC p s d 35 #[.pointer (some ⟨p, 0, none⟩)] r (FV p d) XF) (h25 : ∀ nn, CmC p s d 25 #[.pointer (some ⟨p, 0, none⟩), .bool nn] (fldsP s.data.toList r nn) (LV p d) XL) : DnC p s d 64 #[.pointer (some ⟨p, 0, none⟩), .int .i64 16] (inrP s.data.toList r 16) (fun W w' t v => TV p (d + 1) W w' (16, t) v) XT := by
  intro W a0 g0 hN hd
  obtain ⟨R, hRes⟩ : ∃ R, R = inrP s.data.toList r 16 (a0, g0) := ⟨_, rfl⟩
  rw [← hRes]
  rw [inr16, bp_start] at hRes
  have HR0 := hidP hRes
  obtain ⟨V0, hV0⟩ : ∃ V0, (W.alloc (.cells #[.int .i64 0, .int .i64 0, .int .i64 0, .int .i64 0, .slice none 0 0] 35)).alloc (.cells #[.int .i64 16, .int .i64 0, .int .i64 0, .int .i64 0, .slice none 0 0] 35) = V0 := ⟨_, rfl⟩
  have g1' : Gr W (W.alloc (.cells #[.int .i64 0, .int .i64 0, .int .i64 0, .int .i64 0, .slice none 0 0] 35)) := gr_alloc W _
  have g2' : Gr (W.alloc (.cells #[.int .i64 0, .int .i64 0, .int .i64 0, .int .i64 0, .slice none 0 0] 35)) V0 := by rw [← hV0]; exact gr_alloc _ _
  have g0' : Gr W V0 := g1'.trans g2' (fun _ _ h => h)
  have hs1 : (W.alloc (.cells #[.int .i64 0, .int .i64 0, .int .i64 0, .int .i64 0, .slice none 0 0] 35)).heap.size = W.heap.size + 1 := by simp
  have hct : V0.heap[W.heap.size + 1]? = some (.cells #[.int .i64 16, .int .i64 0, .int .i64 0, .int .i64 0, .slice none 0 0] 35 (0, 0)) := by have := heap_alloc_new (W.alloc (.cells #[.int .i64 0, .int .i64 0, .int .i64 0, .int .i64 0, .slice none 0 0] 35)) (.cells #[.int .i64 16, .int .i64 0, .int .i64 0, .int .i64 0, .slice none 0 0] 35); rw [hs1, hV0] at this; exact this
  have HI : Hid (IS W V0 p s W.heap.size (W.heap.size + 1) (.ok (a0, g0)) 16 0 0 0 (.slice none 0 0)) := ⟨⟨(g2'.block _ (by omega) id).trans (heap_alloc_new W _), hct, Nat.le_refl _, by omega, hN.lt⟩, Gr.n p g0', hN.gr g0'⟩
  have HGe : Hid (Ge a0 (.ok (a0, g0))) := fun st e => by cases e; exact Nat.le_refl _
  have HV := hidP hV0
  have HLt := hidP hN.lt
  have H35 := hidP h35
  have HM40 := hidP (cm_of (must95 p s (s.size + 1) 40 (by unfold signB; decide)) (must95_dead p s _))
  have HM41 := hidP (cm_of (must95 p s (s.size + 1) 41 (by unfold signB; decide)) (must95_dead p s _))
  have HM44 := hidP (cm_of (must95 p s (s.size + 1) 44 (by unfold signB; decide)) (must95_dead p s _))
  have HNu := hidP (cm_of (number96 p s (s.size + 1)) (number96_dead p s))
  obtain ⟨b, hb⟩ : ∃ b, b = W.heap.size := ⟨_, rfl⟩
  rw [← hb] at HI
  have HB := hidP hb
  obtain ⟨c, hc⟩ : ∃ c, c = b + 1 := ⟨_, rfl⟩
  rw [← hc] at HI
  have HC := hidP hc
  generalize hq0 : (Except.ok (a0, g0) : Except Nat Ps) = q0 at HI HR0 HGe
  have Hq0 := hidP hq0
  clear hRes hN g0' g1' g2' hs1 hV0 h35 hct hq0 hb hc
  go_enter Tryz.func64, Tryz.ntmps64
  go_wp2_with (go_at_call 95; refine Hid.out ?_)
  unfold Hid
  rw [HV.out, ← HB.out, ← HC.out]
  clear HV HB HC
  have hq := HM40.out V0 q0 HI.out.ds (fun st _ => by omega)
  refine Calls.mono hq ?_
  intro e U1 hp
  obtain ⟨rfl, hk, hD⟩ := unit_post hp
  have HI' := hidP (HI.out.call hk hD)
  have HGe' : Hid (Ge a0 (qs (bnd q0 (mustP s.data.toList 40)))) := HGe.out.bnd (fw_must _ _)
  clear HI hq hp hk hD HGe
  obtain ⟨y1, hy1⟩ : ∃ y, y = bnd q0 (mustP s.data.toList 40) := ⟨_, rfl⟩
  rw [← hy1] at HI' HGe' HR0
  have HI := HI'
  have HGe := HGe'; clear HGe'
  clear HI'
  have Hy1 := hidP hy1
  clear hy1
  have HR1 := hidP (HR0.out.trans (bp_step _ _ _))
  clear HR0
  go_wp2_with (go_at_call 96; refine Hid.out ?_)
  unfold Hid
  have hq := HNu.out U1 (qs y1) HI.out.ds (fun st _ => by omega)
  refine Calls.mono hq ?_
  intro e U2 hp
  obtain ⟨n2, rfl, hk, hD, hv2⟩ := int_post hp
  have HI' := hidP (HI.out.call hk hD)
  have HGe' : Hid (Ge a0 (qs (bnd (qs y1) (meanP s.data.toList numO)))) := HGe.out.bnd (fw_mean _ _)
  have Hv2 := hidP hv2
  clear HI HGe hq hp hk hD hv2
  have HRn := hidP (HR1.out.trans (bp_val _ Hv2.out))
  clear HR1 Hv2
  have HR1 := HRn
  clear HRn
  obtain ⟨y2, hy2⟩ : ∃ y, y = bnd (qs y1) (meanP s.data.toList numO) := ⟨_, rfl⟩
  rw [← hy2] at HI' HGe' HR1
  have HI := HI'
  have HGe := HGe'; clear HGe'
  clear HI'
  have Hy2 := hidP hy2
  clear hy2
  have w0 := frz HI.out.tb.tb 1
  have w1 : U2.cell? ⟨c, 1, none⟩ = some (.int .i64 0) := by simp [World.cell?, HI.out.tb.tb]
  have HI' := hidP (HI.out.set1 n2)
  clear HI
  have HR2 := hidP (HR1.out.trans (bp_step _ _ _))
  clear HR1
  go_wp2_with (go_at_call 95; refine Hid.out ?_)
  unfold Hid
  (try clear w0 w1)
  have HI := HI'
  clear HI'
  generalize (U2.setCell ⟨c, 1, none⟩ (.int .i64 n2)) = V2 at HI ⊢
  have hq := HM44.out V2 (qs y2) HI.out.ds (fun st _ => by omega)
  refine Calls.mono hq ?_
  intro e U3 hp
  obtain ⟨rfl, hk, hD⟩ := unit_post hp
  have HI' := hidP (HI.out.call hk hD)
  have HGe' : Hid (Ge a0 (qs (bnd (qs y2) (mustP s.data.toList 44)))) := HGe.out.bnd (fw_must _ _)
  clear HI hq hp hk hD HGe
  obtain ⟨y3, hy3⟩ : ∃ y, y = bnd (qs y2) (mustP s.data.toList 44) := ⟨_, rfl⟩
  rw [← hy3] at HI' HGe' HR2
  have HI := HI'
  have HGe := HGe'; clear HGe'
  clear HI'
  have Hy3 := hidP hy3
  clear hy3
  have HR3 := hidP (HR2.out.trans (bp_step _ _ _))
  clear HR2
  go_wp2_with (go_at_call 35; refine Hid.out ?_)
  unfold Hid
  (try clear w0 w1)
  have hq := H35.out U3 (qs y3) HI.out.ds (fun st e => by have := HGe.out st e; omega)
  refine Calls.mono hq ?_
  intro e U4 hp
  obtain ⟨x, ko, kc, rfl, hk, hD, hrow⟩ := one_post hp
  have HI' := hidP ((HI.out.call hk hD).gr (gr_alloc U4 (.cells #[Value.string x.name, .bool x.nul, .int .i64 x.kind, .int .i64 x.width, .int .i64 x.id, .int .i64 x.index, .slice ko x.kids.length kc] 37)))
  have HVp : Hid (p < U3.heap.size) := HI.out.ds.lt
  have HVb : Hid (b < U3.heap.size ∧ c < U3.heap.size) := ⟨lt_of_heap HI.out.tb.rb, lt_of_heap HI.out.tb.tb⟩
  have HVw : Hid (W.heap.size ≤ U3.heap.size) := HI.out.kp.size
  have HRow := hidP hrow
  clear HI HGe hq hp hk hD hrow
  have HRn := hidP (HR3.out.trans (bp_val _ lOf_ok))
  clear HR3
  have HR3 := HRn
  clear HRn
  obtain ⟨y4, hy4⟩ : ∃ y, y = bnd (qs y3) (oneP r) := ⟨_, rfl⟩
  rw [← hy4] at HI' HR3
  rw [← hy4] at HRow
  have HI := HI'
  clear HI'
  have Hy4 := hidP hy4
  clear hy4
  have w0 : (U4.alloc (.cells #[Value.string x.name, .bool x.nul, .int .i64 x.kind, .int .i64 x.width, .int .i64 x.id, .int .i64 x.index, .slice ko x.kids.length kc] 37)).frozen? ⟨c, 4, none⟩ = false := frz HI.out.tb.tb 4
  have w1 : (U4.alloc (.cells #[Value.string x.name, .bool x.nul, .int .i64 x.kind, .int .i64 x.width, .int .i64 x.id, .int .i64 x.index, .slice ko x.kids.length kc] 37)).cell? ⟨c, 4, none⟩ = some (.slice none 0 0) := by simp [World.cell?, HI.out.tb.tb]
  obtain ⟨go, hgo⟩ : ∃ go : Option Addr, go = some ⟨U4.heap.size, 0, none⟩ := ⟨_, rfl⟩
  have Hgo := hidP hgo
  rw [← hgo] at HRow
  obtain ⟨A, hA⟩ : ∃ A, A = U4.alloc (.cells #[Value.string x.name, .bool x.nul, .int .i64 x.kind, .int .i64 x.width, .int .i64 x.id, .int .i64 x.index, .slice ko x.kids.length kc] 37) := ⟨_, rfl⟩
  rw [← hA] at HI HRow
  have HA := hidP hA
  clear hA hgo
  have HI' := hidP (HI.out.set4 (.slice go 1 1))
  have HRow' := hidP (HRow.out.set (IS.kS (c := c) (i := 4) (v := .slice go 1 1)) HVb.out.2)
  clear HI HRow
  have HRow := HRow'
  clear HRow'
  have HR4 := hidP (HR3.out.trans (bp_step _ _ _))
  clear HR3
  go_wp2_with (go_at_call 95; refine Hid.out ?_)
  unfold Hid
  (try clear w0 w1)
  rw [← Hgo.out, ← HA.out]
  clear HA Hgo
  have HI := HI'
  clear HI'
  generalize (A.setCell ⟨c, 4, none⟩ (.slice go 1 1)) = V4 at HI HRow ⊢
  have hq := HM41.out V4 (qs y4) HI.out.ds (fun st _ => by omega)
  refine Calls.mono hq ?_
  intro e U5 hp
  obtain ⟨rfl, hk, hD⟩ := unit_post hp
  have HI' := hidP (HI.out.call hk hD)
  have HRow' := hidP (HRow.out.kp hk HVp.out)
  clear HRow
  have HRow := HRow'
  clear HRow'
  clear HI hq hp hk hD
  obtain ⟨y5, hy5⟩ : ∃ y, y = bnd (qs y4) (mustP s.data.toList 41) := ⟨_, rfl⟩
  rw [← hy5] at HI' HR4
  have HI := HI'
  clear HI'
  have Hy5 := hidP hy5
  clear hy5
  have u0 := frz HI.out.tb.rb 0
  have v0 : U5.cell? ⟨b, 0, none⟩ = some (.int .i64 0) := by simp [World.cell?, HI.out.tb.rb]
  have u1 := frz HI.out.tb.rb 1
  have v1 : U5.cell? ⟨b, 1, none⟩ = some (.int .i64 0) := by simp [World.cell?, HI.out.tb.rb]
  have u2 := frz HI.out.tb.rb 2
  have v2 : U5.cell? ⟨b, 2, none⟩ = some (.int .i64 0) := by simp [World.cell?, HI.out.tb.rb]
  have u3 := frz HI.out.tb.rb 3
  have v3 : U5.cell? ⟨b, 3, none⟩ = some (.int .i64 0) := by simp [World.cell?, HI.out.tb.rb]
  have u4 := frz HI.out.tb.rb 4
  have v4 : U5.cell? ⟨b, 4, none⟩ = some (.slice none 0 0) := by simp [World.cell?, HI.out.tb.rb]
  have s0 : U5.cell? ⟨c, 0, none⟩ = some (.int .i64 16) := by simp [World.cell?, HI.out.tb.tb]
  have s1 : U5.cell? ⟨c, 1, none⟩ = some (.int .i64 n2) := by simp [World.cell?, HI.out.tb.tb]
  have s2 : U5.cell? ⟨c, 2, none⟩ = some (.int .i64 0) := by simp [World.cell?, HI.out.tb.tb]
  have s3 : U5.cell? ⟨c, 3, none⟩ = some (.int .i64 0) := by simp [World.cell?, HI.out.tb.tb]
  have s4 : U5.cell? ⟨c, 4, none⟩ = some (.slice go 1 1) := by simp [World.cell?, HI.out.tb.tb]
  have hcb : ¬ c = b := by have := HI.out.tb.lt; omega
  have hbc : ¬ b = c := by have := HI.out.tb.lt; omega
  go_wp2_with fail
  have hb3 := put5_box (.int .i64 16) (.int .i64 n2) (.int .i64 0) (.int .i64 0) (.slice go 1 1) HI.out.tb.rb
  have k3 := put5_keeps U5 b (.int .i64 16) (.int .i64 n2) (.int .i64 0) (.int .i64 0) (.slice go 1 1)
  (try simp only [Exit.inBlock, Exit.then])
  exact bodyPost_ret (results_cell39 rfl rfl hb3 (by kernel_rfl)) rfl (inner_end HI.out HR4.out ⟨rfl, rfl, rfl⟩ (fun u st e => by obtain ⟨l, st2, e2⟩ := bnd_from (Hy5.out.symm.trans e); have hh := HRow.out.set k3 HVb.out.1 l st2 e2; rw [lOf_ok l st2 e2] at hh; exact ⟨hh.1, hh.2.1, hh.2.2.low HVw.out⟩) k3)
theorem inner64_17 (p : Nat) (s : ByteArray) (d : Nat) (r : Pr FT) (hf : ∀ s0 x s1, r s0 = .ok (x, s1) → s0.1 < s1.1) (h35 : CmC p s d 35 #[.pointer (some ⟨p, 0, none⟩)] r (FV p d) XF) (h25 : ∀ nn, CmC p s d 25 #[.pointer (some ⟨p, 0, none⟩), .bool nn] (fldsP s.data.toList r nn) (LV p d) XL) : DnC p s d 64 #[.pointer (some ⟨p, 0, none⟩), .int .i64 17] (inrP s.data.toList r 17) (fun W w' t v => TV p (d + 1) W w' (17, t) v) XT := by
  intro W a0 g0 hN hd
  obtain ⟨R, hRes⟩ : ∃ R, R = inrP s.data.toList r 17 (a0, g0) := ⟨_, rfl⟩
  rw [← hRes]
  rw [inr17, bp_start] at hRes
  have HR0 := hidP hRes
  obtain ⟨V0, hV0⟩ : ∃ V0, (W.alloc (.cells #[.int .i64 0, .int .i64 0, .int .i64 0, .int .i64 0, .slice none 0 0] 35)).alloc (.cells #[.int .i64 17, .int .i64 0, .int .i64 0, .int .i64 0, .slice none 0 0] 35) = V0 := ⟨_, rfl⟩
  have g1' : Gr W (W.alloc (.cells #[.int .i64 0, .int .i64 0, .int .i64 0, .int .i64 0, .slice none 0 0] 35)) := gr_alloc W _
  have g2' : Gr (W.alloc (.cells #[.int .i64 0, .int .i64 0, .int .i64 0, .int .i64 0, .slice none 0 0] 35)) V0 := by rw [← hV0]; exact gr_alloc _ _
  have g0' : Gr W V0 := g1'.trans g2' (fun _ _ h => h)
  have hs1 : (W.alloc (.cells #[.int .i64 0, .int .i64 0, .int .i64 0, .int .i64 0, .slice none 0 0] 35)).heap.size = W.heap.size + 1 := by simp
  have hct : V0.heap[W.heap.size + 1]? = some (.cells #[.int .i64 17, .int .i64 0, .int .i64 0, .int .i64 0, .slice none 0 0] 35 (0, 0)) := by have := heap_alloc_new (W.alloc (.cells #[.int .i64 0, .int .i64 0, .int .i64 0, .int .i64 0, .slice none 0 0] 35)) (.cells #[.int .i64 17, .int .i64 0, .int .i64 0, .int .i64 0, .slice none 0 0] 35); rw [hs1, hV0] at this; exact this
  have HI : Hid (IS W V0 p s W.heap.size (W.heap.size + 1) (.ok (a0, g0)) 17 0 0 0 (.slice none 0 0)) := ⟨⟨(g2'.block _ (by omega) id).trans (heap_alloc_new W _), hct, Nat.le_refl _, by omega, hN.lt⟩, Gr.n p g0', hN.gr g0'⟩
  have HGe : Hid (Ge a0 (.ok (a0, g0))) := fun st e => by cases e; exact Nat.le_refl _
  have HV := hidP hV0
  have HLt := hidP hN.lt
  have H35 := hidP h35
  have H25 := hidP h25
  have HM40 := hidP (cm_of (must95 p s (s.size + 1) 40 (by unfold signB; decide)) (must95_dead p s _))
  have HM41 := hidP (cm_of (must95 p s (s.size + 1) 41 (by unfold signB; decide)) (must95_dead p s _))
  have HM44 := hidP (cm_of (must95 p s (s.size + 1) 44 (by unfold signB; decide)) (must95_dead p s _))
  obtain ⟨b, hb⟩ : ∃ b, b = W.heap.size := ⟨_, rfl⟩
  rw [← hb] at HI
  have HB := hidP hb
  obtain ⟨c, hc⟩ : ∃ c, c = b + 1 := ⟨_, rfl⟩
  rw [← hc] at HI
  have HC := hidP hc
  generalize hq0 : (Except.ok (a0, g0) : Except Nat Ps) = q0 at HI HR0 HGe
  have Hq0 := hidP hq0
  clear hRes hN g0' g1' g2' hs1 hV0 h35 hct hq0 hb hc h25
  go_enter Tryz.func64, Tryz.ntmps64
  go_wp2_with (go_at_call 95; refine Hid.out ?_)
  unfold Hid
  rw [HV.out, ← HB.out, ← HC.out]
  clear HV HB HC
  have hq := HM40.out V0 q0 HI.out.ds (fun st _ => by omega)
  refine Calls.mono hq ?_
  intro e U1 hp
  obtain ⟨rfl, hk, hD⟩ := unit_post hp
  have HI' := hidP (HI.out.call hk hD)
  have HGe' : Hid (Ge a0 (qs (bnd q0 (mustP s.data.toList 40)))) := HGe.out.bnd (fw_must _ _)
  clear HI hq hp hk hD HGe
  obtain ⟨y1, hy1⟩ : ∃ y, y = bnd q0 (mustP s.data.toList 40) := ⟨_, rfl⟩
  rw [← hy1] at HI' HGe' HR0
  have HI := HI'
  have HGe := HGe'; clear HGe'
  clear HI'
  have Hy1 := hidP hy1
  clear hy1
  have HR1 := hidP (HR0.out.trans (bp_step _ _ _))
  clear HR0
  go_wp2_with (go_at_call 25; refine Hid.out ?_)
  unfold Hid
  (try clear w0 w1)
  have hq := H25.out true U1 (qs y1) HI.out.ds (fun st e => by have := HGe.out st e; omega)
  refine Calls.mono hq ?_
  intro e U2 hp
  obtain ⟨ko, kn, kc, rfl, hk, hD, hrow⟩ := flds_post hp
  have HI' := hidP (HI.out.call hk hD)
  have HVp : Hid (p < U1.heap.size) := HI.out.ds.lt
  have HVb : Hid (b < U1.heap.size ∧ c < U1.heap.size) := ⟨lt_of_heap HI.out.tb.rb, lt_of_heap HI.out.tb.tb⟩
  have HVw : Hid (W.heap.size ≤ U1.heap.size) := HI.out.kp.size
  have HRow : Hid (RS p U1 U2 (d + 1) ko kn kc _) := hrow
  clear HI HGe hq hp hk hD hrow
  have HRn := hidP (HR1.out.trans (bp_val _ lOf_ok))
  clear HR1
  have HR1 := HRn
  clear HRn
  obtain ⟨y2, hy2⟩ : ∃ y, y = bnd (qs y1) (fldsP s.data.toList r true) := ⟨_, rfl⟩
  rw [← hy2] at HI' HR1
  rw [← hy2] at HRow
  have HI := HI'
  clear HI'
  have Hy2 := hidP hy2
  clear hy2
  have w0 := frz HI.out.tb.tb 4
  have w1 : U2.cell? ⟨c, 4, none⟩ = some (.slice none 0 0) := by simp [World.cell?, HI.out.tb.tb]
  have HI' := hidP (HI.out.set4 (.slice ko kn kc))
  have HRow' := hidP (HRow.out.set (IS.kS (c := c) (i := 4) (v := .slice ko kn kc)) HVb.out.2)
  clear HI HRow
  have HRow := HRow'
  clear HRow'
  have HR2 := hidP (HR1.out.trans (bp_step _ _ _))
  clear HR1
  go_wp2_with (go_at_call 95; refine Hid.out ?_)
  unfold Hid
  (try clear w0 w1)
  have HI := HI'
  clear HI'
  generalize (U2.setCell ⟨c, 4, none⟩ (.slice ko kn kc)) = V2 at HI HRow ⊢
  have hq := HM41.out V2 (qs y2) HI.out.ds (fun st _ => by omega)
  refine Calls.mono hq ?_
  intro e U3 hp
  obtain ⟨rfl, hk, hD⟩ := unit_post hp
  have HI' := hidP (HI.out.call hk hD)
  have HRow' := hidP (HRow.out.kp hk HVp.out)
  clear HRow
  have HRow := HRow'
  clear HRow'
  clear HI hq hp hk hD
  obtain ⟨y3, hy3⟩ : ∃ y, y = bnd (qs y2) (mustP s.data.toList 41) := ⟨_, rfl⟩
  rw [← hy3] at HI' HR2
  have HI := HI'
  clear HI'
  have Hy3 := hidP hy3
  clear hy3
  have u0 := frz HI.out.tb.rb 0
  have v0 : U3.cell? ⟨b, 0, none⟩ = some (.int .i64 0) := by simp [World.cell?, HI.out.tb.rb]
  have u1 := frz HI.out.tb.rb 1
  have v1 : U3.cell? ⟨b, 1, none⟩ = some (.int .i64 0) := by simp [World.cell?, HI.out.tb.rb]
  have u2 := frz HI.out.tb.rb 2
  have v2 : U3.cell? ⟨b, 2, none⟩ = some (.int .i64 0) := by simp [World.cell?, HI.out.tb.rb]
  have u3 := frz HI.out.tb.rb 3
  have v3 : U3.cell? ⟨b, 3, none⟩ = some (.int .i64 0) := by simp [World.cell?, HI.out.tb.rb]
  have u4 := frz HI.out.tb.rb 4
  have v4 : U3.cell? ⟨b, 4, none⟩ = some (.slice none 0 0) := by simp [World.cell?, HI.out.tb.rb]
  have s0 : U3.cell? ⟨c, 0, none⟩ = some (.int .i64 17) := by simp [World.cell?, HI.out.tb.tb]
  have s1 : U3.cell? ⟨c, 1, none⟩ = some (.int .i64 0) := by simp [World.cell?, HI.out.tb.tb]
  have s2 : U3.cell? ⟨c, 2, none⟩ = some (.int .i64 0) := by simp [World.cell?, HI.out.tb.tb]
  have s3 : U3.cell? ⟨c, 3, none⟩ = some (.int .i64 0) := by simp [World.cell?, HI.out.tb.tb]
  have s4 : U3.cell? ⟨c, 4, none⟩ = some (.slice ko kn kc) := by simp [World.cell?, HI.out.tb.tb]
  have hcb : ¬ c = b := by have := HI.out.tb.lt; omega
  have hbc : ¬ b = c := by have := HI.out.tb.lt; omega
  go_wp2_with fail
  have hb3 := put5_box (.int .i64 17) (.int .i64 0) (.int .i64 0) (.int .i64 0) (.slice ko kn kc) HI.out.tb.rb
  have k3 := put5_keeps U3 b (.int .i64 17) (.int .i64 0) (.int .i64 0) (.int .i64 0) (.slice ko kn kc)
  (try simp only [Exit.inBlock, Exit.then])
  exact bodyPost_ret (results_cell39 rfl rfl hb3 (by kernel_rfl)) rfl (inner_end HI.out HR2.out ⟨rfl, rfl, rfl⟩ (fun u st e => by obtain ⟨l, st2, e2⟩ := bnd_from (Hy3.out.symm.trans e); have hh := HRow.out.set k3 HVb.out.1 l st2 e2; rw [lOf_ok l st2 e2] at hh; exact ⟨hh.1, hh.2.1, hh.2.2.low HVw.out⟩) k3)
theorem inner64_18 (p : Nat) (s : ByteArray) (d : Nat) (r : Pr FT) (hf : ∀ s0 x s1, r s0 = .ok (x, s1) → s0.1 < s1.1) (h35 : CmC p s d 35 #[.pointer (some ⟨p, 0, none⟩)] r (FV p d) XF) (h25 : ∀ nn, CmC p s d 25 #[.pointer (some ⟨p, 0, none⟩), .bool nn] (fldsP s.data.toList r nn) (LV p d) XL) : DnC p s d 64 #[.pointer (some ⟨p, 0, none⟩), .int .i64 18] (inrP s.data.toList r 18) (fun W w' t v => TV p (d + 1) W w' (18, t) v) XT := by
  intro W a0 g0 hN hd
  obtain ⟨R, hRes⟩ : ∃ R, R = inrP s.data.toList r 18 (a0, g0) := ⟨_, rfl⟩
  rw [← hRes]
  rw [inr18, bp_start] at hRes
  have HR0 := hidP hRes
  obtain ⟨V0, hV0⟩ : ∃ V0, (W.alloc (.cells #[.int .i64 0, .int .i64 0, .int .i64 0, .int .i64 0, .slice none 0 0] 35)).alloc (.cells #[.int .i64 18, .int .i64 0, .int .i64 0, .int .i64 0, .slice none 0 0] 35) = V0 := ⟨_, rfl⟩
  have g1' : Gr W (W.alloc (.cells #[.int .i64 0, .int .i64 0, .int .i64 0, .int .i64 0, .slice none 0 0] 35)) := gr_alloc W _
  have g2' : Gr (W.alloc (.cells #[.int .i64 0, .int .i64 0, .int .i64 0, .int .i64 0, .slice none 0 0] 35)) V0 := by rw [← hV0]; exact gr_alloc _ _
  have g0' : Gr W V0 := g1'.trans g2' (fun _ _ h => h)
  have hs1 : (W.alloc (.cells #[.int .i64 0, .int .i64 0, .int .i64 0, .int .i64 0, .slice none 0 0] 35)).heap.size = W.heap.size + 1 := by simp
  have hct : V0.heap[W.heap.size + 1]? = some (.cells #[.int .i64 18, .int .i64 0, .int .i64 0, .int .i64 0, .slice none 0 0] 35 (0, 0)) := by have := heap_alloc_new (W.alloc (.cells #[.int .i64 0, .int .i64 0, .int .i64 0, .int .i64 0, .slice none 0 0] 35)) (.cells #[.int .i64 18, .int .i64 0, .int .i64 0, .int .i64 0, .slice none 0 0] 35); rw [hs1, hV0] at this; exact this
  have HI : Hid (IS W V0 p s W.heap.size (W.heap.size + 1) (.ok (a0, g0)) 18 0 0 0 (.slice none 0 0)) := ⟨⟨(g2'.block _ (by omega) id).trans (heap_alloc_new W _), hct, Nat.le_refl _, by omega, hN.lt⟩, Gr.n p g0', hN.gr g0'⟩
  have HGe : Hid (Ge a0 (.ok (a0, g0))) := fun st e => by cases e; exact Nat.le_refl _
  have HV := hidP hV0
  have HLt := hidP hN.lt
  have H35 := hidP h35
  have H25 := hidP h25
  have HM40 := hidP (cm_of (must95 p s (s.size + 1) 40 (by unfold signB; decide)) (must95_dead p s _))
  have HM41 := hidP (cm_of (must95 p s (s.size + 1) 41 (by unfold signB; decide)) (must95_dead p s _))
  have HM44 := hidP (cm_of (must95 p s (s.size + 1) 44 (by unfold signB; decide)) (must95_dead p s _))
  obtain ⟨b, hb⟩ : ∃ b, b = W.heap.size := ⟨_, rfl⟩
  rw [← hb] at HI
  have HB := hidP hb
  obtain ⟨c, hc⟩ : ∃ c, c = b + 1 := ⟨_, rfl⟩
  rw [← hc] at HI
  have HC := hidP hc
  generalize hq0 : (Except.ok (a0, g0) : Except Nat Ps) = q0 at HI HR0 HGe
  have Hq0 := hidP hq0
  clear hRes hN g0' g1' g2' hs1 hV0 h35 hct hq0 hb hc h25
  go_enter Tryz.func64, Tryz.ntmps64
  go_wp2_with (go_at_call 95; refine Hid.out ?_)
  unfold Hid
  rw [HV.out, ← HB.out, ← HC.out]
  clear HV HB HC
  have hq := HM40.out V0 q0 HI.out.ds (fun st _ => by omega)
  refine Calls.mono hq ?_
  intro e U1 hp
  obtain ⟨rfl, hk, hD⟩ := unit_post hp
  have HI' := hidP (HI.out.call hk hD)
  have HGe' : Hid (Ge a0 (qs (bnd q0 (mustP s.data.toList 40)))) := HGe.out.bnd (fw_must _ _)
  clear HI hq hp hk hD HGe
  obtain ⟨y1, hy1⟩ : ∃ y, y = bnd q0 (mustP s.data.toList 40) := ⟨_, rfl⟩
  rw [← hy1] at HI' HGe' HR0
  have HI := HI'
  have HGe := HGe'; clear HGe'
  clear HI'
  have Hy1 := hidP hy1
  clear hy1
  have HR1 := hidP (HR0.out.trans (bp_step _ _ _))
  clear HR0
  go_wp2_with (go_at_call 25; refine Hid.out ?_)
  unfold Hid
  (try clear w0 w1)
  have hq := H25.out false U1 (qs y1) HI.out.ds (fun st e => by have := HGe.out st e; omega)
  refine Calls.mono hq ?_
  intro e U2 hp
  obtain ⟨ko, kn, kc, rfl, hk, hD, hrow⟩ := flds_post hp
  have HI' := hidP (HI.out.call hk hD)
  have HVp : Hid (p < U1.heap.size) := HI.out.ds.lt
  have HVb : Hid (b < U1.heap.size ∧ c < U1.heap.size) := ⟨lt_of_heap HI.out.tb.rb, lt_of_heap HI.out.tb.tb⟩
  have HVw : Hid (W.heap.size ≤ U1.heap.size) := HI.out.kp.size
  have HRow : Hid (RS p U1 U2 (d + 1) ko kn kc _) := hrow
  clear HI HGe hq hp hk hD hrow
  have HRn := hidP (HR1.out.trans (bp_val _ lOf_ok))
  clear HR1
  have HR1 := HRn
  clear HRn
  obtain ⟨y2, hy2⟩ : ∃ y, y = bnd (qs y1) (fldsP s.data.toList r false) := ⟨_, rfl⟩
  rw [← hy2] at HI' HR1
  rw [← hy2] at HRow
  have HI := HI'
  clear HI'
  have Hy2 := hidP hy2
  clear hy2
  have w0 := frz HI.out.tb.tb 4
  have w1 : U2.cell? ⟨c, 4, none⟩ = some (.slice none 0 0) := by simp [World.cell?, HI.out.tb.tb]
  have HI' := hidP (HI.out.set4 (.slice ko kn kc))
  have HRow' := hidP (HRow.out.set (IS.kS (c := c) (i := 4) (v := .slice ko kn kc)) HVb.out.2)
  clear HI HRow
  have HRow := HRow'
  clear HRow'
  have HR2 := hidP (HR1.out.trans (bp_step _ _ _))
  clear HR1
  go_wp2_with (go_at_call 95; refine Hid.out ?_)
  unfold Hid
  (try clear w0 w1)
  have HI := HI'
  clear HI'
  generalize (U2.setCell ⟨c, 4, none⟩ (.slice ko kn kc)) = V2 at HI HRow ⊢
  have hq := HM41.out V2 (qs y2) HI.out.ds (fun st _ => by omega)
  refine Calls.mono hq ?_
  intro e U3 hp
  obtain ⟨rfl, hk, hD⟩ := unit_post hp
  have HI' := hidP (HI.out.call hk hD)
  have HRow' := hidP (HRow.out.kp hk HVp.out)
  clear HRow
  have HRow := HRow'
  clear HRow'
  clear HI hq hp hk hD
  obtain ⟨y3, hy3⟩ : ∃ y, y = bnd (qs y2) (mustP s.data.toList 41) := ⟨_, rfl⟩
  rw [← hy3] at HI' HR2
  have HI := HI'
  clear HI'
  have Hy3 := hidP hy3
  clear hy3
  have u0 := frz HI.out.tb.rb 0
  have v0 : U3.cell? ⟨b, 0, none⟩ = some (.int .i64 0) := by simp [World.cell?, HI.out.tb.rb]
  have u1 := frz HI.out.tb.rb 1
  have v1 : U3.cell? ⟨b, 1, none⟩ = some (.int .i64 0) := by simp [World.cell?, HI.out.tb.rb]
  have u2 := frz HI.out.tb.rb 2
  have v2 : U3.cell? ⟨b, 2, none⟩ = some (.int .i64 0) := by simp [World.cell?, HI.out.tb.rb]
  have u3 := frz HI.out.tb.rb 3
  have v3 : U3.cell? ⟨b, 3, none⟩ = some (.int .i64 0) := by simp [World.cell?, HI.out.tb.rb]
  have u4 := frz HI.out.tb.rb 4
  have v4 : U3.cell? ⟨b, 4, none⟩ = some (.slice none 0 0) := by simp [World.cell?, HI.out.tb.rb]
  have s0 : U3.cell? ⟨c, 0, none⟩ = some (.int .i64 18) := by simp [World.cell?, HI.out.tb.tb]
  have s1 : U3.cell? ⟨c, 1, none⟩ = some (.int .i64 0) := by simp [World.cell?, HI.out.tb.tb]
  have s2 : U3.cell? ⟨c, 2, none⟩ = some (.int .i64 0) := by simp [World.cell?, HI.out.tb.tb]
  have s3 : U3.cell? ⟨c, 3, none⟩ = some (.int .i64 0) := by simp [World.cell?, HI.out.tb.tb]
  have s4 : U3.cell? ⟨c, 4, none⟩ = some (.slice ko kn kc) := by simp [World.cell?, HI.out.tb.tb]
  have hcb : ¬ c = b := by have := HI.out.tb.lt; omega
  have hbc : ¬ b = c := by have := HI.out.tb.lt; omega
  go_wp2_with fail
  have hb3 := put5_box (.int .i64 18) (.int .i64 0) (.int .i64 0) (.int .i64 0) (.slice ko kn kc) HI.out.tb.rb
  have k3 := put5_keeps U3 b (.int .i64 18) (.int .i64 0) (.int .i64 0) (.int .i64 0) (.slice ko kn kc)
  (try simp only [Exit.inBlock, Exit.then])
  exact bodyPost_ret (results_cell39 rfl rfl hb3 (by kernel_rfl)) rfl (inner_end HI.out HR2.out ⟨rfl, rfl, rfl⟩ (fun u st e => by obtain ⟨l, st2, e2⟩ := bnd_from (Hy3.out.symm.trans e); have hh := HRow.out.set k3 HVb.out.1 l st2 e2; rw [lOf_ok l st2 e2] at hh; exact ⟨hh.1, hh.2.1, hh.2.2.low HVw.out⟩) k3)
theorem inner64_19 (p : Nat) (s : ByteArray) (d : Nat) (r : Pr FT) (hf : ∀ s0 x s1, r s0 = .ok (x, s1) → s0.1 < s1.1) (h35 : CmC p s d 35 #[.pointer (some ⟨p, 0, none⟩)] r (FV p d) XF) (h25 : ∀ nn, CmC p s d 25 #[.pointer (some ⟨p, 0, none⟩), .bool nn] (fldsP s.data.toList r nn) (LV p d) XL) : DnC p s d 64 #[.pointer (some ⟨p, 0, none⟩), .int .i64 19] (inrP s.data.toList r 19) (fun W w' t v => TV p (d + 1) W w' (19, t) v) XT := by
  intro W a0 g0 hN hd
  obtain ⟨R, hRes⟩ : ∃ R, R = inrP s.data.toList r 19 (a0, g0) := ⟨_, rfl⟩
  rw [← hRes]
  rw [inr19, bp_start] at hRes
  have HR0 := hidP hRes
  obtain ⟨V0, hV0⟩ : ∃ V0, (W.alloc (.cells #[.int .i64 0, .int .i64 0, .int .i64 0, .int .i64 0, .slice none 0 0] 35)).alloc (.cells #[.int .i64 19, .int .i64 0, .int .i64 0, .int .i64 0, .slice none 0 0] 35) = V0 := ⟨_, rfl⟩
  have g1' : Gr W (W.alloc (.cells #[.int .i64 0, .int .i64 0, .int .i64 0, .int .i64 0, .slice none 0 0] 35)) := gr_alloc W _
  have g2' : Gr (W.alloc (.cells #[.int .i64 0, .int .i64 0, .int .i64 0, .int .i64 0, .slice none 0 0] 35)) V0 := by rw [← hV0]; exact gr_alloc _ _
  have g0' : Gr W V0 := g1'.trans g2' (fun _ _ h => h)
  have hs1 : (W.alloc (.cells #[.int .i64 0, .int .i64 0, .int .i64 0, .int .i64 0, .slice none 0 0] 35)).heap.size = W.heap.size + 1 := by simp
  have hct : V0.heap[W.heap.size + 1]? = some (.cells #[.int .i64 19, .int .i64 0, .int .i64 0, .int .i64 0, .slice none 0 0] 35 (0, 0)) := by have := heap_alloc_new (W.alloc (.cells #[.int .i64 0, .int .i64 0, .int .i64 0, .int .i64 0, .slice none 0 0] 35)) (.cells #[.int .i64 19, .int .i64 0, .int .i64 0, .int .i64 0, .slice none 0 0] 35); rw [hs1, hV0] at this; exact this
  have HI : Hid (IS W V0 p s W.heap.size (W.heap.size + 1) (.ok (a0, g0)) 19 0 0 0 (.slice none 0 0)) := ⟨⟨(g2'.block _ (by omega) id).trans (heap_alloc_new W _), hct, Nat.le_refl _, by omega, hN.lt⟩, Gr.n p g0', hN.gr g0'⟩
  have HGe : Hid (Ge a0 (.ok (a0, g0))) := fun st e => by cases e; exact Nat.le_refl _
  have HV := hidP hV0
  have HLt := hidP hN.lt
  have H35 := hidP h35
  have HM40 := hidP (cm_of (must95 p s (s.size + 1) 40 (by unfold signB; decide)) (must95_dead p s _))
  have HM41 := hidP (cm_of (must95 p s (s.size + 1) 41 (by unfold signB; decide)) (must95_dead p s _))
  have HM44 := hidP (cm_of (must95 p s (s.size + 1) 44 (by unfold signB; decide)) (must95_dead p s _))
  have HNu := hidP (cm_of (number96 p s (s.size + 1)) (number96_dead p s))
  have HIx := hidP (index97 p s (s.size + 1))
  obtain ⟨b, hb⟩ : ∃ b, b = W.heap.size := ⟨_, rfl⟩
  rw [← hb] at HI
  have HB := hidP hb
  obtain ⟨c, hc⟩ : ∃ c, c = b + 1 := ⟨_, rfl⟩
  rw [← hc] at HI
  have HC := hidP hc
  generalize hq0 : (Except.ok (a0, g0) : Except Nat Ps) = q0 at HI HR0 HGe
  have Hq0 := hidP hq0
  clear hRes hN g0' g1' g2' hs1 hV0 h35 hct hq0 hb hc
  go_enter Tryz.func64, Tryz.ntmps64
  go_wp2_with (go_at_call 95; refine Hid.out ?_)
  unfold Hid
  rw [HV.out, ← HB.out, ← HC.out]
  clear HV HB HC
  have hq := HM40.out V0 q0 HI.out.ds (fun st _ => by omega)
  refine Calls.mono hq ?_
  intro e U1 hp
  obtain ⟨rfl, hk, hD⟩ := unit_post hp
  have HI' := hidP (HI.out.call hk hD)
  have HGe' : Hid (Ge a0 (qs (bnd q0 (mustP s.data.toList 40)))) := HGe.out.bnd (fw_must _ _)
  clear HI hq hp hk hD HGe
  obtain ⟨y1, hy1⟩ : ∃ y, y = bnd q0 (mustP s.data.toList 40) := ⟨_, rfl⟩
  rw [← hy1] at HI' HGe' HR0
  have HI := HI'
  have HGe := HGe'; clear HGe'
  clear HI'
  have Hy1 := hidP hy1
  clear hy1
  have HR1 := hidP (HR0.out.trans (bp_step _ _ _))
  clear HR0
  go_wp2_with (go_at_call 96; refine Hid.out ?_)
  unfold Hid
  have hq := HNu.out U1 (qs y1) HI.out.ds (fun st _ => by omega)
  refine Calls.mono hq ?_
  intro e U2 hp
  obtain ⟨n2, rfl, hk, hD, hv2⟩ := int_post hp
  have HI' := hidP (HI.out.call hk hD)
  have HGe' : Hid (Ge a0 (qs (bnd (qs y1) (meanP s.data.toList numO)))) := HGe.out.bnd (fw_mean _ _)
  have Hv2 := hidP hv2
  clear HI HGe hq hp hk hD hv2
  have HRn := hidP (HR1.out.trans (bp_val _ Hv2.out))
  clear HR1 Hv2
  have HR1 := HRn
  clear HRn
  obtain ⟨y2, hy2⟩ : ∃ y, y = bnd (qs y1) (meanP s.data.toList numO) := ⟨_, rfl⟩
  rw [← hy2] at HI' HGe' HR1
  have HI := HI'
  have HGe := HGe'; clear HGe'
  clear HI'
  have Hy2 := hidP hy2
  clear hy2
  have w0 := frz HI.out.tb.tb 2
  have w1 : U2.cell? ⟨c, 2, none⟩ = some (.int .i64 0) := by simp [World.cell?, HI.out.tb.tb]
  have HI' := hidP (HI.out.set2 n2)
  clear HI
  have HR2 := hidP (HR1.out.trans (bp_step _ _ _))
  clear HR1
  go_wp2_with (go_at_call 95; refine Hid.out ?_)
  unfold Hid
  (try clear w0 w1)
  have HI := HI'
  clear HI'
  generalize (U2.setCell ⟨c, 2, none⟩ (.int .i64 n2)) = V2 at HI ⊢
  have hq := HM44.out V2 (qs y2) HI.out.ds (fun st _ => by omega)
  refine Calls.mono hq ?_
  intro e U3 hp
  obtain ⟨rfl, hk, hD⟩ := unit_post hp
  have HI' := hidP (HI.out.call hk hD)
  have HGe' : Hid (Ge a0 (qs (bnd (qs y2) (mustP s.data.toList 44)))) := HGe.out.bnd (fw_must _ _)
  clear HI hq hp hk hD HGe
  obtain ⟨y3, hy3⟩ : ∃ y, y = bnd (qs y2) (mustP s.data.toList 44) := ⟨_, rfl⟩
  rw [← hy3] at HI' HGe' HR2
  have HI := HI'
  have HGe := HGe'; clear HGe'
  clear HI'
  have Hy3 := hidP hy3
  clear hy3
  have HR3 := hidP (HR2.out.trans (bp_step _ _ _))
  clear HR2
  rcases hcs : qs y3 with o | ⟨a9, g9⟩
  · have Hcs := hidP hcs
    have HDq := hidP HI.out.ds
    rw [hcs] at HDq
    have hdq := HDq.out
    unfold DS at hdq
    dsimp only at hdq
    obtain ⟨aa, vn, hAt, _⟩ := hdq
    have i2 : U3.cell? ⟨p, 2, none⟩ = some (.int .i64 (o : Int)) := by simp [World.cell?, hAt]
    have io : decide ((o : Int) < 0) = false := decide_eq_false (by omega)
    clear hAt hcs HDq
    have he : bnd (qs y3) (meanP s.data.toList indexO) = .error o := by rw [Hcs.out]; rfl
    have HI' : Hid (IS W U3 p s b c (qs (bnd (qs y3) (meanP s.data.toList indexO))) 19 0 n2 0 (.slice none 0 0)) := by show IS _ _ _ _ _ _ _ _ _ _ _ _; rw [he]; have := HI.out; rw [Hcs.out] at this; exact this
    have HGe' : Hid (Ge a0 (qs (bnd (qs y3) (meanP s.data.toList indexO)))) := HGe.out.bnd (fw_mean _ _)
    have HRn := hidP (HR3.out.trans (bp_val (n := (0 : Int)) _ (fun x st e => by rw [he] at e; cases e)))
    clear HR3 he HI HGe Hcs
    have HR3 := HRn
    clear HRn
    obtain ⟨y4, hy4⟩ : ∃ y, y = bnd (qs y3) (meanP s.data.toList indexO) := ⟨_, rfl⟩
    rw [← hy4] at HI' HGe' HR3
    have HI := HI'
    have HGe := HGe'; clear HGe'
    clear HI'
    have Hy4 := hidP hy4
    clear hy4
    have HR4 := hidP (HR3.out.trans (bp_step _ _ _))
    clear HR3
    go_wp2_with (go_at_call 95; refine Hid.out ?_)
    unfold Hid
    (try clear w0 w1)
    (try clear i2 io)
    have hq := HM44.out U3 (qs y4) HI.out.ds (fun st _ => by omega)
    refine Calls.mono hq ?_
    intro e U5 hp
    obtain ⟨rfl, hk, hD⟩ := unit_post hp
    have HI' := hidP (HI.out.call hk hD)
    have HGe' : Hid (Ge a0 (qs (bnd (qs y4) (mustP s.data.toList 44)))) := HGe.out.bnd (fw_must _ _)
    clear HI hq hp hk hD HGe
    obtain ⟨y5, hy5⟩ : ∃ y, y = bnd (qs y4) (mustP s.data.toList 44) := ⟨_, rfl⟩
    rw [← hy5] at HI' HGe' HR4
    have HI := HI'
    have HGe := HGe'; clear HGe'
    clear HI'
    have Hy5 := hidP hy5
    clear hy5
    have HR5 := hidP (HR4.out.trans (bp_step _ _ _))
    clear HR4
    go_wp2_with (go_at_call 35; refine Hid.out ?_)
    unfold Hid
    (try clear w0 w1)
    have hq := H35.out U5 (qs y5) HI.out.ds (fun st e => by have := HGe.out st e; omega)
    refine Calls.mono hq ?_
    intro e U6 hp
    obtain ⟨x, ko, kc, rfl, hk, hD, hrow⟩ := one_post hp
    have HI' := hidP ((HI.out.call hk hD).gr (gr_alloc U6 (.cells #[Value.string x.name, .bool x.nul, .int .i64 x.kind, .int .i64 x.width, .int .i64 x.id, .int .i64 x.index, .slice ko x.kids.length kc] 37)))
    have HVp : Hid (p < U5.heap.size) := HI.out.ds.lt
    have HVb : Hid (b < U5.heap.size ∧ c < U5.heap.size) := ⟨lt_of_heap HI.out.tb.rb, lt_of_heap HI.out.tb.tb⟩
    have HVw : Hid (W.heap.size ≤ U5.heap.size) := HI.out.kp.size
    have HRow := hidP hrow
    clear HI HGe hq hp hk hD hrow
    have HRn := hidP (HR5.out.trans (bp_val _ lOf_ok))
    clear HR5
    have HR5 := HRn
    clear HRn
    obtain ⟨y6, hy6⟩ : ∃ y, y = bnd (qs y5) (oneP r) := ⟨_, rfl⟩
    rw [← hy6] at HI' HR5
    rw [← hy6] at HRow
    have HI := HI'
    clear HI'
    have Hy6 := hidP hy6
    clear hy6
    have w0 : (U6.alloc (.cells #[Value.string x.name, .bool x.nul, .int .i64 x.kind, .int .i64 x.width, .int .i64 x.id, .int .i64 x.index, .slice ko x.kids.length kc] 37)).frozen? ⟨c, 4, none⟩ = false := frz HI.out.tb.tb 4
    have w1 : (U6.alloc (.cells #[Value.string x.name, .bool x.nul, .int .i64 x.kind, .int .i64 x.width, .int .i64 x.id, .int .i64 x.index, .slice ko x.kids.length kc] 37)).cell? ⟨c, 4, none⟩ = some (.slice none 0 0) := by simp [World.cell?, HI.out.tb.tb]
    obtain ⟨go, hgo⟩ : ∃ go : Option Addr, go = some ⟨U6.heap.size, 0, none⟩ := ⟨_, rfl⟩
    have Hgo := hidP hgo
    rw [← hgo] at HRow
    obtain ⟨A, hA⟩ : ∃ A, A = U6.alloc (.cells #[Value.string x.name, .bool x.nul, .int .i64 x.kind, .int .i64 x.width, .int .i64 x.id, .int .i64 x.index, .slice ko x.kids.length kc] 37) := ⟨_, rfl⟩
    rw [← hA] at HI HRow
    have HA := hidP hA
    clear hA hgo
    have HI' := hidP (HI.out.set4 (.slice go 1 1))
    have HRow' := hidP (HRow.out.set (IS.kS (c := c) (i := 4) (v := .slice go 1 1)) HVb.out.2)
    clear HI HRow
    have HRow := HRow'
    clear HRow'
    have HR6 := hidP (HR5.out.trans (bp_step _ _ _))
    clear HR5
    go_wp2_with (go_at_call 95; refine Hid.out ?_)
    unfold Hid
    (try clear w0 w1)
    rw [← Hgo.out, ← HA.out]
    clear HA Hgo
    have HI := HI'
    clear HI'
    generalize (A.setCell ⟨c, 4, none⟩ (.slice go 1 1)) = V6 at HI HRow ⊢
    have hq := HM41.out V6 (qs y6) HI.out.ds (fun st _ => by omega)
    refine Calls.mono hq ?_
    intro e U7 hp
    obtain ⟨rfl, hk, hD⟩ := unit_post hp
    have HI' := hidP (HI.out.call hk hD)
    have HRow' := hidP (HRow.out.kp hk HVp.out)
    clear HRow
    have HRow := HRow'
    clear HRow'
    clear HI hq hp hk hD
    obtain ⟨y7, hy7⟩ : ∃ y, y = bnd (qs y6) (mustP s.data.toList 41) := ⟨_, rfl⟩
    rw [← hy7] at HI' HR6
    have HI := HI'
    clear HI'
    have Hy7 := hidP hy7
    clear hy7
    have u0 := frz HI.out.tb.rb 0
    have v0 : U7.cell? ⟨b, 0, none⟩ = some (.int .i64 0) := by simp [World.cell?, HI.out.tb.rb]
    have u1 := frz HI.out.tb.rb 1
    have v1 : U7.cell? ⟨b, 1, none⟩ = some (.int .i64 0) := by simp [World.cell?, HI.out.tb.rb]
    have u2 := frz HI.out.tb.rb 2
    have v2 : U7.cell? ⟨b, 2, none⟩ = some (.int .i64 0) := by simp [World.cell?, HI.out.tb.rb]
    have u3 := frz HI.out.tb.rb 3
    have v3 : U7.cell? ⟨b, 3, none⟩ = some (.int .i64 0) := by simp [World.cell?, HI.out.tb.rb]
    have u4 := frz HI.out.tb.rb 4
    have v4 : U7.cell? ⟨b, 4, none⟩ = some (.slice none 0 0) := by simp [World.cell?, HI.out.tb.rb]
    have s0 : U7.cell? ⟨c, 0, none⟩ = some (.int .i64 19) := by simp [World.cell?, HI.out.tb.tb]
    have s1 : U7.cell? ⟨c, 1, none⟩ = some (.int .i64 0) := by simp [World.cell?, HI.out.tb.tb]
    have s2 : U7.cell? ⟨c, 2, none⟩ = some (.int .i64 n2) := by simp [World.cell?, HI.out.tb.tb]
    have s3 : U7.cell? ⟨c, 3, none⟩ = some (.int .i64 0) := by simp [World.cell?, HI.out.tb.tb]
    have s4 : U7.cell? ⟨c, 4, none⟩ = some (.slice go 1 1) := by simp [World.cell?, HI.out.tb.tb]
    have hcb : ¬ c = b := by have := HI.out.tb.lt; omega
    have hbc : ¬ b = c := by have := HI.out.tb.lt; omega
    go_wp2_with fail
    have hb3 := put5_box (.int .i64 19) (.int .i64 0) (.int .i64 n2) (.int .i64 0) (.slice go 1 1) HI.out.tb.rb
    have k3 := put5_keeps U7 b (.int .i64 19) (.int .i64 0) (.int .i64 n2) (.int .i64 0) (.slice go 1 1)
    (try simp only [Exit.inBlock, Exit.then])
    exact bodyPost_ret (results_cell39 rfl rfl hb3 (by kernel_rfl)) rfl (inner_end HI.out HR6.out ⟨rfl, rfl, rfl⟩ (fun u st e => by obtain ⟨l, st2, e2⟩ := bnd_from (Hy7.out.symm.trans e); have hh := HRow.out.set k3 HVb.out.1 l st2 e2; rw [lOf_ok l st2 e2] at hh; exact ⟨hh.1, hh.2.1, hh.2.2.low HVw.out⟩) k3)
  have Hcs := hidP hcs
  have HDq := hidP HI.out.ds
  rw [hcs] at HDq
  have hdq := HDq.out
  unfold DS at hdq
  dsimp only at hdq
  obtain ⟨aa, vo, vc, hAt, _⟩ := hdq
  have i2 : U3.cell? ⟨p, 2, none⟩ = some (.int .i64 (-1)) := by simp [World.cell?, hAt.box]
  clear hAt hcs
  go_wp2_with (go_at_call 97; refine Hid.out ?_)
  unfold Hid
  clear i2
  have hq := HIx.out U3 a9 g9 HDq.out (by omega)
  rw [show meanP s.data.toList indexO (a9, g9) = bnd (qs y3) (meanP s.data.toList indexO) by rw [Hcs.out]; rfl] at hq
  refine Calls.mono hq ?_
  intro e U4 hp
  obtain ⟨n4, rfl, hk, hD, hv4⟩ := int_post hp
  have HI' := hidP (HI.out.call hk hD)
  have HGe' : Hid (Ge a0 (qs (bnd (qs y3) (meanP s.data.toList indexO)))) := HGe.out.bnd (fw_mean _ _)
  have Hv4 := hidP hv4
  clear HI HGe hq hp hk hD hv4 HDq Hcs
  have HRn := hidP (HR3.out.trans (bp_val _ Hv4.out))
  clear HR3 Hv4
  have HR3 := HRn
  clear HRn
  obtain ⟨y4, hy4⟩ : ∃ y, y = bnd (qs y3) (meanP s.data.toList indexO) := ⟨_, rfl⟩
  rw [← hy4] at HI' HGe' HR3
  have HI := HI'
  have HGe := HGe'; clear HGe'
  clear HI'
  have Hy4 := hidP hy4
  clear hy4
  have w0 := frz HI.out.tb.tb 3
  have w1 : U4.cell? ⟨c, 3, none⟩ = some (.int .i64 0) := by simp [World.cell?, HI.out.tb.tb]
  have HI' := hidP (HI.out.set3 n4)
  clear HI
  have HR4 := hidP (HR3.out.trans (bp_step _ _ _))
  clear HR3
  go_wp2_with (go_at_call 95; refine Hid.out ?_)
  unfold Hid
  (try clear w0 w1)
  (try clear i2 io)
  have HI := HI'
  clear HI'
  generalize (U4.setCell ⟨c, 3, none⟩ (.int .i64 n4)) = V4 at HI ⊢
  have hq := HM44.out V4 (qs y4) HI.out.ds (fun st _ => by omega)
  refine Calls.mono hq ?_
  intro e U5 hp
  obtain ⟨rfl, hk, hD⟩ := unit_post hp
  have HI' := hidP (HI.out.call hk hD)
  have HGe' : Hid (Ge a0 (qs (bnd (qs y4) (mustP s.data.toList 44)))) := HGe.out.bnd (fw_must _ _)
  clear HI hq hp hk hD HGe
  obtain ⟨y5, hy5⟩ : ∃ y, y = bnd (qs y4) (mustP s.data.toList 44) := ⟨_, rfl⟩
  rw [← hy5] at HI' HGe' HR4
  have HI := HI'
  have HGe := HGe'; clear HGe'
  clear HI'
  have Hy5 := hidP hy5
  clear hy5
  have HR5 := hidP (HR4.out.trans (bp_step _ _ _))
  clear HR4
  go_wp2_with (go_at_call 35; refine Hid.out ?_)
  unfold Hid
  (try clear w0 w1)
  have hq := H35.out U5 (qs y5) HI.out.ds (fun st e => by have := HGe.out st e; omega)
  refine Calls.mono hq ?_
  intro e U6 hp
  obtain ⟨x, ko, kc, rfl, hk, hD, hrow⟩ := one_post hp
  have HI' := hidP ((HI.out.call hk hD).gr (gr_alloc U6 (.cells #[Value.string x.name, .bool x.nul, .int .i64 x.kind, .int .i64 x.width, .int .i64 x.id, .int .i64 x.index, .slice ko x.kids.length kc] 37)))
  have HVp : Hid (p < U5.heap.size) := HI.out.ds.lt
  have HVb : Hid (b < U5.heap.size ∧ c < U5.heap.size) := ⟨lt_of_heap HI.out.tb.rb, lt_of_heap HI.out.tb.tb⟩
  have HVw : Hid (W.heap.size ≤ U5.heap.size) := HI.out.kp.size
  have HRow := hidP hrow
  clear HI HGe hq hp hk hD hrow
  have HRn := hidP (HR5.out.trans (bp_val _ lOf_ok))
  clear HR5
  have HR5 := HRn
  clear HRn
  obtain ⟨y6, hy6⟩ : ∃ y, y = bnd (qs y5) (oneP r) := ⟨_, rfl⟩
  rw [← hy6] at HI' HR5
  rw [← hy6] at HRow
  have HI := HI'
  clear HI'
  have Hy6 := hidP hy6
  clear hy6
  have w0 : (U6.alloc (.cells #[Value.string x.name, .bool x.nul, .int .i64 x.kind, .int .i64 x.width, .int .i64 x.id, .int .i64 x.index, .slice ko x.kids.length kc] 37)).frozen? ⟨c, 4, none⟩ = false := frz HI.out.tb.tb 4
  have w1 : (U6.alloc (.cells #[Value.string x.name, .bool x.nul, .int .i64 x.kind, .int .i64 x.width, .int .i64 x.id, .int .i64 x.index, .slice ko x.kids.length kc] 37)).cell? ⟨c, 4, none⟩ = some (.slice none 0 0) := by simp [World.cell?, HI.out.tb.tb]
  obtain ⟨go, hgo⟩ : ∃ go : Option Addr, go = some ⟨U6.heap.size, 0, none⟩ := ⟨_, rfl⟩
  have Hgo := hidP hgo
  rw [← hgo] at HRow
  obtain ⟨A, hA⟩ : ∃ A, A = U6.alloc (.cells #[Value.string x.name, .bool x.nul, .int .i64 x.kind, .int .i64 x.width, .int .i64 x.id, .int .i64 x.index, .slice ko x.kids.length kc] 37) := ⟨_, rfl⟩
  rw [← hA] at HI HRow
  have HA := hidP hA
  clear hA hgo
  have HI' := hidP (HI.out.set4 (.slice go 1 1))
  have HRow' := hidP (HRow.out.set (IS.kS (c := c) (i := 4) (v := .slice go 1 1)) HVb.out.2)
  clear HI HRow
  have HRow := HRow'
  clear HRow'
  have HR6 := hidP (HR5.out.trans (bp_step _ _ _))
  clear HR5
  go_wp2_with (go_at_call 95; refine Hid.out ?_)
  unfold Hid
  (try clear w0 w1)
  rw [← Hgo.out, ← HA.out]
  clear HA Hgo
  have HI := HI'
  clear HI'
  generalize (A.setCell ⟨c, 4, none⟩ (.slice go 1 1)) = V6 at HI HRow ⊢
  have hq := HM41.out V6 (qs y6) HI.out.ds (fun st _ => by omega)
  refine Calls.mono hq ?_
  intro e U7 hp
  obtain ⟨rfl, hk, hD⟩ := unit_post hp
  have HI' := hidP (HI.out.call hk hD)
  have HRow' := hidP (HRow.out.kp hk HVp.out)
  clear HRow
  have HRow := HRow'
  clear HRow'
  clear HI hq hp hk hD
  obtain ⟨y7, hy7⟩ : ∃ y, y = bnd (qs y6) (mustP s.data.toList 41) := ⟨_, rfl⟩
  rw [← hy7] at HI' HR6
  have HI := HI'
  clear HI'
  have Hy7 := hidP hy7
  clear hy7
  have u0 := frz HI.out.tb.rb 0
  have v0 : U7.cell? ⟨b, 0, none⟩ = some (.int .i64 0) := by simp [World.cell?, HI.out.tb.rb]
  have u1 := frz HI.out.tb.rb 1
  have v1 : U7.cell? ⟨b, 1, none⟩ = some (.int .i64 0) := by simp [World.cell?, HI.out.tb.rb]
  have u2 := frz HI.out.tb.rb 2
  have v2 : U7.cell? ⟨b, 2, none⟩ = some (.int .i64 0) := by simp [World.cell?, HI.out.tb.rb]
  have u3 := frz HI.out.tb.rb 3
  have v3 : U7.cell? ⟨b, 3, none⟩ = some (.int .i64 0) := by simp [World.cell?, HI.out.tb.rb]
  have u4 := frz HI.out.tb.rb 4
  have v4 : U7.cell? ⟨b, 4, none⟩ = some (.slice none 0 0) := by simp [World.cell?, HI.out.tb.rb]
  have s0 : U7.cell? ⟨c, 0, none⟩ = some (.int .i64 19) := by simp [World.cell?, HI.out.tb.tb]
  have s1 : U7.cell? ⟨c, 1, none⟩ = some (.int .i64 0) := by simp [World.cell?, HI.out.tb.tb]
  have s2 : U7.cell? ⟨c, 2, none⟩ = some (.int .i64 n2) := by simp [World.cell?, HI.out.tb.tb]
  have s3 : U7.cell? ⟨c, 3, none⟩ = some (.int .i64 n4) := by simp [World.cell?, HI.out.tb.tb]
  have s4 : U7.cell? ⟨c, 4, none⟩ = some (.slice go 1 1) := by simp [World.cell?, HI.out.tb.tb]
  have hcb : ¬ c = b := by have := HI.out.tb.lt; omega
  have hbc : ¬ b = c := by have := HI.out.tb.lt; omega
  go_wp2_with fail
  have hb3 := put5_box (.int .i64 19) (.int .i64 0) (.int .i64 n2) (.int .i64 n4) (.slice go 1 1) HI.out.tb.rb
  have k3 := put5_keeps U7 b (.int .i64 19) (.int .i64 0) (.int .i64 n2) (.int .i64 n4) (.slice go 1 1)
  (try simp only [Exit.inBlock, Exit.then])
  exact bodyPost_ret (results_cell39 rfl rfl hb3 (by kernel_rfl)) rfl (inner_end HI.out HR6.out ⟨rfl, rfl, rfl⟩ (fun u st e => by obtain ⟨l, st2, e2⟩ := bnd_from (Hy7.out.symm.trans e); have hh := HRow.out.set k3 HVb.out.1 l st2 e2; rw [lOf_ok l st2 e2] at hh; exact ⟨hh.1, hh.2.1, hh.2.2.low HVw.out⟩) k3)
theorem inner64_20 (p : Nat) (s : ByteArray) (d : Nat) (r : Pr FT) (hf : ∀ s0 x s1, r s0 = .ok (x, s1) → s0.1 < s1.1) (h35 : CmC p s d 35 #[.pointer (some ⟨p, 0, none⟩)] r (FV p d) XF) (h25 : ∀ nn, CmC p s d 25 #[.pointer (some ⟨p, 0, none⟩), .bool nn] (fldsP s.data.toList r nn) (LV p d) XL) : DnC p s d 64 #[.pointer (some ⟨p, 0, none⟩), .int .i64 20] (inrP s.data.toList r 20) (fun W w' t v => TV p (d + 1) W w' (20, t) v) XT := by
  intro W a0 g0 hN hd
  obtain ⟨R, hRes⟩ : ∃ R, R = inrP s.data.toList r 20 (a0, g0) := ⟨_, rfl⟩
  rw [← hRes]
  rw [inr20, bp_start] at hRes
  have HR0 := hidP hRes
  obtain ⟨V0, hV0⟩ : ∃ V0, (W.alloc (.cells #[.int .i64 0, .int .i64 0, .int .i64 0, .int .i64 0, .slice none 0 0] 35)).alloc (.cells #[.int .i64 20, .int .i64 0, .int .i64 0, .int .i64 0, .slice none 0 0] 35) = V0 := ⟨_, rfl⟩
  have g1' : Gr W (W.alloc (.cells #[.int .i64 0, .int .i64 0, .int .i64 0, .int .i64 0, .slice none 0 0] 35)) := gr_alloc W _
  have g2' : Gr (W.alloc (.cells #[.int .i64 0, .int .i64 0, .int .i64 0, .int .i64 0, .slice none 0 0] 35)) V0 := by rw [← hV0]; exact gr_alloc _ _
  have g0' : Gr W V0 := g1'.trans g2' (fun _ _ h => h)
  have hs1 : (W.alloc (.cells #[.int .i64 0, .int .i64 0, .int .i64 0, .int .i64 0, .slice none 0 0] 35)).heap.size = W.heap.size + 1 := by simp
  have hct : V0.heap[W.heap.size + 1]? = some (.cells #[.int .i64 20, .int .i64 0, .int .i64 0, .int .i64 0, .slice none 0 0] 35 (0, 0)) := by have := heap_alloc_new (W.alloc (.cells #[.int .i64 0, .int .i64 0, .int .i64 0, .int .i64 0, .slice none 0 0] 35)) (.cells #[.int .i64 20, .int .i64 0, .int .i64 0, .int .i64 0, .slice none 0 0] 35); rw [hs1, hV0] at this; exact this
  have HI : Hid (IS W V0 p s W.heap.size (W.heap.size + 1) (.ok (a0, g0)) 20 0 0 0 (.slice none 0 0)) := ⟨⟨(g2'.block _ (by omega) id).trans (heap_alloc_new W _), hct, Nat.le_refl _, by omega, hN.lt⟩, Gr.n p g0', hN.gr g0'⟩
  have HGe : Hid (Ge a0 (.ok (a0, g0))) := fun st e => by cases e; exact Nat.le_refl _
  have HV := hidP hV0
  have HLt := hidP hN.lt
  have H35 := hidP h35
  have HM40 := hidP (cm_of (must95 p s (s.size + 1) 40 (by unfold signB; decide)) (must95_dead p s _))
  have HM41 := hidP (cm_of (must95 p s (s.size + 1) 41 (by unfold signB; decide)) (must95_dead p s _))
  have HM44 := hidP (cm_of (must95 p s (s.size + 1) 44 (by unfold signB; decide)) (must95_dead p s _))
  obtain ⟨b, hb⟩ : ∃ b, b = W.heap.size := ⟨_, rfl⟩
  rw [← hb] at HI
  have HB := hidP hb
  obtain ⟨c, hc⟩ : ∃ c, c = b + 1 := ⟨_, rfl⟩
  rw [← hc] at HI
  have HC := hidP hc
  generalize hq0 : (Except.ok (a0, g0) : Except Nat Ps) = q0 at HI HR0 HGe
  have Hq0 := hidP hq0
  clear hRes hN g0' g1' g2' hs1 hV0 h35 hct hq0 hb hc
  go_enter Tryz.func64, Tryz.ntmps64
  go_wp2_with (go_at_call 95; refine Hid.out ?_)
  unfold Hid
  rw [HV.out, ← HB.out, ← HC.out]
  clear HV HB HC
  have hq := HM40.out V0 q0 HI.out.ds (fun st _ => by omega)
  refine Calls.mono hq ?_
  intro e U1 hp
  obtain ⟨rfl, hk, hD⟩ := unit_post hp
  have HI' := hidP (HI.out.call hk hD)
  have HGe' : Hid (Ge a0 (qs (bnd q0 (mustP s.data.toList 40)))) := HGe.out.bnd (fw_must _ _)
  clear HI hq hp hk hD HGe
  obtain ⟨y1, hy1⟩ : ∃ y, y = bnd q0 (mustP s.data.toList 40) := ⟨_, rfl⟩
  rw [← hy1] at HI' HGe' HR0
  have HI := HI'
  have HGe := HGe'; clear HGe'
  clear HI'
  have Hy1 := hidP hy1
  clear hy1
  have HR1 := hidP (HR0.out.trans (bp_step _ _ _))
  clear HR0
  go_wp2_with (go_at_call 35; refine Hid.out ?_)
  unfold Hid
  (try clear w0 w1)
  have hq := H35.out U1 (qs y1) HI.out.ds (fun st e => by have := HGe.out st e; omega)
  refine Calls.mono hq ?_
  intro e U2 hp
  obtain ⟨x, ko, kc, rfl, hk, hD, hrow⟩ := one_post hp
  have HI' := hidP ((HI.out.call hk hD).gr (gr_alloc U2 (.cells #[Value.string x.name, .bool x.nul, .int .i64 x.kind, .int .i64 x.width, .int .i64 x.id, .int .i64 x.index, .slice ko x.kids.length kc] 37)))
  have HVp : Hid (p < U1.heap.size) := HI.out.ds.lt
  have HVb : Hid (b < U1.heap.size ∧ c < U1.heap.size) := ⟨lt_of_heap HI.out.tb.rb, lt_of_heap HI.out.tb.tb⟩
  have HVw : Hid (W.heap.size ≤ U1.heap.size) := HI.out.kp.size
  have HRow := hidP hrow
  clear HI HGe hq hp hk hD hrow
  have HRn := hidP (HR1.out.trans (bp_val _ lOf_ok))
  clear HR1
  have HR1 := HRn
  clear HRn
  obtain ⟨y2, hy2⟩ : ∃ y, y = bnd (qs y1) (oneP r) := ⟨_, rfl⟩
  rw [← hy2] at HI' HR1
  rw [← hy2] at HRow
  have HI := HI'
  clear HI'
  have Hy2 := hidP hy2
  clear hy2
  have w0 : (U2.alloc (.cells #[Value.string x.name, .bool x.nul, .int .i64 x.kind, .int .i64 x.width, .int .i64 x.id, .int .i64 x.index, .slice ko x.kids.length kc] 37)).frozen? ⟨c, 4, none⟩ = false := frz HI.out.tb.tb 4
  have w1 : (U2.alloc (.cells #[Value.string x.name, .bool x.nul, .int .i64 x.kind, .int .i64 x.width, .int .i64 x.id, .int .i64 x.index, .slice ko x.kids.length kc] 37)).cell? ⟨c, 4, none⟩ = some (.slice none 0 0) := by simp [World.cell?, HI.out.tb.tb]
  obtain ⟨go, hgo⟩ : ∃ go : Option Addr, go = some ⟨U2.heap.size, 0, none⟩ := ⟨_, rfl⟩
  have Hgo := hidP hgo
  rw [← hgo] at HRow
  obtain ⟨A, hA⟩ : ∃ A, A = U2.alloc (.cells #[Value.string x.name, .bool x.nul, .int .i64 x.kind, .int .i64 x.width, .int .i64 x.id, .int .i64 x.index, .slice ko x.kids.length kc] 37) := ⟨_, rfl⟩
  rw [← hA] at HI HRow
  have HA := hidP hA
  clear hA hgo
  have HI' := hidP (HI.out.set4 (.slice go 1 1))
  have HRow' := hidP (HRow.out.set (IS.kS (c := c) (i := 4) (v := .slice go 1 1)) HVb.out.2)
  clear HI HRow
  have HRow := HRow'
  clear HRow'
  have HR2 := hidP (HR1.out.trans (bp_step _ _ _))
  clear HR1
  go_wp2_with (go_at_call 95; refine Hid.out ?_)
  unfold Hid
  (try clear w0 w1)
  rw [← Hgo.out, ← HA.out]
  clear HA Hgo
  have HI := HI'
  clear HI'
  generalize (A.setCell ⟨c, 4, none⟩ (.slice go 1 1)) = V2 at HI HRow ⊢
  have hq := HM41.out V2 (qs y2) HI.out.ds (fun st _ => by omega)
  refine Calls.mono hq ?_
  intro e U3 hp
  obtain ⟨rfl, hk, hD⟩ := unit_post hp
  have HI' := hidP (HI.out.call hk hD)
  have HRow' := hidP (HRow.out.kp hk HVp.out)
  clear HRow
  have HRow := HRow'
  clear HRow'
  clear HI hq hp hk hD
  obtain ⟨y3, hy3⟩ : ∃ y, y = bnd (qs y2) (mustP s.data.toList 41) := ⟨_, rfl⟩
  rw [← hy3] at HI' HR2
  have HI := HI'
  clear HI'
  have Hy3 := hidP hy3
  clear hy3
  have u0 := frz HI.out.tb.rb 0
  have v0 : U3.cell? ⟨b, 0, none⟩ = some (.int .i64 0) := by simp [World.cell?, HI.out.tb.rb]
  have u1 := frz HI.out.tb.rb 1
  have v1 : U3.cell? ⟨b, 1, none⟩ = some (.int .i64 0) := by simp [World.cell?, HI.out.tb.rb]
  have u2 := frz HI.out.tb.rb 2
  have v2 : U3.cell? ⟨b, 2, none⟩ = some (.int .i64 0) := by simp [World.cell?, HI.out.tb.rb]
  have u3 := frz HI.out.tb.rb 3
  have v3 : U3.cell? ⟨b, 3, none⟩ = some (.int .i64 0) := by simp [World.cell?, HI.out.tb.rb]
  have u4 := frz HI.out.tb.rb 4
  have v4 : U3.cell? ⟨b, 4, none⟩ = some (.slice none 0 0) := by simp [World.cell?, HI.out.tb.rb]
  have s0 : U3.cell? ⟨c, 0, none⟩ = some (.int .i64 20) := by simp [World.cell?, HI.out.tb.tb]
  have s1 : U3.cell? ⟨c, 1, none⟩ = some (.int .i64 0) := by simp [World.cell?, HI.out.tb.tb]
  have s2 : U3.cell? ⟨c, 2, none⟩ = some (.int .i64 0) := by simp [World.cell?, HI.out.tb.tb]
  have s3 : U3.cell? ⟨c, 3, none⟩ = some (.int .i64 0) := by simp [World.cell?, HI.out.tb.tb]
  have s4 : U3.cell? ⟨c, 4, none⟩ = some (.slice go 1 1) := by simp [World.cell?, HI.out.tb.tb]
  have hcb : ¬ c = b := by have := HI.out.tb.lt; omega
  have hbc : ¬ b = c := by have := HI.out.tb.lt; omega
  go_wp2_with fail
  have hb3 := put5_box (.int .i64 20) (.int .i64 0) (.int .i64 0) (.int .i64 0) (.slice go 1 1) HI.out.tb.rb
  have k3 := put5_keeps U3 b (.int .i64 20) (.int .i64 0) (.int .i64 0) (.int .i64 0) (.slice go 1 1)
  (try simp only [Exit.inBlock, Exit.then])
  exact bodyPost_ret (results_cell39 rfl rfl hb3 (by kernel_rfl)) rfl (inner_end HI.out HR2.out ⟨rfl, rfl, rfl⟩ (fun u st e => by obtain ⟨l, st2, e2⟩ := bnd_from (Hy3.out.symm.trans e); have hh := HRow.out.set k3 HVb.out.1 l st2 e2; rw [lOf_ok l st2 e2] at hh; exact ⟨hh.1, hh.2.1, hh.2.2.low HVw.out⟩) k3)
end Go.Proofs.YtkodgneneiledaaGreatDoor.Kit
