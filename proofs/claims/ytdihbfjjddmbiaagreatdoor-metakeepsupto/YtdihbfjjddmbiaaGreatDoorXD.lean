import Derived.Test.YtdihbfjjddmbiaaGreatDoorXC
set_option maxRecDepth 100000
set_option maxHeartbeats 4000000
namespace Go.Proofs.YtdihbfjjddmbiaaGreatDoor.Kit
open Go.RowKit Go.Shelf Go.Deep
set_option linter.unusedVariables false
attribute [local go_sem] run_store_func
theorem sevX_stop {α : Type} {r : DS → α × DS} {n : Nat} {acc : List α} {s : DS} (h : s.e ≠ 0) : sevX r n acc s = (acc, s) := by
  cases n with
  | zero => rfl
  | succ n => rw [sevX, if_pos h]
theorem sevX_next {α : Type} {r : DS → α × DS} {n k : Nat} {acc : List α} {s s' : DS} {x : α} (h : k < n) (he : s.e = 0) (hr : r s = (x, s')) : sevX r (n - k) acc s = sevX r (n - (k + 1)) (acc ++ [x]) s' := by
  obtain ⟨m, hm⟩ : ∃ m, n - k = m + 1 := ⟨n - k - 1, by omega⟩
  have hm' : n - (k + 1) = m := by omega
  rw [hm, hm', sevX, if_neg (by simp [he]), hr]
theorem field30_yes (p : Nat) (bo : Option Addr) (B : List UInt8) (bc d : Nat) (ar : Int) (har0 : 0 ≤ ar) (har : ar < 64) (ih : DCg p bo B bc 59 #[.pointer (some ⟨p, 0, none⟩), .int .i64 (ar + 1)] (fieldX B d) (FV d)) (W : World) (s : DS) (h : DAt W p bo B bc s) (hg : Gd s) (he : s.e = 0) (hgl : s.g ≠ 256) (r : FT × DS) (hr : r = fldX B (fieldX B d) { s with g := s.g + 1 }) :
    Calls Tryz.prog 59 #[.pointer (some ⟨p, 0, none⟩), .int .i64 ar] W fun e w' => ∃ v, e = .returned v ∧ FV (d + 1) W w' r.1 v ∧ DAt w' p bo B bc r.2 ∧ Keeps W w' (fun z => z = p) := by
  obtain ⟨V, hV⟩ := ex ((W.alloc (.cells #[.string ⟨#[]⟩, .bool false, .int .i64 0, .int .i64 0, .int .i64 0, .int .i64 0, .slice none 0 0] 52)).alloc (.cells #[.string ⟨#[]⟩, .bool false, .int .i64 0, .int .i64 0, .int .i64 0, .int .i64 0, .slice none 0 0] 52))
  obtain ⟨b, hb⟩ : ∃ b, b = W.heap.size := ⟨_, rfl⟩
  have s1 : (W.alloc (.cells #[.string ⟨#[]⟩, .bool false, .int .i64 0, .int .i64 0, .int .i64 0, .int .i64 0, .slice none 0 0] 52)).heap.size = b + 1 := by rw [hb]; simp
  have g1 := gr_alloc W (.cells #[.string ⟨#[]⟩, .bool false, .int .i64 0, .int .i64 0, .int .i64 0, .int .i64 0, .slice none 0 0] 52)
  have g2 := gr_alloc (W.alloc (.cells #[.string ⟨#[]⟩, .bool false, .int .i64 0, .int .i64 0, .int .i64 0, .int .i64 0, .slice none 0 0] 52)) (.cells #[.string ⟨#[]⟩, .bool false, .int .i64 0, .int .i64 0, .int .i64 0, .int .i64 0, .slice none 0 0] 52)
  have c1 := heap_alloc_new W (.cells #[.string ⟨#[]⟩, .bool false, .int .i64 0, .int .i64 0, .int .i64 0, .int .i64 0, .slice none 0 0] 52)
  have c2 := heap_alloc_new (W.alloc (.cells #[.string ⟨#[]⟩, .bool false, .int .i64 0, .int .i64 0, .int .i64 0, .int .i64 0, .slice none 0 0] 52)) (.cells #[.string ⟨#[]⟩, .bool false, .int .i64 0, .int .i64 0, .int .i64 0, .int .i64 0, .slice none 0 0] 52)
  rw [← hb] at c1
  rw [s1] at c2
  have g12 := g1.tr g2
  rw [hV] at g2 g12 c2
  have hB0 : FB W V p b (b + 1) (.string ⟨#[]⟩) (.bool false) (.int .i64 0) (.int .i64 0) (.int .i64 0) (.int .i64 0) (.slice none 0 0) := ⟨(g2.block b (lt_of_heap c1) id).trans c1, c2, by omega, by omega, h.lt⟩
  have hD0 := h.gr g12
  have HG0 : Hid (Keeps W V (fun z => z = p)) := g12.mono fun _ _ h => h.elim
  have HW0 := hidM h
  have HBx0 := hidM hB0
  have HD0 := hidM hD0
  have HV := hidM hV
  have Hb := hidM hb
  obtain ⟨d0, d1, d2, d3, d4, d5⟩ := hD0.cells
  have f2 := frz hD0.box 2
  have hgl2 := hg he
  rw [he] at d3
  obtain ⟨g, hgg⟩ : ∃ g, g = s.g := ⟨_, rfl⟩
  rw [← hgg] at d2 hgl2 hgl
  have hwg : IntKind.i64.wrap ((g : Int) + 1) = (g : Int) + 1 := by rw [IntKind.wrap_i64]; omega
  have hgc : ((g + 1 : Nat) : Int) = (g : Int) + 1 := by omega
  have x1 : ¬ (256 : Int) < (g : Int) + 1 := by omega
  have x2 : ¬ (64 : Int) ≤ ar := by omega
  have hwar : IntKind.i64.wrap (ar + 1) = ar + 1 := by rw [IntKind.wrap_i64]; omega
  have hM := hD0.more (by omega)
  rw [← hgg, hgc] at hM
  rw [← hgg] at hr
  obtain ⟨s1, hs1⟩ : ∃ s1 : DS, s1 = { s with g := g + 1 } := ⟨_, rfl⟩
  rw [← hs1] at hM hr
  have hgd1 : Gd s1 := fun _ => by rw [hs1]; show g + 1 ≤ 256; omega
  obtain ⟨U, hU⟩ := ex (V.setCell ⟨p, 2, none⟩ (.int .i64 ((g : Int) + 1)))
  rw [hU] at hM
  have kU : Keeps V U (fun z => z = p) := by rw [← hU]; exact (Keeps.refl V (fun z => z = p)).setCell (p := ⟨p, 2, none⟩) (fun _ => rfl) _
  have HM := hidM hM
  have HBU := hidM (hB0.kp kU)
  have HGU : Hid (Keeps W U (fun z => z = p)) := HG0.out.tr kU
  obtain ⟨m0, m1, m2, m3, m4, m5⟩ := hM.cells
  have hm2 : (s1.g : Int) = (g : Int) + 1 := by rw [hs1]; exact hgc
  rw [hm2] at m2
  have HVp : Hid (p < V.heap.size) := hD0.lt
  have HVb : Hid (V.heap.size = b + 1 + 1 ∧ b = W.heap.size ∧ p < W.heap.size) := ⟨by rw [← hV, hb]; simp, hb, h.lt⟩
  have Hih := hidM ih
  have Hgd1 := hidM hgd1
  have HR := hidM hr
  have hgdL := trivial
  unfold fldX at hr
  dsimp only at hr
  obtain ⟨⟨nm, s2⟩, hq1⟩ : ∃ q, textX B 1 s1 = q := ⟨_, rfl⟩
  have Hq1 := hidM hq1
  clear hq1
  obtain ⟨⟨yy, s3⟩, hq2⟩ : ∃ q, withX B 0 1 s2 = q := ⟨_, rfl⟩
  have Hq2 := hidM hq2
  clear hq2
  obtain ⟨⟨kk, s4⟩, hq3⟩ : ∃ q, withX B 1 20 s3 = q := ⟨_, rfl⟩
  have Hq3 := hidM hq3
  clear hq3
  have Hg4 : Hid (Gd s4) := by
    have h1 := (hgd1.text (B := B) (n := 1))
    rw [Hq1.out] at h1
    have h2 := h1.within (B := B) (lo := 0) (hi := 1)
    rw [Hq2.out] at h2
    have h3 := h2.within (B := B) (lo := 1) (hi := 20)
    rw [Hq3.out] at h3
    exact h3
  have HRr0 : Hid (r = (.mk nm (yy == 1) (kk : Int) ((extX B kk s4).1.1 : Int) ((extX B kk s4).1.2.1 : Int) ((extX B kk s4).1.2.2.1 : Int) (sevX (fieldX B d) (extX B kk s4).1.2.2.2 [] (extX B kk s4).2).1, (sevX (fieldX B d) (extX B kk s4).1.2.2.2 [] (extX B kk s4).2).2)) := by
    show _ = _
    rw [hr, Hq1.out]
    dsimp only
    rw [Hq2.out]
    dsimp only
    rw [Hq3.out]
  obtain ⟨nu, hnu⟩ := ex (((yy : Int) == 1))
  have Hnu : Hid ((yy == 1) = nu) := by
    show _ = _
    rw [← hnu]
    by_cases c : yy = 1
    · subst c; rfl
    have h1 : (yy == 1) = false := by simp [c]
    have h2 : ((yy : Int) == 1) = false := by rw [beq_eq_false_iff_ne]; omega
    rw [h1, h2]
  have HRr : Hid (r = (.mk nm nu (kk : Int) ((extX B kk s4).1.1 : Int) ((extX B kk s4).1.2.1 : Int) ((extX B kk s4).1.2.2.1 : Int) (sevX (fieldX B d) (extX B kk s4).1.2.2.2 [] (extX B kk s4).2).1, (sevX (fieldX B d) (extX B kk s4).1.2.2.2 [] (extX B kk s4).2).2)) := by show _ = _; rw [← Hnu.out]; exact HRr0.out
  clear h hg hr hb g1 g2 c1 c2 g12 hB0 hD0 hM kU hgg he hgl hgl2 hgc hm2 hgd1 ih hs1 HR
  go_enter Tryz.func59, Tryz.ntmps59
  go_wp2_with (go_at_call 60; refine Hid.out ?_)
  unfold Hid
  rw [← Hb.out]
  clear hV hU
  have hc := (text31 p bo B bc 1 (by omega)) U s1 HM.out
  rw [Hq1.out] at hc
  dsimp only at hc
  refine Calls.mono hc ?_
  rintro e Y1 ⟨v, rfl, rfl, hD, hK⟩
  have hT := HBU.out.kp hK
  have HG := HGU
  clear hc
  have t0 : Y1.cell? ⟨b + 1, 0, none⟩ = some (.string ⟨#[]⟩) := by simp [World.cell?, hT.tb]
  have q0 := frz hT.tb 0
  obtain ⟨U1, hU1⟩ : ∃ U', Y1.setCell ⟨b + 1, 0, none⟩ (.string nm) = U' := ⟨_, rfl⟩
  have hS := hT.set (y0 := (.string nm)) (y1 := (.bool false)) (y2 := (.int .i64 0)) (y3 := (.int .i64 0)) (y4 := (.int .i64 0)) (y5 := (.int .i64 0)) (y6 := (.slice none 0 0)) 0 (.string nm) rfl
  have hGy := HG.out.tr hK
  have hG' := kp_set hGy (show W.heap.size ≤ b + 1 by have := Hb.out; omega) 0 (.string nm)
  have hD' := DAt.set HW0.out hD hGy (show W.heap.size ≤ b + 1 by have := Hb.out; omega) 0 (.string nm)
  rw [hU1] at hS hG' hD'
  have HB1 := hidM hS
  have HG1 := hidM hG'
  have HD1 := hidM hD'
  clear hS hGy hG' hD' hT hD hK
  go_wp2_with (go_at_call 41; refine Hid.out ?_)
  unfold Hid
  have hc := (within15 p bo B bc 0 1) U1 s2 HD1.out
  rw [Hq2.out] at hc
  dsimp only at hc
  refine Calls.mono hc ?_
  rintro e Y2 ⟨v, rfl, rfl, hD, hK⟩
  have hT := HB1.out.kp hK
  have HG := HG1
  clear hc
  have t1 : Y2.cell? ⟨b + 1, 1, none⟩ = some (.bool false) := by simp [World.cell?, hT.tb]
  have q1 := frz hT.tb 1
  obtain ⟨U2, hU2⟩ : ∃ U', Y2.setCell ⟨b + 1, 1, none⟩ (.bool nu) = U' := ⟨_, rfl⟩
  have hS := hT.set (y0 := (.string nm)) (y1 := (.bool nu)) (y2 := (.int .i64 0)) (y3 := (.int .i64 0)) (y4 := (.int .i64 0)) (y5 := (.int .i64 0)) (y6 := (.slice none 0 0)) 1 (.bool nu) rfl
  have hGy := HG.out.tr hK
  have hG' := kp_set hGy (show W.heap.size ≤ b + 1 by have := Hb.out; omega) 1 (.bool nu)
  have hD' := DAt.set HW0.out hD hGy (show W.heap.size ≤ b + 1 by have := Hb.out; omega) 1 (.bool nu)
  rw [hU2] at hS hG' hD'
  have HB2 := hidM hS
  have HG2 := hidM hG'
  have HD2 := hidM hD'
  clear hS hGy hG' hD' hT hD hK
  go_wp2_with (go_at_call 41; refine Hid.out ?_)
  unfold Hid
  have hc := (within15 p bo B bc 1 20) U2 s3 HD2.out
  rw [Hq3.out] at hc
  dsimp only at hc
  refine Calls.mono hc ?_
  rintro e Y3 ⟨v, rfl, rfl, hD, hK⟩
  have hT := HB2.out.kp hK
  have HG := HG2
  clear hc
  have t2 : Y3.cell? ⟨b + 1, 2, none⟩ = some (.int .i64 0) := by simp [World.cell?, hT.tb]
  have q2 := frz hT.tb 2
  obtain ⟨U3, hU3⟩ : ∃ U', Y3.setCell ⟨b + 1, 2, none⟩ (.int .i64 (kk : Int)) = U' := ⟨_, rfl⟩
  have hS := hT.set (y0 := (.string nm)) (y1 := (.bool nu)) (y2 := (.int .i64 (kk : Int))) (y3 := (.int .i64 0)) (y4 := (.int .i64 0)) (y5 := (.int .i64 0)) (y6 := (.slice none 0 0)) 2 (.int .i64 (kk : Int)) rfl
  have hGy := HG.out.tr hK
  have hG' := kp_set hGy (show W.heap.size ≤ b + 1 by have := Hb.out; omega) 2 (.int .i64 (kk : Int))
  have hD' := DAt.set HW0.out hD hGy (show W.heap.size ≤ b + 1 by have := Hb.out; omega) 2 (.int .i64 (kk : Int))
  rw [hU3] at hS hG' hD'
  have HB3 := hidM hS
  have HG3 := hidM hG'
  have HD3 := hidM hD'
  clear hS hGy hG' hD' hT hD hK
  have k2 : U3.cell? ⟨b + 1, 2, none⟩ = some (.int .i64 (kk : Int)) := by simp [World.cell?, HB3.out.tb]
  by_cases c14 : kk = 14
  · have c := c14
    clear c14
    have y14 : ((kk : Int) == 14) = true := by rw [beq_iff_eq]; omega
    obtain ⟨⟨w3, s5⟩, hq4⟩ : ∃ q, numX B 2 s4 = q := ⟨_, rfl⟩
    have Hq4 := hidM hq4
    clear hq4
    have Hg5 : Hid (Gd s5) := by have := Hg4.out.num (B := B) (n := 2); rw [Hq4.out] at this; exact this
    have hx : extX B kk s4 = ((w3, 0, 0, 0), s5) := by unfold extX; rw [if_pos c, Hq4.out]
    obtain ⟨RL, hRL⟩ := ex (sevX (fieldX B d) (0) [] s5)
    have HRL := hidM hRL
    have HRf : Hid (r = (.mk nm nu (kk : Int) ((w3 : Int)) ((0 : Int)) ((0 : Int)) RL.1, RL.2)) := by show _ = _; rw [HRr.out, hx, ← hRL]; try rfl
    clear hRL hx HRr
    clear c
    go_wp2_with (go_at_call 43; refine Hid.out ?_)
    unfold Hid
    have hc := (number17 p bo B bc 2 (by omega)) U3 s4 HD3.out
    rw [Hq4.out] at hc
    dsimp only at hc
    refine Calls.mono hc ?_
    rintro e Y4 ⟨v, rfl, rfl, hD, hK⟩
    have hT := HB3.out.kp hK
    have HG := HG3
    clear hc
    have t3 : Y4.cell? ⟨b + 1, 3, none⟩ = some (.int .i64 0) := by simp [World.cell?, hT.tb]
    have q3 := frz hT.tb 3
    obtain ⟨U4, hU4⟩ : ∃ U', Y4.setCell ⟨b + 1, 3, none⟩ (.int .i64 (w3 : Int)) = U' := ⟨_, rfl⟩
    have hS := hT.set (y0 := (.string nm)) (y1 := (.bool nu)) (y2 := (.int .i64 (kk : Int))) (y3 := (.int .i64 (w3 : Int))) (y4 := (.int .i64 0)) (y5 := (.int .i64 0)) (y6 := (.slice none 0 0)) 3 (.int .i64 (w3 : Int)) rfl
    have hGy := HG.out.tr hK
    have hG' := kp_set hGy (show W.heap.size ≤ b + 1 by have := Hb.out; omega) 3 (.int .i64 (w3 : Int))
    have hD' := DAt.set HW0.out hD hGy (show W.heap.size ≤ b + 1 by have := Hb.out; omega) 3 (.int .i64 (w3 : Int))
    rw [hU4] at hS hG' hD'
    have HB4 := hidM hS
    have HG4 := hidM hG'
    have HD4 := hidM hD'
    clear hS hGy hG' hD' hT hD hK
    clear k2
    have HS0 : Hid (sevX (fieldX B d) ((0 : Nat) - 0) (([] : List FE).map (·.1)) s5 = RL) := HRL.out
    go_wp2
    go_loopw [8] (fun i wr => ∃ (k : Nat) (acc : List FE) (σ : DS) (vo : Option Addr) (vc : Nat), k ≤ (0 : Nat) ∧ i = .int .i64 (k : Int) ∧ Hid (acc.length = k) ∧ Hid (FL V wr d acc vo vc) ∧ Hid (FB W wr p b (b + 1) (.string nm) (.bool nu) (.int .i64 (kk : Int)) (.int .i64 ((w3 : Int))) (.int .i64 ((0 : Int))) (.int .i64 ((0 : Int))) (.slice vo k vc)) ∧ Hid (DAt wr p bo B bc σ) ∧ Hid (Keeps W wr (fun z => z = p)) ∧ Hid (Gd σ) ∧ Hid (sevX (fieldX B d) ((0 : Nat) - k) (acc.map (·.1)) σ = RL)) (fun i _ => (0 : Nat) - (intOf i).toNat)
    case atStart => exact ⟨0, [], s5, none, 0, Nat.zero_le _, rfl, rfl, FL.nil _ _ _, HB4.out, HD4.out, HG4.out, Hg5.out, HS0.out⟩
    case round =>
      obtain ⟨k, acc, σ, vo, vc, hk, rfl, HL, HA, HBw, HDw, HGw, Hgd, HS⟩ := hrel
      have hkb : k ≤ 4294967296 := by omega
      obtain ⟨m0, m1, m2, m3, m4, m5⟩ := HDw.out.cells
      have Hend : Hid (∀ X, Keeps wr X (fun z => z = b) → FV (d + 1) W X (.mk nm nu (kk : Int) ((w3 : Int)) ((0 : Int)) ((0 : Int)) (acc.map (·.1))) (.agg #[.string nm, .bool nu, .int .i64 (kk : Int), .int .i64 ((w3 : Int)), .int .i64 ((0 : Int)), .int .i64 ((0 : Int)), .slice vo k vc])) := fun X kX => by
        have hrow := HA.out.rowAt (by rw [HL.out]; show _ ≤ 1000000000000; omega)
        have hVb := HVb.out
        refine ⟨vo, vc, ?_, by show (acc.map (·.1)).length ≤ vc; rw [List.length_map]; exact hrow.1, (hrow.2.kept fun z z1 z2 => kX.block z z2 (by omega)).wide (by omega) kX.size⟩
        show _ = Value.agg #[.string nm, .bool nu, .int .i64 (kk : Int), .int .i64 ((w3 : Int)), .int .i64 ((0 : Int)), .int .i64 ((0 : Int)), .slice vo (acc.map (·.1)).length vc]
        rw [List.length_map, HL.out]
      have hlt0 : ¬ k < 0 := by omega
      by_cases hlt : k < (0 : Nat)
      · exact absurd hlt hlt0
      have hkn : k = (0 : Nat) := by omega
      have HRl : Hid (RL = (acc.map (·.1), σ)) := by have := HS.out; rw [hkn, Nat.sub_self] at this; exact this.symm
      have hltI : ¬ (k : Int) < ((0 : Int)) := by omega
      clear hkn hlt
      obtain ⟨r0, r1, r2, r3, r4, r5, r6⟩ := ce7 HBw.out.rb
      obtain ⟨q0, q1, q2, q3, q4, q5, q6⟩ := fz7 HBw.out.rb
      obtain ⟨t0, t1, t2, t3, t4, t5, t6⟩ := ce7 HBw.out.tb
      have hE1 := put7_box (.string nm) (.bool nu) (.int .i64 (kk : Int)) (.int .i64 ((w3 : Int))) (.int .i64 ((0 : Int))) (.int .i64 ((0 : Int))) (.slice vo k vc) HBw.out.rb
      have hE2 := put7_keeps wr b (.string nm) (.bool nu) (.int .i64 (kk : Int)) (.int .i64 ((w3 : Int))) (.int .i64 ((0 : Int))) (.int .i64 ((0 : Int))) (.slice vo k vc)
      obtain ⟨X, hX⟩ := ex ((((((((wr.setCell ⟨b, 0, none⟩ (.string nm)).setCell ⟨b, 1, none⟩ (.bool nu)).setCell ⟨b, 2, none⟩ (.int .i64 (kk : Int))).setCell ⟨b, 3, none⟩ (.int .i64 ((w3 : Int)))).setCell ⟨b, 4, none⟩ (.int .i64 ((0 : Int)))).setCell ⟨b, 5, none⟩ (.int .i64 ((0 : Int)))).setCell ⟨b, 6, none⟩ (.slice vo k vc)))
      rw [hX] at hE1 hE2
      have HE1 := hidM hE1
      have HE2 := hidM hE2
      clear hE1 hE2
      go_wp2_with fail
      have kX : Keeps W X (fun z => z = p) := HGw.out.trans HE2.out fun j hj e => by have := Hb.out; omega
      have dX := DAt.over HW0.out HDw.out kX (HE2.out.block p HDw.out.lt (by have := HW0.out.lt; have := Hb.out; omega))
      (try simp only [Exit.inBlock, Exit.then])
      refine bodyPost_ret (results_cell80 rfl rfl HE1.out (by kernel_rfl)) rfl ?_
      have hfin : r = (.mk nm nu (kk : Int) ((w3 : Int)) ((0 : Int)) ((0 : Int)) (acc.map (·.1)), σ) := by rw [HRf.out, HRl.out]
      rw [hfin]
      exact ⟨_, rfl, Hend.out X HE2.out, dX, kX⟩
  by_cases c16 : kk = 16
  · have c := c16
    clear c16
    have n14 : ((kk : Int) == 14) = false := by rw [beq_eq_false_iff_ne]; omega
    have y16 : ((kk : Int) == 16) = true := by rw [beq_iff_eq]; omega
    obtain ⟨⟨w3, s5⟩, hq4⟩ : ∃ q, numX B 2 s4 = q := ⟨_, rfl⟩
    have Hq4 := hidM hq4
    clear hq4
    have Hg5 : Hid (Gd s5) := by have := Hg4.out.num (B := B) (n := 2); rw [Hq4.out] at this; exact this
    have hx : extX B kk s4 = ((w3, 0, 0, 1), s5) := by unfold extX; rw [if_neg (by omega), if_pos c, Hq4.out]
    obtain ⟨RL, hRL⟩ := ex (sevX (fieldX B d) (1) [] s5)
    have HRL := hidM hRL
    have HRf : Hid (r = (.mk nm nu (kk : Int) ((w3 : Int)) ((0 : Int)) ((0 : Int)) RL.1, RL.2)) := by show _ = _; rw [HRr.out, hx, ← hRL]; try rfl
    clear hRL hx HRr
    clear c
    go_wp2_with (go_at_call 43; refine Hid.out ?_)
    unfold Hid
    have hc := (number17 p bo B bc 2 (by omega)) U3 s4 HD3.out
    rw [Hq4.out] at hc
    dsimp only at hc
    refine Calls.mono hc ?_
    rintro e Y4 ⟨v, rfl, rfl, hD, hK⟩
    have hT := HB3.out.kp hK
    have HG := HG3
    clear hc
    have t3 : Y4.cell? ⟨b + 1, 3, none⟩ = some (.int .i64 0) := by simp [World.cell?, hT.tb]
    have q3 := frz hT.tb 3
    obtain ⟨U4, hU4⟩ : ∃ U', Y4.setCell ⟨b + 1, 3, none⟩ (.int .i64 (w3 : Int)) = U' := ⟨_, rfl⟩
    have hS := hT.set (y0 := (.string nm)) (y1 := (.bool nu)) (y2 := (.int .i64 (kk : Int))) (y3 := (.int .i64 (w3 : Int))) (y4 := (.int .i64 0)) (y5 := (.int .i64 0)) (y6 := (.slice none 0 0)) 3 (.int .i64 (w3 : Int)) rfl
    have hGy := HG.out.tr hK
    have hG' := kp_set hGy (show W.heap.size ≤ b + 1 by have := Hb.out; omega) 3 (.int .i64 (w3 : Int))
    have hD' := DAt.set HW0.out hD hGy (show W.heap.size ≤ b + 1 by have := Hb.out; omega) 3 (.int .i64 (w3 : Int))
    rw [hU4] at hS hG' hD'
    have HB4 := hidM hS
    have HG4 := hidM hG'
    have HD4 := hidM hD'
    clear hS hGy hG' hD' hT hD hK
    clear k2
    have HS0 : Hid (sevX (fieldX B d) ((1 : Nat) - 0) (([] : List FE).map (·.1)) s5 = RL) := HRL.out
    go_wp2
    go_loopw [8] (fun i wr => ∃ (k : Nat) (acc : List FE) (σ : DS) (vo : Option Addr) (vc : Nat), k ≤ (1 : Nat) ∧ i = .int .i64 (k : Int) ∧ Hid (acc.length = k) ∧ Hid (FL V wr d acc vo vc) ∧ Hid (FB W wr p b (b + 1) (.string nm) (.bool nu) (.int .i64 (kk : Int)) (.int .i64 ((w3 : Int))) (.int .i64 ((0 : Int))) (.int .i64 ((0 : Int))) (.slice vo k vc)) ∧ Hid (DAt wr p bo B bc σ) ∧ Hid (Keeps W wr (fun z => z = p)) ∧ Hid (Gd σ) ∧ Hid (sevX (fieldX B d) ((1 : Nat) - k) (acc.map (·.1)) σ = RL)) (fun i _ => (1 : Nat) - (intOf i).toNat)
    case atStart => exact ⟨0, [], s5, none, 0, Nat.zero_le _, rfl, rfl, FL.nil _ _ _, HB4.out, HD4.out, HG4.out, Hg5.out, HS0.out⟩
    case round =>
      obtain ⟨k, acc, σ, vo, vc, hk, rfl, HL, HA, HBw, HDw, HGw, Hgd, HS⟩ := hrel
      have hkb : k ≤ 4294967296 := by omega
      obtain ⟨m0, m1, m2, m3, m4, m5⟩ := HDw.out.cells
      have Hend : Hid (∀ X, Keeps wr X (fun z => z = b) → FV (d + 1) W X (.mk nm nu (kk : Int) ((w3 : Int)) ((0 : Int)) ((0 : Int)) (acc.map (·.1))) (.agg #[.string nm, .bool nu, .int .i64 (kk : Int), .int .i64 ((w3 : Int)), .int .i64 ((0 : Int)), .int .i64 ((0 : Int)), .slice vo k vc])) := fun X kX => by
        have hrow := HA.out.rowAt (by rw [HL.out]; show _ ≤ 1000000000000; omega)
        have hVb := HVb.out
        refine ⟨vo, vc, ?_, by show (acc.map (·.1)).length ≤ vc; rw [List.length_map]; exact hrow.1, (hrow.2.kept fun z z1 z2 => kX.block z z2 (by omega)).wide (by omega) kX.size⟩
        show _ = Value.agg #[.string nm, .bool nu, .int .i64 (kk : Int), .int .i64 ((w3 : Int)), .int .i64 ((0 : Int)), .int .i64 ((0 : Int)), .slice vo (acc.map (·.1)).length vc]
        rw [List.length_map, HL.out]
      by_cases hlt : k < (1 : Nat)
      · have hltI : (k : Int) < ((1 : Int)) := by omega
        by_cases he : σ.e = 0
        · rw [he] at m3
          obtain ⟨⟨x, σ'⟩, hqx⟩ : ∃ q, fieldX B d σ = q := ⟨_, rfl⟩
          have HS1 : Hid (sevX (fieldX B d) ((1 : Nat) - (k + 1)) (acc.map (·.1) ++ [x]) σ' = RL) := (sevX_next hlt he hqx).symm.trans HS.out
          have hgd' := Gd.field (B := B) d σ Hgd.out
          have hc := Hih.out wr σ HDw.out Hgd.out
          rw [hqx] at hc hgd'
          dsimp only at hc hgd'
          have Hc := hidM hc
          have Hgd2 := hidM hgd'
          clear hc hgd' hqx he Hend
          go_wp2_with (go_at_call 59; refine Hid.out ?_)
          unfold Hid
          refine Calls.mono Hc.out ?_
          rintro e Y ⟨v, rfl, ⟨ko, kc, rfl, hkc, hrow⟩, hD, hK⟩
          obtain ⟨Y2, hY2⟩ := ex (Y.alloc (.cells #[.string x.name, .bool x.nul, .int .i64 x.kind, .int .i64 x.width, .int .i64 x.id, .int .i64 x.index, .slice ko x.kids.length kc] 52))
          have gY := gr_al hY2
          have hnb := heap_alloc_new Y (.cells #[.string x.name, .bool x.nul, .int .i64 x.kind, .int .i64 x.width, .int .i64 x.id, .int .i64 x.index, .slice ko x.kids.length kc] 52)
          rw [hY2] at hnb
          have kY : Keeps wr Y2 (fun z => z = p) := hK.tr (gY.mono fun _ _ h => h.elim)
          have hVb := HVb.out
          have HA1 := hidM (HA.out.kp2 kY (by omega))
          have hB1 := HBw.out.kp kY
          have HB1 := hidM hB1
          have HG1 := hidM (HGw.out.tr kY)
          have HD1 := hidM (hD.gr gY)
          have HKd := hidM (And.intro hkc ((hrow.kept fun z z1 z2 => gY.block z z2 id).wide (Nat.le_refl _) gY.size))
          have HWs := hidM (And.intro (show V.heap.size ≤ wr.heap.size by have := lt_of_heap HBw.out.tb; omega) kY.size)
          have HSr := hidM (src80 Y2 x ko kc)
          have HO : Hid ((Y2.alloc (.cells #[.string x.name, .bool x.nul, .int .i64 x.kind, .int .i64 x.width, .int .i64 x.id, .int .i64 x.index, .slice ko x.kids.length kc] 52)).ownsRow 0 52 7 (.slice vo k vc) k (acc.flatMap fcel)) := by have := HA1.out.row.own.alloc (.cells #[.string x.name, .bool x.nul, .int .i64 x.kind, .int .i64 x.width, .int .i64 x.id, .int .i64 x.index, .slice ko x.kids.length kc] 52); rwa [HL.out] at this
          have z6 : Y2.cell? ⟨b + 1, 6, none⟩ = some (.slice vo k vc) := by simp [World.cell?, hB1.tb]
          obtain ⟨u0, u1, u2, u3, u4, u5, u6⟩ := ce7 hnb
          clear gY hnb kY hB1 hD hK hkc hrow m0 m1 m2 m3 m4 m5 Hc HS hVb
          go_wp2_with (with_reducible show wpList Tryz.prog _ _ (Oper.mk (some 106) _ _ _ _ _ :: _) _ _; refine Hid.out ?_)
          unfold Hid
          refine wpList_append_anyN (P := Tryz.prog) _ rfl (.tmp 103) (.tmp 105) 22 22 rfl 52 (.agg #[.string ⟨#[]⟩, .bool false, .int .i64 0, .int .i64 0, .int .i64 0, .int .i64 0, .slice none 0 0]) 7 80 Tryz.underlying22 info80 rfl _ _ _ rfl HO.out _ _ _ rfl HSr.out (by omega) (by omega) ?_
          refine Hid.out ?_
          unfold Hid
          intro v' w1 hown hgrow hblk
          obtain ⟨vo', vc', rfl⟩ := own_formK hown
          have hVb := HVb.out
          have kA : Keeps Y2 w1 (fun z => (Value.slice vo k vc).ownBlock = some z) := ((gr_alloc Y2 _).mono fun _ _ h => h.elim).tr (Keeps.ofGrown hgrow)
          have hnew : ∀ g, (Value.slice vo k vc).ownBlock = some g → V.heap.size ≤ g := fun g e => HA1.out.row.new g (by rw [HL.out]; exact e)
          have kW : Keeps W w1 (fun z => z = p) := HG1.out.trans kA (fun j hj h => by have := hnew j h; omega)
          have hB2 : FB W w1 p b (b + 1) (.string nm) (.bool nu) (.int .i64 (kk : Int)) (.int .i64 ((w3 : Int))) (.int .i64 ((0 : Int))) (.int .i64 ((0 : Int))) (.slice vo k vc) := ⟨(kA.block b (lt_of_heap HB1.out.rb) (fun h => by have := hnew b h; omega)).trans HB1.out.rb, (kA.block (b + 1) (lt_of_heap HB1.out.tb) (fun h => by have := hnew (b + 1) h; omega)).trans HB1.out.tb, HB1.out.lt⟩
          have hA2 := FL.push HWs.out.1 HWs.out.2 HA.out HA1.out HL.out HKd.out.1 HKd.out.2 hown hgrow hblk
          obtain ⟨w2, hw2⟩ := ex (w1.setCell ⟨b + 1, 6, none⟩ (.slice vo' (k + 1) vc'))
          have k12 : Keeps w1 w2 (fun z => z = b + 1) := by rw [← hw2]; exact (Keeps.refl w1 (fun z => z = b + 1)).setCell (p := ⟨b + 1, 6, none⟩) (fun _ => rfl) _
          have hB3 := hB2.set (y0 := (.string nm)) (y1 := (.bool nu)) (y2 := (.int .i64 (kk : Int))) (y3 := (.int .i64 ((w3 : Int)))) (y4 := (.int .i64 ((0 : Int)))) (y5 := (.int .i64 ((0 : Int)))) (y6 := (.slice vo' (k + 1) vc')) 6 (.slice vo' (k + 1) vc') rfl
          rw [hw2] at hB3
          have kW2 : Keeps W w2 (fun z => z = p) := kW.trans k12 fun j hj e => by omega
          have HD3 := hidM (DAt.over HW0.out HD1.out kW2 ((k12.block p (Nat.lt_of_lt_of_le HD1.out.lt kA.size) (by omega)).trans (kA.block p HD1.out.lt (fun h => by have := hnew p h; omega))))
          have HB3' := hidM hB3
          have HG3 := hidM kW2
          have HA3 := hidM (hA2.kp k12 (by omega))
          have HL2 : Hid ((acc ++ [(x, ko, kc)]).length = k + 1) := by show _ = _; rw [List.length_append, HL.out]; rfl
          have HS2 : Hid (sevX (fieldX B d) ((1 : Nat) - (k + 1)) ((acc ++ [(x, ko, kc)]).map (·.1)) σ' = RL) := by show _ = _; rw [List.map_append]; exact HS1.out
          have t6 : w1.cell? ⟨b + 1, 6, none⟩ = some (.slice vo k vc) := by simp [World.cell?, hB2.tb]
          have q6 := frz hB2.tb 6
          clear hown hgrow hblk kA hnew kW hB2 hA2 k12 hB3 kW2 HO HSr HA1 HA HKd HWs hVb hY2 z6 u0 u1 u2 u3 u4 u5 u6
          go_wp2_with fail
          go_roundw
          case rel => exact ⟨k + 1, acc ++ [(x, ko, kc)], σ', vo', vc', by omega, by simp, HL2.out, HA3.out, HB3'.out, HD3.out, HG3.out, Hgd2.out, HS2.out⟩
          case measure => simp [intOf]; omega
        have he' : (σ.e == 0) = false := by simp [he]
        have HRl : Hid (RL = (acc.map (·.1), σ)) := HS.out.symm.trans (sevX_stop he)
        clear he
        obtain ⟨r0, r1, r2, r3, r4, r5, r6⟩ := ce7 HBw.out.rb
        obtain ⟨q0, q1, q2, q3, q4, q5, q6⟩ := fz7 HBw.out.rb
        obtain ⟨t0, t1, t2, t3, t4, t5, t6⟩ := ce7 HBw.out.tb
        have hE1 := put7_box (.string nm) (.bool nu) (.int .i64 (kk : Int)) (.int .i64 ((w3 : Int))) (.int .i64 ((0 : Int))) (.int .i64 ((0 : Int))) (.slice vo k vc) HBw.out.rb
        have hE2 := put7_keeps wr b (.string nm) (.bool nu) (.int .i64 (kk : Int)) (.int .i64 ((w3 : Int))) (.int .i64 ((0 : Int))) (.int .i64 ((0 : Int))) (.slice vo k vc)
        obtain ⟨X, hX⟩ := ex ((((((((wr.setCell ⟨b, 0, none⟩ (.string nm)).setCell ⟨b, 1, none⟩ (.bool nu)).setCell ⟨b, 2, none⟩ (.int .i64 (kk : Int))).setCell ⟨b, 3, none⟩ (.int .i64 ((w3 : Int)))).setCell ⟨b, 4, none⟩ (.int .i64 ((0 : Int)))).setCell ⟨b, 5, none⟩ (.int .i64 ((0 : Int)))).setCell ⟨b, 6, none⟩ (.slice vo k vc)))
        rw [hX] at hE1 hE2
        have HE1 := hidM hE1
        have HE2 := hidM hE2
        clear hE1 hE2
        go_wp2_with fail
        have kX : Keeps W X (fun z => z = p) := HGw.out.trans HE2.out fun j hj e => by have := Hb.out; omega
        have dX := DAt.over HW0.out HDw.out kX (HE2.out.block p HDw.out.lt (by have := HW0.out.lt; have := Hb.out; omega))
        (try simp only [Exit.inBlock, Exit.then])
        refine bodyPost_ret (results_cell80 rfl rfl HE1.out (by kernel_rfl)) rfl ?_
        have hfin : r = (.mk nm nu (kk : Int) ((w3 : Int)) ((0 : Int)) ((0 : Int)) (acc.map (·.1)), σ) := by rw [HRf.out, HRl.out]
        rw [hfin]
        exact ⟨_, rfl, Hend.out X HE2.out, dX, kX⟩
      have hkn : k = (1 : Nat) := by omega
      have HRl : Hid (RL = (acc.map (·.1), σ)) := by have := HS.out; rw [hkn, Nat.sub_self] at this; exact this.symm
      have hltI : ¬ (k : Int) < ((1 : Int)) := by omega
      clear hkn hlt
      obtain ⟨r0, r1, r2, r3, r4, r5, r6⟩ := ce7 HBw.out.rb
      obtain ⟨q0, q1, q2, q3, q4, q5, q6⟩ := fz7 HBw.out.rb
      obtain ⟨t0, t1, t2, t3, t4, t5, t6⟩ := ce7 HBw.out.tb
      have hE1 := put7_box (.string nm) (.bool nu) (.int .i64 (kk : Int)) (.int .i64 ((w3 : Int))) (.int .i64 ((0 : Int))) (.int .i64 ((0 : Int))) (.slice vo k vc) HBw.out.rb
      have hE2 := put7_keeps wr b (.string nm) (.bool nu) (.int .i64 (kk : Int)) (.int .i64 ((w3 : Int))) (.int .i64 ((0 : Int))) (.int .i64 ((0 : Int))) (.slice vo k vc)
      obtain ⟨X, hX⟩ := ex ((((((((wr.setCell ⟨b, 0, none⟩ (.string nm)).setCell ⟨b, 1, none⟩ (.bool nu)).setCell ⟨b, 2, none⟩ (.int .i64 (kk : Int))).setCell ⟨b, 3, none⟩ (.int .i64 ((w3 : Int)))).setCell ⟨b, 4, none⟩ (.int .i64 ((0 : Int)))).setCell ⟨b, 5, none⟩ (.int .i64 ((0 : Int)))).setCell ⟨b, 6, none⟩ (.slice vo k vc)))
      rw [hX] at hE1 hE2
      have HE1 := hidM hE1
      have HE2 := hidM hE2
      clear hE1 hE2
      go_wp2_with fail
      have kX : Keeps W X (fun z => z = p) := HGw.out.trans HE2.out fun j hj e => by have := Hb.out; omega
      have dX := DAt.over HW0.out HDw.out kX (HE2.out.block p HDw.out.lt (by have := HW0.out.lt; have := Hb.out; omega))
      (try simp only [Exit.inBlock, Exit.then])
      refine bodyPost_ret (results_cell80 rfl rfl HE1.out (by kernel_rfl)) rfl ?_
      have hfin : r = (.mk nm nu (kk : Int) ((w3 : Int)) ((0 : Int)) ((0 : Int)) (acc.map (·.1)), σ) := by rw [HRf.out, HRl.out]
      rw [hfin]
      exact ⟨_, rfl, Hend.out X HE2.out, dX, kX⟩
  by_cases c19 : kk = 19
  · have c := c19
    clear c19
    have n14 : ((kk : Int) == 14) = false := by rw [beq_eq_false_iff_ne]; omega
    have n16 : ((kk : Int) == 16) = false := by rw [beq_eq_false_iff_ne]; omega
    have y19 : ((kk : Int) == 19) = true := by rw [beq_iff_eq]; omega
    obtain ⟨⟨w4, s5⟩, hq4⟩ : ∃ q, numX B 2 s4 = q := ⟨_, rfl⟩
    have Hq4 := hidM hq4
    clear hq4
    obtain ⟨⟨w5, s6⟩, hq5⟩ : ∃ q, numX B 1 s5 = q := ⟨_, rfl⟩
    have Hq5 := hidM hq5
    clear hq5
    have Hg6 : Hid (Gd s6) := by have h1 := Hg4.out.num (B := B) (n := 2); rw [Hq4.out] at h1; have h2 := h1.num (B := B) (n := 1); rw [Hq5.out] at h2; exact h2
    have hx : extX B kk s4 = ((0, w4, w5, 1), s6) := by unfold extX; rw [if_neg (by omega), if_neg (by omega), if_pos c, Hq4.out]; dsimp only; rw [Hq5.out]
    obtain ⟨RL, hRL⟩ := ex (sevX (fieldX B d) (1) [] s6)
    have HRL := hidM hRL
    have HRf : Hid (r = (.mk nm nu (kk : Int) ((0 : Int)) ((w4 : Int)) ((w5 : Int)) RL.1, RL.2)) := by show _ = _; rw [HRr.out, hx, ← hRL]; try rfl
    clear hRL hx HRr
    clear c
    go_wp2_with (go_at_call 43; refine Hid.out ?_)
    unfold Hid
    have hc := (number17 p bo B bc 2 (by omega)) U3 s4 HD3.out
    rw [Hq4.out] at hc
    dsimp only at hc
    refine Calls.mono hc ?_
    rintro e Y4 ⟨v, rfl, rfl, hD, hK⟩
    have hT := HB3.out.kp hK
    have HG := HG3
    clear hc
    have t4 : Y4.cell? ⟨b + 1, 4, none⟩ = some (.int .i64 0) := by simp [World.cell?, hT.tb]
    have q4 := frz hT.tb 4
    obtain ⟨U4, hU4⟩ : ∃ U', Y4.setCell ⟨b + 1, 4, none⟩ (.int .i64 (w4 : Int)) = U' := ⟨_, rfl⟩
    have hS := hT.set (y0 := (.string nm)) (y1 := (.bool nu)) (y2 := (.int .i64 (kk : Int))) (y3 := (.int .i64 0)) (y4 := (.int .i64 (w4 : Int))) (y5 := (.int .i64 0)) (y6 := (.slice none 0 0)) 4 (.int .i64 (w4 : Int)) rfl
    have hGy := HG.out.tr hK
    have hG' := kp_set hGy (show W.heap.size ≤ b + 1 by have := Hb.out; omega) 4 (.int .i64 (w4 : Int))
    have hD' := DAt.set HW0.out hD hGy (show W.heap.size ≤ b + 1 by have := Hb.out; omega) 4 (.int .i64 (w4 : Int))
    rw [hU4] at hS hG' hD'
    have HB4 := hidM hS
    have HG4 := hidM hG'
    have HD4 := hidM hD'
    clear hS hGy hG' hD' hT hD hK
    clear k2
    go_wp2_with (go_at_call 43; refine Hid.out ?_)
    unfold Hid
    have hc := (number17 p bo B bc 1 (by omega)) U4 s5 HD4.out
    rw [Hq5.out] at hc
    dsimp only at hc
    refine Calls.mono hc ?_
    rintro e Y5 ⟨v, rfl, rfl, hD, hK⟩
    have hT := HB4.out.kp hK
    have HG := HG4
    clear hc
    have t5 : Y5.cell? ⟨b + 1, 5, none⟩ = some (.int .i64 0) := by simp [World.cell?, hT.tb]
    have q5 := frz hT.tb 5
    obtain ⟨U5, hU5⟩ : ∃ U', Y5.setCell ⟨b + 1, 5, none⟩ (.int .i64 (w5 : Int)) = U' := ⟨_, rfl⟩
    have hS := hT.set (y0 := (.string nm)) (y1 := (.bool nu)) (y2 := (.int .i64 (kk : Int))) (y3 := (.int .i64 0)) (y4 := (.int .i64 (w4 : Int))) (y5 := (.int .i64 (w5 : Int))) (y6 := (.slice none 0 0)) 5 (.int .i64 (w5 : Int)) rfl
    have hGy := HG.out.tr hK
    have hG' := kp_set hGy (show W.heap.size ≤ b + 1 by have := Hb.out; omega) 5 (.int .i64 (w5 : Int))
    have hD' := DAt.set HW0.out hD hGy (show W.heap.size ≤ b + 1 by have := Hb.out; omega) 5 (.int .i64 (w5 : Int))
    rw [hU5] at hS hG' hD'
    have HB5 := hidM hS
    have HG5 := hidM hG'
    have HD5 := hidM hD'
    clear hS hGy hG' hD' hT hD hK
    have HS0 : Hid (sevX (fieldX B d) ((1 : Nat) - 0) (([] : List FE).map (·.1)) s6 = RL) := HRL.out
    go_wp2
    go_loopw [8] (fun i wr => ∃ (k : Nat) (acc : List FE) (σ : DS) (vo : Option Addr) (vc : Nat), k ≤ (1 : Nat) ∧ i = .int .i64 (k : Int) ∧ Hid (acc.length = k) ∧ Hid (FL V wr d acc vo vc) ∧ Hid (FB W wr p b (b + 1) (.string nm) (.bool nu) (.int .i64 (kk : Int)) (.int .i64 ((0 : Int))) (.int .i64 ((w4 : Int))) (.int .i64 ((w5 : Int))) (.slice vo k vc)) ∧ Hid (DAt wr p bo B bc σ) ∧ Hid (Keeps W wr (fun z => z = p)) ∧ Hid (Gd σ) ∧ Hid (sevX (fieldX B d) ((1 : Nat) - k) (acc.map (·.1)) σ = RL)) (fun i _ => (1 : Nat) - (intOf i).toNat)
    case atStart => exact ⟨0, [], s6, none, 0, Nat.zero_le _, rfl, rfl, FL.nil _ _ _, HB5.out, HD5.out, HG5.out, Hg6.out, HS0.out⟩
    case round =>
      obtain ⟨k, acc, σ, vo, vc, hk, rfl, HL, HA, HBw, HDw, HGw, Hgd, HS⟩ := hrel
      have hkb : k ≤ 4294967296 := by omega
      obtain ⟨m0, m1, m2, m3, m4, m5⟩ := HDw.out.cells
      have Hend : Hid (∀ X, Keeps wr X (fun z => z = b) → FV (d + 1) W X (.mk nm nu (kk : Int) ((0 : Int)) ((w4 : Int)) ((w5 : Int)) (acc.map (·.1))) (.agg #[.string nm, .bool nu, .int .i64 (kk : Int), .int .i64 ((0 : Int)), .int .i64 ((w4 : Int)), .int .i64 ((w5 : Int)), .slice vo k vc])) := fun X kX => by
        have hrow := HA.out.rowAt (by rw [HL.out]; show _ ≤ 1000000000000; omega)
        have hVb := HVb.out
        refine ⟨vo, vc, ?_, by show (acc.map (·.1)).length ≤ vc; rw [List.length_map]; exact hrow.1, (hrow.2.kept fun z z1 z2 => kX.block z z2 (by omega)).wide (by omega) kX.size⟩
        show _ = Value.agg #[.string nm, .bool nu, .int .i64 (kk : Int), .int .i64 ((0 : Int)), .int .i64 ((w4 : Int)), .int .i64 ((w5 : Int)), .slice vo (acc.map (·.1)).length vc]
        rw [List.length_map, HL.out]
      by_cases hlt : k < (1 : Nat)
      · have hltI : (k : Int) < ((1 : Int)) := by omega
        by_cases he : σ.e = 0
        · rw [he] at m3
          obtain ⟨⟨x, σ'⟩, hqx⟩ : ∃ q, fieldX B d σ = q := ⟨_, rfl⟩
          have HS1 : Hid (sevX (fieldX B d) ((1 : Nat) - (k + 1)) (acc.map (·.1) ++ [x]) σ' = RL) := (sevX_next hlt he hqx).symm.trans HS.out
          have hgd' := Gd.field (B := B) d σ Hgd.out
          have hc := Hih.out wr σ HDw.out Hgd.out
          rw [hqx] at hc hgd'
          dsimp only at hc hgd'
          have Hc := hidM hc
          have Hgd2 := hidM hgd'
          clear hc hgd' hqx he Hend
          go_wp2_with (go_at_call 59; refine Hid.out ?_)
          unfold Hid
          refine Calls.mono Hc.out ?_
          rintro e Y ⟨v, rfl, ⟨ko, kc, rfl, hkc, hrow⟩, hD, hK⟩
          obtain ⟨Y2, hY2⟩ := ex (Y.alloc (.cells #[.string x.name, .bool x.nul, .int .i64 x.kind, .int .i64 x.width, .int .i64 x.id, .int .i64 x.index, .slice ko x.kids.length kc] 52))
          have gY := gr_al hY2
          have hnb := heap_alloc_new Y (.cells #[.string x.name, .bool x.nul, .int .i64 x.kind, .int .i64 x.width, .int .i64 x.id, .int .i64 x.index, .slice ko x.kids.length kc] 52)
          rw [hY2] at hnb
          have kY : Keeps wr Y2 (fun z => z = p) := hK.tr (gY.mono fun _ _ h => h.elim)
          have hVb := HVb.out
          have HA1 := hidM (HA.out.kp2 kY (by omega))
          have hB1 := HBw.out.kp kY
          have HB1 := hidM hB1
          have HG1 := hidM (HGw.out.tr kY)
          have HD1 := hidM (hD.gr gY)
          have HKd := hidM (And.intro hkc ((hrow.kept fun z z1 z2 => gY.block z z2 id).wide (Nat.le_refl _) gY.size))
          have HWs := hidM (And.intro (show V.heap.size ≤ wr.heap.size by have := lt_of_heap HBw.out.tb; omega) kY.size)
          have HSr := hidM (src80 Y2 x ko kc)
          have HO : Hid ((Y2.alloc (.cells #[.string x.name, .bool x.nul, .int .i64 x.kind, .int .i64 x.width, .int .i64 x.id, .int .i64 x.index, .slice ko x.kids.length kc] 52)).ownsRow 0 52 7 (.slice vo k vc) k (acc.flatMap fcel)) := by have := HA1.out.row.own.alloc (.cells #[.string x.name, .bool x.nul, .int .i64 x.kind, .int .i64 x.width, .int .i64 x.id, .int .i64 x.index, .slice ko x.kids.length kc] 52); rwa [HL.out] at this
          have z6 : Y2.cell? ⟨b + 1, 6, none⟩ = some (.slice vo k vc) := by simp [World.cell?, hB1.tb]
          obtain ⟨u0, u1, u2, u3, u4, u5, u6⟩ := ce7 hnb
          clear gY hnb kY hB1 hD hK hkc hrow m0 m1 m2 m3 m4 m5 Hc HS hVb
          go_wp2_with (with_reducible show wpList Tryz.prog _ _ (Oper.mk (some 106) _ _ _ _ _ :: _) _ _; refine Hid.out ?_)
          unfold Hid
          refine wpList_append_anyN (P := Tryz.prog) _ rfl (.tmp 103) (.tmp 105) 22 22 rfl 52 (.agg #[.string ⟨#[]⟩, .bool false, .int .i64 0, .int .i64 0, .int .i64 0, .int .i64 0, .slice none 0 0]) 7 80 Tryz.underlying22 info80 rfl _ _ _ rfl HO.out _ _ _ rfl HSr.out (by omega) (by omega) ?_
          refine Hid.out ?_
          unfold Hid
          intro v' w1 hown hgrow hblk
          obtain ⟨vo', vc', rfl⟩ := own_formK hown
          have hVb := HVb.out
          have kA : Keeps Y2 w1 (fun z => (Value.slice vo k vc).ownBlock = some z) := ((gr_alloc Y2 _).mono fun _ _ h => h.elim).tr (Keeps.ofGrown hgrow)
          have hnew : ∀ g, (Value.slice vo k vc).ownBlock = some g → V.heap.size ≤ g := fun g e => HA1.out.row.new g (by rw [HL.out]; exact e)
          have kW : Keeps W w1 (fun z => z = p) := HG1.out.trans kA (fun j hj h => by have := hnew j h; omega)
          have hB2 : FB W w1 p b (b + 1) (.string nm) (.bool nu) (.int .i64 (kk : Int)) (.int .i64 ((0 : Int))) (.int .i64 ((w4 : Int))) (.int .i64 ((w5 : Int))) (.slice vo k vc) := ⟨(kA.block b (lt_of_heap HB1.out.rb) (fun h => by have := hnew b h; omega)).trans HB1.out.rb, (kA.block (b + 1) (lt_of_heap HB1.out.tb) (fun h => by have := hnew (b + 1) h; omega)).trans HB1.out.tb, HB1.out.lt⟩
          have hA2 := FL.push HWs.out.1 HWs.out.2 HA.out HA1.out HL.out HKd.out.1 HKd.out.2 hown hgrow hblk
          obtain ⟨w2, hw2⟩ := ex (w1.setCell ⟨b + 1, 6, none⟩ (.slice vo' (k + 1) vc'))
          have k12 : Keeps w1 w2 (fun z => z = b + 1) := by rw [← hw2]; exact (Keeps.refl w1 (fun z => z = b + 1)).setCell (p := ⟨b + 1, 6, none⟩) (fun _ => rfl) _
          have hB3 := hB2.set (y0 := (.string nm)) (y1 := (.bool nu)) (y2 := (.int .i64 (kk : Int))) (y3 := (.int .i64 ((0 : Int)))) (y4 := (.int .i64 ((w4 : Int)))) (y5 := (.int .i64 ((w5 : Int)))) (y6 := (.slice vo' (k + 1) vc')) 6 (.slice vo' (k + 1) vc') rfl
          rw [hw2] at hB3
          have kW2 : Keeps W w2 (fun z => z = p) := kW.trans k12 fun j hj e => by omega
          have HD3 := hidM (DAt.over HW0.out HD1.out kW2 ((k12.block p (Nat.lt_of_lt_of_le HD1.out.lt kA.size) (by omega)).trans (kA.block p HD1.out.lt (fun h => by have := hnew p h; omega))))
          have HB3' := hidM hB3
          have HG3 := hidM kW2
          have HA3 := hidM (hA2.kp k12 (by omega))
          have HL2 : Hid ((acc ++ [(x, ko, kc)]).length = k + 1) := by show _ = _; rw [List.length_append, HL.out]; rfl
          have HS2 : Hid (sevX (fieldX B d) ((1 : Nat) - (k + 1)) ((acc ++ [(x, ko, kc)]).map (·.1)) σ' = RL) := by show _ = _; rw [List.map_append]; exact HS1.out
          have t6 : w1.cell? ⟨b + 1, 6, none⟩ = some (.slice vo k vc) := by simp [World.cell?, hB2.tb]
          have q6 := frz hB2.tb 6
          clear hown hgrow hblk kA hnew kW hB2 hA2 k12 hB3 kW2 HO HSr HA1 HA HKd HWs hVb hY2 z6 u0 u1 u2 u3 u4 u5 u6
          go_wp2_with fail
          go_roundw
          case rel => exact ⟨k + 1, acc ++ [(x, ko, kc)], σ', vo', vc', by omega, by simp, HL2.out, HA3.out, HB3'.out, HD3.out, HG3.out, Hgd2.out, HS2.out⟩
          case measure => simp [intOf]; omega
        have he' : (σ.e == 0) = false := by simp [he]
        have HRl : Hid (RL = (acc.map (·.1), σ)) := HS.out.symm.trans (sevX_stop he)
        clear he
        obtain ⟨r0, r1, r2, r3, r4, r5, r6⟩ := ce7 HBw.out.rb
        obtain ⟨q0, q1, q2, q3, q4, q5, q6⟩ := fz7 HBw.out.rb
        obtain ⟨t0, t1, t2, t3, t4, t5, t6⟩ := ce7 HBw.out.tb
        have hE1 := put7_box (.string nm) (.bool nu) (.int .i64 (kk : Int)) (.int .i64 ((0 : Int))) (.int .i64 ((w4 : Int))) (.int .i64 ((w5 : Int))) (.slice vo k vc) HBw.out.rb
        have hE2 := put7_keeps wr b (.string nm) (.bool nu) (.int .i64 (kk : Int)) (.int .i64 ((0 : Int))) (.int .i64 ((w4 : Int))) (.int .i64 ((w5 : Int))) (.slice vo k vc)
        obtain ⟨X, hX⟩ := ex ((((((((wr.setCell ⟨b, 0, none⟩ (.string nm)).setCell ⟨b, 1, none⟩ (.bool nu)).setCell ⟨b, 2, none⟩ (.int .i64 (kk : Int))).setCell ⟨b, 3, none⟩ (.int .i64 ((0 : Int)))).setCell ⟨b, 4, none⟩ (.int .i64 ((w4 : Int)))).setCell ⟨b, 5, none⟩ (.int .i64 ((w5 : Int)))).setCell ⟨b, 6, none⟩ (.slice vo k vc)))
        rw [hX] at hE1 hE2
        have HE1 := hidM hE1
        have HE2 := hidM hE2
        clear hE1 hE2
        go_wp2_with fail
        have kX : Keeps W X (fun z => z = p) := HGw.out.trans HE2.out fun j hj e => by have := Hb.out; omega
        have dX := DAt.over HW0.out HDw.out kX (HE2.out.block p HDw.out.lt (by have := HW0.out.lt; have := Hb.out; omega))
        (try simp only [Exit.inBlock, Exit.then])
        refine bodyPost_ret (results_cell80 rfl rfl HE1.out (by kernel_rfl)) rfl ?_
        have hfin : r = (.mk nm nu (kk : Int) ((0 : Int)) ((w4 : Int)) ((w5 : Int)) (acc.map (·.1)), σ) := by rw [HRf.out, HRl.out]
        rw [hfin]
        exact ⟨_, rfl, Hend.out X HE2.out, dX, kX⟩
      have hkn : k = (1 : Nat) := by omega
      have HRl : Hid (RL = (acc.map (·.1), σ)) := by have := HS.out; rw [hkn, Nat.sub_self] at this; exact this.symm
      have hltI : ¬ (k : Int) < ((1 : Int)) := by omega
      clear hkn hlt
      obtain ⟨r0, r1, r2, r3, r4, r5, r6⟩ := ce7 HBw.out.rb
      obtain ⟨q0, q1, q2, q3, q4, q5, q6⟩ := fz7 HBw.out.rb
      obtain ⟨t0, t1, t2, t3, t4, t5, t6⟩ := ce7 HBw.out.tb
      have hE1 := put7_box (.string nm) (.bool nu) (.int .i64 (kk : Int)) (.int .i64 ((0 : Int))) (.int .i64 ((w4 : Int))) (.int .i64 ((w5 : Int))) (.slice vo k vc) HBw.out.rb
      have hE2 := put7_keeps wr b (.string nm) (.bool nu) (.int .i64 (kk : Int)) (.int .i64 ((0 : Int))) (.int .i64 ((w4 : Int))) (.int .i64 ((w5 : Int))) (.slice vo k vc)
      obtain ⟨X, hX⟩ := ex ((((((((wr.setCell ⟨b, 0, none⟩ (.string nm)).setCell ⟨b, 1, none⟩ (.bool nu)).setCell ⟨b, 2, none⟩ (.int .i64 (kk : Int))).setCell ⟨b, 3, none⟩ (.int .i64 ((0 : Int)))).setCell ⟨b, 4, none⟩ (.int .i64 ((w4 : Int)))).setCell ⟨b, 5, none⟩ (.int .i64 ((w5 : Int)))).setCell ⟨b, 6, none⟩ (.slice vo k vc)))
      rw [hX] at hE1 hE2
      have HE1 := hidM hE1
      have HE2 := hidM hE2
      clear hE1 hE2
      go_wp2_with fail
      have kX : Keeps W X (fun z => z = p) := HGw.out.trans HE2.out fun j hj e => by have := Hb.out; omega
      have dX := DAt.over HW0.out HDw.out kX (HE2.out.block p HDw.out.lt (by have := HW0.out.lt; have := Hb.out; omega))
      (try simp only [Exit.inBlock, Exit.then])
      refine bodyPost_ret (results_cell80 rfl rfl HE1.out (by kernel_rfl)) rfl ?_
      have hfin : r = (.mk nm nu (kk : Int) ((0 : Int)) ((w4 : Int)) ((w5 : Int)) (acc.map (·.1)), σ) := by rw [HRf.out, HRl.out]
      rw [hfin]
      exact ⟨_, rfl, Hend.out X HE2.out, dX, kX⟩
  by_cases c17 : kk = 17 ∨ kk = 18
  · have n14 : ((kk : Int) == 14) = false := by rw [beq_eq_false_iff_ne]; omega
    have n16 : ((kk : Int) == 16) = false := by rw [beq_eq_false_iff_ne]; omega
    have n19 : ((kk : Int) == 19) = false := by rw [beq_eq_false_iff_ne]; omega
    have hpair : ((kk : Int) == 17) = true ∨ (((kk : Int) == 17) = false ∧ ((kk : Int) == 18) = true) := by
      by_cases c : kk = 17
      · left; rw [beq_iff_eq]; omega
      right; exact ⟨by rw [beq_eq_false_iff_ne]; omega, by rw [beq_iff_eq]; omega⟩
    have c := c17
    clear c17
    rcases hpair with y17 | ⟨n17, y18⟩
    all_goals
      obtain ⟨⟨w6, s5⟩, hq4⟩ : ∃ q, numX B 1 s4 = q := ⟨_, rfl⟩
      have Hq4 := hidM hq4
      clear hq4
      have Hg5 : Hid (Gd s5) := by have := Hg4.out.num (B := B) (n := 1); rw [Hq4.out] at this; exact this
      have hw6 : w6 < 4294967296 := by have := numX_lt B 1 (by omega) s4; rw [Hq4.out] at this; exact this
      have hx : extX B kk s4 = ((0, 0, 0, w6), s5) := by unfold extX; rw [if_neg (by omega), if_neg (by omega), if_neg (by omega), if_pos (by omega), Hq4.out]
      obtain ⟨RL, hRL⟩ := ex (sevX (fieldX B d) (w6) [] s5)
      have HRL := hidM hRL
      have HRf : Hid (r = (.mk nm nu (kk : Int) ((0 : Int)) ((0 : Int)) ((0 : Int)) RL.1, RL.2)) := by show _ = _; rw [HRr.out, hx, ← hRL]; try rfl
      clear hRL hx HRr
      clear c
      go_wp2_with (go_at_call 43; refine Hid.out ?_)
      unfold Hid
      have hc := (number17 p bo B bc 1 (by omega)) U3 s4 HD3.out
      rw [Hq4.out] at hc
      dsimp only at hc
      refine Calls.mono hc ?_
      rintro e Y4 ⟨v, rfl, rfl, hD, hK⟩
      have hT := HB3.out.kp hK
      have HG := HG3
      clear hc
      have HBn := hidM hT
      have hGn := HG.out.tr hK
      have HGn := hidM hGn
      have HDn := hidM hD
      clear hT hGn hD hK k2
      have HS0 : Hid (sevX (fieldX B d) ((w6 : Nat) - 0) (([] : List FE).map (·.1)) s5 = RL) := HRL.out
      go_wp2
      go_loopw [8] (fun i wr => ∃ (k : Nat) (acc : List FE) (σ : DS) (vo : Option Addr) (vc : Nat), k ≤ (w6 : Nat) ∧ i = .int .i64 (k : Int) ∧ Hid (acc.length = k) ∧ Hid (FL V wr d acc vo vc) ∧ Hid (FB W wr p b (b + 1) (.string nm) (.bool nu) (.int .i64 (kk : Int)) (.int .i64 ((0 : Int))) (.int .i64 ((0 : Int))) (.int .i64 ((0 : Int))) (.slice vo k vc)) ∧ Hid (DAt wr p bo B bc σ) ∧ Hid (Keeps W wr (fun z => z = p)) ∧ Hid (Gd σ) ∧ Hid (sevX (fieldX B d) ((w6 : Nat) - k) (acc.map (·.1)) σ = RL)) (fun i _ => (w6 : Nat) - (intOf i).toNat)
      case atStart => exact ⟨0, [], s5, none, 0, Nat.zero_le _, rfl, rfl, FL.nil _ _ _, HBn.out, HDn.out, HGn.out, Hg5.out, HS0.out⟩
      case round =>
        obtain ⟨k, acc, σ, vo, vc, hk, rfl, HL, HA, HBw, HDw, HGw, Hgd, HS⟩ := hrel
        have hkb : k ≤ 4294967296 := by omega
        obtain ⟨m0, m1, m2, m3, m4, m5⟩ := HDw.out.cells
        have Hend : Hid (∀ X, Keeps wr X (fun z => z = b) → FV (d + 1) W X (.mk nm nu (kk : Int) ((0 : Int)) ((0 : Int)) ((0 : Int)) (acc.map (·.1))) (.agg #[.string nm, .bool nu, .int .i64 (kk : Int), .int .i64 ((0 : Int)), .int .i64 ((0 : Int)), .int .i64 ((0 : Int)), .slice vo k vc])) := fun X kX => by
          have hrow := HA.out.rowAt (by rw [HL.out]; show _ ≤ 1000000000000; omega)
          have hVb := HVb.out
          refine ⟨vo, vc, ?_, by show (acc.map (·.1)).length ≤ vc; rw [List.length_map]; exact hrow.1, (hrow.2.kept fun z z1 z2 => kX.block z z2 (by omega)).wide (by omega) kX.size⟩
          show _ = Value.agg #[.string nm, .bool nu, .int .i64 (kk : Int), .int .i64 ((0 : Int)), .int .i64 ((0 : Int)), .int .i64 ((0 : Int)), .slice vo (acc.map (·.1)).length vc]
          rw [List.length_map, HL.out]
        by_cases hlt : k < (w6 : Nat)
        · have hltI : (k : Int) < ((w6 : Int)) := by omega
          by_cases he : σ.e = 0
          · rw [he] at m3
            obtain ⟨⟨x, σ'⟩, hqx⟩ : ∃ q, fieldX B d σ = q := ⟨_, rfl⟩
            have HS1 : Hid (sevX (fieldX B d) ((w6 : Nat) - (k + 1)) (acc.map (·.1) ++ [x]) σ' = RL) := (sevX_next hlt he hqx).symm.trans HS.out
            have hgd' := Gd.field (B := B) d σ Hgd.out
            have hc := Hih.out wr σ HDw.out Hgd.out
            rw [hqx] at hc hgd'
            dsimp only at hc hgd'
            have Hc := hidM hc
            have Hgd2 := hidM hgd'
            clear hc hgd' hqx he Hend
            go_wp2_with (go_at_call 59; refine Hid.out ?_)
            unfold Hid
            refine Calls.mono Hc.out ?_
            rintro e Y ⟨v, rfl, ⟨ko, kc, rfl, hkc, hrow⟩, hD, hK⟩
            obtain ⟨Y2, hY2⟩ := ex (Y.alloc (.cells #[.string x.name, .bool x.nul, .int .i64 x.kind, .int .i64 x.width, .int .i64 x.id, .int .i64 x.index, .slice ko x.kids.length kc] 52))
            have gY := gr_al hY2
            have hnb := heap_alloc_new Y (.cells #[.string x.name, .bool x.nul, .int .i64 x.kind, .int .i64 x.width, .int .i64 x.id, .int .i64 x.index, .slice ko x.kids.length kc] 52)
            rw [hY2] at hnb
            have kY : Keeps wr Y2 (fun z => z = p) := hK.tr (gY.mono fun _ _ h => h.elim)
            have hVb := HVb.out
            have HA1 := hidM (HA.out.kp2 kY (by omega))
            have hB1 := HBw.out.kp kY
            have HB1 := hidM hB1
            have HG1 := hidM (HGw.out.tr kY)
            have HD1 := hidM (hD.gr gY)
            have HKd := hidM (And.intro hkc ((hrow.kept fun z z1 z2 => gY.block z z2 id).wide (Nat.le_refl _) gY.size))
            have HWs := hidM (And.intro (show V.heap.size ≤ wr.heap.size by have := lt_of_heap HBw.out.tb; omega) kY.size)
            have HSr := hidM (src80 Y2 x ko kc)
            have HO : Hid ((Y2.alloc (.cells #[.string x.name, .bool x.nul, .int .i64 x.kind, .int .i64 x.width, .int .i64 x.id, .int .i64 x.index, .slice ko x.kids.length kc] 52)).ownsRow 0 52 7 (.slice vo k vc) k (acc.flatMap fcel)) := by have := HA1.out.row.own.alloc (.cells #[.string x.name, .bool x.nul, .int .i64 x.kind, .int .i64 x.width, .int .i64 x.id, .int .i64 x.index, .slice ko x.kids.length kc] 52); rwa [HL.out] at this
            have z6 : Y2.cell? ⟨b + 1, 6, none⟩ = some (.slice vo k vc) := by simp [World.cell?, hB1.tb]
            obtain ⟨u0, u1, u2, u3, u4, u5, u6⟩ := ce7 hnb
            clear gY hnb kY hB1 hD hK hkc hrow m0 m1 m2 m3 m4 m5 Hc HS hVb
            go_wp2_with (with_reducible show wpList Tryz.prog _ _ (Oper.mk (some 106) _ _ _ _ _ :: _) _ _; refine Hid.out ?_)
            unfold Hid
            refine wpList_append_anyN (P := Tryz.prog) _ rfl (.tmp 103) (.tmp 105) 22 22 rfl 52 (.agg #[.string ⟨#[]⟩, .bool false, .int .i64 0, .int .i64 0, .int .i64 0, .int .i64 0, .slice none 0 0]) 7 80 Tryz.underlying22 info80 rfl _ _ _ rfl HO.out _ _ _ rfl HSr.out (by omega) (by omega) ?_
            refine Hid.out ?_
            unfold Hid
            intro v' w1 hown hgrow hblk
            obtain ⟨vo', vc', rfl⟩ := own_formK hown
            have hVb := HVb.out
            have kA : Keeps Y2 w1 (fun z => (Value.slice vo k vc).ownBlock = some z) := ((gr_alloc Y2 _).mono fun _ _ h => h.elim).tr (Keeps.ofGrown hgrow)
            have hnew : ∀ g, (Value.slice vo k vc).ownBlock = some g → V.heap.size ≤ g := fun g e => HA1.out.row.new g (by rw [HL.out]; exact e)
            have kW : Keeps W w1 (fun z => z = p) := HG1.out.trans kA (fun j hj h => by have := hnew j h; omega)
            have hB2 : FB W w1 p b (b + 1) (.string nm) (.bool nu) (.int .i64 (kk : Int)) (.int .i64 ((0 : Int))) (.int .i64 ((0 : Int))) (.int .i64 ((0 : Int))) (.slice vo k vc) := ⟨(kA.block b (lt_of_heap HB1.out.rb) (fun h => by have := hnew b h; omega)).trans HB1.out.rb, (kA.block (b + 1) (lt_of_heap HB1.out.tb) (fun h => by have := hnew (b + 1) h; omega)).trans HB1.out.tb, HB1.out.lt⟩
            have hA2 := FL.push HWs.out.1 HWs.out.2 HA.out HA1.out HL.out HKd.out.1 HKd.out.2 hown hgrow hblk
            obtain ⟨w2, hw2⟩ := ex (w1.setCell ⟨b + 1, 6, none⟩ (.slice vo' (k + 1) vc'))
            have k12 : Keeps w1 w2 (fun z => z = b + 1) := by rw [← hw2]; exact (Keeps.refl w1 (fun z => z = b + 1)).setCell (p := ⟨b + 1, 6, none⟩) (fun _ => rfl) _
            have hB3 := hB2.set (y0 := (.string nm)) (y1 := (.bool nu)) (y2 := (.int .i64 (kk : Int))) (y3 := (.int .i64 ((0 : Int)))) (y4 := (.int .i64 ((0 : Int)))) (y5 := (.int .i64 ((0 : Int)))) (y6 := (.slice vo' (k + 1) vc')) 6 (.slice vo' (k + 1) vc') rfl
            rw [hw2] at hB3
            have kW2 : Keeps W w2 (fun z => z = p) := kW.trans k12 fun j hj e => by omega
            have HD3 := hidM (DAt.over HW0.out HD1.out kW2 ((k12.block p (Nat.lt_of_lt_of_le HD1.out.lt kA.size) (by omega)).trans (kA.block p HD1.out.lt (fun h => by have := hnew p h; omega))))
            have HB3' := hidM hB3
            have HG3 := hidM kW2
            have HA3 := hidM (hA2.kp k12 (by omega))
            have HL2 : Hid ((acc ++ [(x, ko, kc)]).length = k + 1) := by show _ = _; rw [List.length_append, HL.out]; rfl
            have HS2 : Hid (sevX (fieldX B d) ((w6 : Nat) - (k + 1)) ((acc ++ [(x, ko, kc)]).map (·.1)) σ' = RL) := by show _ = _; rw [List.map_append]; exact HS1.out
            have t6 : w1.cell? ⟨b + 1, 6, none⟩ = some (.slice vo k vc) := by simp [World.cell?, hB2.tb]
            have q6 := frz hB2.tb 6
            clear hown hgrow hblk kA hnew kW hB2 hA2 k12 hB3 kW2 HO HSr HA1 HA HKd HWs hVb hY2 z6 u0 u1 u2 u3 u4 u5 u6
            go_wp2_with fail
            go_roundw
            case rel => exact ⟨k + 1, acc ++ [(x, ko, kc)], σ', vo', vc', by omega, by simp, HL2.out, HA3.out, HB3'.out, HD3.out, HG3.out, Hgd2.out, HS2.out⟩
            case measure => simp [intOf]; omega
          have he' : (σ.e == 0) = false := by simp [he]
          have HRl : Hid (RL = (acc.map (·.1), σ)) := HS.out.symm.trans (sevX_stop he)
          clear he
          obtain ⟨r0, r1, r2, r3, r4, r5, r6⟩ := ce7 HBw.out.rb
          obtain ⟨q0, q1, q2, q3, q4, q5, q6⟩ := fz7 HBw.out.rb
          obtain ⟨t0, t1, t2, t3, t4, t5, t6⟩ := ce7 HBw.out.tb
          have hE1 := put7_box (.string nm) (.bool nu) (.int .i64 (kk : Int)) (.int .i64 ((0 : Int))) (.int .i64 ((0 : Int))) (.int .i64 ((0 : Int))) (.slice vo k vc) HBw.out.rb
          have hE2 := put7_keeps wr b (.string nm) (.bool nu) (.int .i64 (kk : Int)) (.int .i64 ((0 : Int))) (.int .i64 ((0 : Int))) (.int .i64 ((0 : Int))) (.slice vo k vc)
          obtain ⟨X, hX⟩ := ex ((((((((wr.setCell ⟨b, 0, none⟩ (.string nm)).setCell ⟨b, 1, none⟩ (.bool nu)).setCell ⟨b, 2, none⟩ (.int .i64 (kk : Int))).setCell ⟨b, 3, none⟩ (.int .i64 ((0 : Int)))).setCell ⟨b, 4, none⟩ (.int .i64 ((0 : Int)))).setCell ⟨b, 5, none⟩ (.int .i64 ((0 : Int)))).setCell ⟨b, 6, none⟩ (.slice vo k vc)))
          rw [hX] at hE1 hE2
          have HE1 := hidM hE1
          have HE2 := hidM hE2
          clear hE1 hE2
          go_wp2_with fail
          have kX : Keeps W X (fun z => z = p) := HGw.out.trans HE2.out fun j hj e => by have := Hb.out; omega
          have dX := DAt.over HW0.out HDw.out kX (HE2.out.block p HDw.out.lt (by have := HW0.out.lt; have := Hb.out; omega))
          (try simp only [Exit.inBlock, Exit.then])
          refine bodyPost_ret (results_cell80 rfl rfl HE1.out (by kernel_rfl)) rfl ?_
          have hfin : r = (.mk nm nu (kk : Int) ((0 : Int)) ((0 : Int)) ((0 : Int)) (acc.map (·.1)), σ) := by rw [HRf.out, HRl.out]
          rw [hfin]
          exact ⟨_, rfl, Hend.out X HE2.out, dX, kX⟩
        have hkn : k = (w6 : Nat) := by omega
        have HRl : Hid (RL = (acc.map (·.1), σ)) := by have := HS.out; rw [hkn, Nat.sub_self] at this; exact this.symm
        have hltI : ¬ (k : Int) < ((w6 : Int)) := by omega
        clear hkn hlt
        obtain ⟨r0, r1, r2, r3, r4, r5, r6⟩ := ce7 HBw.out.rb
        obtain ⟨q0, q1, q2, q3, q4, q5, q6⟩ := fz7 HBw.out.rb
        obtain ⟨t0, t1, t2, t3, t4, t5, t6⟩ := ce7 HBw.out.tb
        have hE1 := put7_box (.string nm) (.bool nu) (.int .i64 (kk : Int)) (.int .i64 ((0 : Int))) (.int .i64 ((0 : Int))) (.int .i64 ((0 : Int))) (.slice vo k vc) HBw.out.rb
        have hE2 := put7_keeps wr b (.string nm) (.bool nu) (.int .i64 (kk : Int)) (.int .i64 ((0 : Int))) (.int .i64 ((0 : Int))) (.int .i64 ((0 : Int))) (.slice vo k vc)
        obtain ⟨X, hX⟩ := ex ((((((((wr.setCell ⟨b, 0, none⟩ (.string nm)).setCell ⟨b, 1, none⟩ (.bool nu)).setCell ⟨b, 2, none⟩ (.int .i64 (kk : Int))).setCell ⟨b, 3, none⟩ (.int .i64 ((0 : Int)))).setCell ⟨b, 4, none⟩ (.int .i64 ((0 : Int)))).setCell ⟨b, 5, none⟩ (.int .i64 ((0 : Int)))).setCell ⟨b, 6, none⟩ (.slice vo k vc)))
        rw [hX] at hE1 hE2
        have HE1 := hidM hE1
        have HE2 := hidM hE2
        clear hE1 hE2
        go_wp2_with fail
        have kX : Keeps W X (fun z => z = p) := HGw.out.trans HE2.out fun j hj e => by have := Hb.out; omega
        have dX := DAt.over HW0.out HDw.out kX (HE2.out.block p HDw.out.lt (by have := HW0.out.lt; have := Hb.out; omega))
        (try simp only [Exit.inBlock, Exit.then])
        refine bodyPost_ret (results_cell80 rfl rfl HE1.out (by kernel_rfl)) rfl ?_
        have hfin : r = (.mk nm nu (kk : Int) ((0 : Int)) ((0 : Int)) ((0 : Int)) (acc.map (·.1)), σ) := by rw [HRf.out, HRl.out]
        rw [hfin]
        exact ⟨_, rfl, Hend.out X HE2.out, dX, kX⟩
  by_cases c15 : kk = 15 ∨ kk = 20
  · have n14 : ((kk : Int) == 14) = false := by rw [beq_eq_false_iff_ne]; omega
    have n16 : ((kk : Int) == 16) = false := by rw [beq_eq_false_iff_ne]; omega
    have n19 : ((kk : Int) == 19) = false := by rw [beq_eq_false_iff_ne]; omega
    have n17 : ((kk : Int) == 17) = false := by rw [beq_eq_false_iff_ne]; omega
    have n18 : ((kk : Int) == 18) = false := by rw [beq_eq_false_iff_ne]; omega
    have hpair : ((kk : Int) == 15) = true ∨ (((kk : Int) == 15) = false ∧ ((kk : Int) == 20) = true) := by
      by_cases c : kk = 15
      · left; rw [beq_iff_eq]; omega
      right; exact ⟨by rw [beq_eq_false_iff_ne]; omega, by rw [beq_iff_eq]; omega⟩
    have c := c15
    clear c15
    rcases hpair with y15 | ⟨n15, y20⟩
    all_goals
      have hx : extX B kk s4 = ((0, 0, 0, 1), s4) := by unfold extX; rw [if_neg (by omega), if_neg (by omega), if_neg (by omega), if_neg (by omega), if_pos (by omega)]
      obtain ⟨RL, hRL⟩ := ex (sevX (fieldX B d) (1) [] s4)
      have HRL := hidM hRL
      have HRf : Hid (r = (.mk nm nu (kk : Int) ((0 : Int)) ((0 : Int)) ((0 : Int)) RL.1, RL.2)) := by show _ = _; rw [HRr.out, hx, ← hRL]; try rfl
      clear hRL hx HRr
      clear c
      have HS0 : Hid (sevX (fieldX B d) ((1 : Nat) - 0) (([] : List FE).map (·.1)) s4 = RL) := HRL.out
      go_wp2
      go_loopw [8] (fun i wr => ∃ (k : Nat) (acc : List FE) (σ : DS) (vo : Option Addr) (vc : Nat), k ≤ (1 : Nat) ∧ i = .int .i64 (k : Int) ∧ Hid (acc.length = k) ∧ Hid (FL V wr d acc vo vc) ∧ Hid (FB W wr p b (b + 1) (.string nm) (.bool nu) (.int .i64 (kk : Int)) (.int .i64 ((0 : Int))) (.int .i64 ((0 : Int))) (.int .i64 ((0 : Int))) (.slice vo k vc)) ∧ Hid (DAt wr p bo B bc σ) ∧ Hid (Keeps W wr (fun z => z = p)) ∧ Hid (Gd σ) ∧ Hid (sevX (fieldX B d) ((1 : Nat) - k) (acc.map (·.1)) σ = RL)) (fun i _ => (1 : Nat) - (intOf i).toNat)
      case atStart => exact ⟨0, [], s4, none, 0, Nat.zero_le _, rfl, rfl, FL.nil _ _ _, HB3.out, HD3.out, HG3.out, Hg4.out, HS0.out⟩
      case round =>
        obtain ⟨k, acc, σ, vo, vc, hk, rfl, HL, HA, HBw, HDw, HGw, Hgd, HS⟩ := hrel
        have hkb : k ≤ 4294967296 := by omega
        obtain ⟨m0, m1, m2, m3, m4, m5⟩ := HDw.out.cells
        have Hend : Hid (∀ X, Keeps wr X (fun z => z = b) → FV (d + 1) W X (.mk nm nu (kk : Int) ((0 : Int)) ((0 : Int)) ((0 : Int)) (acc.map (·.1))) (.agg #[.string nm, .bool nu, .int .i64 (kk : Int), .int .i64 ((0 : Int)), .int .i64 ((0 : Int)), .int .i64 ((0 : Int)), .slice vo k vc])) := fun X kX => by
          have hrow := HA.out.rowAt (by rw [HL.out]; show _ ≤ 1000000000000; omega)
          have hVb := HVb.out
          refine ⟨vo, vc, ?_, by show (acc.map (·.1)).length ≤ vc; rw [List.length_map]; exact hrow.1, (hrow.2.kept fun z z1 z2 => kX.block z z2 (by omega)).wide (by omega) kX.size⟩
          show _ = Value.agg #[.string nm, .bool nu, .int .i64 (kk : Int), .int .i64 ((0 : Int)), .int .i64 ((0 : Int)), .int .i64 ((0 : Int)), .slice vo (acc.map (·.1)).length vc]
          rw [List.length_map, HL.out]
        by_cases hlt : k < (1 : Nat)
        · have hltI : (k : Int) < ((1 : Int)) := by omega
          by_cases he : σ.e = 0
          · rw [he] at m3
            obtain ⟨⟨x, σ'⟩, hqx⟩ : ∃ q, fieldX B d σ = q := ⟨_, rfl⟩
            have HS1 : Hid (sevX (fieldX B d) ((1 : Nat) - (k + 1)) (acc.map (·.1) ++ [x]) σ' = RL) := (sevX_next hlt he hqx).symm.trans HS.out
            have hgd' := Gd.field (B := B) d σ Hgd.out
            have hc := Hih.out wr σ HDw.out Hgd.out
            rw [hqx] at hc hgd'
            dsimp only at hc hgd'
            have Hc := hidM hc
            have Hgd2 := hidM hgd'
            clear hc hgd' hqx he Hend
            go_wp2_with (go_at_call 59; refine Hid.out ?_)
            unfold Hid
            refine Calls.mono Hc.out ?_
            rintro e Y ⟨v, rfl, ⟨ko, kc, rfl, hkc, hrow⟩, hD, hK⟩
            obtain ⟨Y2, hY2⟩ := ex (Y.alloc (.cells #[.string x.name, .bool x.nul, .int .i64 x.kind, .int .i64 x.width, .int .i64 x.id, .int .i64 x.index, .slice ko x.kids.length kc] 52))
            have gY := gr_al hY2
            have hnb := heap_alloc_new Y (.cells #[.string x.name, .bool x.nul, .int .i64 x.kind, .int .i64 x.width, .int .i64 x.id, .int .i64 x.index, .slice ko x.kids.length kc] 52)
            rw [hY2] at hnb
            have kY : Keeps wr Y2 (fun z => z = p) := hK.tr (gY.mono fun _ _ h => h.elim)
            have hVb := HVb.out
            have HA1 := hidM (HA.out.kp2 kY (by omega))
            have hB1 := HBw.out.kp kY
            have HB1 := hidM hB1
            have HG1 := hidM (HGw.out.tr kY)
            have HD1 := hidM (hD.gr gY)
            have HKd := hidM (And.intro hkc ((hrow.kept fun z z1 z2 => gY.block z z2 id).wide (Nat.le_refl _) gY.size))
            have HWs := hidM (And.intro (show V.heap.size ≤ wr.heap.size by have := lt_of_heap HBw.out.tb; omega) kY.size)
            have HSr := hidM (src80 Y2 x ko kc)
            have HO : Hid ((Y2.alloc (.cells #[.string x.name, .bool x.nul, .int .i64 x.kind, .int .i64 x.width, .int .i64 x.id, .int .i64 x.index, .slice ko x.kids.length kc] 52)).ownsRow 0 52 7 (.slice vo k vc) k (acc.flatMap fcel)) := by have := HA1.out.row.own.alloc (.cells #[.string x.name, .bool x.nul, .int .i64 x.kind, .int .i64 x.width, .int .i64 x.id, .int .i64 x.index, .slice ko x.kids.length kc] 52); rwa [HL.out] at this
            have z6 : Y2.cell? ⟨b + 1, 6, none⟩ = some (.slice vo k vc) := by simp [World.cell?, hB1.tb]
            obtain ⟨u0, u1, u2, u3, u4, u5, u6⟩ := ce7 hnb
            clear gY hnb kY hB1 hD hK hkc hrow m0 m1 m2 m3 m4 m5 Hc HS hVb
            go_wp2_with (with_reducible show wpList Tryz.prog _ _ (Oper.mk (some 106) _ _ _ _ _ :: _) _ _; refine Hid.out ?_)
            unfold Hid
            refine wpList_append_anyN (P := Tryz.prog) _ rfl (.tmp 103) (.tmp 105) 22 22 rfl 52 (.agg #[.string ⟨#[]⟩, .bool false, .int .i64 0, .int .i64 0, .int .i64 0, .int .i64 0, .slice none 0 0]) 7 80 Tryz.underlying22 info80 rfl _ _ _ rfl HO.out _ _ _ rfl HSr.out (by omega) (by omega) ?_
            refine Hid.out ?_
            unfold Hid
            intro v' w1 hown hgrow hblk
            obtain ⟨vo', vc', rfl⟩ := own_formK hown
            have hVb := HVb.out
            have kA : Keeps Y2 w1 (fun z => (Value.slice vo k vc).ownBlock = some z) := ((gr_alloc Y2 _).mono fun _ _ h => h.elim).tr (Keeps.ofGrown hgrow)
            have hnew : ∀ g, (Value.slice vo k vc).ownBlock = some g → V.heap.size ≤ g := fun g e => HA1.out.row.new g (by rw [HL.out]; exact e)
            have kW : Keeps W w1 (fun z => z = p) := HG1.out.trans kA (fun j hj h => by have := hnew j h; omega)
            have hB2 : FB W w1 p b (b + 1) (.string nm) (.bool nu) (.int .i64 (kk : Int)) (.int .i64 ((0 : Int))) (.int .i64 ((0 : Int))) (.int .i64 ((0 : Int))) (.slice vo k vc) := ⟨(kA.block b (lt_of_heap HB1.out.rb) (fun h => by have := hnew b h; omega)).trans HB1.out.rb, (kA.block (b + 1) (lt_of_heap HB1.out.tb) (fun h => by have := hnew (b + 1) h; omega)).trans HB1.out.tb, HB1.out.lt⟩
            have hA2 := FL.push HWs.out.1 HWs.out.2 HA.out HA1.out HL.out HKd.out.1 HKd.out.2 hown hgrow hblk
            obtain ⟨w2, hw2⟩ := ex (w1.setCell ⟨b + 1, 6, none⟩ (.slice vo' (k + 1) vc'))
            have k12 : Keeps w1 w2 (fun z => z = b + 1) := by rw [← hw2]; exact (Keeps.refl w1 (fun z => z = b + 1)).setCell (p := ⟨b + 1, 6, none⟩) (fun _ => rfl) _
            have hB3 := hB2.set (y0 := (.string nm)) (y1 := (.bool nu)) (y2 := (.int .i64 (kk : Int))) (y3 := (.int .i64 ((0 : Int)))) (y4 := (.int .i64 ((0 : Int)))) (y5 := (.int .i64 ((0 : Int)))) (y6 := (.slice vo' (k + 1) vc')) 6 (.slice vo' (k + 1) vc') rfl
            rw [hw2] at hB3
            have kW2 : Keeps W w2 (fun z => z = p) := kW.trans k12 fun j hj e => by omega
            have HD3 := hidM (DAt.over HW0.out HD1.out kW2 ((k12.block p (Nat.lt_of_lt_of_le HD1.out.lt kA.size) (by omega)).trans (kA.block p HD1.out.lt (fun h => by have := hnew p h; omega))))
            have HB3' := hidM hB3
            have HG3 := hidM kW2
            have HA3 := hidM (hA2.kp k12 (by omega))
            have HL2 : Hid ((acc ++ [(x, ko, kc)]).length = k + 1) := by show _ = _; rw [List.length_append, HL.out]; rfl
            have HS2 : Hid (sevX (fieldX B d) ((1 : Nat) - (k + 1)) ((acc ++ [(x, ko, kc)]).map (·.1)) σ' = RL) := by show _ = _; rw [List.map_append]; exact HS1.out
            have t6 : w1.cell? ⟨b + 1, 6, none⟩ = some (.slice vo k vc) := by simp [World.cell?, hB2.tb]
            have q6 := frz hB2.tb 6
            clear hown hgrow hblk kA hnew kW hB2 hA2 k12 hB3 kW2 HO HSr HA1 HA HKd HWs hVb hY2 z6 u0 u1 u2 u3 u4 u5 u6
            go_wp2_with fail
            go_roundw
            case rel => exact ⟨k + 1, acc ++ [(x, ko, kc)], σ', vo', vc', by omega, by simp, HL2.out, HA3.out, HB3'.out, HD3.out, HG3.out, Hgd2.out, HS2.out⟩
            case measure => simp [intOf]; omega
          have he' : (σ.e == 0) = false := by simp [he]
          have HRl : Hid (RL = (acc.map (·.1), σ)) := HS.out.symm.trans (sevX_stop he)
          clear he
          obtain ⟨r0, r1, r2, r3, r4, r5, r6⟩ := ce7 HBw.out.rb
          obtain ⟨q0, q1, q2, q3, q4, q5, q6⟩ := fz7 HBw.out.rb
          obtain ⟨t0, t1, t2, t3, t4, t5, t6⟩ := ce7 HBw.out.tb
          have hE1 := put7_box (.string nm) (.bool nu) (.int .i64 (kk : Int)) (.int .i64 ((0 : Int))) (.int .i64 ((0 : Int))) (.int .i64 ((0 : Int))) (.slice vo k vc) HBw.out.rb
          have hE2 := put7_keeps wr b (.string nm) (.bool nu) (.int .i64 (kk : Int)) (.int .i64 ((0 : Int))) (.int .i64 ((0 : Int))) (.int .i64 ((0 : Int))) (.slice vo k vc)
          obtain ⟨X, hX⟩ := ex ((((((((wr.setCell ⟨b, 0, none⟩ (.string nm)).setCell ⟨b, 1, none⟩ (.bool nu)).setCell ⟨b, 2, none⟩ (.int .i64 (kk : Int))).setCell ⟨b, 3, none⟩ (.int .i64 ((0 : Int)))).setCell ⟨b, 4, none⟩ (.int .i64 ((0 : Int)))).setCell ⟨b, 5, none⟩ (.int .i64 ((0 : Int)))).setCell ⟨b, 6, none⟩ (.slice vo k vc)))
          rw [hX] at hE1 hE2
          have HE1 := hidM hE1
          have HE2 := hidM hE2
          clear hE1 hE2
          go_wp2_with fail
          have kX : Keeps W X (fun z => z = p) := HGw.out.trans HE2.out fun j hj e => by have := Hb.out; omega
          have dX := DAt.over HW0.out HDw.out kX (HE2.out.block p HDw.out.lt (by have := HW0.out.lt; have := Hb.out; omega))
          (try simp only [Exit.inBlock, Exit.then])
          refine bodyPost_ret (results_cell80 rfl rfl HE1.out (by kernel_rfl)) rfl ?_
          have hfin : r = (.mk nm nu (kk : Int) ((0 : Int)) ((0 : Int)) ((0 : Int)) (acc.map (·.1)), σ) := by rw [HRf.out, HRl.out]
          rw [hfin]
          exact ⟨_, rfl, Hend.out X HE2.out, dX, kX⟩
        have hkn : k = (1 : Nat) := by omega
        have HRl : Hid (RL = (acc.map (·.1), σ)) := by have := HS.out; rw [hkn, Nat.sub_self] at this; exact this.symm
        have hltI : ¬ (k : Int) < ((1 : Int)) := by omega
        clear hkn hlt
        obtain ⟨r0, r1, r2, r3, r4, r5, r6⟩ := ce7 HBw.out.rb
        obtain ⟨q0, q1, q2, q3, q4, q5, q6⟩ := fz7 HBw.out.rb
        obtain ⟨t0, t1, t2, t3, t4, t5, t6⟩ := ce7 HBw.out.tb
        have hE1 := put7_box (.string nm) (.bool nu) (.int .i64 (kk : Int)) (.int .i64 ((0 : Int))) (.int .i64 ((0 : Int))) (.int .i64 ((0 : Int))) (.slice vo k vc) HBw.out.rb
        have hE2 := put7_keeps wr b (.string nm) (.bool nu) (.int .i64 (kk : Int)) (.int .i64 ((0 : Int))) (.int .i64 ((0 : Int))) (.int .i64 ((0 : Int))) (.slice vo k vc)
        obtain ⟨X, hX⟩ := ex ((((((((wr.setCell ⟨b, 0, none⟩ (.string nm)).setCell ⟨b, 1, none⟩ (.bool nu)).setCell ⟨b, 2, none⟩ (.int .i64 (kk : Int))).setCell ⟨b, 3, none⟩ (.int .i64 ((0 : Int)))).setCell ⟨b, 4, none⟩ (.int .i64 ((0 : Int)))).setCell ⟨b, 5, none⟩ (.int .i64 ((0 : Int)))).setCell ⟨b, 6, none⟩ (.slice vo k vc)))
        rw [hX] at hE1 hE2
        have HE1 := hidM hE1
        have HE2 := hidM hE2
        clear hE1 hE2
        go_wp2_with fail
        have kX : Keeps W X (fun z => z = p) := HGw.out.trans HE2.out fun j hj e => by have := Hb.out; omega
        have dX := DAt.over HW0.out HDw.out kX (HE2.out.block p HDw.out.lt (by have := HW0.out.lt; have := Hb.out; omega))
        (try simp only [Exit.inBlock, Exit.then])
        refine bodyPost_ret (results_cell80 rfl rfl HE1.out (by kernel_rfl)) rfl ?_
        have hfin : r = (.mk nm nu (kk : Int) ((0 : Int)) ((0 : Int)) ((0 : Int)) (acc.map (·.1)), σ) := by rw [HRf.out, HRl.out]
        rw [hfin]
        exact ⟨_, rfl, Hend.out X HE2.out, dX, kX⟩
  have n14 : ((kk : Int) == 14) = false := by rw [beq_eq_false_iff_ne]; omega
  have n16 : ((kk : Int) == 16) = false := by rw [beq_eq_false_iff_ne]; omega
  have n19 : ((kk : Int) == 19) = false := by rw [beq_eq_false_iff_ne]; omega
  have n17 : ((kk : Int) == 17) = false := by rw [beq_eq_false_iff_ne]; omega
  have n18 : ((kk : Int) == 18) = false := by rw [beq_eq_false_iff_ne]; omega
  have n15 : ((kk : Int) == 15) = false := by rw [beq_eq_false_iff_ne]; omega
  have n20 : ((kk : Int) == 20) = false := by rw [beq_eq_false_iff_ne]; omega
  have hx : extX B kk s4 = ((0, 0, 0, 0), s4) := by unfold extX; rw [if_neg (by omega), if_neg (by omega), if_neg (by omega), if_neg (by omega), if_neg (by omega)]
  obtain ⟨RL, hRL⟩ := ex (sevX (fieldX B d) (0) [] s4)
  have HRL := hidM hRL
  have HRf : Hid (r = (.mk nm nu (kk : Int) ((0 : Int)) ((0 : Int)) ((0 : Int)) RL.1, RL.2)) := by show _ = _; rw [HRr.out, hx, ← hRL]; try rfl
  clear hRL hx HRr
  have HS0 : Hid (sevX (fieldX B d) ((0 : Nat) - 0) (([] : List FE).map (·.1)) s4 = RL) := HRL.out
  go_wp2
  go_loopw [8] (fun i wr => ∃ (k : Nat) (acc : List FE) (σ : DS) (vo : Option Addr) (vc : Nat), k ≤ (0 : Nat) ∧ i = .int .i64 (k : Int) ∧ Hid (acc.length = k) ∧ Hid (FL V wr d acc vo vc) ∧ Hid (FB W wr p b (b + 1) (.string nm) (.bool nu) (.int .i64 (kk : Int)) (.int .i64 ((0 : Int))) (.int .i64 ((0 : Int))) (.int .i64 ((0 : Int))) (.slice vo k vc)) ∧ Hid (DAt wr p bo B bc σ) ∧ Hid (Keeps W wr (fun z => z = p)) ∧ Hid (Gd σ) ∧ Hid (sevX (fieldX B d) ((0 : Nat) - k) (acc.map (·.1)) σ = RL)) (fun i _ => (0 : Nat) - (intOf i).toNat)
  case atStart => exact ⟨0, [], s4, none, 0, Nat.zero_le _, rfl, rfl, FL.nil _ _ _, HB3.out, HD3.out, HG3.out, Hg4.out, HS0.out⟩
  case round =>
    obtain ⟨k, acc, σ, vo, vc, hk, rfl, HL, HA, HBw, HDw, HGw, Hgd, HS⟩ := hrel
    have hkb : k ≤ 4294967296 := by omega
    obtain ⟨m0, m1, m2, m3, m4, m5⟩ := HDw.out.cells
    have Hend : Hid (∀ X, Keeps wr X (fun z => z = b) → FV (d + 1) W X (.mk nm nu (kk : Int) ((0 : Int)) ((0 : Int)) ((0 : Int)) (acc.map (·.1))) (.agg #[.string nm, .bool nu, .int .i64 (kk : Int), .int .i64 ((0 : Int)), .int .i64 ((0 : Int)), .int .i64 ((0 : Int)), .slice vo k vc])) := fun X kX => by
      have hrow := HA.out.rowAt (by rw [HL.out]; show _ ≤ 1000000000000; omega)
      have hVb := HVb.out
      refine ⟨vo, vc, ?_, by show (acc.map (·.1)).length ≤ vc; rw [List.length_map]; exact hrow.1, (hrow.2.kept fun z z1 z2 => kX.block z z2 (by omega)).wide (by omega) kX.size⟩
      show _ = Value.agg #[.string nm, .bool nu, .int .i64 (kk : Int), .int .i64 ((0 : Int)), .int .i64 ((0 : Int)), .int .i64 ((0 : Int)), .slice vo (acc.map (·.1)).length vc]
      rw [List.length_map, HL.out]
    have hlt0 : ¬ k < 0 := by omega
    by_cases hlt : k < (0 : Nat)
    · exact absurd hlt hlt0
    have hkn : k = (0 : Nat) := by omega
    have HRl : Hid (RL = (acc.map (·.1), σ)) := by have := HS.out; rw [hkn, Nat.sub_self] at this; exact this.symm
    have hltI : ¬ (k : Int) < ((0 : Int)) := by omega
    clear hkn hlt
    obtain ⟨r0, r1, r2, r3, r4, r5, r6⟩ := ce7 HBw.out.rb
    obtain ⟨q0, q1, q2, q3, q4, q5, q6⟩ := fz7 HBw.out.rb
    obtain ⟨t0, t1, t2, t3, t4, t5, t6⟩ := ce7 HBw.out.tb
    have hE1 := put7_box (.string nm) (.bool nu) (.int .i64 (kk : Int)) (.int .i64 ((0 : Int))) (.int .i64 ((0 : Int))) (.int .i64 ((0 : Int))) (.slice vo k vc) HBw.out.rb
    have hE2 := put7_keeps wr b (.string nm) (.bool nu) (.int .i64 (kk : Int)) (.int .i64 ((0 : Int))) (.int .i64 ((0 : Int))) (.int .i64 ((0 : Int))) (.slice vo k vc)
    obtain ⟨X, hX⟩ := ex ((((((((wr.setCell ⟨b, 0, none⟩ (.string nm)).setCell ⟨b, 1, none⟩ (.bool nu)).setCell ⟨b, 2, none⟩ (.int .i64 (kk : Int))).setCell ⟨b, 3, none⟩ (.int .i64 ((0 : Int)))).setCell ⟨b, 4, none⟩ (.int .i64 ((0 : Int)))).setCell ⟨b, 5, none⟩ (.int .i64 ((0 : Int)))).setCell ⟨b, 6, none⟩ (.slice vo k vc)))
    rw [hX] at hE1 hE2
    have HE1 := hidM hE1
    have HE2 := hidM hE2
    clear hE1 hE2
    go_wp2_with fail
    have kX : Keeps W X (fun z => z = p) := HGw.out.trans HE2.out fun j hj e => by have := Hb.out; omega
    have dX := DAt.over HW0.out HDw.out kX (HE2.out.block p HDw.out.lt (by have := HW0.out.lt; have := Hb.out; omega))
    (try simp only [Exit.inBlock, Exit.then])
    refine bodyPost_ret (results_cell80 rfl rfl HE1.out (by kernel_rfl)) rfl ?_
    have hfin : r = (.mk nm nu (kk : Int) ((0 : Int)) ((0 : Int)) ((0 : Int)) (acc.map (·.1)), σ) := by rw [HRf.out, HRl.out]
    rw [hfin]
    exact ⟨_, rfl, Hend.out X HE2.out, dX, kX⟩
end Go.Proofs.YtdihbfjjddmbiaaGreatDoor.Kit
