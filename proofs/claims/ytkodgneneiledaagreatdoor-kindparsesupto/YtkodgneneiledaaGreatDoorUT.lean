import Derived.Test.YtkodgneneiledaaGreatDoorUS
set_option maxRecDepth 100000
set_option maxHeartbeats 4000000
namespace Go.Proofs.YtkodgneneiledaaGreatDoor.Kit
open Go.RowKit Go.Shelf Go.Deep
set_option linter.unusedVariables false
attribute [local go_sem] run_store_func
structure FB (W U : World) (p b c : Nat) (x0 x1 x2 x3 x4 x5 x6 : Value) : Prop where
  rb : U.heap[b]? = some (.cells #[.string ⟨#[]⟩, .bool false, .int .i64 0, .int .i64 0, .int .i64 0, .int .i64 0, .slice none 0 0] 37 (0, 0))
  tb : U.heap[c]? = some (.cells #[x0, x1, x2, x3, x4, x5, x6] 37 (0, 0))
  lt : W.heap.size ≤ b ∧ b < c ∧ p < W.heap.size
theorem FB.kpn {W U U' : World} {p b c : Nat} {x0 x1 x2 x3 x4 x5 x6 : Value} (h : FB W U p b c x0 x1 x2 x3 x4 x5 x6) (q : KpN U U' p) : FB W U' p b c x0 x1 x2 x3 x4 x5 x6 :=
  ⟨(q.blk (lt_of_heap h.rb) (by have := h.lt; omega) (IntsB.of h.rb (by decide))).trans h.rb, (q.blk (lt_of_heap h.tb) (by have := h.lt; omega) (IntsB.of h.tb (by decide))).trans h.tb, h.lt⟩
theorem FB.cok {W U : World} {p b c : Nat} {x0 x1 x2 x3 x4 x5 x6 : Value} (h : FB W U p b c x0 x1 x2 x3 x4 x5 x6) : c ≠ p ∧ c ≠ 0 ∧ ¬ IntsB p U c := ⟨by have := h.lt; omega, by have := h.lt; omega, IntsB.of h.tb (by decide)⟩
theorem FB.bok {W U : World} {p b c : Nat} {x0 x1 x2 x3 x4 x5 x6 : Value} (h : FB W U p b c x0 x1 x2 x3 x4 x5 x6) : b ≠ p ∧ b ≠ 0 ∧ ¬ IntsB p U b := ⟨by have := h.lt; omega, by have := h.lt; omega, IntsB.of h.rb (by decide)⟩
theorem put25 {V : World} {Y t : Nat} {x0 x1 x2 x3 x4 x5 x6 : Value} (y2 y3 y4 y5 y6 : Value) (h : V.heap[Y]? = some (.cells #[x0, x1, x2, x3, x4, x5, x6] t (0, 0))) : (((((V.setCell ⟨Y, 2, none⟩ y2).setCell ⟨Y, 3, none⟩ y3).setCell ⟨Y, 4, none⟩ y4).setCell ⟨Y, 5, none⟩ y5).setCell ⟨Y, 6, none⟩ y6).heap[Y]? = some (.cells #[x0, x1, y2, y3, y4, y5, y6] t (0, 0)) ∧ Keeps V (((((V.setCell ⟨Y, 2, none⟩ y2).setCell ⟨Y, 3, none⟩ y3).setCell ⟨Y, 4, none⟩ y4).setCell ⟨Y, 5, none⟩ y5).setCell ⟨Y, 6, none⟩ y6) (fun z => z = Y) := by
  have h0 : (V.setCell ⟨Y, 2, none⟩ y2).heap[Y]? = some (.cells #[x0, x1, y2, x3, x4, x5, x6] t (0, 0)) := heap_setCell_same _ Y 2 _ _ y2 h
  have h1 : ((V.setCell ⟨Y, 2, none⟩ y2).setCell ⟨Y, 3, none⟩ y3).heap[Y]? = some (.cells #[x0, x1, y2, y3, x4, x5, x6] t (0, 0)) := heap_setCell_same _ Y 3 _ _ y3 h0
  have h2 : (((V.setCell ⟨Y, 2, none⟩ y2).setCell ⟨Y, 3, none⟩ y3).setCell ⟨Y, 4, none⟩ y4).heap[Y]? = some (.cells #[x0, x1, y2, y3, y4, x5, x6] t (0, 0)) := heap_setCell_same _ Y 4 _ _ y4 h1
  have h3 : ((((V.setCell ⟨Y, 2, none⟩ y2).setCell ⟨Y, 3, none⟩ y3).setCell ⟨Y, 4, none⟩ y4).setCell ⟨Y, 5, none⟩ y5).heap[Y]? = some (.cells #[x0, x1, y2, y3, y4, y5, x6] t (0, 0)) := heap_setCell_same _ Y 5 _ _ y5 h2
  have h4 : (((((V.setCell ⟨Y, 2, none⟩ y2).setCell ⟨Y, 3, none⟩ y3).setCell ⟨Y, 4, none⟩ y4).setCell ⟨Y, 5, none⟩ y5).setCell ⟨Y, 6, none⟩ y6).heap[Y]? = some (.cells #[x0, x1, y2, y3, y4, y5, y6] t (0, 0)) := heap_setCell_same _ Y 6 _ _ y6 h3
  exact ⟨h4, (((((Keeps.refl V (fun z => z = Y)).setCell (p := ⟨Y, 2, none⟩) (fun _ => rfl) _).setCell (p := ⟨Y, 3, none⟩) (fun _ => rfl) _).setCell (p := ⟨Y, 4, none⟩) (fun _ => rfl) _).setCell (p := ⟨Y, 5, none⟩) (fun _ => rfl) _).setCell (p := ⟨Y, 6, none⟩) (fun _ => rfl) _⟩
theorem field49 (p : Nat) (s : ByteArray) (d : Nat) (h62 : PnC p s d 60 #[.pointer (some ⟨p, 0, none⟩)] (typP s.data.toList (fieldP s.data.toList d)) (TV p (d + 1))) :
    PnC p s (d + 1) 34 #[.pointer (some ⟨p, 0, none⟩)] (fieldP s.data.toList (d + 1)) (FV p (d + 1)) := by
  intro W a0 g0 hN hd
  obtain ⟨R, hRes⟩ : ∃ R, R = fieldP s.data.toList (d + 1) (a0, g0) := ⟨_, rfl⟩
  rw [← hRes]
  have HRes := hidP hRes
  obtain ⟨V0, hV0⟩ : ∃ V0, (W.alloc (.cells #[.string ⟨#[]⟩, .bool false, .int .i64 0, .int .i64 0, .int .i64 0, .int .i64 0, .slice none 0 0] 37)).alloc (.cells #[.string ⟨#[]⟩, .bool false, .int .i64 0, .int .i64 0, .int .i64 0, .int .i64 0, .slice none 0 0] 37) = V0 := ⟨_, rfl⟩
  have g1' : Gr W (W.alloc (.cells #[.string ⟨#[]⟩, .bool false, .int .i64 0, .int .i64 0, .int .i64 0, .int .i64 0, .slice none 0 0] 37)) := gr_alloc W _
  have g2' : Gr (W.alloc (.cells #[.string ⟨#[]⟩, .bool false, .int .i64 0, .int .i64 0, .int .i64 0, .int .i64 0, .slice none 0 0] 37)) V0 := by rw [← hV0]; exact gr_alloc _ _
  have g0' : Gr W V0 := g1'.trans g2' (fun _ _ h => h)
  have hs1 : (W.alloc (.cells #[.string ⟨#[]⟩, .bool false, .int .i64 0, .int .i64 0, .int .i64 0, .int .i64 0, .slice none 0 0] 37)).heap.size = W.heap.size + 1 := by simp
  have HT0 : Hid (FB W V0 p W.heap.size (W.heap.size + 1) (.string ⟨#[]⟩) (.bool false) (.int .i64 0) (.int .i64 0) (.int .i64 0) (.int .i64 0) (.slice none 0 0)) := ⟨(g2'.block _ (by omega) id).trans (heap_alloc_new W _), by have := heap_alloc_new (W.alloc (.cells #[.string ⟨#[]⟩, .bool false, .int .i64 0, .int .i64 0, .int .i64 0, .int .i64 0, .slice none 0 0] 37)) (.cells #[.string ⟨#[]⟩, .bool false, .int .i64 0, .int .i64 0, .int .i64 0, .int .i64 0, .slice none 0 0] 37); rw [hs1, hV0] at this; exact this, Nat.le_refl _, by omega, hN.lt⟩
  have HR0 := hidP (hN.gr g0')
  have HG0 : Hid (KpN W V0 p) := Gr.n p g0'
  have HV := hidP hV0
  have HN := hidP (name61 p s (d + 1))
  have H62 := hidP h62
  have HTk := hidP ((takes_any p s 63 (by decide)).n (fw_takes _ _) (d + 1))
  obtain ⟨b, hb⟩ : ∃ b, b = W.heap.size := ⟨_, rfl⟩
  clear hRes hN g0' g1' g2' hs1 hV0 h62
  go_enter Tryz.func34, Tryz.ntmps34
  go_wp2_with (go_at_call 59; refine Hid.out ?_)
  unfold Hid
  rw [HV.out, ← hb]
  rw [← hb] at HT0
  have HB := hidP hb
  clear HV hb
  have hq := HN.out _ _ _ HR0.out (hd)
  rcases hr : nameP s.data.toList (a0, g0) with o | q
  · rw [hr] at hq
    refine Calls.mono hq ?_
    rintro e' U ⟨hk, rfl⟩
    have HGe := hidP (HG0.out.tr hk)
    have HE : Hid (R = .error o) := by show R = _; rw [HRes.out, fieldP]; exact Pr.bind_err hr
    clear hk hq hr
    go_wp2_with fail
    exact ⟨rfl, PnQ.err HGe.out HE.out⟩
  obtain ⟨x1, a1, g1⟩ := q
  rw [hr] at hq
  refine Calls.mono hq ?_
  rintro e' U1 ⟨hk, v, rfl, rfl, hR⟩
  have Hr1 := hidP hr
  have h01 : a0 < a1 := (name_fw hr).1
  have hT := HT0.out.kpn hk
  have w0 := frz hT.tb 0
  have w1 : U1.cell? ⟨b + 1, 0, none⟩ = some (.string ⟨#[]⟩) := by simp [World.cell?, hT.tb]
  have HT1 : Hid (FB W (U1.setCell ⟨b + 1, 0, none⟩ (.string x1)) p b (b + 1) (.string x1) (.bool false) (.int .i64 0) (.int .i64 0) (.int .i64 0) (.int .i64 0) (.slice none 0 0)) := ⟨(set_other _ (by have := hT.lt; omega)).trans hT.rb, heap_setCell_same _ (b + 1) 0 _ _ _ hT.tb, hT.lt⟩
  have kS : Keeps U1 (U1.setCell ⟨b + 1, 0, none⟩ (.string x1)) (fun z => z = b + 1) := (Keeps.refl U1 (fun z => z = b + 1)).setCell (p := ⟨b + 1, 0, none⟩) (fun _ => rfl) _
  have HG1 : Hid (KpN W (U1.setCell ⟨b + 1, 0, none⟩ (.string x1)) p) := (HG0.out.tr hk).trans kS fun z hz h => by have := hT.lt; omega
  have HR1 := hidP (hR.kept kS fun z h => by rw [h]; exact hT.cok)
  clear hk hq hr hR hT kS
  go_wp2_with (go_at_call 60; refine Hid.out ?_)
  unfold Hid
  (try clear w0 w1)
  have hq := H62.out _ _ _ HR1.out (by have := HR1.out.pos; omega)
  rcases hr : typP s.data.toList (fieldP s.data.toList d) (a1, g1) with o | q
  · rw [hr] at hq
    refine Calls.mono hq ?_
    rintro e' U ⟨hk, rfl⟩
    have HGe := hidP (HG1.out.tr hk)
    have HE : Hid (R = .error o) := by show R = _; rw [HRes.out, fieldP]; exact (Pr.bind_ok Hr1.out).trans (Pr.bind_err hr)
    clear hk hq hr
    go_wp2_with fail
    exact ⟨rfl, PnQ.err HGe.out HE.out⟩
  obtain ⟨x2, a2, g2⟩ := q
  rw [hr] at hq
  refine Calls.mono hq ?_
  rintro e' U2 ⟨hk, v, rfl, ⟨ko, kc, rfl, hkc, hrow⟩, hR⟩
  have Hr2 := hidP hr
  have hT := HT1.out.kpn hk
  have w2 := frz hT.tb 2
  have y2 : U2.cell? ⟨b + 1, 2, none⟩ = some (.int .i64 0) := by simp [World.cell?, hT.tb]
  have w3 := frz hT.tb 3
  have y3 : U2.cell? ⟨b + 1, 3, none⟩ = some (.int .i64 0) := by simp [World.cell?, hT.tb]
  have w4 := frz hT.tb 4
  have y4 : U2.cell? ⟨b + 1, 4, none⟩ = some (.int .i64 0) := by simp [World.cell?, hT.tb]
  have w5 := frz hT.tb 5
  have y5 : U2.cell? ⟨b + 1, 5, none⟩ = some (.int .i64 0) := by simp [World.cell?, hT.tb]
  have w6 := frz hT.tb 6
  have y6 : U2.cell? ⟨b + 1, 6, none⟩ = some (.slice none 0 0) := by simp [World.cell?, hT.tb]
  obtain ⟨hb5, kS⟩ := put25 (.int .i64 x2.1) (.int .i64 x2.2.width) (.int .i64 x2.2.id) (.int .i64 x2.2.index) (.slice ko x2.2.kids.length kc) hT.tb
  have HT2 : Hid (FB W (((((U2.setCell ⟨b + 1, 2, none⟩ (.int .i64 x2.1)).setCell ⟨b + 1, 3, none⟩ (.int .i64 x2.2.width)).setCell ⟨b + 1, 4, none⟩ (.int .i64 x2.2.id)).setCell ⟨b + 1, 5, none⟩ (.int .i64 x2.2.index)).setCell ⟨b + 1, 6, none⟩ (.slice ko x2.2.kids.length kc)) p b (b + 1) (.string x1) (.bool false) (.int .i64 x2.1) (.int .i64 x2.2.width) (.int .i64 x2.2.id) (.int .i64 x2.2.index) (.slice ko x2.2.kids.length kc)) := ⟨(kS.block b (lt_of_heap hT.rb) (by have := hT.lt; omega)).trans hT.rb, hb5, hT.lt⟩
  have HG2 : Hid (KpN W (((((U2.setCell ⟨b + 1, 2, none⟩ (.int .i64 x2.1)).setCell ⟨b + 1, 3, none⟩ (.int .i64 x2.2.width)).setCell ⟨b + 1, 4, none⟩ (.int .i64 x2.2.id)).setCell ⟨b + 1, 5, none⟩ (.int .i64 x2.2.index)).setCell ⟨b + 1, 6, none⟩ (.slice ko x2.2.kids.length kc)) p) := (HG1.out.tr hk).trans kS fun z hz h => by have := hT.lt; omega
  have HR2 := hidP (hR.kept kS fun z h => by rw [h]; exact hT.cok)
  have Hbl : Hid (b < (U1.setCell ⟨b + 1, 0, none⟩ (.string x1)).heap.size ∧ b + 1 < (U1.setCell ⟨b + 1, 0, none⟩ (.string x1)).heap.size) := ⟨lt_of_heap HT1.out.rb, lt_of_heap HT1.out.tb⟩
  have Hpl : Hid (p < (U1.setCell ⟨b + 1, 0, none⟩ (.string x1)).heap.size) := HR1.out.lt
  have Hlow : Hid (W.heap.size ≤ (U1.setCell ⟨b + 1, 0, none⟩ (.string x1)).heap.size) := HG1.out.size
  have HK : Hid (x2.2.kids.length ≤ kc ∧ RowAt (NB p (U1.setCell ⟨b + 1, 0, none⟩ (.string x1)) (((((U2.setCell ⟨b + 1, 2, none⟩ (.int .i64 x2.1)).setCell ⟨b + 1, 3, none⟩ (.int .i64 x2.2.width)).setCell ⟨b + 1, 4, none⟩ (.int .i64 x2.2.id)).setCell ⟨b + 1, 5, none⟩ (.int .i64 x2.2.index)).setCell ⟨b + 1, 6, none⟩ (.slice ko x2.2.kids.length kc))) (((((U2.setCell ⟨b + 1, 2, none⟩ (.int .i64 x2.1)).setCell ⟨b + 1, 3, none⟩ (.int .i64 x2.2.width)).setCell ⟨b + 1, 4, none⟩ (.int .i64 x2.2.id)).setCell ⟨b + 1, 5, none⟩ (.int .i64 x2.2.index)).setCell ⟨b + 1, 6, none⟩ (.slice ko x2.2.kids.length kc)) (d + 1) ko x2.2.kids) := ⟨hkc, hrow.nb (fun z hz => kS.block z hz.2.1 (by have := hz.1; have := Hbl.out; omega)) kS.size⟩
  have h12 : a1 ≤ a2 := (fn_typ (fn_field d) _ _ _ hr).1
  clear hk hq hr hR hT hkc hrow kS hb5
  go_wp2_with (go_at_call 52; refine Hid.out ?_)
  unfold Hid
  (try clear w2 w3 w4 w5 w6 y2 y3 y4 y5 y6)
  have hq := HTk.out _ _ _ HR2.out (by have := HR2.out.pos; omega)
  rcases hr : takesP s.data.toList 63 (a2, g2) with o | q
  · rw [hr] at hq
    refine Calls.mono hq ?_
    rintro e' U ⟨hk, rfl⟩
    have HGe := hidP (HG2.out.tr hk)
    have HE : Hid (R = .error o) := by show R = _; rw [HRes.out, fieldP]; exact (Pr.bind_ok Hr1.out).trans ((Pr.bind_ok Hr2.out).trans (Pr.bind_err hr))
    clear hk hq hr
    go_wp2_with fail
    exact ⟨rfl, PnQ.err HGe.out HE.out⟩
  obtain ⟨x3, a3, g3⟩ := q
  rw [hr] at hq
  refine Calls.mono hq ?_
  rintro e' U3 ⟨hk, v, rfl, rfl, hR⟩
  have Hr3 := hidP hr
  have hT := HT2.out.kpn hk
  have hkr := HK.out.2.nb (fun z hz => hz.kpn hk Hpl.out) hk.size
  have HT3 := hidP hT
  have HG3 := hidP (HG2.out.tr hk)
  have HR3 := hidP hR
  have HK3 := hidP (And.intro HK.out.1 hkr)
  have u0 := frz hT.rb 0
  have v0 : U3.cell? ⟨b, 0, none⟩ = some (.string ⟨#[]⟩) := by simp [World.cell?, hT.rb]
  have u1 := frz hT.rb 1
  have v1 : U3.cell? ⟨b, 1, none⟩ = some (.bool false) := by simp [World.cell?, hT.rb]
  have u2 := frz hT.rb 2
  have v2 : U3.cell? ⟨b, 2, none⟩ = some (.int .i64 0) := by simp [World.cell?, hT.rb]
  have u3 := frz hT.rb 3
  have v3 : U3.cell? ⟨b, 3, none⟩ = some (.int .i64 0) := by simp [World.cell?, hT.rb]
  have u4 := frz hT.rb 4
  have v4 : U3.cell? ⟨b, 4, none⟩ = some (.int .i64 0) := by simp [World.cell?, hT.rb]
  have u5 := frz hT.rb 5
  have v5 : U3.cell? ⟨b, 5, none⟩ = some (.int .i64 0) := by simp [World.cell?, hT.rb]
  have u6 := frz hT.rb 6
  have v6 : U3.cell? ⟨b, 6, none⟩ = some (.slice none 0 0) := by simp [World.cell?, hT.rb]
  have s0 : U3.cell? ⟨b + 1, 0, none⟩ = some (.string x1) := by simp [World.cell?, hT.tb]
  have s1 : U3.cell? ⟨b + 1, 1, none⟩ = some (.bool false) := by simp [World.cell?, hT.tb]
  have s2 : U3.cell? ⟨b + 1, 2, none⟩ = some (.int .i64 x2.1) := by simp [World.cell?, hT.tb]
  have s3 : U3.cell? ⟨b + 1, 3, none⟩ = some (.int .i64 x2.2.width) := by simp [World.cell?, hT.tb]
  have s4 : U3.cell? ⟨b + 1, 4, none⟩ = some (.int .i64 x2.2.id) := by simp [World.cell?, hT.tb]
  have s5 : U3.cell? ⟨b + 1, 5, none⟩ = some (.int .i64 x2.2.index) := by simp [World.cell?, hT.tb]
  have s6 : U3.cell? ⟨b + 1, 6, none⟩ = some (.slice ko x2.2.kids.length kc) := by simp [World.cell?, hT.tb]
  have f1 := frz hT.tb 1
  have hE : R = .ok (FT.mk x1 x3 x2.1 x2.2.width x2.2.id x2.2.index x2.2.kids, (a3, g3)) := by rw [HRes.out, fieldP]; exact (Pr.bind_ok Hr1.out).trans ((Pr.bind_ok Hr2.out).trans ((Pr.bind_ok hr).trans rfl))
  have HE := hidP hE
  clear hk hq hr hR hT hkr HK hE HT2 HG2 HR2 HT1 HG1 HR1
  go_wp2_with fail
  have k0 : Keeps U3 (U3.setCell ⟨b + 1, 1, none⟩ (.bool x3)) (fun z => z = b + 1) := (Keeps.refl U3 (fun z => z = b + 1)).setCell (p := ⟨b + 1, 1, none⟩) (fun _ => rfl) _
  have hb3 := put7_box (.string x1) (.bool x3) (.int .i64 x2.1) (.int .i64 x2.2.width) (.int .i64 x2.2.id) (.int .i64 x2.2.index) (.slice ko x2.2.kids.length kc) ((k0.block b (lt_of_heap HT3.out.rb) (by omega)).trans HT3.out.rb)
  have k3 := put7_keeps (U3.setCell ⟨b + 1, 1, none⟩ (.bool x3)) b (.string x1) (.bool x3) (.int .i64 x2.1) (.int .i64 x2.2.width) (.int .i64 x2.2.id) (.int .i64 x2.2.index) (.slice ko x2.2.kids.length kc)
  have k4 := (k0.mono (T := fun z => z = b ∨ z = b + 1) fun _ _ h => .inr h).trans k3 (fun _ _ h => .inl h)
  have kW : KpN W _ p := HG3.out.trans k4 fun z hz h => by have := HT3.out.lt; omega
  have hrow' := (HK3.out.2.nb (fun z hz => k4.block z hz.2.1 (by have := hz.1; have := Hbl.out; omega)) k4.size).low Hlow.out
  (try simp only [Exit.inBlock, Exit.then])
  exact bodyPost_ret (results_cell41 rfl rfl hb3 (by kernel_rfl)) rfl (PnQ.ok kW HE.out ⟨ko, kc, rfl, HK3.out.1, hrow'⟩ (HR3.out.kept k4 fun z h => h.elim (fun h => by rw [h]; exact HT3.out.bok) fun h => by rw [h]; exact HT3.out.cok))
theorem field_all (p : Nat) (s : ByteArray) : ∀ d, PnC p s d 34 #[.pointer (some ⟨p, 0, none⟩)] (fieldP s.data.toList d) (FV p d)
  | 0 => fun W a g _ hd => absurd hd (Nat.not_lt_zero _)
  | d + 1 => by
    have ih := field_all p s d
    exact field49 p s d (typ62 p s d (fieldP s.data.toList d) (fn_field d) (one48 p s d _ ih) (fields28 p s d _ (fun s0 x s1 h => (field_fn d s0 x s1 h).1) ih))
theorem fields_any (p : Nat) (s : ByteArray) : PnC p s D0 51 #[.pointer (some ⟨p, 0, none⟩)] (manyP s.data.toList (fieldP s.data.toList D0)) (LV p D0) := fields28 p s D0 _ (fun s0 x s1 h => (field_fn D0 s0 x s1 h).1) (field_all p s D0)
end Go.Proofs.YtkodgneneiledaaGreatDoor.Kit
