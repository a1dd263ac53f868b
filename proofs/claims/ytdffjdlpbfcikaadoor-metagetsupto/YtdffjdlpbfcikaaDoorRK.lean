import Derived.Test.YtdffjdlpbfcikaaDoorRH
namespace Go.Proofs.YtdffjdlpbfcikaaDoor.Kit
open Go.RowKit Go.Shelf Go.Deep
set_option linter.unusedVariables false
attribute [local go_sem] run_store_func

/-! ### field 76 -/
structure FB (W U : World) (p b c : Nat) (x0 x1 x2 x3 x4 x5 x6 : Value) : Prop where
  rb : U.heap[b]? = some (.cells #[.string ⟨#[]⟩, .bool false, .int .i64 0, .int .i64 0, .int .i64 0, .int .i64 0, .slice none 0 0] 80 (0, 0))
  tb : U.heap[c]? = some (.cells #[x0, x1, x2, x3, x4, x5, x6] 80 (0, 0))
  lt : W.heap.size ≤ b ∧ b < c ∧ p < W.heap.size
theorem FB.kp {W U U' : World} {p b c : Nat} {x0 x1 x2 x3 x4 x5 x6 : Value} (h : FB W U p b c x0 x1 x2 x3 x4 x5 x6) (q : Keeps U U' (fun z => z = p)) : FB W U' p b c x0 x1 x2 x3 x4 x5 x6 :=
  ⟨(q.block b (lt_of_heap h.rb) (by have := h.lt; omega)).trans h.rb, (q.block c (lt_of_heap h.tb) (by have := h.lt; omega)).trans h.tb, h.lt⟩
set_option maxRecDepth 100000 in
set_option maxHeartbeats 4000000 in
theorem field76 (p : Nat) (bo : Option Addr) (B : List UInt8) (bc D d : Nat) (lev : Int) (hlv : lev ≤ 64) (h87 : RdC p bo B bc 87 #[.pointer (some ⟨p, 0, none⟩), .int .i64 lev] (typR B (fieldR B d)) (TV D)) :
    RdC p bo B bc 76 #[.pointer (some ⟨p, 0, none⟩), .int .i64 lev] (fieldR B (d + 1)) (FV D) := by
  intro W a0 g0 hR
  obtain ⟨R, hRes⟩ : ∃ R, R = fieldR B (d + 1) (a0, g0) := ⟨_, rfl⟩
  rw [← hRes]
  have HRes := hidM hRes
  obtain ⟨V0, hV0⟩ : ∃ V0, W.alloc (.cells #[.string ⟨#[]⟩, .bool false, .int .i64 0, .int .i64 0, .int .i64 0, .int .i64 0, .slice none 0 0] 80) = V0 := ⟨_, rfl⟩
  have g0' : Gr W V0 := by rw [← hV0]; exact gr_alloc W _
  have HBx0 : Hid (V0.heap[W.heap.size]? = some (.cells #[.string ⟨#[]⟩, .bool false, .int .i64 0, .int .i64 0, .int .i64 0, .int .i64 0, .slice none 0 0] 80 (0, 0))) := by show _ = _; rw [← hV0]; exact heap_alloc_new W _
  have HR00 := hidM hR
  have hR0 := hR.gr g0'
  have HR0 := hidM hR0
  have HG0 : Hid (Gr W V0) := g0'
  have HNe : Hid (p < W.heap.size) := hR.lt
  have hfw := hR.few
  obtain ⟨c0, c1, c2, c3, c4⟩ := hR0.cells
  have z4 := frz hR0.box 4
  have HN := hidM (text_any p bo B bc 1 (.inl rfl))
  have HN2 := hidM (flag_any p bo B bc)
  have H87 := hidM h87
  have HLv : ¬ (64 : Int) < lev := by omega
  obtain ⟨b, hb⟩ : ∃ b, b = W.heap.size := ⟨_, rfl⟩
  clear hRes hR g0' hR0 h87
  by_cases cg : g0 = 256
  · have dg : ((g0 : Int) == 256) = true := by rw [beq_iff_eq]; omega
    have Cg := hidM cg
    clear cg
    go_enter Tryd.func76, Tryd.ntmps76
    go_wp2_with (go_at_call 29; refine Hid.out ?_)
    unfold Hid
    refine Calls.mono (giveUp_any 50 a0 _) ?_
    rintro e' U ⟨rfl, rfl⟩
    go_wp2_with fail
    exact ⟨rfl, RdQ.err (HG0.out.mono fun _ _ h => h.elim) (by rw [HRes.out, fieldR]; exact if_pos Cg.out)⟩
  · have dg : ((g0 : Int) == 256) = false := by rw [beq_eq_false_iff_ne]; omega
    have hw : IntKind.i64.wrap ((g0 : Int) + 1) = (g0 : Int) + 1 := by rw [IntKind.wrap_i64]; omega
    have Cg := hidM cg
    clear cg
    have HV := hidM hV0
    obtain ⟨V1, hV1⟩ : ∃ V1, V0.setCell ⟨p, 4, none⟩ (.int .i64 ((g0 : Int) + 1)) = V1 := ⟨_, rfl⟩
    have k1 : Keeps W V1 (fun z => z = p) := by rw [← hV1]; exact kp_put HG0.out _ _
    have HR1 : Hid (RAt V1 p bo B bc a0 (g0 + 1)) := by show RAt _ _ _ _ _ _ _; rw [← hV1]; have := HR0.out.more (by have := Cg.out; omega); simpa using this
    have hbx : V1.heap[b]? = some (.cells #[.string ⟨#[]⟩, .bool false, .int .i64 0, .int .i64 0, .int .i64 0, .int .i64 0, .slice none 0 0] 80 (0, 0)) := by rw [← hV1, hb]; exact (set_other _ (by have := HNe.out; omega)).trans HBx0.out
    obtain ⟨V2, hV2⟩ : ∃ V2, V1.alloc (.cells #[.string ⟨#[]⟩, .bool false, .int .i64 0, .int .i64 0, .int .i64 0, .int .i64 0, .slice none 0 0] 80) = V2 := ⟨_, rfl⟩
    have g2' : Gr V1 V2 := by rw [← hV2]; exact gr_alloc V1 _
    obtain ⟨c, hc⟩ : ∃ c, c = V1.heap.size := ⟨_, rfl⟩
    have HT : Hid (FB W V2 p b c (.string ⟨#[]⟩) (.bool false) (.int .i64 0) (.int .i64 0) (.int .i64 0) (.int .i64 0) (.slice none 0 0)) := ⟨(g2'.block b (lt_of_heap hbx) id).trans hbx, by rw [hc, ← hV2]; exact heap_alloc_new V1 _, by omega, by rw [hc]; exact lt_of_heap hbx, HNe.out⟩
    have HR2 := hidM (HR1.out.gr g2')
    have HG2 := hidM (k1.trans (g2'.mono fun _ _ h => h.elim) (fun _ _ h => h))
    have hcV : V0.heap.size = V1.heap.size := by rw [← hV1]; simp [World.setCell]
    have HV2 : Hid ((V0.setCell ⟨p, 4, none⟩ (.int .i64 ((g0 : Int) + 1))).alloc (.cells #[.string ⟨#[]⟩, .bool false, .int .i64 0, .int .i64 0, .int .i64 0, .int .i64 0, .slice none 0 0] 80) = V2) := by show _ = _; rw [hV1]; exact hV2
    have HB := hidM hb
    clear k1 hbx g2' hV1 hV2 HBx0
    go_enter Tryd.func76, Tryd.ntmps76
    go_wp2_with (go_at_call 77; refine Hid.out ?_)
    unfold Hid
    rw [HV2.out, ← hc, ← hb]
    clear HV2 hc hb hcV HV hV0 c0 c1 c2 c3 c4 z4 hw dg HLv
    have hq := HN.out _ _ _ HR2.out
    cases hr : textR B 1 (a0, g0 + 1) with
    | error er =>
      rw [hr] at hq
      refine Calls.mono hq ?_
      rintro e' U ⟨hk, rfl⟩
      have HGe := hidM (HG2.out.trans hk (fun _ _ h => h))
      have Hr := hidM hr
      clear hk hq hr
      go_wp2_with fail
      exact ⟨rfl, RdQ.err HGe.out (by rw [HRes.out, fieldR]; exact (if_neg Cg.out).trans (Rd.bind_err Hr.out))⟩
    | ok q =>
      obtain ⟨x3, a3, g3⟩ := q
      rw [hr] at hq
      refine Calls.mono hq ?_
      rintro e' U3 ⟨hk, v, rfl, rfl, hR⟩
      have hT := HT.out.kp hk
      have w0 := frz hT.tb 0
      have w1 : U3.cell? ⟨c, 0, none⟩ = some (.string ⟨#[]⟩) := by simp [World.cell?, hT.tb]
      have HT3 : Hid (FB W (U3.setCell ⟨c, 0, none⟩ (.string x3)) p b c (.string x3) (.bool false) (.int .i64 0) (.int .i64 0) (.int .i64 0) (.int .i64 0) (.slice none 0 0)) := ⟨(set_other _ (by have := hT.lt; omega)).trans hT.rb, heap_setCell_same _ c 0 _ _ _ hT.tb, hT.lt⟩
      have HG3 := hidM ((HG2.out.trans hk (fun _ _ h => h)).setCell (p := ⟨c, 0, none⟩) (fun h => by have := hT.lt; have h : c < W.heap.size := h; omega) (.string x3))
      have HR3 := hidM (RAt.over HR00.out hR HG3.out (set_other _ (by have := hT.lt; omega)))
      have Hr3 := hidM hr
      clear hk hq hr hR hT
      go_wp2_with (go_at_call 45; refine Hid.out ?_)
      unfold Hid
      clear w0 w1
      have hq := HN2.out _ _ _ HR3.out
      cases hr : flagR B (a3, g3) with
      | error er =>
        rw [hr] at hq
        refine Calls.mono hq ?_
        rintro e' U ⟨hk, rfl⟩
        have HGe := hidM (HG3.out.trans hk (fun _ _ h => h))
        have Hr := hidM hr
        clear hk hq hr
        go_wp2_with fail
        exact ⟨rfl, RdQ.err HGe.out (by rw [HRes.out, fieldR]; exact (if_neg Cg.out).trans ((Rd.bind_ok Hr3.out).trans (Rd.bind_err Hr.out)))⟩
      | ok q =>
        obtain ⟨x4, a4, g4⟩ := q
        rw [hr] at hq
        refine Calls.mono hq ?_
        rintro e' U4 ⟨hk, v, rfl, rfl, hR⟩
        have hT := HT3.out.kp hk
        have w0 := frz hT.tb 1
        have w1 : U4.cell? ⟨c, 1, none⟩ = some (.bool false) := by simp [World.cell?, hT.tb]
        have HT4 : Hid (FB W (U4.setCell ⟨c, 1, none⟩ (.bool x4)) p b c (.string x3) (.bool x4) (.int .i64 0) (.int .i64 0) (.int .i64 0) (.int .i64 0) (.slice none 0 0)) := ⟨(set_other _ (by have := hT.lt; omega)).trans hT.rb, heap_setCell_same _ c 1 _ _ _ hT.tb, hT.lt⟩
        have HG4 := hidM ((HG3.out.trans hk (fun _ _ h => h)).setCell (p := ⟨c, 1, none⟩) (fun h => by have := hT.lt; have h : c < W.heap.size := h; omega) (.bool x4))
        have HR4 := hidM (RAt.over HR00.out hR HG4.out (set_other _ (by have := hT.lt; omega)))
        have Hr4 := hidM hr
        clear hk hq hr hR hT
        go_wp2_with (go_at_call 87; refine Hid.out ?_)
        unfold Hid
        clear w0 w1
        have hq := H87.out _ _ _ HR4.out
        cases hr : typR B (fieldR B d) (a4, g4) with
        | error er =>
          rw [hr] at hq
          refine Calls.mono hq ?_
          rintro e' U ⟨hk, rfl⟩
          have HGe := hidM (HG4.out.trans hk (fun _ _ h => h))
          have Hr := hidM hr
          clear hk hq hr
          go_wp2_with fail
          exact ⟨rfl, RdQ.err HGe.out (by rw [HRes.out, fieldR]; exact (if_neg Cg.out).trans ((Rd.bind_ok Hr3.out).trans ((Rd.bind_ok Hr4.out).trans (Rd.bind_err Hr.out))))⟩
        | ok q =>
          obtain ⟨x5, a5, g5⟩ := q
          rw [hr] at hq
          refine Calls.mono hq ?_
          rintro e' U5 ⟨hk, v, rfl, ⟨ko, kc, rfl, hkc, hrow⟩, hR⟩
          have hT := HT4.out.kp hk
          have Hsz := hidM (And.intro (lt_of_heap HT4.out.rb) (lt_of_heap HT4.out.tb))
          have HGi := hidM HG4.out.size
          have HT5 := hidM hT
          have HG5 := hidM (HG4.out.trans hk (fun _ _ h => h))
          have HR5 := hidM hR
          have HK := hidM (And.intro hkc hrow)
          have Hr5 := hidM hr
          have u0 := frz HT5.out.rb 0
          have v0 : U5.cell? ⟨b, 0, none⟩ = some (.string ⟨#[]⟩) := by simp [World.cell?, HT5.out.rb]
          have u1 := frz HT5.out.rb 1
          have v1 : U5.cell? ⟨b, 1, none⟩ = some (.bool false) := by simp [World.cell?, HT5.out.rb]
          have u2 := frz HT5.out.rb 2
          have v2 : U5.cell? ⟨b, 2, none⟩ = some (.int .i64 0) := by simp [World.cell?, HT5.out.rb]
          have u3 := frz HT5.out.rb 3
          have v3 : U5.cell? ⟨b, 3, none⟩ = some (.int .i64 0) := by simp [World.cell?, HT5.out.rb]
          have u4 := frz HT5.out.rb 4
          have v4 : U5.cell? ⟨b, 4, none⟩ = some (.int .i64 0) := by simp [World.cell?, HT5.out.rb]
          have u5 := frz HT5.out.rb 5
          have v5 : U5.cell? ⟨b, 5, none⟩ = some (.int .i64 0) := by simp [World.cell?, HT5.out.rb]
          have u6 := frz HT5.out.rb 6
          have v6 : U5.cell? ⟨b, 6, none⟩ = some (.slice none 0 0) := by simp [World.cell?, HT5.out.rb]
          have s0 : U5.cell? ⟨c, 0, none⟩ = some (.string x3) := by simp [World.cell?, HT5.out.tb]
          have f0 := frz HT5.out.tb 0
          have s1 : U5.cell? ⟨c, 1, none⟩ = some (.bool x4) := by simp [World.cell?, HT5.out.tb]
          have f1 := frz HT5.out.tb 1
          have s2 : U5.cell? ⟨c, 2, none⟩ = some (.int .i64 0) := by simp [World.cell?, HT5.out.tb]
          have f2 := frz HT5.out.tb 2
          have s3 : U5.cell? ⟨c, 3, none⟩ = some (.int .i64 0) := by simp [World.cell?, HT5.out.tb]
          have f3 := frz HT5.out.tb 3
          have s4 : U5.cell? ⟨c, 4, none⟩ = some (.int .i64 0) := by simp [World.cell?, HT5.out.tb]
          have f4 := frz HT5.out.tb 4
          have s5 : U5.cell? ⟨c, 5, none⟩ = some (.int .i64 0) := by simp [World.cell?, HT5.out.tb]
          have f5 := frz HT5.out.tb 5
          have s6 : U5.cell? ⟨c, 6, none⟩ = some (.slice none 0 0) := by simp [World.cell?, HT5.out.tb]
          have f6 := frz HT5.out.tb 6
          have hcb : ¬ c = b := by have := HT5.out.lt; omega
          have hbc : ¬ b = c := by have := HT5.out.lt; omega
          clear hk hq hr hR hT hkc hrow HR4 HG4 HT4 HR3 HG3 HT3
          go_wp2_with fail
          have k0 : Keeps U5 (((((U5.setCell ⟨c, 2, none⟩ (.int .i64 x5.kind)).setCell ⟨c, 3, none⟩ (.int .i64 x5.width)).setCell ⟨c, 4, none⟩ (.int .i64 x5.id)).setCell ⟨c, 5, none⟩ (.int .i64 x5.index)).setCell ⟨c, 6, none⟩ (.slice ko x5.kids.length kc)) (fun z => z = c) := (((((Keeps.refl U5 (fun z => z = c)).setCell (p := ⟨c, 2, none⟩) (fun _ => rfl) _).setCell (p := ⟨c, 3, none⟩) (fun _ => rfl) _).setCell (p := ⟨c, 4, none⟩) (fun _ => rfl) _).setCell (p := ⟨c, 5, none⟩) (fun _ => rfl) _).setCell (p := ⟨c, 6, none⟩) (fun _ => rfl) _
          have hb3 := put7_box (.string x3) (.bool x4) (.int .i64 x5.kind) (.int .i64 x5.width) (.int .i64 x5.id) (.int .i64 x5.index) (.slice ko x5.kids.length kc) ((k0.block b (lt_of_heap HT5.out.rb) hbc).trans HT5.out.rb)
          have k3 := put7_keeps (((((U5.setCell ⟨c, 2, none⟩ (.int .i64 x5.kind)).setCell ⟨c, 3, none⟩ (.int .i64 x5.width)).setCell ⟨c, 4, none⟩ (.int .i64 x5.id)).setCell ⟨c, 5, none⟩ (.int .i64 x5.index)).setCell ⟨c, 6, none⟩ (.slice ko x5.kids.length kc)) b (.string x3) (.bool x4) (.int .i64 x5.kind) (.int .i64 x5.width) (.int .i64 x5.id) (.int .i64 x5.index) (.slice ko x5.kids.length kc)
          have k4 := (k0.mono (T := fun z => z = b ∨ z = c) fun _ _ h => .inr h).trans k3 (fun _ _ h => .inl h)
          have kW := HG5.out.trans k4 (fun j hj h => by have := HT5.out.lt; omega)
          have hrow' := HK.out.2.kept fun z hz => k4.block z hz.2 (by have := Hsz.out; omega)
          have hE : R = .ok (FT.mk x3 x4 x5.kind x5.width x5.id x5.index x5.kids, (a5, g5)) := by rw [HRes.out, fieldR]; exact (if_neg Cg.out).trans ((Rd.bind_ok Hr3.out).trans ((Rd.bind_ok Hr4.out).trans ((Rd.bind_ok Hr5.out).trans rfl)))
          (try simp only [Exit.inBlock, Exit.then])
          exact bodyPost_ret (results_cell80 rfl rfl hb3 (by kernel_rfl)) rfl (RdQ.ok kW hE ⟨ko, kc, rfl, HK.out.1, hrow'.mono fun z hz => ⟨by have := HGi.out; omega, Nat.lt_of_lt_of_le hz.2 k4.size⟩⟩ (RAt.over HR00.out HR5.out kW (k4.block p (lt_of_heap HR5.out.box) (by have := HT5.out.lt; omega))))
end Go.Proofs.YtdffjdlpbfcikaaDoor.Kit
namespace Go.Proofs.YtdffjdlpbfcikaaDoor.Kit
open Go.RowKit Go.Shelf Go.Deep
set_option linter.unusedVariables false
attribute [local go_sem] run_store_func

/-! ### fields at all levels -/
set_option maxRecDepth 100000 in
set_option maxHeartbeats 4000000 in
theorem field_deep (p : Nat) (bo : Option Addr) (B : List UInt8) (bc D : Nat) : RdC p bo B bc 76 #[.pointer (some ⟨p, 0, none⟩), .int .i64 65] (fieldR B 0) (FV D) := by
  intro W a0 g0 hR
  have hR0 := hR.gr (gr_alloc W (.cells #[.string ⟨#[]⟩, .bool false, .int .i64 0, .int .i64 0, .int .i64 0, .int .i64 0, .slice none 0 0] 80))
  obtain ⟨V0, hV0⟩ : ∃ V0, W.alloc (.cells #[.string ⟨#[]⟩, .bool false, .int .i64 0, .int .i64 0, .int .i64 0, .int .i64 0, .slice none 0 0] 80) = V0 := ⟨_, rfl⟩
  have HG0 : Hid (Gr W V0) := by rw [← hV0]; exact gr_alloc W _
  rw [hV0] at hR0
  obtain ⟨c0, c1, c2, c3, c4⟩ := hR0.cells
  have hfw := hR.few
  clear hR hR0
  by_cases cg : g0 = 256
  · have dg : ((g0 : Int) == 256) = true := by rw [beq_iff_eq]; omega
    clear cg
    go_enter Tryd.func76, Tryd.ntmps76
    go_wp2_with (go_at_call 29; refine Hid.out ?_)
    unfold Hid
    refine Calls.mono (giveUp_any 50 a0 _) ?_
    rintro e' U ⟨rfl, rfl⟩
    go_wp2_with fail
    exact ⟨rfl, RdQ.err (HG0.out.mono fun _ _ h => h.elim) rfl⟩
  · have dg : ((g0 : Int) == 256) = false := by rw [beq_eq_false_iff_ne]; omega
    clear cg
    go_enter Tryd.func76, Tryd.ntmps76
    go_wp2_with (go_at_call 29; refine Hid.out ?_)
    unfold Hid
    refine Calls.mono (giveUp_any 50 a0 _) ?_
    rintro e' U ⟨rfl, rfl⟩
    go_wp2_with fail
    exact ⟨rfl, RdQ.err (HG0.out.mono fun _ _ h => h.elim) rfl⟩
theorem field_all (p : Nat) (bo : Option Addr) (B : List UInt8) (bc : Nat) : ∀ (d : Nat) (lev : Int), lev = 65 - (d : Int) → d ≤ 64 → RdC p bo B bc 76 #[.pointer (some ⟨p, 0, none⟩), .int .i64 lev] (fieldR B d) (FV d)
  | 0, lev, h, _ => by
    have e : lev = 65 := by omega
    rw [e]
    exact field_deep p bo B bc 0
  | d + 1, lev, h, hd => by
    have h76 := field_all p bo B bc d (lev + 1) (by omega) (by omega)
    exact field76 p bo B bc (d + 1) d lev (by omega) (typ87 p bo B bc (d + 1) lev (fieldR B d) (by omega) fun n hn => fields59 p bo B bc n d (lev + 1) (fieldR B d) hn h76)
/-- fields 59 as the schema asks it: of the first level -/
theorem fields_any (p : Nat) (bo : Option Addr) (B : List UInt8) (bc n : Nat) (hn : n ≤ 65535) :
    RdC p bo B bc 59 #[.pointer (some ⟨p, 0, none⟩), .int .i64 (n : Int), .int .i64 1] (sevR n (fieldR B 64)) (fun W w' l v => ∃ vo vc, v = .slice vo l.length vc ∧ l.length ≤ vc ∧ RowAt (fun b => W.heap.size ≤ b ∧ b < w'.heap.size) w' 65 vo l) :=
  fields59 p bo B bc n 64 1 (fieldR B 64) hn (field_all p bo B bc 64 1 (by omega) (by omega))
end Go.Proofs.YtdffjdlpbfcikaaDoor.Kit
namespace Go.Proofs.YtdffjdlpbfcikaaDoor.Kit
open Go.RowKit Go.Shelf Go.Deep
set_option linter.unusedVariables false
attribute [local go_sem] run_store_func

/-! ### schema 43 -/
theorem num2_lt {B : List UInt8} {s s' : St} {x : Nat} (h : numR B 2 s = .ok (x, s')) : x ≤ 65535 := by
  unfold numR at h
  split at h
  · cases h
    have h1 := leN_lt ((B.drop s.1).take 2)
    have h2 : ((B.drop s.1).take 2).length ≤ 2 := by simp; omega
    have h3 : 256 ^ ((B.drop s.1).take 2).length ≤ 256 ^ 2 := Nat.pow_le_pow_right (by decide) h2
    omega
  · cases h
structure SB (W U : World) (p b c : Nat) (x y : Value) : Prop where
  rb : U.heap[b]? = some (.cells #[.slice none 0 0, .slice none 0 0] 26 (0, 0))
  tb : U.heap[c]? = some (.cells #[x, y] 26 (0, 0))
  lt : W.heap.size ≤ b ∧ b < c ∧ p < W.heap.size
theorem SB.kp {W U U' : World} {p b c : Nat} {x y : Value} (h : SB W U p b c x y) (q : Keeps U U' (fun z => z = p)) : SB W U' p b c x y :=
  ⟨(q.block b (lt_of_heap h.rb) (by have := h.lt; omega)).trans h.rb, (q.block c (lt_of_heap h.tb) (by have := h.lt; omega)).trans h.tb, h.lt⟩
theorem results_cell26 {fn : Func} {t : Tmp} {tmps : Array Value} {g : Nat} {cs : Array Value} {w : World} (h : fn.results = #[.cell t 26]) (ht : tmps.getD t undef = .pointer (some ⟨g, 0, none⟩)) (hg : w.heap[g]? = some (.cells cs 26 (0, 0))) (hi : (Tryd.prog.info? 26).map (·.size) = some cs.size) :
    (results fn tmps).run Tryd.prog w = .ok (.agg cs) w := by
  have hl := run_loadVar_row (P := Tryd.prog) w g 26 26 cs (0, 0) _ hg Tryd.underlying26 rfl hi
  unfold results
  rw [h]
  simp only [Array.mapM_eq_mapM_toList, List.mapM_cons, List.mapM_nil, ht]
  simp [asAddr, hl]
set_option maxRecDepth 100000 in
set_option maxHeartbeats 4000000 in
theorem schema43 (p : Nat) (bo : Option Addr) (B : List UInt8) (bc : Nat) : RdC p bo B bc 43 #[.pointer (some ⟨p, 0, none⟩)] (schR B) (fun W w' s v => ∃ fo fc no nc, v = .agg #[.slice fo s.1.length fc, .slice no s.2.length nc] ∧ s.1.length ≤ fc ∧ RowAt (fun b => W.heap.size ≤ b ∧ b < w'.heap.size) w' 65 fo s.1 ∧ LAt W w' 60 2 (fun x : ByteArray × ByteArray => [Value.string x.1, .string x.2]) s.2 no nc) := by
  intro W a0 g0 hR
  obtain ⟨R, hRes⟩ : ∃ R, R = schR B (a0, g0) := ⟨_, rfl⟩
  rw [← hRes]
  have HRes := hidM hRes
  obtain ⟨V0, hV0⟩ : ∃ V0, (W.alloc (.cells #[.slice none 0 0, .slice none 0 0] 26)).alloc (.cells #[.slice none 0 0, .slice none 0 0] 26) = V0 := ⟨_, rfl⟩
  have g1' : Gr W (W.alloc (.cells #[.slice none 0 0, .slice none 0 0] 26)) := gr_alloc W _
  have g2' : Gr (W.alloc (.cells #[.slice none 0 0, .slice none 0 0] 26)) V0 := by rw [← hV0]; exact gr_alloc _ _
  have g0' : Gr W V0 := g1'.trans g2' (fun _ _ h => h)
  have hs1 : (W.alloc (.cells #[.slice none 0 0, .slice none 0 0] 26)).heap.size = W.heap.size + 1 := by simp
  have HT : Hid (SB W V0 p W.heap.size (W.heap.size + 1) (.slice none 0 0) (.slice none 0 0)) := ⟨(g2'.block _ (by omega) id).trans (heap_alloc_new W _), by have := heap_alloc_new (W.alloc (.cells #[.slice none 0 0, .slice none 0 0] 26)) (.cells #[.slice none 0 0, .slice none 0 0] 26); rw [hs1, hV0] at this; exact this, Nat.le_refl _, by omega, hR.lt⟩
  have HR00 := hidM hR
  have HR1 := hidM (hR.gr g0')
  have HG1 : Hid (Keeps W V0 (fun z => z = p)) := g0'.mono fun _ _ h => h.elim
  have HN := hidM (number_any p bo B bc 2 (.inr (.inl rfl)))
  have HF := hidM (fields_any p bo B bc)
  have HNt := hidM (notes_any p bo B bc)
  have HV := hidM hV0
  obtain ⟨b, hb⟩ : ∃ b, b = W.heap.size := ⟨_, rfl⟩
  have hmf : ∀ (fn : Fn) (first cap : Array Value) (w : World), (Instr.makeFunc fn first cap).run Tryd.prog w = .ok (.func fn first cap) w := fun _ _ _ _ => rfl
  clear hRes hR g0' g1' g2' hs1 hV0
  go_enter Tryd.func43, Tryd.ntmps43
  go_wp2_with (go_at_call 44; refine Hid.out ?_)
  unfold Hid
  rw [HV.out, ← hb]
  rw [← hb] at HT
  have HB := hidM hb
  clear HV hb
  have hq := HN.out _ _ _ HR1.out
  cases hr : numR B 2 (a0, g0) with
  | error er =>
    rw [hr] at hq
    refine Calls.mono hq ?_
    rintro e' U ⟨hk, rfl⟩
    have HGe := hidM (HG1.out.trans hk (fun _ _ h => h))
    have Hr := hidM hr
    clear hk hq hr
    go_wp2_with fail
    exact ⟨rfl, RdQ.err HGe.out (by rw [HRes.out]; exact Rd.bind_err Hr.out)⟩
  | ok q =>
    obtain ⟨x2, a2, g2⟩ := q
    rw [hr] at hq
    refine Calls.mono hq ?_
    rintro e' U2 ⟨hk, v, rfl, rfl, hR⟩
    have Hr2 := hidM hr
    have HT2 := hidM (HT.out.kp hk)
    have HG2 := hidM (HG1.out.trans hk (fun _ _ h => h))
    have HR2 := hidM hR
    clear hk hq hr hR HT
    go_wp2_with (go_at_call 59; refine Hid.out ?_)
    unfold Hid
    have hq := HF.out x2 (num2_lt Hr2.out) _ _ _ HR2.out
    cases hr : sevR x2 (fieldR B 64) (a2, g2) with
    | error er =>
      rw [hr] at hq
      refine Calls.mono hq ?_
      rintro e' U ⟨hk, rfl⟩
      have HGe := hidM (HG2.out.trans hk (fun _ _ h => h))
      have Hr := hidM hr
      clear hk hq hr
      go_wp2_with fail
      exact ⟨rfl, RdQ.err HGe.out (by rw [HRes.out]; exact (Rd.bind_ok Hr2.out).trans (Rd.bind_err Hr.out))⟩
    | ok q =>
      obtain ⟨x3, a3, g3⟩ := q
      rw [hr] at hq
      refine Calls.mono hq ?_
      rintro e' U3 ⟨hk, v, rfl, ⟨fo, fc, rfl, hfc, hrow⟩, hR⟩
      have Hr3 := hidM hr
      have Hs3 := hidM (And.intro (lt_of_heap HT2.out.rb) (lt_of_heap HT2.out.tb))
      have Hz3 := hidM HG2.out.size
      have hT := HT2.out.kp hk
      have w0 := frz hT.tb 0
      have w1 : U3.cell? ⟨b + 1, 0, none⟩ = some (.slice none 0 0) := by simp [World.cell?, hT.tb]
      have HT3 : Hid (SB W (U3.setCell ⟨b + 1, 0, none⟩ (.slice fo x3.length fc)) p b (b + 1) (.slice fo x3.length fc) (.slice none 0 0)) := ⟨(set_other _ (by have := hT.lt; omega)).trans hT.rb, heap_setCell_same _ (b + 1) 0 _ _ _ hT.tb, hT.lt⟩
      have HG3 := hidM ((HG2.out.trans hk (fun _ _ h => h)).setCell (p := ⟨b + 1, 0, none⟩) (fun h => by have := hT.lt; have h : b + 1 < W.heap.size := h; omega) (.slice fo x3.length fc))
      have HR3 := hidM (RAt.over HR00.out hR HG3.out (set_other _ (by have := hT.lt; omega)))
      have HK3 := hidM (And.intro hfc hrow)
      have HQ3 : Hid (Keeps U3 (U3.setCell ⟨b + 1, 0, none⟩ (.slice fo x3.length fc)) (fun z => z = p ∨ z = b ∨ z = b + 1)) := (Keeps.refl U3 (fun z => z = p ∨ z = b ∨ z = b + 1)).setCell (p := ⟨b + 1, 0, none⟩) (fun _ => .inr (.inr rfl)) _
      clear hk hq hr hR hfc hrow HT2 hT
      go_wp2_with (go_at_call 44; refine Hid.out ?_)
      unfold Hid
      clear w0 w1
      have hq := HN.out _ _ _ HR3.out
      cases hr : numR B 2 (a3, g3) with
      | error er =>
        rw [hr] at hq
        refine Calls.mono hq ?_
        rintro e' U ⟨hk, rfl⟩
        have HGe := hidM (HG3.out.trans hk (fun _ _ h => h))
        have Hr := hidM hr
        clear hk hq hr
        go_wp2_with fail
        exact ⟨rfl, RdQ.err HGe.out (by rw [HRes.out]; exact (Rd.bind_ok Hr2.out).trans ((Rd.bind_ok Hr3.out).trans (Rd.bind_err Hr.out)))⟩
      | ok q =>
        obtain ⟨x4, a4, g4⟩ := q
        rw [hr] at hq
        refine Calls.mono hq ?_
        rintro e' U4 ⟨hk, v, rfl, rfl, hR⟩
        have Hr4 := hidM hr
        have HT4 := hidM (HT3.out.kp hk)
        have HG4 := hidM (HG3.out.trans hk (fun _ _ h => h))
        have HR4 := hidM hR
        have HQ4 := hidM (HQ3.out.trans hk (fun _ _ h => .inl h))
        clear hk hq hr hR HT3 HQ3
        go_wp2_with (go_at_call 60; refine Hid.out ?_)
        unfold Hid
        have hq := HNt.out x4 (num2_lt Hr4.out) _ _ _ HR4.out
        cases hr : sevR x4 (noteR B) (a4, g4) with
        | error er =>
          rw [hr] at hq
          refine Calls.mono hq ?_
          rintro e' U ⟨hk, rfl⟩
          have HGe := hidM (HG4.out.trans hk (fun _ _ h => h))
          have Hr := hidM hr
          clear hk hq hr
          go_wp2_with fail
          exact ⟨rfl, RdQ.err HGe.out (by rw [HRes.out]; exact (Rd.bind_ok Hr2.out).trans ((Rd.bind_ok Hr3.out).trans ((Rd.bind_ok Hr4.out).trans (Rd.bind_err Hr.out))))⟩
        | ok q =>
          obtain ⟨x5, a5, g5⟩ := q
          rw [hr] at hq
          refine Calls.mono hq ?_
          rintro e' U5 ⟨hk, v, rfl, ⟨no, nc, rfl, hnt⟩, hR⟩
          have Hr5 := hidM hr
          have Hs5 := hidM (And.intro (lt_of_heap HT4.out.rb) (lt_of_heap HT4.out.tb))
          have Hz5 := hidM HG4.out.size
          have HQ5 := hidM (HQ4.out.trans hk (fun _ _ h => .inl h))
          have hT := HT4.out.kp hk
          have HT5 := hidM hT
          have HG5 := hidM (HG4.out.trans hk (fun _ _ h => h))
          have HR5 := hidM hR
          have HK5 := hidM hnt
          have u0 := frz HT5.out.rb 0
          have v0 : U5.cell? ⟨b, 0, none⟩ = some (.slice none 0 0) := by simp [World.cell?, HT5.out.rb]
          have u1 := frz HT5.out.rb 1
          have v1 : U5.cell? ⟨b, 1, none⟩ = some (.slice none 0 0) := by simp [World.cell?, HT5.out.rb]
          have s0 : U5.cell? ⟨b + 1, 0, none⟩ = some (.slice fo x3.length fc) := by simp [World.cell?, HT5.out.tb]
          have s1 : U5.cell? ⟨b + 1, 1, none⟩ = some (.slice none 0 0) := by simp [World.cell?, HT5.out.tb]
          have f1 := frz HT5.out.tb 1
          clear hk hq hr hR hT hnt HT4 HG4 HR4 HG3 HR3 HQ4
          go_wp2_with fail
          have k0 : Keeps U5 (U5.setCell ⟨b + 1, 1, none⟩ (.slice no x5.length nc)) (fun z => z = b + 1) := (Keeps.refl U5 (fun z => z = b + 1)).setCell (p := ⟨b + 1, 1, none⟩) (fun _ => rfl) _
          have hb3 := put2_box (.slice fo x3.length fc) (.slice no x5.length nc) ((k0.block b (lt_of_heap HT5.out.rb) (by omega)).trans HT5.out.rb)
          have k3 := put2_keeps (U5.setCell ⟨b + 1, 1, none⟩ (.slice no x5.length nc)) b (.slice fo x3.length fc) (.slice no x5.length nc)
          have k4 := (k0.mono (T := fun z => z = b ∨ z = b + 1) fun _ _ h => .inr h).trans k3 (fun _ _ h => .inl h)
          have kW := HG5.out.trans k4 (fun j hj h => by have := HT5.out.lt; omega)
          have kq := HQ5.out.trans (k4.mono (T := fun z => z = p ∨ z = b ∨ z = b + 1) fun _ _ h => .inr h) (fun _ _ h => h)
          have hrow' := HK3.out.2.kept fun z hz => kq.block z hz.2 (by have := Hs3.out; have := Hz3.out; have := HT5.out.lt; omega)
          have hnt' : LAt W (((U5.setCell ⟨b + 1, 1, none⟩ (.slice no x5.length nc)).setCell ⟨b, 0, none⟩ (.slice fo x3.length fc)).setCell ⟨b, 1, none⟩ (.slice no x5.length nc)) 60 2 (fun x : ByteArray × ByteArray => [Value.string x.1, .string x.2]) x5 no nc := ⟨row_kp HK5.out.own fun g e => k4.block g (own_lt HK5.out.own g e) (by have := HK5.out.new g e; have := Hs5.out; omega), fun g e => by have := HK5.out.new g e; have := Hz5.out; omega⟩
          have hE : R = .ok ((x3, x5), (a5, g5)) := by rw [HRes.out]; exact (Rd.bind_ok Hr2.out).trans ((Rd.bind_ok Hr3.out).trans ((Rd.bind_ok Hr4.out).trans ((Rd.bind_ok Hr5.out).trans rfl)))
          (try simp only [Exit.inBlock, Exit.then])
          exact bodyPost_ret (results_cell26 rfl rfl hb3 (by kernel_rfl)) rfl (RdQ.ok kW hE ⟨fo, fc, no, nc, rfl, HK3.out.1, hrow'.mono fun z hz => ⟨by have := Hz3.out; omega, Nat.lt_of_lt_of_le hz.2 kq.size⟩, hnt'⟩ (RAt.over HR00.out HR5.out kW (k4.block p (lt_of_heap HR5.out.box) (by have := HT5.out.lt; omega))))
end Go.Proofs.YtdffjdlpbfcikaaDoor.Kit
