import Derived.Test.YtdihbfjjddmbiaaGreatDoorRH
set_option maxRecDepth 100000
set_option maxHeartbeats 4000000
namespace Go.Proofs.YtdihbfjjddmbiaaGreatDoor.Kit
open Go.RowKit Go.Shelf Go.Deep
set_option linter.unusedVariables false
attribute [local go_sem] run_store_func
structure FB (W U : World) (p b c : Nat) (x0 x1 x2 x3 x4 x5 x6 : Value) : Prop where
  rb : U.heap[b]? = some (.cells #[.string ⟨#[]⟩, .bool false, .int .i64 0, .int .i64 0, .int .i64 0, .int .i64 0, .slice none 0 0] 52 (0, 0))
  tb : U.heap[c]? = some (.cells #[x0, x1, x2, x3, x4, x5, x6] 52 (0, 0))
  lt : W.heap.size ≤ b ∧ b < c ∧ p < W.heap.size
theorem FB.kp {W U U' : World} {p b c : Nat} {x0 x1 x2 x3 x4 x5 x6 : Value} (h : FB W U p b c x0 x1 x2 x3 x4 x5 x6) (q : Keeps U U' (fun z => z = p)) : FB W U' p b c x0 x1 x2 x3 x4 x5 x6 :=
  ⟨(q.block b (lt_of_heap h.rb) (by have := h.lt; omega)).trans h.rb, (q.block c (lt_of_heap h.tb) (by have := h.lt; omega)).trans h.tb, h.lt⟩
theorem field76 (p : Nat) (bo : Option Addr) (B : List UInt8) (bc D d : Nat) (lev : Int) (hlv : lev ≤ 64) (h87 : RdC p bo B bc 108 #[.pointer (some ⟨p, 0, none⟩), .int .i64 lev] (typR B (fieldR B d)) (TV D)) :
    RdC p bo B bc 103 #[.pointer (some ⟨p, 0, none⟩), .int .i64 lev] (fieldR B (d + 1)) (FV D) := by
  intro W a0 g0 hR
  obtain ⟨R, hRes⟩ : ∃ R, R = fieldR B (d + 1) (a0, g0) := ⟨_, rfl⟩
  rw [← hRes]
  have HRes := hidM hRes
  obtain ⟨V0, hV0⟩ := ex (W.alloc (.cells #[.string ⟨#[]⟩, .bool false, .int .i64 0, .int .i64 0, .int .i64 0, .int .i64 0, .slice none 0 0] 52))
  have g0' : Gr W V0 := by rw [← hV0]; exact gr_alloc W _
  have HBx0 : Hid (V0.heap[W.heap.size]? = some (.cells #[.string ⟨#[]⟩, .bool false, .int .i64 0, .int .i64 0, .int .i64 0, .int .i64 0, .slice none 0 0] 52 (0, 0))) := by show _ = _; rw [← hV0]; exact heap_alloc_new W _
  have HR00 := hidM hR
  have hR0 := hR.gr g0'
  have HR0 := hidM hR0
  have HG0 : Hid (Gr W V0) := g0'
  have HNe : Hid (p < W.heap.size) := hR.lt
  have hfw := hR.few
  obtain ⟨c0, c1, c2, c3, c4⟩ := hR0.cells
  have z4 := frz hR0.box 4
  have HN := hidM (text_any p bo B bc 1 (.inl rfl))
  have HN2 := hidM (flag_any p bo B bc)
  have H87 := hidM h87
  have HLv : ¬ (64 : Int) < lev := by omega
  obtain ⟨b, hb⟩ : ∃ b, b = W.heap.size := ⟨_, rfl⟩
  clear hRes hR g0' hR0 h87
  by_cases cg : g0 = 256
  · have dg : ((g0 : Int) == 256) = true := by rw [beq_iff_eq]; omega
    have Cg := hidM cg
    clear cg
    go_enter Tryz.func103, Tryz.ntmps103
    go_wp2_with (go_at_call 65; refine Hid.out ?_)
    unfold Hid
    refine Calls.mono (giveUp_any 50 a0 _) ?_
    rintro e' U ⟨rfl, rfl⟩
    go_wp2_with fail
    exact ⟨rfl, RdQ.err (HG0.out.mono fun _ _ h => h.elim) (by rw [HRes.out, fieldR]; exact if_pos Cg.out)⟩
  have dg : ((g0 : Int) == 256) = false := by rw [beq_eq_false_iff_ne]; omega
  have hw : IntKind.i64.wrap ((g0 : Int) + 1) = (g0 : Int) + 1 := by rw [IntKind.wrap_i64]; omega
  have Cg := hidM cg
  clear cg
  have HV := hidM hV0
  obtain ⟨V1, hV1⟩ := ex (V0.setCell ⟨p, 4, none⟩ (.int .i64 ((g0 : Int) + 1)))
  have k1 : Keeps W V1 (fun z => z = p) := by rw [← hV1]; exact kp_put HG0.out _ _
  have HR1 : Hid (RAt V1 p bo B bc a0 (g0 + 1)) := by show RAt _ _ _ _ _ _ _; rw [← hV1]; have := HR0.out.more (by have := Cg.out; omega); simpa using this
  have hbx : V1.heap[b]? = some (.cells #[.string ⟨#[]⟩, .bool false, .int .i64 0, .int .i64 0, .int .i64 0, .int .i64 0, .slice none 0 0] 52 (0, 0)) := by rw [← hV1, hb]; exact (set_other _ (by have := HNe.out; omega)).trans HBx0.out
  obtain ⟨V2, hV2⟩ := ex (V1.alloc (.cells #[.string ⟨#[]⟩, .bool false, .int .i64 0, .int .i64 0, .int .i64 0, .int .i64 0, .slice none 0 0] 52))
  have g2' : Gr V1 V2 := by rw [← hV2]; exact gr_alloc V1 _
  obtain ⟨c, hc⟩ : ∃ c, c = V1.heap.size := ⟨_, rfl⟩
  have HT : Hid (FB W V2 p b c (.string ⟨#[]⟩) (.bool false) (.int .i64 0) (.int .i64 0) (.int .i64 0) (.int .i64 0) (.slice none 0 0)) := ⟨(g2'.block b (lt_of_heap hbx) id).trans hbx, by rw [hc, ← hV2]; exact heap_alloc_new V1 _, by omega, by rw [hc]; exact lt_of_heap hbx, HNe.out⟩
  have HR2 := hidM (HR1.out.gr g2')
  have HG2 := hidM (k1.tr (g2'.mono fun _ _ h => h.elim))
  have hcV : V0.heap.size = V1.heap.size := by rw [← hV1]; simp [World.setCell]
  have HV2 : Hid ((V0.setCell ⟨p, 4, none⟩ (.int .i64 ((g0 : Int) + 1))).alloc (.cells #[.string ⟨#[]⟩, .bool false, .int .i64 0, .int .i64 0, .int .i64 0, .int .i64 0, .slice none 0 0] 52) = V2) := by show _ = _; rw [hV1]; exact hV2
  have HB := hidM hb
  clear k1 hbx g2' hV1 hV2 HBx0
  go_enter Tryz.func103, Tryz.ntmps103
  go_wp2_with (go_at_call 104; refine Hid.out ?_)
  unfold Hid
  rw [HV2.out, ← hc, ← hb]
  clear HV2 hc hb hcV HV hV0 c0 c1 c2 c3 c4 z4 hw dg HLv
  have hq := HN.out _ _ _ HR2.out
  cases hr : textR B 1 (a0, g0 + 1) with
  | error er =>
    rw [hr] at hq
    refine Calls.mono hq ?_
    rintro e' U ⟨hk, rfl⟩
    have HGe := hidM (HG2.out.tr hk)
    have Hr := hidM hr
    clear hk hq hr
    go_wp2_with fail
    exact ⟨rfl, RdQ.err HGe.out (by rw [HRes.out, fieldR]; exact (if_neg Cg.out).trans (Rd.bind_err Hr.out))⟩
  | ok q =>
    obtain ⟨x3, a3, g3⟩ := q
    rw [hr] at hq
    refine Calls.mono hq ?_
    rintro e' U3 ⟨hk, v, rfl, rfl, hR⟩
    have hT := HT.out.kp hk
    have w0 := frz hT.tb 0
    have w1 : U3.cell? ⟨c, 0, none⟩ = some (.string ⟨#[]⟩) := by simp [World.cell?, hT.tb]
    have HT3 : Hid (FB W (U3.setCell ⟨c, 0, none⟩ (.string x3)) p b c (.string x3) (.bool false) (.int .i64 0) (.int .i64 0) (.int .i64 0) (.int .i64 0) (.slice none 0 0)) := ⟨(set_other _ (by have := hT.lt; omega)).trans hT.rb, heap_setCell_same _ c 0 _ _ _ hT.tb, hT.lt⟩
    have HG3 := hidM ((HG2.out.tr hk).setCell (p := ⟨c, 0, none⟩) (fun h => by have := hT.lt; have h : c < W.heap.size := h; omega) (.string x3))
    have HR3 := hidM (RAt.over HR00.out hR HG3.out (set_other _ (by have := hT.lt; omega)))
    have Hr3 := hidM hr
    clear hk hq hr hR hT
    go_wp2_with (go_at_call 78; refine Hid.out ?_)
    unfold Hid
    clear w0 w1
    have hq := HN2.out _ _ _ HR3.out
    cases hr : flagR B (a3, g3) with
    | error er =>
      rw [hr] at hq
      refine Calls.mono hq ?_
      rintro e' U ⟨hk, rfl⟩
      have HGe := hidM (HG3.out.tr hk)
      have Hr := hidM hr
      clear hk hq hr
      go_wp2_with fail
      exact ⟨rfl, RdQ.err HGe.out (by rw [HRes.out, fieldR]; exact (if_neg Cg.out).trans ((Rd.bind_ok Hr3.out).trans (Rd.bind_err Hr.out)))⟩
    | ok q =>
      obtain ⟨x4, a4, g4⟩ := q
      rw [hr] at hq
      refine Calls.mono hq ?_
      rintro e' U4 ⟨hk, v, rfl, rfl, hR⟩
      have hT := HT3.out.kp hk
      have w0 := frz hT.tb 1
      have w1 : U4.cell? ⟨c, 1, none⟩ = some (.bool false) := by simp [World.cell?, hT.tb]
      have HT4 : Hid (FB W (U4.setCell ⟨c, 1, none⟩ (.bool x4)) p b c (.string x3) (.bool x4) (.int .i64 0) (.int .i64 0) (.int .i64 0) (.int .i64 0) (.slice none 0 0)) := ⟨(set_other _ (by have := hT.lt; omega)).trans hT.rb, heap_setCell_same _ c 1 _ _ _ hT.tb, hT.lt⟩
      have HG4 := hidM ((HG3.out.tr hk).setCell (p := ⟨c, 1, none⟩) (fun h => by have := hT.lt; have h : c < W.heap.size := h; omega) (.bool x4))
      have HR4 := hidM (RAt.over HR00.out hR HG4.out (set_other _ (by have := hT.lt; omega)))
      have Hr4 := hidM hr
      clear hk hq hr hR hT
      go_wp2_with (go_at_call 108; refine Hid.out ?_)
      unfold Hid
      clear w0 w1
      have hq := H87.out _ _ _ HR4.out
      cases hr : typR B (fieldR B d) (a4, g4) with
      | error er =>
        rw [hr] at hq
        refine Calls.mono hq ?_
        rintro e' U ⟨hk, rfl⟩
        have HGe := hidM (HG4.out.tr hk)
        have Hr := hidM hr
        clear hk hq hr
        go_wp2_with fail
        exact ⟨rfl, RdQ.err HGe.out (by rw [HRes.out, fieldR]; exact (if_neg Cg.out).trans ((Rd.bind_ok Hr3.out).trans ((Rd.bind_ok Hr4.out).trans (Rd.bind_err Hr.out))))⟩
      | ok q =>
        obtain ⟨x5, a5, g5⟩ := q
        rw [hr] at hq
        refine Calls.mono hq ?_
        rintro e' U5 ⟨hk, v, rfl, ⟨ko, kc, rfl, hkc, hrow⟩, hR⟩
        have hT := HT4.out.kp hk
        have Hsz := hidM (And.intro (lt_of_heap HT4.out.rb) (lt_of_heap HT4.out.tb))
        have HGi := hidM HG4.out.size
        have HT5 := hidM hT
        have HG5 := hidM (HG4.out.tr hk)
        have HR5 := hidM hR
        have HK := hidM (And.intro hkc hrow)
        have Hr5 := hidM hr
        obtain ⟨u0, u1, u2, u3, u4, u5, u6⟩ := fz7 HT5.out.rb
        obtain ⟨v0, v1, v2, v3, v4, v5, v6⟩ := ce7 HT5.out.rb
        obtain ⟨s0, s1, s2, s3, s4, s5, s6⟩ := ce7 HT5.out.tb
        obtain ⟨f0, f1, f2, f3, f4, f5, f6⟩ := fz7 HT5.out.tb
        have hcb : ¬ c = b := by have := HT5.out.lt; omega
        have hbc : ¬ b = c := by have := HT5.out.lt; omega
        clear hk hq hr hR hT hkc hrow HR4 HG4 HT4 HR3 HG3 HT3
        go_wp2_with fail
        have k0 : Keeps U5 (((((U5.setCell ⟨c, 2, none⟩ (.int .i64 x5.kind)).setCell ⟨c, 3, none⟩ (.int .i64 x5.width)).setCell ⟨c, 4, none⟩ (.int .i64 x5.id)).setCell ⟨c, 5, none⟩ (.int .i64 x5.index)).setCell ⟨c, 6, none⟩ (.slice ko x5.kids.length kc)) (fun z => z = c) := (((((Keeps.refl U5 (fun z => z = c)).setCell (p := ⟨c, 2, none⟩) (fun _ => rfl) _).setCell (p := ⟨c, 3, none⟩) (fun _ => rfl) _).setCell (p := ⟨c, 4, none⟩) (fun _ => rfl) _).setCell (p := ⟨c, 5, none⟩) (fun _ => rfl) _).setCell (p := ⟨c, 6, none⟩) (fun _ => rfl) _
        have hb3 := put7_box (.string x3) (.bool x4) (.int .i64 x5.kind) (.int .i64 x5.width) (.int .i64 x5.id) (.int .i64 x5.index) (.slice ko x5.kids.length kc) ((k0.block b (lt_of_heap HT5.out.rb) hbc).trans HT5.out.rb)
        have k3 := put7_keeps (((((U5.setCell ⟨c, 2, none⟩ (.int .i64 x5.kind)).setCell ⟨c, 3, none⟩ (.int .i64 x5.width)).setCell ⟨c, 4, none⟩ (.int .i64 x5.id)).setCell ⟨c, 5, none⟩ (.int .i64 x5.index)).setCell ⟨c, 6, none⟩ (.slice ko x5.kids.length kc)) b (.string x3) (.bool x4) (.int .i64 x5.kind) (.int .i64 x5.width) (.int .i64 x5.id) (.int .i64 x5.index) (.slice ko x5.kids.length kc)
        have k4 := (k0.mono (T := fun z => z = b ∨ z = c) fun _ _ h => .inr h).trans k3 (fun _ _ h => .inl h)
        have kW := HG5.out.trans k4 (fun j hj h => by have := HT5.out.lt; omega)
        have hrow' := HK.out.2.kept fun z z1 z2 => k4.block z z2 (by have := Hsz.out; omega)
        have hE : R = .ok (FT.mk x3 x4 x5.kind x5.width x5.id x5.index x5.kids, (a5, g5)) := by rw [HRes.out, fieldR]; exact (if_neg Cg.out).trans ((Rd.bind_ok Hr3.out).trans ((Rd.bind_ok Hr4.out).trans ((Rd.bind_ok Hr5.out).trans rfl)))
        (try simp only [Exit.inBlock, Exit.then])
        exact bodyPost_ret (results_cell80 rfl rfl hb3 (by kernel_rfl)) rfl (RdQ.ok kW hE ⟨ko, kc, rfl, HK.out.1, hrow'.wide (by have := HGi.out; omega) k4.size⟩ (RAt.over HR00.out HR5.out kW (k4.block p (lt_of_heap HR5.out.box) (by have := HT5.out.lt; omega))))
theorem field_deep (p : Nat) (bo : Option Addr) (B : List UInt8) (bc D : Nat) : RdC p bo B bc 103 #[.pointer (some ⟨p, 0, none⟩), .int .i64 65] (fieldR B 0) (FV D) := by
  intro W a0 g0 hR
  have hR0 := hR.gr (gr_alloc W (.cells #[.string ⟨#[]⟩, .bool false, .int .i64 0, .int .i64 0, .int .i64 0, .int .i64 0, .slice none 0 0] 52))
  obtain ⟨V0, hV0⟩ := ex (W.alloc (.cells #[.string ⟨#[]⟩, .bool false, .int .i64 0, .int .i64 0, .int .i64 0, .int .i64 0, .slice none 0 0] 52))
  have HG0 : Hid (Gr W V0) := by rw [← hV0]; exact gr_alloc W _
  rw [hV0] at hR0
  obtain ⟨c0, c1, c2, c3, c4⟩ := hR0.cells
  have hfw := hR.few
  clear hR hR0
  by_cases cg : g0 = 256
  · have dg : ((g0 : Int) == 256) = true := by rw [beq_iff_eq]; omega
    clear cg
    go_enter Tryz.func103, Tryz.ntmps103
    go_wp2_with (go_at_call 65; refine Hid.out ?_)
    unfold Hid
    refine Calls.mono (giveUp_any 50 a0 _) ?_
    rintro e' U ⟨rfl, rfl⟩
    go_wp2_with fail
    exact ⟨rfl, RdQ.err (HG0.out.mono fun _ _ h => h.elim) rfl⟩
  have dg : ((g0 : Int) == 256) = false := by rw [beq_eq_false_iff_ne]; omega
  clear cg
  go_enter Tryz.func103, Tryz.ntmps103
  go_wp2_with (go_at_call 65; refine Hid.out ?_)
  unfold Hid
  refine Calls.mono (giveUp_any 50 a0 _) ?_
  rintro e' U ⟨rfl, rfl⟩
  go_wp2_with fail
  exact ⟨rfl, RdQ.err (HG0.out.mono fun _ _ h => h.elim) rfl⟩
theorem field_all (p : Nat) (bo : Option Addr) (B : List UInt8) (bc : Nat) : ∀ (d : Nat) (lev : Int), lev = 65 - (d : Int) → d ≤ 64 → RdC p bo B bc 103 #[.pointer (some ⟨p, 0, none⟩), .int .i64 lev] (fieldR B d) (FV d)
  | 0, lev, h, _ => by
    have e : lev = 65 := by omega
    rw [e]
    exact field_deep p bo B bc 0
  | d + 1, lev, h, hd => by
    have h76 := field_all p bo B bc d (lev + 1) (by omega) (by omega)
    exact field76 p bo B bc (d + 1) d lev (by omega) (typ87 p bo B bc (d + 1) lev (fieldR B d) (by omega) fun n hn => fields59 p bo B bc n d (lev + 1) (fieldR B d) hn h76)
theorem fields_any (p : Nat) (bo : Option Addr) (B : List UInt8) (bc n : Nat) (hn : n ≤ 65535) :
    RdC p bo B bc 90 #[.pointer (some ⟨p, 0, none⟩), .int .i64 (n : Int), .int .i64 1] (sevR n (fieldR B 64)) (fun W w' l v => ∃ vo vc, v = .slice vo l.length vc ∧ l.length ≤ vc ∧ RowI W.heap.size w'.heap.size w' 65 vo vc l) :=
  fields59 p bo B bc n 64 1 (fieldR B 64) hn (field_all p bo B bc 64 1 (by omega) (by omega))
theorem num2_lt {B : List UInt8} {s s' : St} {x : Nat} (h : numR B 2 s = .ok (x, s')) : x ≤ 65535 := by
  unfold numR at h
  split at h
  · cases h
    have h1 := leN_lt ((B.drop s.1).take 2)
    have h2 : ((B.drop s.1).take 2).length ≤ 2 := by simp; omega
    have h3 : 256 ^ ((B.drop s.1).take 2).length ≤ 256 ^ 2 := Nat.pow_le_pow_right (by decide) h2
    omega
  cases h
structure SB (W U : World) (p b c : Nat) (x y : Value) : Prop where
  rb : U.heap[b]? = some (.cells #[.slice none 0 0, .slice none 0 0] 25 (0, 0))
  tb : U.heap[c]? = some (.cells #[x, y] 25 (0, 0))
  lt : W.heap.size ≤ b ∧ b < c ∧ p < W.heap.size
theorem SB.kp {W U U' : World} {p b c : Nat} {x y : Value} (h : SB W U p b c x y) (q : Keeps U U' (fun z => z = p)) : SB W U' p b c x y :=
  ⟨(q.block b (lt_of_heap h.rb) (by have := h.lt; omega)).trans h.rb, (q.block c (lt_of_heap h.tb) (by have := h.lt; omega)).trans h.tb, h.lt⟩
theorem results_cell26 {fn : Func} {t : Tmp} {tmps : Array Value} {g : Nat} {cs : Array Value} {w : World} (h : fn.results = #[.cell t 25]) (ht : tmps.getD t undef = .pointer (some ⟨g, 0, none⟩)) (hg : w.heap[g]? = some (.cells cs 25 (0, 0))) (hi : (Tryz.prog.info? 25).map (·.size) = some cs.size) :
    (results fn tmps).run Tryz.prog w = .ok (.agg cs) w := by
  have hl := run_loadVar_row (P := Tryz.prog) w g 25 25 cs (0, 0) _ hg Tryz.underlying25 rfl hi
  unfold results
  rw [h]
  simp only [Array.mapM_eq_mapM_toList, List.mapM_cons, List.mapM_nil, ht]
  simp [asAddr, hl]
theorem schema43 (p : Nat) (bo : Option Addr) (B : List UInt8) (bc : Nat) : RdC p bo B bc 76 #[.pointer (some ⟨p, 0, none⟩)] (schR B) (fun W w' s v => ∃ fo fc no nc, v = .agg #[.slice fo s.1.length fc, .slice no s.2.length nc] ∧ s.1.length ≤ fc ∧ RowI W.heap.size w'.heap.size w' 65 fo fc s.1 ∧ LAt W w' 55 2 (fun x : ByteArray × ByteArray => [Value.string x.1, .string x.2]) s.2 no nc) := by
  intro W a0 g0 hR
  obtain ⟨R, hRes⟩ : ∃ R, R = schR B (a0, g0) := ⟨_, rfl⟩
  rw [← hRes]
  have HRes := hidM hRes
  obtain ⟨V0, hV0⟩ := ex ((W.alloc (.cells #[.slice none 0 0, .slice none 0 0] 25)).alloc (.cells #[.slice none 0 0, .slice none 0 0] 25))
  have g1' : Gr W (W.alloc (.cells #[.slice none 0 0, .slice none 0 0] 25)) := gr_alloc W _
  have g2' : Gr (W.alloc (.cells #[.slice none 0 0, .slice none 0 0] 25)) V0 := by rw [← hV0]; exact gr_alloc _ _
  have g0' : Gr W V0 := g1'.tr g2'
  have hs1 : (W.alloc (.cells #[.slice none 0 0, .slice none 0 0] 25)).heap.size = W.heap.size + 1 := by simp
  have HT : Hid (SB W V0 p W.heap.size (W.heap.size + 1) (.slice none 0 0) (.slice none 0 0)) := ⟨(g2'.block _ (by omega) id).trans (heap_alloc_new W _), by have := heap_alloc_new (W.alloc (.cells #[.slice none 0 0, .slice none 0 0] 25)) (.cells #[.slice none 0 0, .slice none 0 0] 25); rw [hs1, hV0] at this; exact this, Nat.le_refl _, by omega, hR.lt⟩
  have HR00 := hidM hR
  have HR1 := hidM (hR.gr g0')
  have HG1 : Hid (Keeps W V0 (fun z => z = p)) := g0'.mono fun _ _ h => h.elim
  have HN := hidM (number_any p bo B bc 2 (.inr (.inl rfl)))
  have HF := hidM (fields_any p bo B bc)
  have HNt := hidM (notes_any p bo B bc)
  have HV := hidM hV0
  obtain ⟨b, hb⟩ : ∃ b, b = W.heap.size := ⟨_, rfl⟩
  have hmf : ∀ (fn : Fn) (first cap : Array Value) (w : World), (Instr.makeFunc fn first cap).run Tryz.prog w = .ok (.func fn first cap) w := fun _ _ _ _ => rfl
  clear hRes hR g0' g1' g2' hs1 hV0
  go_enter Tryz.func76, Tryz.ntmps76
  go_wp2_with (go_at_call 77; refine Hid.out ?_)
  unfold Hid
  rw [HV.out, ← hb]
  rw [← hb] at HT
  have HB := hidM hb
  clear HV hb
  have hq := HN.out _ _ _ HR1.out
  cases hr : numR B 2 (a0, g0) with
  | error er =>
    rw [hr] at hq
    refine Calls.mono hq ?_
    rintro e' U ⟨hk, rfl⟩
    have HGe := hidM (HG1.out.tr hk)
    have Hr := hidM hr
    clear hk hq hr
    go_wp2_with fail
    exact ⟨rfl, RdQ.err HGe.out (by rw [HRes.out]; exact Rd.bind_err Hr.out)⟩
  | ok q =>
    obtain ⟨x2, a2, g2⟩ := q
    rw [hr] at hq
    refine Calls.mono hq ?_
    rintro e' U2 ⟨hk, v, rfl, rfl, hR⟩
    have Hr2 := hidM hr
    have HT2 := hidM (HT.out.kp hk)
    have HG2 := hidM (HG1.out.tr hk)
    have HR2 := hidM hR
    clear hk hq hr hR HT
    go_wp2_with (go_at_call 90; refine Hid.out ?_)
    unfold Hid
    have hq := HF.out x2 (num2_lt Hr2.out) _ _ _ HR2.out
    cases hr : sevR x2 (fieldR B 64) (a2, g2) with
    | error er =>
      rw [hr] at hq
      refine Calls.mono hq ?_
      rintro e' U ⟨hk, rfl⟩
      have HGe := hidM (HG2.out.tr hk)
      have Hr := hidM hr
      clear hk hq hr
      go_wp2_with fail
      exact ⟨rfl, RdQ.err HGe.out (by rw [HRes.out]; exact (Rd.bind_ok Hr2.out).trans (Rd.bind_err Hr.out))⟩
    | ok q =>
      obtain ⟨x3, a3, g3⟩ := q
      rw [hr] at hq
      refine Calls.mono hq ?_
      rintro e' U3 ⟨hk, v, rfl, ⟨fo, fc, rfl, hfc, hrow⟩, hR⟩
      have Hr3 := hidM hr
      have Hs3 := hidM (And.intro (lt_of_heap HT2.out.rb) (lt_of_heap HT2.out.tb))
      have Hz3 := hidM HG2.out.size
      have hT := HT2.out.kp hk
      have w0 := frz hT.tb 0
      have w1 : U3.cell? ⟨b + 1, 0, none⟩ = some (.slice none 0 0) := by simp [World.cell?, hT.tb]
      have HT3 : Hid (SB W (U3.setCell ⟨b + 1, 0, none⟩ (.slice fo x3.length fc)) p b (b + 1) (.slice fo x3.length fc) (.slice none 0 0)) := ⟨(set_other _ (by have := hT.lt; omega)).trans hT.rb, heap_setCell_same _ (b + 1) 0 _ _ _ hT.tb, hT.lt⟩
      have HG3 := hidM ((HG2.out.tr hk).setCell (p := ⟨b + 1, 0, none⟩) (fun h => by have := hT.lt; have h : b + 1 < W.heap.size := h; omega) (.slice fo x3.length fc))
      have HR3 := hidM (RAt.over HR00.out hR HG3.out (set_other _ (by have := hT.lt; omega)))
      have HK3 := hidM (And.intro hfc hrow)
      have HQ3 : Hid (Keeps U3 (U3.setCell ⟨b + 1, 0, none⟩ (.slice fo x3.length fc)) (fun z => z = p ∨ z = b ∨ z = b + 1)) := (Keeps.refl U3 (fun z => z = p ∨ z = b ∨ z = b + 1)).setCell (p := ⟨b + 1, 0, none⟩) (fun _ => .inr (.inr rfl)) _
      clear hk hq hr hR hfc hrow HT2 hT
      go_wp2_with (go_at_call 77; refine Hid.out ?_)
      unfold Hid
      clear w0 w1
      have hq := HN.out _ _ _ HR3.out
      cases hr : numR B 2 (a3, g3) with
      | error er =>
        rw [hr] at hq
        refine Calls.mono hq ?_
        rintro e' U ⟨hk, rfl⟩
        have HGe := hidM (HG3.out.tr hk)
        have Hr := hidM hr
        clear hk hq hr
        go_wp2_with fail
        exact ⟨rfl, RdQ.err HGe.out (by rw [HRes.out]; exact (Rd.bind_ok Hr2.out).trans ((Rd.bind_ok Hr3.out).trans (Rd.bind_err Hr.out)))⟩
      | ok q =>
        obtain ⟨x4, a4, g4⟩ := q
        rw [hr] at hq
        refine Calls.mono hq ?_
        rintro e' U4 ⟨hk, v, rfl, rfl, hR⟩
        have Hr4 := hidM hr
        have HT4 := hidM (HT3.out.kp hk)
        have HG4 := hidM (HG3.out.tr hk)
        have HR4 := hidM hR
        have HQ4 := hidM (HQ3.out.trans hk (fun _ _ h => .inl h))
        clear hk hq hr hR HT3 HQ3
        go_wp2_with (go_at_call 91; refine Hid.out ?_)
        unfold Hid
        have hq := HNt.out x4 (num2_lt Hr4.out) _ _ _ HR4.out
        cases hr : sevR x4 (noteR B) (a4, g4) with
        | error er =>
          rw [hr] at hq
          refine Calls.mono hq ?_
          rintro e' U ⟨hk, rfl⟩
          have HGe := hidM (HG4.out.tr hk)
          have Hr := hidM hr
          clear hk hq hr
          go_wp2_with fail
          exact ⟨rfl, RdQ.err HGe.out (by rw [HRes.out]; exact (Rd.bind_ok Hr2.out).trans ((Rd.bind_ok Hr3.out).trans ((Rd.bind_ok Hr4.out).trans (Rd.bind_err Hr.out))))⟩
        | ok q =>
          obtain ⟨x5, a5, g5⟩ := q
          rw [hr] at hq
          refine Calls.mono hq ?_
          rintro e' U5 ⟨hk, v, rfl, ⟨no, nc, rfl, hnt⟩, hR⟩
          have Hr5 := hidM hr
          have Hs5 := hidM (And.intro (lt_of_heap HT4.out.rb) (lt_of_heap HT4.out.tb))
          have Hz5 := hidM HG4.out.size
          have HQ5 := hidM (HQ4.out.trans hk (fun _ _ h => .inl h))
          have hT := HT4.out.kp hk
          have HT5 := hidM hT
          have HG5 := hidM (HG4.out.tr hk)
          have HR5 := hidM hR
          have HK5 := hidM hnt
          obtain ⟨u0, u1⟩ := fz2 HT5.out.rb
          obtain ⟨v0, v1⟩ := ce2 HT5.out.rb
          obtain ⟨s0, s1⟩ := ce2 HT5.out.tb
          have f1 := frz HT5.out.tb 1
          clear hk hq hr hR hT hnt HT4 HG4 HR4 HG3 HR3 HQ4
          go_wp2_with fail
          have k0 : Keeps U5 (U5.setCell ⟨b + 1, 1, none⟩ (.slice no x5.length nc)) (fun z => z = b + 1) := (Keeps.refl U5 (fun z => z = b + 1)).setCell (p := ⟨b + 1, 1, none⟩) (fun _ => rfl) _
          have hb3 := put2_box (.slice fo x3.length fc) (.slice no x5.length nc) ((k0.block b (lt_of_heap HT5.out.rb) (by omega)).trans HT5.out.rb)
          have k3 := put2_keeps (U5.setCell ⟨b + 1, 1, none⟩ (.slice no x5.length nc)) b (.slice fo x3.length fc) (.slice no x5.length nc)
          have k4 := (k0.mono (T := fun z => z = b ∨ z = b + 1) fun _ _ h => .inr h).trans k3 (fun _ _ h => .inl h)
          have kW := HG5.out.trans k4 (fun j hj h => by have := HT5.out.lt; omega)
          have kq := HQ5.out.tr (k4.mono (T := fun z => z = p ∨ z = b ∨ z = b + 1) fun _ _ h => .inr h)
          have hrow' := HK3.out.2.kept fun z z1 z2 => kq.block z z2 (by have := Hs3.out; have := Hz3.out; have := HT5.out.lt; omega)
          have hnt' : LAt W (((U5.setCell ⟨b + 1, 1, none⟩ (.slice no x5.length nc)).setCell ⟨b, 0, none⟩ (.slice fo x3.length fc)).setCell ⟨b, 1, none⟩ (.slice no x5.length nc)) 55 2 (fun x : ByteArray × ByteArray => [Value.string x.1, .string x.2]) x5 no nc := ⟨row_kp HK5.out.own fun g e => k4.block g (own_lt HK5.out.own g e) (by have := HK5.out.new g e; have := Hs5.out; omega), fun g e => by have := HK5.out.new g e; have := Hz5.out; omega⟩
          have hE : R = .ok ((x3, x5), (a5, g5)) := by rw [HRes.out]; exact (Rd.bind_ok Hr2.out).trans ((Rd.bind_ok Hr3.out).trans ((Rd.bind_ok Hr4.out).trans ((Rd.bind_ok Hr5.out).trans rfl)))
          (try simp only [Exit.inBlock, Exit.then])
          exact bodyPost_ret (results_cell26 rfl rfl hb3 (by kernel_rfl)) rfl (RdQ.ok kW hE ⟨fo, fc, no, nc, rfl, HK3.out.1, hrow'.wide (by have := Hz3.out; omega) kq.size, hnt'⟩ (RAt.over HR00.out HR5.out kW (k4.block p (lt_of_heap HR5.out.box) (by have := HT5.out.lt; omega))))
end Go.Proofs.YtdihbfjjddmbiaaGreatDoor.Kit
