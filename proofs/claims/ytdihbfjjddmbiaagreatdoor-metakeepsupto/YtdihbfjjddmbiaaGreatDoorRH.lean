import Derived.Test.YtdihbfjjddmbiaaGreatDoorYE
set_option maxRecDepth 100000
set_option maxHeartbeats 4000000
namespace Go.Proofs.YtdihbfjjddmbiaaGreatDoor.Kit
open Go.RowKit Go.Shelf Go.Deep
set_option linter.unusedVariables false
attribute [local go_sem] run_store_func
def TV (D : Nat) (W w' : World) (t : TD) (v : Value) : Prop := ∃ ko kc, v = .agg #[.int .i64 t.kind, .int .i64 t.width, .int .i64 t.id, .int .i64 t.index, .slice ko t.kids.length kc] ∧ t.kids.length ≤ kc ∧ RowI W.heap.size w'.heap.size w' D ko kc t.kids
structure TB (W U : World) (p b c : Nat) (k x y z : Int) : Prop where
  rb : U.heap[b]? = some (.cells #[.int .i64 0, .int .i64 0, .int .i64 0, .int .i64 0, .slice none 0 0] 50 (0, 0))
  tb : U.heap[c]? = some (.cells #[.int .i64 k, .int .i64 x, .int .i64 y, .int .i64 z, .slice none 0 0] 50 (0, 0))
  lt : W.heap.size ≤ b ∧ b < c ∧ p < W.heap.size
theorem TB.kp {W U U' : World} {p b c : Nat} {k x y z : Int} (h : TB W U p b c k x y z) (q : Keeps U U' (fun z => z = p)) : TB W U' p b c k x y z :=
  ⟨(q.block b (lt_of_heap h.rb) (by have := h.lt; omega)).trans h.rb, (q.block c (lt_of_heap h.tb) (by have := h.lt; omega)).trans h.tb, h.lt⟩
theorem set_other {U : World} {c i q : Nat} (v : Value) (h : q ≠ c) : (U.setCell ⟨c, i, none⟩ v).heap[q]? = U.heap[q]? := heap_setCell_other U ⟨c, i, none⟩ q v h
theorem TB.x {W U : World} {p b c : Nat} {k x y z : Int} (h : TB W U p b c k x y z) (x' : Int) : TB W (U.setCell ⟨c, 1, none⟩ (.int .i64 x')) p b c k x' y z :=
  ⟨(set_other _ (by have := h.lt; omega)).trans h.rb, heap_setCell_same _ c 1 _ _ _ h.tb, h.lt⟩
theorem TB.y {W U : World} {p b c : Nat} {k x y z : Int} (h : TB W U p b c k x y z) (y' : Int) : TB W (U.setCell ⟨c, 2, none⟩ (.int .i64 y')) p b c k x y' z :=
  ⟨(set_other _ (by have := h.lt; omega)).trans h.rb, heap_setCell_same _ c 2 _ _ _ h.tb, h.lt⟩
theorem TB.z {W U : World} {p b c : Nat} {k x y z : Int} (h : TB W U p b c k x y z) (z' : Int) : TB W (U.setCell ⟨c, 3, none⟩ (.int .i64 z')) p b c k x y z' :=
  ⟨(set_other _ (by have := h.lt; omega)).trans h.rb, heap_setCell_same _ c 3 _ _ _ h.tb, h.lt⟩
theorem put5_box {V : World} {Y t : Nat} {x0 x1 x2 x3 x4 : Value} (y0 y1 y2 y3 y4 : Value) (h : V.heap[Y]? = some (.cells #[x0, x1, x2, x3, x4] t (0, 0))) : (((((V.setCell ⟨Y, 0, none⟩ y0).setCell ⟨Y, 1, none⟩ y1).setCell ⟨Y, 2, none⟩ y2).setCell ⟨Y, 3, none⟩ y3).setCell ⟨Y, 4, none⟩ y4).heap[Y]? = some (.cells #[y0, y1, y2, y3, y4] t (0, 0)) := by
  have h0 : (V.setCell ⟨Y, 0, none⟩ y0).heap[Y]? = some (.cells #[y0, x1, x2, x3, x4] t (0, 0)) := heap_setCell_same _ Y 0 _ _ y0 h
  have h1 : ((V.setCell ⟨Y, 0, none⟩ y0).setCell ⟨Y, 1, none⟩ y1).heap[Y]? = some (.cells #[y0, y1, x2, x3, x4] t (0, 0)) := heap_setCell_same _ Y 1 _ _ y1 h0
  have h2 : (((V.setCell ⟨Y, 0, none⟩ y0).setCell ⟨Y, 1, none⟩ y1).setCell ⟨Y, 2, none⟩ y2).heap[Y]? = some (.cells #[y0, y1, y2, x3, x4] t (0, 0)) := heap_setCell_same _ Y 2 _ _ y2 h1
  have h3 : ((((V.setCell ⟨Y, 0, none⟩ y0).setCell ⟨Y, 1, none⟩ y1).setCell ⟨Y, 2, none⟩ y2).setCell ⟨Y, 3, none⟩ y3).heap[Y]? = some (.cells #[y0, y1, y2, y3, x4] t (0, 0)) := heap_setCell_same _ Y 3 _ _ y3 h2
  have h4 : (((((V.setCell ⟨Y, 0, none⟩ y0).setCell ⟨Y, 1, none⟩ y1).setCell ⟨Y, 2, none⟩ y2).setCell ⟨Y, 3, none⟩ y3).setCell ⟨Y, 4, none⟩ y4).heap[Y]? = some (.cells #[y0, y1, y2, y3, y4] t (0, 0)) := heap_setCell_same _ Y 4 _ _ y4 h3
  exact h4
theorem put5_keeps (V : World) (Y : Nat) (y0 y1 y2 y3 y4 : Value) : Keeps V (((((V.setCell ⟨Y, 0, none⟩ y0).setCell ⟨Y, 1, none⟩ y1).setCell ⟨Y, 2, none⟩ y2).setCell ⟨Y, 3, none⟩ y3).setCell ⟨Y, 4, none⟩ y4) (fun z => z = Y) :=
  (((((Keeps.refl V (fun z => z = Y)).setCell (p := ⟨Y, 0, none⟩) (fun _ => rfl) _).setCell (p := ⟨Y, 1, none⟩) (fun _ => rfl) _).setCell (p := ⟨Y, 2, none⟩) (fun _ => rfl) _).setCell (p := ⟨Y, 3, none⟩) (fun _ => rfl) _).setCell (p := ⟨Y, 4, none⟩) (fun _ => rfl) _
theorem results_cell78 {fn : Func} {t : Tmp} {tmps : Array Value} {g : Nat} {cs : Array Value} {w : World} (h : fn.results = #[.cell t 50]) (ht : tmps.getD t undef = .pointer (some ⟨g, 0, none⟩)) (hg : w.heap[g]? = some (.cells cs 50 (0, 0))) (hi : (Tryz.prog.info? 50).map (·.size) = some cs.size) :
    (results fn tmps).run Tryz.prog w = .ok (.agg cs) w := by
  have hl := run_loadVar_row (P := Tryz.prog) w g 50 50 cs (0, 0) _ hg Tryz.underlying50 rfl hi
  unfold results
  rw [h]
  simp only [Array.mapM_eq_mapM_toList, List.mapM_cons, List.mapM_nil, ht]
  simp [asAddr, hl]
theorem num_lt {B : List UInt8} {s s' : St} {x : Nat} (h : numR B 1 s = .ok (x, s')) : x ≤ 65535 := by
  unfold numR at h
  split at h
  · cases h
    have h1 := leN_lt ((B.drop s.1).take 1)
    have h2 : ((B.drop s.1).take 1).length ≤ 1 := by simp; omega
    have h3 : 256 ^ ((B.drop s.1).take 1).length ≤ 256 ^ 1 := Nat.pow_le_pow_right (by decide) h2
    omega
  cases h
theorem typ87 (p : Nat) (bo : Option Addr) (B : List UInt8) (bc D : Nat) (lev : Int) (r : Rd FT) (hlv : 0 ≤ lev ∧ lev ≤ 100) (h59 : ∀ n : Nat, n ≤ 65535 → RdC p bo B bc 90 #[.pointer (some ⟨p, 0, none⟩), .int .i64 (n : Int), .int .i64 (lev + 1)] (sevR n r) (fun W w' l v => ∃ vo vc, v = .slice vo l.length vc ∧ l.length ≤ vc ∧ RowI W.heap.size w'.heap.size w' D vo vc l)) :
    RdC p bo B bc 108 #[.pointer (some ⟨p, 0, none⟩), .int .i64 lev] (typR B r) (TV D) := by
  intro W a0 g0 hR
  obtain ⟨R, hRes⟩ : ∃ R, R = typR B r (a0, g0) := ⟨_, rfl⟩
  rw [← hRes]
  have HRes := hidM hRes
  obtain ⟨V0, hV0⟩ := ex (W.alloc (.cells #[.int .i64 0, .int .i64 0, .int .i64 0, .int .i64 0, .slice none 0 0] 50))
  have g0' : Gr W V0 := by rw [← hV0]; exact gr_alloc W _
  have HBx0 : Hid (V0.heap[W.heap.size]? = some (.cells #[.int .i64 0, .int .i64 0, .int .i64 0, .int .i64 0, .slice none 0 0] 50 (0, 0))) := by show _ = _; rw [← hV0]; exact heap_alloc_new W _
  have HR00 := hidM hR
  have HR0 := hidM (hR.gr g0')
  have HG0 : Hid (Keeps W V0 (fun z => z = p)) := g0'.mono fun _ _ h => h.elim
  have HNe : Hid (p < W.heap.size) := hR.lt
  have HV := hidM hV0
  have HN := hidM (among_any p bo B bc 1 20)
  have HN2 := hidM (number_any p bo B bc 2 (.inr (.inl rfl)))
  have HN1 := hidM (number_any p bo B bc 1 (.inl rfl))
  have H59 := hidM h59
  obtain ⟨b, hb⟩ : ∃ b, b = W.heap.size := ⟨_, rfl⟩
  clear hRes hR g0' hV0 h59
  go_enter Tryz.func108, Tryz.ntmps108
  go_wp2_with (go_at_call 75; refine Hid.out ?_)
  unfold Hid
  rw [HV.out, ← hb]
  rw [← hb] at HBx0
  have HB := hidM hb
  clear HV hb
  have hq := HN.out _ _ _ HR0.out
  cases hr : amongR B 1 20 (a0, g0) with
  | error er =>
    rw [hr] at hq
    refine Calls.mono hq ?_
    rintro e' U ⟨hk, rfl⟩
    have HGe := hidM (HG0.out.tr hk)
    have Hr := hidM hr
    clear hk hq hr
    go_wp2_with fail
    exact ⟨rfl, RdQ.err HGe.out (by rw [HRes.out]; exact Rd.bind_err Hr.out)⟩
  | ok q =>
    obtain ⟨x1, a1, g1⟩ := q
    rw [hr] at hq
    refine Calls.mono hq ?_
    rintro e' U1 ⟨hk, v, rfl, rfl, hR⟩
    have Hr1 := hidM hr
    obtain ⟨V2, hV2⟩ := ex (U1.alloc (.cells #[.int .i64 (x1 : Int), .int .i64 0, .int .i64 0, .int .i64 0, .slice none 0 0] 50))
    have g2' : Gr U1 V2 := by rw [← hV2]; exact gr_alloc U1 _
    have hbx := (hk.block b (lt_of_heap HBx0.out) (by have := HNe.out; have := HB.out; omega)).trans HBx0.out
    have hct : V2.heap[U1.heap.size]? = some (.cells #[.int .i64 (x1 : Int), .int .i64 0, .int .i64 0, .int .i64 0, .slice none 0 0] 50 (0, 0)) := by rw [← hV2]; exact heap_alloc_new U1 _
    obtain ⟨c, hc⟩ : ∃ c, c = U1.heap.size := ⟨_, rfl⟩
    have HT : Hid (TB W V2 p b c (x1 : Int) 0 0 0) := ⟨(g2'.block b (lt_of_heap hbx) id).trans hbx, by rw [hc]; exact hct, by have := HB.out; omega, by rw [hc]; exact lt_of_heap hbx, HNe.out⟩
    have HR1 := hidM (hR.gr g2')
    have HG1 := hidM ((HG0.out.tr hk).tr (g2'.mono fun _ _ h => h.elim))
    have HV2 := hidM hV2
    clear hk hq hr hR hbx hct g2' HBx0 hV2
    by_cases c14 : x1 = 14
    · have d14 : ((x1 : Int) == 14) = true := by rw [beq_iff_eq]; omega
      have C14 := hidM c14
      clear c14
      go_wp2_with (go_at_call 77; refine Hid.out ?_)
      unfold Hid
      rw [HV2.out, ← hc]
      clear hc
      have hq := HN2.out _ _ _ HR1.out
      cases hr : numR B 2 (a1, g1) with
      | error er =>
        rw [hr] at hq
        refine Calls.mono hq ?_
        rintro e' U ⟨hk, rfl⟩
        have HGe := hidM (HG1.out.tr hk)
        have Hr := hidM hr
        clear hk hq hr
        go_wp2_with fail
        exact ⟨rfl, RdQ.err HGe.out (by rw [HRes.out]; exact (Rd.bind_ok Hr1.out).trans (Rd.bind_err (by unfold extR; rw [if_pos C14.out]; exact Rd.bind_err Hr.out)))⟩
      | ok q =>
        obtain ⟨x2, a2, g2⟩ := q
        rw [hr] at hq
        refine Calls.mono hq ?_
        rintro e' U2 ⟨hk, v, rfl, rfl, hR⟩
        have hT := HT.out.kp hk
        have w0 := frz hT.tb 1
        have w1 : U2.cell? ⟨c, 1, none⟩ = some (.int .i64 0) := by simp [World.cell?, hT.tb]
        have HT2 := hidM (hT.x (x2 : Int))
        have HG2 := hidM ((HG1.out.tr hk).setCell (p := ⟨c, 1, none⟩) (fun h => by have := hT.lt; have h : c < W.heap.size := h; omega) (.int .i64 (x2 : Int)))
        have HR2 := hidM (RAt.over HR00.out hR HG2.out (set_other _ (by have := hT.lt; omega)))
        have Hr2 := hidM hr
        clear hk hq hr hR hT
        have He : Hid (extR B x1 (a1, g1) = .ok ((x2, 0, 0, 0), (a2, g2))) := by show _ = _; unfold extR; rw [if_pos C14.out]; exact Rd.bind_ok Hr2.out
        go_wp2_with (go_at_call 90; refine Hid.out ?_)
        unfold Hid
        have hq := H59.out (0) (by omega) _ _ _ HR2.out
        cases hr : sevR (0) r (a2, g2) with
        | error er =>
          rw [hr] at hq
          refine Calls.mono hq ?_
          rintro e' U ⟨hk, rfl⟩
          have HGe := hidM (HG2.out.tr hk)
          have Hr := hidM hr
          clear hk hq hr
          go_wp2_with fail
          exact ⟨rfl, RdQ.err HGe.out (by rw [HRes.out]; exact (Rd.bind_ok Hr1.out).trans ((Rd.bind_ok He.out).trans (Rd.bind_err Hr.out)))⟩
        | ok q =>
          obtain ⟨l, a9, g9⟩ := q
          rw [hr] at hq
          refine Calls.mono hq ?_
          rintro e' U9 ⟨hk, v, rfl, ⟨ko, kc, rfl, hkc, hrow⟩, hR⟩
          have hT := HT2.out.kp hk
          have Hsz := hidM (And.intro (lt_of_heap HT2.out.rb) (lt_of_heap HT2.out.tb))
          have HT9 := hidM hT
          have HG9 := hidM (HG2.out.tr hk)
          have HR9 := hidM hR
          have HK := hidM (And.intro hkc hrow)
          have Hr9 := hidM hr
          have HGi := hidM HG2.out.size
          obtain ⟨u0, u1, u2, u3, u4⟩ := fz5 HT9.out.rb
          obtain ⟨v0, v1, v2, v3, v4⟩ := ce5 HT9.out.rb
          obtain ⟨s0, s1, s2, s3, s4⟩ := ce5 HT9.out.tb
          have s5 := frz HT9.out.tb 4
          have hcb : ¬ c = b := by have := HT9.out.lt; omega
          have hbc : ¬ b = c := by have := HT9.out.lt; omega
          clear hk hq hr hR hT hkc hrow HR2 HG2 HT2
          go_wp2_with fail
          have hb3 := put5_box (.int .i64 (x1 : Int)) (.int .i64 (x2 : Int)) (.int .i64 (0 : Int)) (.int .i64 (0 : Int)) (.slice ko l.length kc) ((set_other (U := U9) (i := 4) (.slice ko l.length kc) hbc).trans HT9.out.rb)
          have k0 : Keeps U9 (U9.setCell ⟨c, 4, none⟩ (.slice ko l.length kc)) (fun z => z = c) := (Keeps.refl U9 (fun z => z = c)).setCell (p := ⟨c, 4, none⟩) (fun _ => rfl) _
          have k3 := put5_keeps (U9.setCell ⟨c, 4, none⟩ (.slice ko l.length kc)) b (.int .i64 (x1 : Int)) (.int .i64 (x2 : Int)) (.int .i64 (0 : Int)) (.int .i64 (0 : Int)) (.slice ko l.length kc)
          have k4 := (k0.mono (T := fun z => z = b ∨ z = c) fun _ _ h => .inr h).trans k3 (fun _ _ h => .inl h)
          have kW := HG9.out.trans k4 (fun j hj h => by have := HT9.out.lt; omega)
          have hrow' := HK.out.2.kept fun z z1 z2 => k4.block z z2 (by have := Hsz.out; omega)
          have hE : R = .ok (⟨x1, x2, 0, 0, l⟩, (a9, g9)) := by rw [HRes.out]; exact (Rd.bind_ok Hr1.out).trans ((Rd.bind_ok He.out).trans ((Rd.bind_ok Hr9.out).trans rfl))
          (try simp only [Exit.inBlock, Exit.then])
          exact bodyPost_ret (results_cell78 rfl rfl hb3 (by kernel_rfl)) rfl (RdQ.ok kW hE ⟨ko, kc, rfl, HK.out.1, hrow'.wide (by have := HGi.out; omega) k4.size⟩ (RAt.over HR00.out HR9.out kW (k4.block p (lt_of_heap HR9.out.box) (by have := HT9.out.lt; omega))))
    have d14 : ((x1 : Int) == 14) = false := by rw [beq_eq_false_iff_ne]; omega
    by_cases c16 : x1 = 16
    · have d16 : ((x1 : Int) == 16) = true := by rw [beq_iff_eq]; omega
      have C16 := hidM c16
      clear c16
      go_wp2_with (go_at_call 77; refine Hid.out ?_)
      unfold Hid
      rw [HV2.out, ← hc]
      clear hc
      have hq := HN2.out _ _ _ HR1.out
      cases hr : numR B 2 (a1, g1) with
      | error er =>
        rw [hr] at hq
        refine Calls.mono hq ?_
        rintro e' U ⟨hk, rfl⟩
        have HGe := hidM (HG1.out.tr hk)
        have Hr := hidM hr
        clear hk hq hr
        go_wp2_with fail
        exact ⟨rfl, RdQ.err HGe.out (by rw [HRes.out]; exact (Rd.bind_ok Hr1.out).trans (Rd.bind_err (by unfold extR; rw [if_neg c14, if_pos C16.out]; exact Rd.bind_err Hr.out)))⟩
      | ok q =>
        obtain ⟨x2, a2, g2⟩ := q
        rw [hr] at hq
        refine Calls.mono hq ?_
        rintro e' U2 ⟨hk, v, rfl, rfl, hR⟩
        have hT := HT.out.kp hk
        have w0 := frz hT.tb 1
        have w1 : U2.cell? ⟨c, 1, none⟩ = some (.int .i64 0) := by simp [World.cell?, hT.tb]
        have HT2 := hidM (hT.x (x2 : Int))
        have HG2 := hidM ((HG1.out.tr hk).setCell (p := ⟨c, 1, none⟩) (fun h => by have := hT.lt; have h : c < W.heap.size := h; omega) (.int .i64 (x2 : Int)))
        have HR2 := hidM (RAt.over HR00.out hR HG2.out (set_other _ (by have := hT.lt; omega)))
        have Hr2 := hidM hr
        clear hk hq hr hR hT
        have He : Hid (extR B x1 (a1, g1) = .ok ((x2, 0, 0, 1), (a2, g2))) := by show _ = _; unfold extR; rw [if_neg c14, if_pos C16.out]; exact Rd.bind_ok Hr2.out
        go_wp2_with (go_at_call 90; refine Hid.out ?_)
        unfold Hid
        have hq := H59.out (1) (by omega) _ _ _ HR2.out
        cases hr : sevR (1) r (a2, g2) with
        | error er =>
          rw [hr] at hq
          refine Calls.mono hq ?_
          rintro e' U ⟨hk, rfl⟩
          have HGe := hidM (HG2.out.tr hk)
          have Hr := hidM hr
          clear hk hq hr
          go_wp2_with fail
          exact ⟨rfl, RdQ.err HGe.out (by rw [HRes.out]; exact (Rd.bind_ok Hr1.out).trans ((Rd.bind_ok He.out).trans (Rd.bind_err Hr.out)))⟩
        | ok q =>
          obtain ⟨l, a9, g9⟩ := q
          rw [hr] at hq
          refine Calls.mono hq ?_
          rintro e' U9 ⟨hk, v, rfl, ⟨ko, kc, rfl, hkc, hrow⟩, hR⟩
          have hT := HT2.out.kp hk
          have Hsz := hidM (And.intro (lt_of_heap HT2.out.rb) (lt_of_heap HT2.out.tb))
          have HT9 := hidM hT
          have HG9 := hidM (HG2.out.tr hk)
          have HR9 := hidM hR
          have HK := hidM (And.intro hkc hrow)
          have Hr9 := hidM hr
          have HGi := hidM HG2.out.size
          obtain ⟨u0, u1, u2, u3, u4⟩ := fz5 HT9.out.rb
          obtain ⟨v0, v1, v2, v3, v4⟩ := ce5 HT9.out.rb
          obtain ⟨s0, s1, s2, s3, s4⟩ := ce5 HT9.out.tb
          have s5 := frz HT9.out.tb 4
          have hcb : ¬ c = b := by have := HT9.out.lt; omega
          have hbc : ¬ b = c := by have := HT9.out.lt; omega
          clear hk hq hr hR hT hkc hrow HR2 HG2 HT2
          go_wp2_with fail
          have hb3 := put5_box (.int .i64 (x1 : Int)) (.int .i64 (x2 : Int)) (.int .i64 (0 : Int)) (.int .i64 (0 : Int)) (.slice ko l.length kc) ((set_other (U := U9) (i := 4) (.slice ko l.length kc) hbc).trans HT9.out.rb)
          have k0 : Keeps U9 (U9.setCell ⟨c, 4, none⟩ (.slice ko l.length kc)) (fun z => z = c) := (Keeps.refl U9 (fun z => z = c)).setCell (p := ⟨c, 4, none⟩) (fun _ => rfl) _
          have k3 := put5_keeps (U9.setCell ⟨c, 4, none⟩ (.slice ko l.length kc)) b (.int .i64 (x1 : Int)) (.int .i64 (x2 : Int)) (.int .i64 (0 : Int)) (.int .i64 (0 : Int)) (.slice ko l.length kc)
          have k4 := (k0.mono (T := fun z => z = b ∨ z = c) fun _ _ h => .inr h).trans k3 (fun _ _ h => .inl h)
          have kW := HG9.out.trans k4 (fun j hj h => by have := HT9.out.lt; omega)
          have hrow' := HK.out.2.kept fun z z1 z2 => k4.block z z2 (by have := Hsz.out; omega)
          have hE : R = .ok (⟨x1, x2, 0, 0, l⟩, (a9, g9)) := by rw [HRes.out]; exact (Rd.bind_ok Hr1.out).trans ((Rd.bind_ok He.out).trans ((Rd.bind_ok Hr9.out).trans rfl))
          (try simp only [Exit.inBlock, Exit.then])
          exact bodyPost_ret (results_cell78 rfl rfl hb3 (by kernel_rfl)) rfl (RdQ.ok kW hE ⟨ko, kc, rfl, HK.out.1, hrow'.wide (by have := HGi.out; omega) k4.size⟩ (RAt.over HR00.out HR9.out kW (k4.block p (lt_of_heap HR9.out.box) (by have := HT9.out.lt; omega))))
    have d16 : ((x1 : Int) == 16) = false := by rw [beq_eq_false_iff_ne]; omega
    by_cases c19 : x1 = 19
    · have d19 : ((x1 : Int) == 19) = true := by rw [beq_iff_eq]; omega
      have C19 := hidM c19
      clear c19
      go_wp2_with (go_at_call 77; refine Hid.out ?_)
      unfold Hid
      rw [HV2.out, ← hc]
      clear hc
      have hq := HN2.out _ _ _ HR1.out
      cases hr : numR B 2 (a1, g1) with
      | error er =>
        rw [hr] at hq
        refine Calls.mono hq ?_
        rintro e' U ⟨hk, rfl⟩
        have HGe := hidM (HG1.out.tr hk)
        have Hr := hidM hr
        clear hk hq hr
        go_wp2_with fail
        exact ⟨rfl, RdQ.err HGe.out (by rw [HRes.out]; exact (Rd.bind_ok Hr1.out).trans (Rd.bind_err (by unfold extR; rw [if_neg c14, if_neg c16, if_pos C19.out]; exact Rd.bind_err Hr.out)))⟩
      | ok q =>
        obtain ⟨x2, a2, g2⟩ := q
        rw [hr] at hq
        refine Calls.mono hq ?_
        rintro e' U2 ⟨hk, v, rfl, rfl, hR⟩
        have hT := HT.out.kp hk
        have w0 := frz hT.tb 2
        have w1 : U2.cell? ⟨c, 2, none⟩ = some (.int .i64 0) := by simp [World.cell?, hT.tb]
        have HT2 := hidM (hT.y (x2 : Int))
        have HG2 := hidM ((HG1.out.tr hk).setCell (p := ⟨c, 2, none⟩) (fun h => by have := hT.lt; have h : c < W.heap.size := h; omega) (.int .i64 (x2 : Int)))
        have HR2 := hidM (RAt.over HR00.out hR HG2.out (set_other _ (by have := hT.lt; omega)))
        have Hr2 := hidM hr
        clear hk hq hr hR hT
        go_wp2_with (go_at_call 77; refine Hid.out ?_)
        unfold Hid
        have hq := HN1.out _ _ _ HR2.out
        cases hr : numR B 1 (a2, g2) with
        | error er =>
          rw [hr] at hq
          refine Calls.mono hq ?_
          rintro e' U ⟨hk, rfl⟩
          have HGe := hidM (HG2.out.tr hk)
          have Hr := hidM hr
          clear hk hq hr
          go_wp2_with fail
          exact ⟨rfl, RdQ.err HGe.out (by rw [HRes.out]; exact (Rd.bind_ok Hr1.out).trans (Rd.bind_err (by unfold extR; rw [if_neg c14, if_neg c16, if_pos C19.out]; exact (Rd.bind_ok Hr2.out).trans (Rd.bind_err Hr.out))))⟩
        | ok q =>
          obtain ⟨x3, a3, g3⟩ := q
          rw [hr] at hq
          refine Calls.mono hq ?_
          rintro e' U3 ⟨hk, v, rfl, rfl, hR⟩
          have hT := HT2.out.kp hk
          have w0 := frz hT.tb 3
          have w1 : U3.cell? ⟨c, 3, none⟩ = some (.int .i64 0) := by simp [World.cell?, hT.tb]
          have HT3 := hidM (hT.z (x3 : Int))
          have HG3 := hidM ((HG2.out.tr hk).setCell (p := ⟨c, 3, none⟩) (fun h => by have := hT.lt; have h : c < W.heap.size := h; omega) (.int .i64 (x3 : Int)))
          have HR3 := hidM (RAt.over HR00.out hR HG3.out (set_other _ (by have := hT.lt; omega)))
          have Hr3 := hidM hr
          clear hk hq hr hR hT
          have He : Hid (extR B x1 (a1, g1) = .ok ((0, x2, x3, 1), (a3, g3))) := by show _ = _; unfold extR; rw [if_neg c14, if_neg c16, if_pos C19.out]; exact (Rd.bind_ok Hr2.out).trans (Rd.bind_ok Hr3.out)
          go_wp2_with (go_at_call 90; refine Hid.out ?_)
          unfold Hid
          have hq := H59.out (1) (by omega) _ _ _ HR3.out
          cases hr : sevR (1) r (a3, g3) with
          | error er =>
            rw [hr] at hq
            refine Calls.mono hq ?_
            rintro e' U ⟨hk, rfl⟩
            have HGe := hidM (HG3.out.tr hk)
            have Hr := hidM hr
            clear hk hq hr
            go_wp2_with fail
            exact ⟨rfl, RdQ.err HGe.out (by rw [HRes.out]; exact (Rd.bind_ok Hr1.out).trans ((Rd.bind_ok He.out).trans (Rd.bind_err Hr.out)))⟩
          | ok q =>
            obtain ⟨l, a9, g9⟩ := q
            rw [hr] at hq
            refine Calls.mono hq ?_
            rintro e' U9 ⟨hk, v, rfl, ⟨ko, kc, rfl, hkc, hrow⟩, hR⟩
            have hT := HT3.out.kp hk
            have Hsz := hidM (And.intro (lt_of_heap HT3.out.rb) (lt_of_heap HT3.out.tb))
            have HT9 := hidM hT
            have HG9 := hidM (HG3.out.tr hk)
            have HR9 := hidM hR
            have HK := hidM (And.intro hkc hrow)
            have Hr9 := hidM hr
            have HGi := hidM HG3.out.size
            obtain ⟨u0, u1, u2, u3, u4⟩ := fz5 HT9.out.rb
            obtain ⟨v0, v1, v2, v3, v4⟩ := ce5 HT9.out.rb
            obtain ⟨s0, s1, s2, s3, s4⟩ := ce5 HT9.out.tb
            have s5 := frz HT9.out.tb 4
            have hcb : ¬ c = b := by have := HT9.out.lt; omega
            have hbc : ¬ b = c := by have := HT9.out.lt; omega
            clear hk hq hr hR hT hkc hrow HR3 HG3 HT3
            go_wp2_with fail
            have hb3 := put5_box (.int .i64 (x1 : Int)) (.int .i64 (0 : Int)) (.int .i64 (x2 : Int)) (.int .i64 (x3 : Int)) (.slice ko l.length kc) ((set_other (U := U9) (i := 4) (.slice ko l.length kc) hbc).trans HT9.out.rb)
            have k0 : Keeps U9 (U9.setCell ⟨c, 4, none⟩ (.slice ko l.length kc)) (fun z => z = c) := (Keeps.refl U9 (fun z => z = c)).setCell (p := ⟨c, 4, none⟩) (fun _ => rfl) _
            have k3 := put5_keeps (U9.setCell ⟨c, 4, none⟩ (.slice ko l.length kc)) b (.int .i64 (x1 : Int)) (.int .i64 (0 : Int)) (.int .i64 (x2 : Int)) (.int .i64 (x3 : Int)) (.slice ko l.length kc)
            have k4 := (k0.mono (T := fun z => z = b ∨ z = c) fun _ _ h => .inr h).trans k3 (fun _ _ h => .inl h)
            have kW := HG9.out.trans k4 (fun j hj h => by have := HT9.out.lt; omega)
            have hrow' := HK.out.2.kept fun z z1 z2 => k4.block z z2 (by have := Hsz.out; omega)
            have hE : R = .ok (⟨x1, 0, x2, x3, l⟩, (a9, g9)) := by rw [HRes.out]; exact (Rd.bind_ok Hr1.out).trans ((Rd.bind_ok He.out).trans ((Rd.bind_ok Hr9.out).trans rfl))
            (try simp only [Exit.inBlock, Exit.then])
            exact bodyPost_ret (results_cell78 rfl rfl hb3 (by kernel_rfl)) rfl (RdQ.ok kW hE ⟨ko, kc, rfl, HK.out.1, hrow'.wide (by have := HGi.out; omega) k4.size⟩ (RAt.over HR00.out HR9.out kW (k4.block p (lt_of_heap HR9.out.box) (by have := HT9.out.lt; omega))))
    have d19 : ((x1 : Int) == 19) = false := by rw [beq_eq_false_iff_ne]; omega
    by_cases c15 : x1 = 15
    · have d15 : ((x1 : Int) == 15) = true := by rw [beq_iff_eq]; omega
      have C15 := hidM c15
      clear c15
      have He : Hid (extR B x1 (a1, g1) = .ok ((0, 0, 0, 1), (a1, g1))) := by show _ = _; unfold extR; rw [if_neg c14, if_neg c16, if_neg c19, if_pos (by have := C15.out; omega)]; rfl
      go_wp2_with (go_at_call 90; refine Hid.out ?_)
      unfold Hid
      rw [HV2.out, ← hc]
      clear hc
      have hq := H59.out (1) (by omega) _ _ _ HR1.out
      cases hr : sevR (1) r (a1, g1) with
      | error er =>
        rw [hr] at hq
        refine Calls.mono hq ?_
        rintro e' U ⟨hk, rfl⟩
        have HGe := hidM (HG1.out.tr hk)
        have Hr := hidM hr
        clear hk hq hr
        go_wp2_with fail
        exact ⟨rfl, RdQ.err HGe.out (by rw [HRes.out]; exact (Rd.bind_ok Hr1.out).trans ((Rd.bind_ok He.out).trans (Rd.bind_err Hr.out)))⟩
      | ok q =>
        obtain ⟨l, a9, g9⟩ := q
        rw [hr] at hq
        refine Calls.mono hq ?_
        rintro e' U9 ⟨hk, v, rfl, ⟨ko, kc, rfl, hkc, hrow⟩, hR⟩
        have hT := HT.out.kp hk
        have Hsz := hidM (And.intro (lt_of_heap HT.out.rb) (lt_of_heap HT.out.tb))
        have HT9 := hidM hT
        have HG9 := hidM (HG1.out.tr hk)
        have HR9 := hidM hR
        have HK := hidM (And.intro hkc hrow)
        have Hr9 := hidM hr
        have HGi := hidM HG1.out.size
        obtain ⟨u0, u1, u2, u3, u4⟩ := fz5 HT9.out.rb
        obtain ⟨v0, v1, v2, v3, v4⟩ := ce5 HT9.out.rb
        obtain ⟨s0, s1, s2, s3, s4⟩ := ce5 HT9.out.tb
        have s5 := frz HT9.out.tb 4
        have hcb : ¬ c = b := by have := HT9.out.lt; omega
        have hbc : ¬ b = c := by have := HT9.out.lt; omega
        clear hk hq hr hR hT hkc hrow HR1 HG1 HT
        go_wp2_with fail
        have hb3 := put5_box (.int .i64 (x1 : Int)) (.int .i64 (0 : Int)) (.int .i64 (0 : Int)) (.int .i64 (0 : Int)) (.slice ko l.length kc) ((set_other (U := U9) (i := 4) (.slice ko l.length kc) hbc).trans HT9.out.rb)
        have k0 : Keeps U9 (U9.setCell ⟨c, 4, none⟩ (.slice ko l.length kc)) (fun z => z = c) := (Keeps.refl U9 (fun z => z = c)).setCell (p := ⟨c, 4, none⟩) (fun _ => rfl) _
        have k3 := put5_keeps (U9.setCell ⟨c, 4, none⟩ (.slice ko l.length kc)) b (.int .i64 (x1 : Int)) (.int .i64 (0 : Int)) (.int .i64 (0 : Int)) (.int .i64 (0 : Int)) (.slice ko l.length kc)
        have k4 := (k0.mono (T := fun z => z = b ∨ z = c) fun _ _ h => .inr h).trans k3 (fun _ _ h => .inl h)
        have kW := HG9.out.trans k4 (fun j hj h => by have := HT9.out.lt; omega)
        have hrow' := HK.out.2.kept fun z z1 z2 => k4.block z z2 (by have := Hsz.out; omega)
        have hE : R = .ok (⟨x1, 0, 0, 0, l⟩, (a9, g9)) := by rw [HRes.out]; exact (Rd.bind_ok Hr1.out).trans ((Rd.bind_ok He.out).trans ((Rd.bind_ok Hr9.out).trans rfl))
        (try simp only [Exit.inBlock, Exit.then])
        exact bodyPost_ret (results_cell78 rfl rfl hb3 (by kernel_rfl)) rfl (RdQ.ok kW hE ⟨ko, kc, rfl, HK.out.1, hrow'.wide (by have := HGi.out; omega) k4.size⟩ (RAt.over HR00.out HR9.out kW (k4.block p (lt_of_heap HR9.out.box) (by have := HT9.out.lt; omega))))
    have d15 : ((x1 : Int) == 15) = false := by rw [beq_eq_false_iff_ne]; omega
    by_cases c20 : x1 = 20
    · have d20 : ((x1 : Int) == 20) = true := by rw [beq_iff_eq]; omega
      have C20 := hidM c20
      clear c20
      have He : Hid (extR B x1 (a1, g1) = .ok ((0, 0, 0, 1), (a1, g1))) := by show _ = _; unfold extR; rw [if_neg c14, if_neg c16, if_neg c19, if_pos (by have := C20.out; omega)]; rfl
      go_wp2_with (go_at_call 90; refine Hid.out ?_)
      unfold Hid
      rw [HV2.out, ← hc]
      clear hc
      have hq := H59.out (1) (by omega) _ _ _ HR1.out
      cases hr : sevR (1) r (a1, g1) with
      | error er =>
        rw [hr] at hq
        refine Calls.mono hq ?_
        rintro e' U ⟨hk, rfl⟩
        have HGe := hidM (HG1.out.tr hk)
        have Hr := hidM hr
        clear hk hq hr
        go_wp2_with fail
        exact ⟨rfl, RdQ.err HGe.out (by rw [HRes.out]; exact (Rd.bind_ok Hr1.out).trans ((Rd.bind_ok He.out).trans (Rd.bind_err Hr.out)))⟩
      | ok q =>
        obtain ⟨l, a9, g9⟩ := q
        rw [hr] at hq
        refine Calls.mono hq ?_
        rintro e' U9 ⟨hk, v, rfl, ⟨ko, kc, rfl, hkc, hrow⟩, hR⟩
        have hT := HT.out.kp hk
        have Hsz := hidM (And.intro (lt_of_heap HT.out.rb) (lt_of_heap HT.out.tb))
        have HT9 := hidM hT
        have HG9 := hidM (HG1.out.tr hk)
        have HR9 := hidM hR
        have HK := hidM (And.intro hkc hrow)
        have Hr9 := hidM hr
        have HGi := hidM HG1.out.size
        obtain ⟨u0, u1, u2, u3, u4⟩ := fz5 HT9.out.rb
        obtain ⟨v0, v1, v2, v3, v4⟩ := ce5 HT9.out.rb
        obtain ⟨s0, s1, s2, s3, s4⟩ := ce5 HT9.out.tb
        have s5 := frz HT9.out.tb 4
        have hcb : ¬ c = b := by have := HT9.out.lt; omega
        have hbc : ¬ b = c := by have := HT9.out.lt; omega
        clear hk hq hr hR hT hkc hrow HR1 HG1 HT
        go_wp2_with fail
        have hb3 := put5_box (.int .i64 (x1 : Int)) (.int .i64 (0 : Int)) (.int .i64 (0 : Int)) (.int .i64 (0 : Int)) (.slice ko l.length kc) ((set_other (U := U9) (i := 4) (.slice ko l.length kc) hbc).trans HT9.out.rb)
        have k0 : Keeps U9 (U9.setCell ⟨c, 4, none⟩ (.slice ko l.length kc)) (fun z => z = c) := (Keeps.refl U9 (fun z => z = c)).setCell (p := ⟨c, 4, none⟩) (fun _ => rfl) _
        have k3 := put5_keeps (U9.setCell ⟨c, 4, none⟩ (.slice ko l.length kc)) b (.int .i64 (x1 : Int)) (.int .i64 (0 : Int)) (.int .i64 (0 : Int)) (.int .i64 (0 : Int)) (.slice ko l.length kc)
        have k4 := (k0.mono (T := fun z => z = b ∨ z = c) fun _ _ h => .inr h).trans k3 (fun _ _ h => .inl h)
        have kW := HG9.out.trans k4 (fun j hj h => by have := HT9.out.lt; omega)
        have hrow' := HK.out.2.kept fun z z1 z2 => k4.block z z2 (by have := Hsz.out; omega)
        have hE : R = .ok (⟨x1, 0, 0, 0, l⟩, (a9, g9)) := by rw [HRes.out]; exact (Rd.bind_ok Hr1.out).trans ((Rd.bind_ok He.out).trans ((Rd.bind_ok Hr9.out).trans rfl))
        (try simp only [Exit.inBlock, Exit.then])
        exact bodyPost_ret (results_cell78 rfl rfl hb3 (by kernel_rfl)) rfl (RdQ.ok kW hE ⟨ko, kc, rfl, HK.out.1, hrow'.wide (by have := HGi.out; omega) k4.size⟩ (RAt.over HR00.out HR9.out kW (k4.block p (lt_of_heap HR9.out.box) (by have := HT9.out.lt; omega))))
    have d20 : ((x1 : Int) == 20) = false := by rw [beq_eq_false_iff_ne]; omega
    by_cases c17 : x1 = 17
    · have d17 : ((x1 : Int) == 17) = true := by rw [beq_iff_eq]; omega
      have C17 := hidM c17
      clear c17
      go_wp2_with (go_at_call 77; refine Hid.out ?_)
      unfold Hid
      rw [HV2.out, ← hc]
      clear hc
      have hq := HN1.out _ _ _ HR1.out
      cases hr : numR B 1 (a1, g1) with
      | error er =>
        rw [hr] at hq
        refine Calls.mono hq ?_
        rintro e' U ⟨hk, rfl⟩
        have HGe := hidM (HG1.out.tr hk)
        have Hr := hidM hr
        clear hk hq hr
        go_wp2_with fail
        exact ⟨rfl, RdQ.err HGe.out (by rw [HRes.out]; exact (Rd.bind_ok Hr1.out).trans (Rd.bind_err (by unfold extR; rw [if_neg c14, if_neg c16, if_neg c19, if_neg (by have := C17.out; omega), if_pos (by have := C17.out; omega)]; exact Rd.bind_err Hr.out)))⟩
      | ok q =>
        obtain ⟨x2, a2, g2⟩ := q
        rw [hr] at hq
        refine Calls.mono hq ?_
        rintro e' U2 ⟨hk, v, rfl, rfl, hR⟩
        have hT := HT.out.kp hk
        have HT2 := hidM hT
        have HG2 := hidM (HG1.out.tr hk)
        have HR2 := hidM hR
        have Hr2 := hidM hr
        clear hk hq hr hR hT
        have He : Hid (extR B x1 (a1, g1) = .ok ((0, 0, 0, x2), (a2, g2))) := by show _ = _; unfold extR; rw [if_neg c14, if_neg c16, if_neg c19, if_neg (by have := C17.out; omega), if_pos (by have := C17.out; omega)]; exact Rd.bind_ok Hr2.out
        go_wp2_with (go_at_call 90; refine Hid.out ?_)
        unfold Hid
        have hq := H59.out (x2) (by have := num_lt Hr2.out; omega) _ _ _ HR2.out
        cases hr : sevR (x2) r (a2, g2) with
        | error er =>
          rw [hr] at hq
          refine Calls.mono hq ?_
          rintro e' U ⟨hk, rfl⟩
          have HGe := hidM (HG2.out.tr hk)
          have Hr := hidM hr
          clear hk hq hr
          go_wp2_with fail
          exact ⟨rfl, RdQ.err HGe.out (by rw [HRes.out]; exact (Rd.bind_ok Hr1.out).trans ((Rd.bind_ok He.out).trans (Rd.bind_err Hr.out)))⟩
        | ok q =>
          obtain ⟨l, a9, g9⟩ := q
          rw [hr] at hq
          refine Calls.mono hq ?_
          rintro e' U9 ⟨hk, v, rfl, ⟨ko, kc, rfl, hkc, hrow⟩, hR⟩
          have hT := HT2.out.kp hk
          have Hsz := hidM (And.intro (lt_of_heap HT2.out.rb) (lt_of_heap HT2.out.tb))
          have HT9 := hidM hT
          have HG9 := hidM (HG2.out.tr hk)
          have HR9 := hidM hR
          have HK := hidM (And.intro hkc hrow)
          have Hr9 := hidM hr
          have HGi := hidM HG2.out.size
          obtain ⟨u0, u1, u2, u3, u4⟩ := fz5 HT9.out.rb
          obtain ⟨v0, v1, v2, v3, v4⟩ := ce5 HT9.out.rb
          obtain ⟨s0, s1, s2, s3, s4⟩ := ce5 HT9.out.tb
          have s5 := frz HT9.out.tb 4
          have hcb : ¬ c = b := by have := HT9.out.lt; omega
          have hbc : ¬ b = c := by have := HT9.out.lt; omega
          clear hk hq hr hR hT hkc hrow HR2 HG2 HT2
          go_wp2_with fail
          have hb3 := put5_box (.int .i64 (x1 : Int)) (.int .i64 (0 : Int)) (.int .i64 (0 : Int)) (.int .i64 (0 : Int)) (.slice ko l.length kc) ((set_other (U := U9) (i := 4) (.slice ko l.length kc) hbc).trans HT9.out.rb)
          have k0 : Keeps U9 (U9.setCell ⟨c, 4, none⟩ (.slice ko l.length kc)) (fun z => z = c) := (Keeps.refl U9 (fun z => z = c)).setCell (p := ⟨c, 4, none⟩) (fun _ => rfl) _
          have k3 := put5_keeps (U9.setCell ⟨c, 4, none⟩ (.slice ko l.length kc)) b (.int .i64 (x1 : Int)) (.int .i64 (0 : Int)) (.int .i64 (0 : Int)) (.int .i64 (0 : Int)) (.slice ko l.length kc)
          have k4 := (k0.mono (T := fun z => z = b ∨ z = c) fun _ _ h => .inr h).trans k3 (fun _ _ h => .inl h)
          have kW := HG9.out.trans k4 (fun j hj h => by have := HT9.out.lt; omega)
          have hrow' := HK.out.2.kept fun z z1 z2 => k4.block z z2 (by have := Hsz.out; omega)
          have hE : R = .ok (⟨x1, 0, 0, 0, l⟩, (a9, g9)) := by rw [HRes.out]; exact (Rd.bind_ok Hr1.out).trans ((Rd.bind_ok He.out).trans ((Rd.bind_ok Hr9.out).trans rfl))
          (try simp only [Exit.inBlock, Exit.then])
          exact bodyPost_ret (results_cell78 rfl rfl hb3 (by kernel_rfl)) rfl (RdQ.ok kW hE ⟨ko, kc, rfl, HK.out.1, hrow'.wide (by have := HGi.out; omega) k4.size⟩ (RAt.over HR00.out HR9.out kW (k4.block p (lt_of_heap HR9.out.box) (by have := HT9.out.lt; omega))))
    have d17 : ((x1 : Int) == 17) = false := by rw [beq_eq_false_iff_ne]; omega
    by_cases c18 : x1 = 18
    · have d18 : ((x1 : Int) == 18) = true := by rw [beq_iff_eq]; omega
      have C18 := hidM c18
      clear c18
      go_wp2_with (go_at_call 77; refine Hid.out ?_)
      unfold Hid
      rw [HV2.out, ← hc]
      clear hc
      have hq := HN1.out _ _ _ HR1.out
      cases hr : numR B 1 (a1, g1) with
      | error er =>
        rw [hr] at hq
        refine Calls.mono hq ?_
        rintro e' U ⟨hk, rfl⟩
        have HGe := hidM (HG1.out.tr hk)
        have Hr := hidM hr
        clear hk hq hr
        go_wp2_with fail
        exact ⟨rfl, RdQ.err HGe.out (by rw [HRes.out]; exact (Rd.bind_ok Hr1.out).trans (Rd.bind_err (by unfold extR; rw [if_neg c14, if_neg c16, if_neg c19, if_neg (by have := C18.out; omega), if_pos (by have := C18.out; omega)]; exact Rd.bind_err Hr.out)))⟩
      | ok q =>
        obtain ⟨x2, a2, g2⟩ := q
        rw [hr] at hq
        refine Calls.mono hq ?_
        rintro e' U2 ⟨hk, v, rfl, rfl, hR⟩
        have hT := HT.out.kp hk
        have HT2 := hidM hT
        have HG2 := hidM (HG1.out.tr hk)
        have HR2 := hidM hR
        have Hr2 := hidM hr
        clear hk hq hr hR hT
        have He : Hid (extR B x1 (a1, g1) = .ok ((0, 0, 0, x2), (a2, g2))) := by show _ = _; unfold extR; rw [if_neg c14, if_neg c16, if_neg c19, if_neg (by have := C18.out; omega), if_pos (by have := C18.out; omega)]; exact Rd.bind_ok Hr2.out
        go_wp2_with (go_at_call 90; refine Hid.out ?_)
        unfold Hid
        have hq := H59.out (x2) (by have := num_lt Hr2.out; omega) _ _ _ HR2.out
        cases hr : sevR (x2) r (a2, g2) with
        | error er =>
          rw [hr] at hq
          refine Calls.mono hq ?_
          rintro e' U ⟨hk, rfl⟩
          have HGe := hidM (HG2.out.tr hk)
          have Hr := hidM hr
          clear hk hq hr
          go_wp2_with fail
          exact ⟨rfl, RdQ.err HGe.out (by rw [HRes.out]; exact (Rd.bind_ok Hr1.out).trans ((Rd.bind_ok He.out).trans (Rd.bind_err Hr.out)))⟩
        | ok q =>
          obtain ⟨l, a9, g9⟩ := q
          rw [hr] at hq
          refine Calls.mono hq ?_
          rintro e' U9 ⟨hk, v, rfl, ⟨ko, kc, rfl, hkc, hrow⟩, hR⟩
          have hT := HT2.out.kp hk
          have Hsz := hidM (And.intro (lt_of_heap HT2.out.rb) (lt_of_heap HT2.out.tb))
          have HT9 := hidM hT
          have HG9 := hidM (HG2.out.tr hk)
          have HR9 := hidM hR
          have HK := hidM (And.intro hkc hrow)
          have Hr9 := hidM hr
          have HGi := hidM HG2.out.size
          obtain ⟨u0, u1, u2, u3, u4⟩ := fz5 HT9.out.rb
          obtain ⟨v0, v1, v2, v3, v4⟩ := ce5 HT9.out.rb
          obtain ⟨s0, s1, s2, s3, s4⟩ := ce5 HT9.out.tb
          have s5 := frz HT9.out.tb 4
          have hcb : ¬ c = b := by have := HT9.out.lt; omega
          have hbc : ¬ b = c := by have := HT9.out.lt; omega
          clear hk hq hr hR hT hkc hrow HR2 HG2 HT2
          go_wp2_with fail
          have hb3 := put5_box (.int .i64 (x1 : Int)) (.int .i64 (0 : Int)) (.int .i64 (0 : Int)) (.int .i64 (0 : Int)) (.slice ko l.length kc) ((set_other (U := U9) (i := 4) (.slice ko l.length kc) hbc).trans HT9.out.rb)
          have k0 : Keeps U9 (U9.setCell ⟨c, 4, none⟩ (.slice ko l.length kc)) (fun z => z = c) := (Keeps.refl U9 (fun z => z = c)).setCell (p := ⟨c, 4, none⟩) (fun _ => rfl) _
          have k3 := put5_keeps (U9.setCell ⟨c, 4, none⟩ (.slice ko l.length kc)) b (.int .i64 (x1 : Int)) (.int .i64 (0 : Int)) (.int .i64 (0 : Int)) (.int .i64 (0 : Int)) (.slice ko l.length kc)
          have k4 := (k0.mono (T := fun z => z = b ∨ z = c) fun _ _ h => .inr h).trans k3 (fun _ _ h => .inl h)
          have kW := HG9.out.trans k4 (fun j hj h => by have := HT9.out.lt; omega)
          have hrow' := HK.out.2.kept fun z z1 z2 => k4.block z z2 (by have := Hsz.out; omega)
          have hE : R = .ok (⟨x1, 0, 0, 0, l⟩, (a9, g9)) := by rw [HRes.out]; exact (Rd.bind_ok Hr1.out).trans ((Rd.bind_ok He.out).trans ((Rd.bind_ok Hr9.out).trans rfl))
          (try simp only [Exit.inBlock, Exit.then])
          exact bodyPost_ret (results_cell78 rfl rfl hb3 (by kernel_rfl)) rfl (RdQ.ok kW hE ⟨ko, kc, rfl, HK.out.1, hrow'.wide (by have := HGi.out; omega) k4.size⟩ (RAt.over HR00.out HR9.out kW (k4.block p (lt_of_heap HR9.out.box) (by have := HT9.out.lt; omega))))
    have d18 : ((x1 : Int) == 18) = false := by rw [beq_eq_false_iff_ne]; omega
    have He : Hid (extR B x1 (a1, g1) = .ok ((0, 0, 0, 0), (a1, g1))) := by show _ = _; unfold extR; rw [if_neg c14, if_neg c16, if_neg c19, if_neg (by omega), if_neg (by omega)]; rfl
    go_wp2_with (go_at_call 90; refine Hid.out ?_)
    unfold Hid
    rw [HV2.out, ← hc]
    clear hc
    have hq := H59.out (0) (by omega) _ _ _ HR1.out
    cases hr : sevR (0) r (a1, g1) with
    | error er =>
      rw [hr] at hq
      refine Calls.mono hq ?_
      rintro e' U ⟨hk, rfl⟩
      have HGe := hidM (HG1.out.tr hk)
      have Hr := hidM hr
      clear hk hq hr
      go_wp2_with fail
      exact ⟨rfl, RdQ.err HGe.out (by rw [HRes.out]; exact (Rd.bind_ok Hr1.out).trans ((Rd.bind_ok He.out).trans (Rd.bind_err Hr.out)))⟩
    | ok q =>
      obtain ⟨l, a9, g9⟩ := q
      rw [hr] at hq
      refine Calls.mono hq ?_
      rintro e' U9 ⟨hk, v, rfl, ⟨ko, kc, rfl, hkc, hrow⟩, hR⟩
      have hT := HT.out.kp hk
      have Hsz := hidM (And.intro (lt_of_heap HT.out.rb) (lt_of_heap HT.out.tb))
      have HT9 := hidM hT
      have HG9 := hidM (HG1.out.tr hk)
      have HR9 := hidM hR
      have HK := hidM (And.intro hkc hrow)
      have Hr9 := hidM hr
      have HGi := hidM HG1.out.size
      obtain ⟨u0, u1, u2, u3, u4⟩ := fz5 HT9.out.rb
      obtain ⟨v0, v1, v2, v3, v4⟩ := ce5 HT9.out.rb
      obtain ⟨s0, s1, s2, s3, s4⟩ := ce5 HT9.out.tb
      have s5 := frz HT9.out.tb 4
      have hcb : ¬ c = b := by have := HT9.out.lt; omega
      have hbc : ¬ b = c := by have := HT9.out.lt; omega
      clear hk hq hr hR hT hkc hrow HR1 HG1 HT
      go_wp2_with fail
      have hb3 := put5_box (.int .i64 (x1 : Int)) (.int .i64 (0 : Int)) (.int .i64 (0 : Int)) (.int .i64 (0 : Int)) (.slice ko l.length kc) ((set_other (U := U9) (i := 4) (.slice ko l.length kc) hbc).trans HT9.out.rb)
      have k0 : Keeps U9 (U9.setCell ⟨c, 4, none⟩ (.slice ko l.length kc)) (fun z => z = c) := (Keeps.refl U9 (fun z => z = c)).setCell (p := ⟨c, 4, none⟩) (fun _ => rfl) _
      have k3 := put5_keeps (U9.setCell ⟨c, 4, none⟩ (.slice ko l.length kc)) b (.int .i64 (x1 : Int)) (.int .i64 (0 : Int)) (.int .i64 (0 : Int)) (.int .i64 (0 : Int)) (.slice ko l.length kc)
      have k4 := (k0.mono (T := fun z => z = b ∨ z = c) fun _ _ h => .inr h).trans k3 (fun _ _ h => .inl h)
      have kW := HG9.out.trans k4 (fun j hj h => by have := HT9.out.lt; omega)
      have hrow' := HK.out.2.kept fun z z1 z2 => k4.block z z2 (by have := Hsz.out; omega)
      have hE : R = .ok (⟨x1, 0, 0, 0, l⟩, (a9, g9)) := by rw [HRes.out]; exact (Rd.bind_ok Hr1.out).trans ((Rd.bind_ok He.out).trans ((Rd.bind_ok Hr9.out).trans rfl))
      (try simp only [Exit.inBlock, Exit.then])
      exact bodyPost_ret (results_cell78 rfl rfl hb3 (by kernel_rfl)) rfl (RdQ.ok kW hE ⟨ko, kc, rfl, HK.out.1, hrow'.wide (by have := HGi.out; omega) k4.size⟩ (RAt.over HR00.out HR9.out kW (k4.block p (lt_of_heap HR9.out.box) (by have := HT9.out.lt; omega))))
end Go.Proofs.YtdihbfjjddmbiaaGreatDoor.Kit
