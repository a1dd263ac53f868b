import Derived.Test.YtfoifmacobldbaaGreatDoorUH
set_option maxRecDepth 100000
set_option maxHeartbeats 4000000
namespace Go.Proofs.YtfoifmacobldbaaGreatDoor.Kit
open Go.RowKit Go.Shelf Go.Deep
set_option linter.unusedVariables false
set_option linter.unusedSimpArgs false
attribute [local go_sem] run_store_func
/-! ### the law ValueBack 4 -/
theorem back_any (f : FT) (ao : Option Addr) (ca : Nat) (v : VT) (vo : Option Addr) (vc : Nat) (s : ByteArray) (w : World) (D d : Nat) (hT : Tab w) (h9 : 9 ≤ w.heap.size) (tb : Tbs w) (ut : Lib.Utf8Tabs 0 1 w) (row : RowAt (fun b => b < w.heap.size) w D ao f.kids) (hca : f.kids.length ≤ ca) (hD : D + 1 ≤ big) (hok : VOk v) (hv : VRow (fun b => b < w.heap.size) w d vo v.list) :
    Calls Tryz.prog 4 #[.agg #[.string f.name, .bool f.nul, .int .i64 f.kind, .int .i64 f.width, .int .i64 f.id, .int .i64 f.index, .slice ao f.kids.length ca], .agg #[.bool v.nul, .int .i64 v.num, .string v.text, .slice vo v.list.length vc], .string s] w fun e w' => e = .returned (.bool true) ∧ Gr w w' := by
  obtain ⟨mb, hm, hg, -⟩ := fld_good hT row hca hD (fun _ h => h)
  have hC : Cx D w f ao ca mb := ⟨h9, tb, ut, row, hca, hm, hg⟩
  obtain ⟨ma, hma, hga, hA⟩ := fld_good (S := fun b => b < w.heap.size) (D := 0) (w := w) (f := fieldA) (ao := none) (ca := 0) hT rfl (by decide) (by decide) (fun _ h => h)
  obtain rfl : ma = true := hA allA
  have hCA : Cx 0 w fieldA none 0 true := ⟨h9, tb, ut, rfl, by decide, hma, hga⟩
  obtain ⟨A2, hA2⟩ : ∃ A2, (w.alloc (.cells #[.string f.name, .bool f.nul, .int .i64 f.kind, .int .i64 f.width, .int .i64 f.id, .int .i64 f.index, .slice ao f.kids.length ca] 26)).alloc (.cells #[.bool v.nul, .int .i64 v.num, .string v.text, .slice vo v.list.length vc] 29) = A2 := ⟨_, rfl⟩
  have hGA : Gr w A2 := by rw [← hA2]; exact (gr_alloc w _).trans (gr_alloc _ _) (fun _ _ h => h)
  obtain ⟨hb1, hb0⟩ : A2.heap[w.heap.size]? = some (.cells #[.string f.name, .bool f.nul, .int .i64 f.kind, .int .i64 f.width, .int .i64 f.id, .int .i64 f.index, .slice ao f.kids.length ca] 26) ∧ A2.heap[w.heap.size + 1]? = some (.cells #[.bool v.nul, .int .i64 v.num, .string v.text, .slice vo v.list.length vc] 29) := by
    have e1 := heap_alloc_new w (.cells #[.string f.name, .bool f.nul, .int .i64 f.kind, .int .i64 f.width, .int .i64 f.id, .int .i64 f.index, .slice ao f.kids.length ca] 26)
    have e2 := heap_alloc_new (w.alloc (.cells #[.string f.name, .bool f.nul, .int .i64 f.kind, .int .i64 f.width, .int .i64 f.id, .int .i64 f.index, .slice ao f.kids.length ca] 26)) (.cells #[.bool v.nul, .int .i64 v.num, .string v.text, .slice vo v.list.length vc] 29)
    rw [show (w.alloc (.cells #[.string f.name, .bool f.nul, .int .i64 f.kind, .int .i64 f.width, .int .i64 f.id, .int .i64 f.index, .slice ao f.kids.length ca] 26)).heap.size = w.heap.size + 1 by simp] at e2
    rw [← hA2]
    exact ⟨((gr_alloc _ _).block _ (lt_of_heap e1) id).trans e1, e2⟩
  have HFB : Hid (∀ u, Gr A2 u → u.cell? ⟨w.heap.size, 0, none⟩ = some (.string f.name) ∧ u.cell? ⟨w.heap.size, 1, none⟩ = some (.bool f.nul) ∧ u.cell? ⟨w.heap.size, 2, none⟩ = some (.int .i64 f.kind) ∧ u.cell? ⟨w.heap.size, 3, none⟩ = some (.int .i64 f.width) ∧ u.cell? ⟨w.heap.size, 4, none⟩ = some (.int .i64 f.id) ∧ u.cell? ⟨w.heap.size, 5, none⟩ = some (.int .i64 f.index) ∧ u.cell? ⟨w.heap.size, 6, none⟩ = some (.slice ao f.kids.length ca)) := fun u hk => by
    have h := (hk.block _ (lt_of_heap hb1) id).trans hb1
    simp [World.cell?, h]
  have HVB : Hid (∀ u, Gr A2 u → u.cell? ⟨w.heap.size + 1, 0, none⟩ = some (.bool v.nul) ∧ u.cell? ⟨w.heap.size + 1, 1, none⟩ = some (.int .i64 v.num) ∧ u.cell? ⟨w.heap.size + 1, 2, none⟩ = some (.string v.text) ∧ u.cell? ⟨w.heap.size + 1, 3, none⟩ = some (.slice vo v.list.length vc)) := fun u hk => by
    have h := (hk.block _ (lt_of_heap hb0) id).trans hb0
    simp [World.cell?, h]
  have HCA : Hid (Cx 0 A2 fieldA none 0 true) := hCA.gr hGA
  have HC : Hid (Cx D A2 f ao ca mb) := hC.gr hGA
  have HVR : Hid (VRow (fun b => b < A2.heap.size) A2 d vo v.list) := (hv.kept fun b hb => hGA.block b hb id).mono fun b hb => Nat.lt_of_lt_of_le hb hGA.size
  have HVO := hidM hok
  have HGA := hidM hGA
  have HA2 := hidM hA2
  clear hT h9 tb ut row hca hD hok hv hm hg hC hma hga hA hCA hGA hb1 hb0 hA2
  go_enter Tryz.func4, Tryz.ntmps4
  go_wp2_with (go_at_call 12; rw [HA2.out]; refine Hid.out ?_)
  unfold Hid
  clear HA2
  refine Calls.mono (HCA.out.parse wordA) ?_
  intro e u1 hq
  rw [parA] at hq
  obtain ⟨g1, val, he, ko, kc, hval, -, -, -⟩ := hq
  have hval' : val = .agg #[.bool false, .int .i64 0, .string ⟨#[98]⟩, .slice ko 0 kc] := hval
  subst hval'
  subst he
  clear hval
  obtain ⟨B, hB⟩ : ∃ B, u1.alloc (.cells #[.bool false, .int .i64 0, .string ⟨#[98]⟩, .slice ko 0 kc] 29) = B := ⟨_, rfl⟩
  have HG0 : Hid (Gr A2 B) := g1.trans (by rw [← hB]; exact gr_alloc u1 _) (fun _ _ h => h)
  have ho : B.cell? ⟨u1.heap.size, 2, none⟩ = some (.string ⟨#[98]⟩) := by
    have h := heap_alloc_new u1 (.cells #[.bool false, .int .i64 0, .string ⟨#[98]⟩, .slice ko 0 kc] 29)
    rw [hB] at h
    simp [World.cell?, h]
  obtain ⟨e0, e1, e2, e3, e4, e5, e6⟩ := HFB.out B HG0.out
  obtain ⟨q0, q1, q2, q3⟩ := HVB.out B HG0.out
  clear g1 HCA
  go_wp2_with (go_at_call 7; refine Hid.out ?_)
  unfold Hid
  refine Calls.mono ((HC.out.gr HG0.out).print HVO.out ((HVR.out.kept fun b hb => HG0.out.block b hb id).mono fun b hb => Nat.lt_of_lt_of_le hb HG0.out.size)) ?_
  rintro e P ⟨rfl, gP⟩
  have HG1 : Hid (Gr A2 P) := HG0.out.trans gP (fun _ _ h => h)
  clear gP ho e0 e1 e2 e3 e4 e5 e6 q0 q1 q2 q3 HG0 hB
  obtain ⟨e0, e1, e2, e3, e4, e5, e6⟩ := HFB.out P HG1.out
  obtain ⟨q0, q1, q2, q3⟩ := HVB.out P HG1.out
  by_cases hmb : mb = true
  · by_cases hfb : fitVB D f v = true
    · by_cases hl : 65536 < (txt D f v).length
      · have hpe : prE mb (fitVB D f v) (txt D f v) = 4 := by
          unfold prE
          rw [hmb, hfb, if_neg (by decide), if_neg (by decide), if_pos hl]
        have hps : prS mb (fitVB D f v) (txt D f v) = [] := by
          unfold prS
          rw [hpe, if_neg (by decide)]
        have hfe : fitE mb (fitVB D f v) = 0 := by unfold fitE; rw [hmb, hfb]; rfl
        rw [hpe, hps]
        clear hpe hps hmb hfb hl
        have HFE := hidM hfe
        clear hfe
        go_wp2_with (go_at_call 16; refine Hid.out ?_)
        unfold Hid
        refine Calls.mono ((HC.out.gr HG1.out).fits HVO.out ((HVR.out.kept fun b hb => HG1.out.block b hb id).mono fun b hb => Nat.lt_of_lt_of_le hb HG1.out.size)) ?_
        rw [HFE.out]
        rintro e Q ⟨rfl, gQ⟩
        have HG : Hid (Gr A2 Q) := HG1.out.trans gQ (fun _ _ h => h)
        clear gQ HG1 HFE e0 e1 e2 e3 e4 e5 e6 q0 q1 q2 q3
        obtain ⟨e0, e1, e2, e3, e4, e5, e6⟩ := HFB.out Q HG.out
        go_wp2_with (go_at_call 12; refine Hid.out ?_)
        unfold Hid
        refine Calls.mono ((HC.out.gr HG.out).parse s) ?_
        intro e Y1 hq
        cases hp : parR mb D f s with
        | none =>
          rw [hp] at hq
          obtain ⟨gy, val, er, a, rfl, ⟨z0, z1, z2, z3, z4, z5, rfl⟩, hne, h0, hle⟩ := hq
          have hb : (er != 0) = true := bne_iff_ne.2 hne
          have HY : Hid (Gr A2 Y1) := HG.out.trans gy (fun _ _ h => h)
          clear hne gy hp e0 e1 e2 e3 e4 e5 e6
          go_wp2_with fail
          go_ret
          exact ⟨by simp [h0, hle], (HGA.out.trans HY.out (fun _ _ h => h)).alloc _⟩
        | some x =>
          rw [hp] at hq
          obtain ⟨gy, val, rfl, xo, xc, rfl, hxc, hxok, hxr⟩ := hq
          obtain ⟨Y, hY⟩ : ∃ Y, Y1.alloc (.cells #[.bool x.nul, .int .i64 x.num, .string x.text, .slice xo x.list.length xc] 29) = Y := ⟨_, rfl⟩
          have gY : Gr Y1 Y := by rw [← hY]; exact gr_alloc Y1 _
          have hby : Y.heap[Y1.heap.size]? = some (.cells #[.bool x.nul, .int .i64 x.num, .string x.text, .slice xo x.list.length xc] 29) := by rw [← hY]; exact heap_alloc_new Y1 _
          have HGY : Hid (Gr A2 Y) := (HG.out.trans gy (fun _ _ h => h)).trans gY (fun _ _ h => h)
          have HXR : Hid (VRow (fun b => b < Y.heap.size) Y (D + 1) xo x.list) := (hxr.kept fun b hb => gY.block b hb.2 id).mono fun b hb => Nat.lt_of_lt_of_le hb.2 gY.size
          have HXB : Hid (∀ u, Gr Y u → u.cell? ⟨Y1.heap.size, 0, none⟩ = some (.bool x.nul) ∧ u.cell? ⟨Y1.heap.size, 1, none⟩ = some (.int .i64 x.num) ∧ u.cell? ⟨Y1.heap.size, 2, none⟩ = some (.string x.text) ∧ u.cell? ⟨Y1.heap.size, 3, none⟩ = some (.slice xo x.list.length xc)) := fun u hk => by
            have h := (hk.block _ (lt_of_heap hby) id).trans hby
            simp [World.cell?, h]
          have HXO := hidM hxok
          have HP := hidM hp
          clear hp hxok hxr hby gY gy hxc e0 e1 e2 e3 e4 e5 e6
          obtain ⟨e0, e1, e2, e3, e4, e5, e6⟩ := HFB.out Y HGY.out
          obtain ⟨r0, r1, r2, r3⟩ := HXB.out Y (Keeps.refl _ _)
          go_wp2_with (go_at_call 7; refine Hid.out ?_)
          unfold Hid
          refine Calls.mono ((HC.out.gr HGY.out).print HXO.out HXR.out) ?_
          obtain ⟨rfl, hfb, htx, hsz⟩ := par_back (HC.out.good) HP.out
          have hpe : prE true (fitVB D f x) (txt D f x) = 0 := by
            unfold prE
            rw [hfb, htx, tx_len, if_neg (by decide), if_neg (by decide), if_neg (by omega)]
          have hps : prS true (fitVB D f x) (txt D f x) = s.data.toList := by
            unfold prS
            rw [hpe, if_pos rfl, htx]
          rw [hpe, hps, QF.bytes_eq]
          have HFb := hidM hfb
          clear hfb htx hsz hpe hps e0 e1 e2 e3 e4 e5 e6 r0 r1 r2 r3
          rintro e Z ⟨rfl, gZ⟩
          have HGZ : Hid (Gr Y Z) := gZ
          clear gZ
          obtain ⟨e0, e1, e2, e3, e4, e5, e6⟩ := HFB.out Z (HGY.out.trans HGZ.out (fun _ _ h => h))
          obtain ⟨r0, r1, r2, r3⟩ := HXB.out Z HGZ.out
          go_wp2_with (go_at_call 16; refine Hid.out ?_)
          unfold Hid
          refine Calls.mono ((HC.out.gr (HGY.out.trans HGZ.out (fun _ _ h => h))).fits HXO.out ((HXR.out.kept fun b hb => HGZ.out.block b hb id).mono fun b hb => Nat.lt_of_lt_of_le hb HGZ.out.size)) ?_
          have hfe : fitE true (fitVB D f x) = 0 := by unfold fitE; rw [HFb.out]; rfl
          rw [hfe]
          clear hfe e0 e1 e2 e3 e4 e5 e6 r0 r1 r2 r3
          rintro e Z2 ⟨rfl, gZ⟩
          have HG5 : Hid (Gr w Z2) := (HGA.out.trans HGY.out (fun _ _ h => h)).trans (HGZ.out.trans gZ (fun _ _ h => h)) (fun _ _ h => h)
          clear gZ
          go_wp2_with fail
          go_ret
          exact ⟨rfl, HG5.out⟩
      · have hpe : prE mb (fitVB D f v) (txt D f v) = 0 := by
          unfold prE
          rw [hmb, hfb, if_neg (by decide), if_neg (by decide), if_neg hl]
        have hps : prS mb (fitVB D f v) (txt D f v) = txt D f v := by
          unfold prS
          rw [hpe, if_pos rfl]
        have hfe : fitE mb (fitVB D f v) = 0 := by unfold fitE; rw [hmb, hfb]; rfl
        obtain ⟨t, ht⟩ : ∃ t : ByteArray, ⟨(txt D f v).toArray⟩ = t := ⟨_, rfl⟩
        have hpt : parR mb D f t = some v := by rw [← ht, hmb]; exact par_there (HC.out.good hmb) hfb (by omega)
        rw [hpe, hps, ht]
        have HPT := hidM hpt
        clear hpe hps hmb hfb hl ht hpt
        have HFE := hidM hfe
        clear hfe
        go_wp2_with (go_at_call 16; refine Hid.out ?_)
        unfold Hid
        refine Calls.mono ((HC.out.gr HG1.out).fits HVO.out ((HVR.out.kept fun b hb => HG1.out.block b hb id).mono fun b hb => Nat.lt_of_lt_of_le hb HG1.out.size)) ?_
        rw [HFE.out]
        rintro e Q ⟨rfl, gQ⟩
        have HG : Hid (Gr A2 Q) := HG1.out.trans gQ (fun _ _ h => h)
        clear gQ HG1 HFE e0 e1 e2 e3 e4 e5 e6 q0 q1 q2 q3
        obtain ⟨e0, e1, e2, e3, e4, e5, e6⟩ := HFB.out Q HG.out
        go_wp2_with (go_at_call 12; refine Hid.out ?_)
        unfold Hid
        refine Calls.mono ((HC.out.gr HG.out).parse t) ?_
        intro e X1 hq
        rw [HPT.out] at hq
        obtain ⟨gx, val, rfl, yo, yc, rfl, hyc, hyok, hyr⟩ := hq
        obtain ⟨X, hX⟩ : ∃ X, X1.alloc (.cells #[.bool v.nul, .int .i64 v.num, .string v.text, .slice yo v.list.length yc] 29) = X := ⟨_, rfl⟩
        have gX : Gr X1 X := by rw [← hX]; exact gr_alloc X1 _
        have hbx : X.heap[X1.heap.size]? = some (.cells #[.bool v.nul, .int .i64 v.num, .string v.text, .slice yo v.list.length yc] 29) := by rw [← hX]; exact heap_alloc_new X1 _
        have HGX : Hid (Gr A2 X) := (HG.out.trans gx (fun _ _ h => h)).trans gX (fun _ _ h => h)
        have HYR : Hid (VRow (fun b => b < X.heap.size) X (D + 1 + d) yo v.list) := ((hyr.kept fun b hb => gX.block b hb.2 id).mono fun b hb => Nat.lt_of_lt_of_le hb.2 gX.size).more (by omega)
        have HVX : Hid (VRow (fun b => b < X.heap.size) X (D + 1 + d) vo v.list) := ((HVR.out.kept fun b hb => HGX.out.block b hb id).mono fun b hb => Nat.lt_of_lt_of_le hb HGX.out.size).more (by omega)
        have hxx : X.cell? ⟨X1.heap.size, 0, none⟩ = some (.bool v.nul) ∧ X.cell? ⟨X1.heap.size, 1, none⟩ = some (.int .i64 v.num) ∧ X.cell? ⟨X1.heap.size, 2, none⟩ = some (.string v.text) ∧ X.cell? ⟨X1.heap.size, 3, none⟩ = some (.slice yo v.list.length yc) := by simp [World.cell?, hbx]
        clear hyc hyok hyr gx gX hbx e0 e1 e2 e3 e4 e5 e6 HPT
        obtain ⟨y0, y1, y2, y3⟩ := hxx
        obtain ⟨q0, q1, q2, q3⟩ := HVB.out X HGX.out
        go_wp2_with (go_at_call 17; refine Hid.out ?_)
        unfold Hid
        refine Calls.mono (same17 (fun _ h => h) HVX.out HYR.out) ?_
        rintro e R ⟨rfl, gR⟩
        clear HG
        have HG : Hid (Gr A2 R) := HGX.out.trans gR (fun _ _ h => h)
        clear gR HYR HVX HGX y0 y1 y2 y3 q0 q1 q2 q3 hX
        obtain ⟨e0, e1, e2, e3, e4, e5, e6⟩ := HFB.out R HG.out
        go_wp2_with (go_at_call 12; refine Hid.out ?_)
        unfold Hid
        refine Calls.mono ((HC.out.gr HG.out).parse s) ?_
        intro e Y1 hq
        cases hp : parR mb D f s with
        | none =>
          rw [hp] at hq
          obtain ⟨gy, val, er, a, rfl, ⟨z0, z1, z2, z3, z4, z5, rfl⟩, hne, h0, hle⟩ := hq
          have hb : (er != 0) = true := bne_iff_ne.2 hne
          have HY : Hid (Gr A2 Y1) := HG.out.trans gy (fun _ _ h => h)
          clear hne gy hp e0 e1 e2 e3 e4 e5 e6
          go_wp2_with fail
          go_ret
          exact ⟨by simp [h0, hle], (HGA.out.trans HY.out (fun _ _ h => h)).alloc _⟩
        | some x =>
          rw [hp] at hq
          obtain ⟨gy, val, rfl, xo, xc, rfl, hxc, hxok, hxr⟩ := hq
          obtain ⟨Y, hY⟩ : ∃ Y, Y1.alloc (.cells #[.bool x.nul, .int .i64 x.num, .string x.text, .slice xo x.list.length xc] 29) = Y := ⟨_, rfl⟩
          have gY : Gr Y1 Y := by rw [← hY]; exact gr_alloc Y1 _
          have hby : Y.heap[Y1.heap.size]? = some (.cells #[.bool x.nul, .int .i64 x.num, .string x.text, .slice xo x.list.length xc] 29) := by rw [← hY]; exact heap_alloc_new Y1 _
          have HGY : Hid (Gr A2 Y) := (HG.out.trans gy (fun _ _ h => h)).trans gY (fun _ _ h => h)
          have HXR : Hid (VRow (fun b => b < Y.heap.size) Y (D + 1) xo x.list) := (hxr.kept fun b hb => gY.block b hb.2 id).mono fun b hb => Nat.lt_of_lt_of_le hb.2 gY.size
          have HXB : Hid (∀ u, Gr Y u → u.cell? ⟨Y1.heap.size, 0, none⟩ = some (.bool x.nul) ∧ u.cell? ⟨Y1.heap.size, 1, none⟩ = some (.int .i64 x.num) ∧ u.cell? ⟨Y1.heap.size, 2, none⟩ = some (.string x.text) ∧ u.cell? ⟨Y1.heap.size, 3, none⟩ = some (.slice xo x.list.length xc)) := fun u hk => by
            have h := (hk.block _ (lt_of_heap hby) id).trans hby
            simp [World.cell?, h]
          have HXO := hidM hxok
          have HP := hidM hp
          clear hp hxok hxr hby gY gy hxc e0 e1 e2 e3 e4 e5 e6
          obtain ⟨e0, e1, e2, e3, e4, e5, e6⟩ := HFB.out Y HGY.out
          obtain ⟨r0, r1, r2, r3⟩ := HXB.out Y (Keeps.refl _ _)
          go_wp2_with (go_at_call 7; refine Hid.out ?_)
          unfold Hid
          refine Calls.mono ((HC.out.gr HGY.out).print HXO.out HXR.out) ?_
          obtain ⟨rfl, hfb, htx, hsz⟩ := par_back (HC.out.good) HP.out
          have hpe : prE true (fitVB D f x) (txt D f x) = 0 := by
            unfold prE
            rw [hfb, htx, tx_len, if_neg (by decide), if_neg (by decide), if_neg (by omega)]
          have hps : prS true (fitVB D f x) (txt D f x) = s.data.toList := by
            unfold prS
            rw [hpe, if_pos rfl, htx]
          rw [hpe, hps, QF.bytes_eq]
          have HFb := hidM hfb
          clear hfb htx hsz hpe hps e0 e1 e2 e3 e4 e5 e6 r0 r1 r2 r3
          rintro e Z ⟨rfl, gZ⟩
          have HGZ : Hid (Gr Y Z) := gZ
          clear gZ
          obtain ⟨e0, e1, e2, e3, e4, e5, e6⟩ := HFB.out Z (HGY.out.trans HGZ.out (fun _ _ h => h))
          obtain ⟨r0, r1, r2, r3⟩ := HXB.out Z HGZ.out
          go_wp2_with (go_at_call 16; refine Hid.out ?_)
          unfold Hid
          refine Calls.mono ((HC.out.gr (HGY.out.trans HGZ.out (fun _ _ h => h))).fits HXO.out ((HXR.out.kept fun b hb => HGZ.out.block b hb id).mono fun b hb => Nat.lt_of_lt_of_le hb HGZ.out.size)) ?_
          have hfe : fitE true (fitVB D f x) = 0 := by unfold fitE; rw [HFb.out]; rfl
          rw [hfe]
          clear hfe e0 e1 e2 e3 e4 e5 e6 r0 r1 r2 r3
          rintro e Z2 ⟨rfl, gZ⟩
          have HG5 : Hid (Gr w Z2) := (HGA.out.trans HGY.out (fun _ _ h => h)).trans (HGZ.out.trans gZ (fun _ _ h => h)) (fun _ _ h => h)
          clear gZ
          go_wp2_with fail
          go_ret
          exact ⟨rfl, HG5.out⟩
    · replace hfb : fitVB D f v = false := by simpa using hfb
      have hpe : prE mb (fitVB D f v) (txt D f v) = 7 := by
        unfold prE
        rw [hmb, hfb, if_neg (by decide), if_pos rfl]
      have hps : prS mb (fitVB D f v) (txt D f v) = [] := by
        unfold prS
        rw [hpe, if_neg (by decide)]
      have hfe : fitE mb (fitVB D f v) = 7 := by unfold fitE; rw [hmb, hfb]; rfl
      rw [hpe, hps]
      clear hpe hps hmb hfb
      have HFE := hidM hfe
      clear hfe
      go_wp2_with (go_at_call 16; refine Hid.out ?_)
      unfold Hid
      refine Calls.mono ((HC.out.gr HG1.out).fits HVO.out ((HVR.out.kept fun b hb => HG1.out.block b hb id).mono fun b hb => Nat.lt_of_lt_of_le hb HG1.out.size)) ?_
      rw [HFE.out]
      rintro e Q ⟨rfl, gQ⟩
      have HG : Hid (Gr A2 Q) := HG1.out.trans gQ (fun _ _ h => h)
      clear gQ HG1 HFE e0 e1 e2 e3 e4 e5 e6 q0 q1 q2 q3
      obtain ⟨e0, e1, e2, e3, e4, e5, e6⟩ := HFB.out Q HG.out
      go_wp2_with (go_at_call 12; refine Hid.out ?_)
      unfold Hid
      refine Calls.mono ((HC.out.gr HG.out).parse s) ?_
      intro e Y1 hq
      cases hp : parR mb D f s with
      | none =>
        rw [hp] at hq
        obtain ⟨gy, val, er, a, rfl, ⟨z0, z1, z2, z3, z4, z5, rfl⟩, hne, h0, hle⟩ := hq
        have hb : (er != 0) = true := bne_iff_ne.2 hne
        have HY : Hid (Gr A2 Y1) := HG.out.trans gy (fun _ _ h => h)
        clear hne gy hp e0 e1 e2 e3 e4 e5 e6
        go_wp2_with fail
        go_ret
        exact ⟨by simp [h0, hle], (HGA.out.trans HY.out (fun _ _ h => h)).alloc _⟩
      | some x =>
        rw [hp] at hq
        obtain ⟨gy, val, rfl, xo, xc, rfl, hxc, hxok, hxr⟩ := hq
        obtain ⟨Y, hY⟩ : ∃ Y, Y1.alloc (.cells #[.bool x.nul, .int .i64 x.num, .string x.text, .slice xo x.list.length xc] 29) = Y := ⟨_, rfl⟩
        have gY : Gr Y1 Y := by rw [← hY]; exact gr_alloc Y1 _
        have hby : Y.heap[Y1.heap.size]? = some (.cells #[.bool x.nul, .int .i64 x.num, .string x.text, .slice xo x.list.length xc] 29) := by rw [← hY]; exact heap_alloc_new Y1 _
        have HGY : Hid (Gr A2 Y) := (HG.out.trans gy (fun _ _ h => h)).trans gY (fun _ _ h => h)
        have HXR : Hid (VRow (fun b => b < Y.heap.size) Y (D + 1) xo x.list) := (hxr.kept fun b hb => gY.block b hb.2 id).mono fun b hb => Nat.lt_of_lt_of_le hb.2 gY.size
        have HXB : Hid (∀ u, Gr Y u → u.cell? ⟨Y1.heap.size, 0, none⟩ = some (.bool x.nul) ∧ u.cell? ⟨Y1.heap.size, 1, none⟩ = some (.int .i64 x.num) ∧ u.cell? ⟨Y1.heap.size, 2, none⟩ = some (.string x.text) ∧ u.cell? ⟨Y1.heap.size, 3, none⟩ = some (.slice xo x.list.length xc)) := fun u hk => by
          have h := (hk.block _ (lt_of_heap hby) id).trans hby
          simp [World.cell?, h]
        have HXO := hidM hxok
        have HP := hidM hp
        clear hp hxok hxr hby gY gy hxc e0 e1 e2 e3 e4 e5 e6
        obtain ⟨e0, e1, e2, e3, e4, e5, e6⟩ := HFB.out Y HGY.out
        obtain ⟨r0, r1, r2, r3⟩ := HXB.out Y (Keeps.refl _ _)
        go_wp2_with (go_at_call 7; refine Hid.out ?_)
        unfold Hid
        refine Calls.mono ((HC.out.gr HGY.out).print HXO.out HXR.out) ?_
        obtain ⟨rfl, hfb, htx, hsz⟩ := par_back (HC.out.good) HP.out
        have hpe : prE true (fitVB D f x) (txt D f x) = 0 := by
          unfold prE
          rw [hfb, htx, tx_len, if_neg (by decide), if_neg (by decide), if_neg (by omega)]
        have hps : prS true (fitVB D f x) (txt D f x) = s.data.toList := by
          unfold prS
          rw [hpe, if_pos rfl, htx]
        rw [hpe, hps, QF.bytes_eq]
        have HFb := hidM hfb
        clear hfb htx hsz hpe hps e0 e1 e2 e3 e4 e5 e6 r0 r1 r2 r3
        rintro e Z ⟨rfl, gZ⟩
        have HGZ : Hid (Gr Y Z) := gZ
        clear gZ
        obtain ⟨e0, e1, e2, e3, e4, e5, e6⟩ := HFB.out Z (HGY.out.trans HGZ.out (fun _ _ h => h))
        obtain ⟨r0, r1, r2, r3⟩ := HXB.out Z HGZ.out
        go_wp2_with (go_at_call 16; refine Hid.out ?_)
        unfold Hid
        refine Calls.mono ((HC.out.gr (HGY.out.trans HGZ.out (fun _ _ h => h))).fits HXO.out ((HXR.out.kept fun b hb => HGZ.out.block b hb id).mono fun b hb => Nat.lt_of_lt_of_le hb HGZ.out.size)) ?_
        have hfe : fitE true (fitVB D f x) = 0 := by unfold fitE; rw [HFb.out]; rfl
        rw [hfe]
        clear hfe e0 e1 e2 e3 e4 e5 e6 r0 r1 r2 r3
        rintro e Z2 ⟨rfl, gZ⟩
        have HG5 : Hid (Gr w Z2) := (HGA.out.trans HGY.out (fun _ _ h => h)).trans (HGZ.out.trans gZ (fun _ _ h => h)) (fun _ _ h => h)
        clear gZ
        go_wp2_with fail
        go_ret
        exact ⟨rfl, HG5.out⟩
  · replace hmb : mb = false := by simpa using hmb
    have hpe : prE mb (fitVB D f v) (txt D f v) = 5 := by
      unfold prE
      rw [hmb, if_pos rfl]
    have hps : prS mb (fitVB D f v) (txt D f v) = [] := by
      unfold prS
      rw [hpe, if_neg (by decide)]
    have hfe : fitE mb (fitVB D f v) = 5 := by unfold fitE; rw [hmb]; rfl
    rw [hpe, hps]
    clear hpe hps hmb
    have HFE := hidM hfe
    clear hfe
    go_wp2_with (go_at_call 16; refine Hid.out ?_)
    unfold Hid
    refine Calls.mono ((HC.out.gr HG1.out).fits HVO.out ((HVR.out.kept fun b hb => HG1.out.block b hb id).mono fun b hb => Nat.lt_of_lt_of_le hb HG1.out.size)) ?_
    rw [HFE.out]
    rintro e Q ⟨rfl, gQ⟩
    have HG : Hid (Gr A2 Q) := HG1.out.trans gQ (fun _ _ h => h)
    clear gQ HG1 HFE e0 e1 e2 e3 e4 e5 e6 q0 q1 q2 q3
    obtain ⟨e0, e1, e2, e3, e4, e5, e6⟩ := HFB.out Q HG.out
    go_wp2_with (go_at_call 12; refine Hid.out ?_)
    unfold Hid
    refine Calls.mono ((HC.out.gr HG.out).parse s) ?_
    intro e Y1 hq
    cases hp : parR mb D f s with
    | none =>
      rw [hp] at hq
      obtain ⟨gy, val, er, a, rfl, ⟨z0, z1, z2, z3, z4, z5, rfl⟩, hne, h0, hle⟩ := hq
      have hb : (er != 0) = true := bne_iff_ne.2 hne
      have HY : Hid (Gr A2 Y1) := HG.out.trans gy (fun _ _ h => h)
      clear hne gy hp e0 e1 e2 e3 e4 e5 e6
      go_wp2_with fail
      go_ret
      exact ⟨by simp [h0, hle], (HGA.out.trans HY.out (fun _ _ h => h)).alloc _⟩
    | some x =>
      rw [hp] at hq
      obtain ⟨gy, val, rfl, xo, xc, rfl, hxc, hxok, hxr⟩ := hq
      obtain ⟨Y, hY⟩ : ∃ Y, Y1.alloc (.cells #[.bool x.nul, .int .i64 x.num, .string x.text, .slice xo x.list.length xc] 29) = Y := ⟨_, rfl⟩
      have gY : Gr Y1 Y := by rw [← hY]; exact gr_alloc Y1 _
      have hby : Y.heap[Y1.heap.size]? = some (.cells #[.bool x.nul, .int .i64 x.num, .string x.text, .slice xo x.list.length xc] 29) := by rw [← hY]; exact heap_alloc_new Y1 _
      have HGY : Hid (Gr A2 Y) := (HG.out.trans gy (fun _ _ h => h)).trans gY (fun _ _ h => h)
      have HXR : Hid (VRow (fun b => b < Y.heap.size) Y (D + 1) xo x.list) := (hxr.kept fun b hb => gY.block b hb.2 id).mono fun b hb => Nat.lt_of_lt_of_le hb.2 gY.size
      have HXB : Hid (∀ u, Gr Y u → u.cell? ⟨Y1.heap.size, 0, none⟩ = some (.bool x.nul) ∧ u.cell? ⟨Y1.heap.size, 1, none⟩ = some (.int .i64 x.num) ∧ u.cell? ⟨Y1.heap.size, 2, none⟩ = some (.string x.text) ∧ u.cell? ⟨Y1.heap.size, 3, none⟩ = some (.slice xo x.list.length xc)) := fun u hk => by
        have h := (hk.block _ (lt_of_heap hby) id).trans hby
        simp [World.cell?, h]
      have HXO := hidM hxok
      have HP := hidM hp
      clear hp hxok hxr hby gY gy hxc e0 e1 e2 e3 e4 e5 e6
      obtain ⟨e0, e1, e2, e3, e4, e5, e6⟩ := HFB.out Y HGY.out
      obtain ⟨r0, r1, r2, r3⟩ := HXB.out Y (Keeps.refl _ _)
      go_wp2_with (go_at_call 7; refine Hid.out ?_)
      unfold Hid
      refine Calls.mono ((HC.out.gr HGY.out).print HXO.out HXR.out) ?_
      obtain ⟨rfl, hfb, htx, hsz⟩ := par_back (HC.out.good) HP.out
      have hpe : prE true (fitVB D f x) (txt D f x) = 0 := by
        unfold prE
        rw [hfb, htx, tx_len, if_neg (by decide), if_neg (by decide), if_neg (by omega)]
      have hps : prS true (fitVB D f x) (txt D f x) = s.data.toList := by
        unfold prS
        rw [hpe, if_pos rfl, htx]
      rw [hpe, hps, QF.bytes_eq]
      have HFb := hidM hfb
      clear hfb htx hsz hpe hps e0 e1 e2 e3 e4 e5 e6 r0 r1 r2 r3
      rintro e Z ⟨rfl, gZ⟩
      have HGZ : Hid (Gr Y Z) := gZ
      clear gZ
      obtain ⟨e0, e1, e2, e3, e4, e5, e6⟩ := HFB.out Z (HGY.out.trans HGZ.out (fun _ _ h => h))
      obtain ⟨r0, r1, r2, r3⟩ := HXB.out Z HGZ.out
      go_wp2_with (go_at_call 16; refine Hid.out ?_)
      unfold Hid
      refine Calls.mono ((HC.out.gr (HGY.out.trans HGZ.out (fun _ _ h => h))).fits HXO.out ((HXR.out.kept fun b hb => HGZ.out.block b hb id).mono fun b hb => Nat.lt_of_lt_of_le hb HGZ.out.size)) ?_
      have hfe : fitE true (fitVB D f x) = 0 := by unfold fitE; rw [HFb.out]; rfl
      rw [hfe]
      clear hfe e0 e1 e2 e3 e4 e5 e6 r0 r1 r2 r3
      rintro e Z2 ⟨rfl, gZ⟩
      have HG5 : Hid (Gr w Z2) := (HGA.out.trans HGY.out (fun _ _ h => h)).trans (HGZ.out.trans gZ (fun _ _ h => h)) (fun _ _ h => h)
      clear gZ
      go_wp2_with fail
      go_ret
      exact ⟨rfl, HG5.out⟩
end Go.Proofs.YtfoifmacobldbaaGreatDoor.Kit
