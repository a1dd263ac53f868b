import Derived.Test.YtdihbfjjddmbiaaGreatDoorYB
set_option maxRecDepth 100000
set_option maxHeartbeats 4000000
namespace Go.Proofs.YtdihbfjjddmbiaaGreatDoor.Kit
open Go.RowKit Go.Shelf Go.Deep
set_option linter.unusedVariables false
set_option linter.unusedSimpArgs false
attribute [local go_sem] run_store_func
theorem spoilBytes9 (B n : Nat) (hn : n ≤ 1000000) (cs : Array Value) (W : World) (hb : W.heap[B]? = some (.cells cs 5 (0, 0))) (hs : cs.size = n) :
    Calls Tryz.prog 9 #[.slice (some ⟨B, 0, none⟩) n n] W fun e w' => e = .returned (.tuple #[]) ∧ Keeps W w' (fun z => z = B) := by
  have HB : Hid (∃ cs, W.heap[B]? = some (.cells cs 5 (0, 0)) ∧ cs.size = n) := ⟨cs, hb, hs⟩
  clear hb hs
  go_enter Tryz.func9, Tryz.ntmps9
  go_wp2
  go_loopw [2] (fun p wr => ∃ k : Nat, k ≤ n ∧ p = .int .i64 (k : Int) ∧ Hid (Keeps W wr (fun z => z = B)) ∧ Hid (∃ cs, wr.heap[B]? = some (.cells cs 5 (0, 0)) ∧ cs.size = n)) (fun p _ => n - (intOf p).toNat)
  case atStart => exact ⟨0, by omega, rfl, Keeps.refl _ _, HB.out⟩
  case round =>
    obtain ⟨k, hk, rfl, HK, HR⟩ := hrel
    by_cases hlt : k < n
    · obtain ⟨c1, h1, h2⟩ := HR.out
      have hltI : (k : Int) < (n : Int) := by omega
      have c0 : wr.cell? ⟨B, k, none⟩ = some (c1[k]'(by omega)) := by rw [cell_of h1, Array.getElem?_eq_getElem (by omega)]
      have z0 := frz h1 k
      obtain ⟨v, hv⟩ : ∃ v, v = c1[k]'(by omega) := ⟨_, rfl⟩
      rw [← hv] at c0
      have H1 := hidM h1
      have H2 := hidM h2
      clear hv h1 h2
      go_wp2_with fail
      go_roundw
      case rel => exact ⟨k + 1, by omega, by simp, Keeps.setCell HK.out (fun _ => rfl) _, _, heap_setCell_same wr B k _ 5 _ H1.out, by simpa using H2.out⟩
      case measure => simp [intOf]; omega
    have hkn : k = n := by omega
    subst hkn
    obtain ⟨c1, h1, h2⟩ := HR.out
    have HX : Hid (∃ xs, wr.ownsRow 0 5 1 (.slice (some ⟨B, 0, none⟩) (k + 0) k) (k + 0) xs) := ⟨c1.toList.take k, by simp [h2], .inr ⟨B, k, c1, rfl, Nat.zero_le _, h1, Nat.le_refl _, by unfold maxLen; omega, by omega, by simp⟩⟩
    clear h1 h2
    go_wp2_with fail
    go_loopw [0, 3] (fun v p w2 => ∃ (j : Nat) (vo : Option Addr) (vc : Nat), j ≤ 20 ∧ p = .int .i64 (j : Int) ∧ v = .slice vo (k + j : Nat) vc ∧ Hid (∃ ys, w2.ownsRow 0 5 1 (.slice vo (k + j) vc) (k + j) ys) ∧ Hid (Keeps W w2 (fun z => z = B)) ∧ Hid (∀ g, (Value.slice vo (k + j) vc).ownBlock = some g → g = B ∨ W.heap.size ≤ g)) (fun _ p _ => 20 - (intOf p).toNat)
    case atStart => exact ⟨0, some ⟨B, 0, none⟩, k, by omega, rfl, rfl, HX.out, HK.out, fun g e => .inl (by have e' : B = g := by simpa [Value.ownBlock] using e
                                                                                                            exact e'.symm)⟩
    case round =>
      obtain ⟨j, vo, vc, hj, rfl, rfl, HO2, HY2, HB2⟩ := hrel
      by_cases hlt2 : j < 20
      · have hltI : (j : Int) < 20 := by omega
        obtain ⟨ys, hys⟩ := HO2.out
        have HG : Hid (∀ x, Gr wr (wr.alloc (.cells #[.int .u8 x] 5))) := fun x => gr_alloc _ _
        have HO3 : Hid (∀ x, (wr.alloc (.cells #[.int .u8 x] 5)).ownsRow 0 5 1 (.slice vo (k + j) vc) (k + j) ys) := fun x => hys.alloc _
        have HSr : Hid (∀ x, Src Tryz.prog 1 30 (.slice (some ⟨wr.heap.size, 0, none⟩) 1 1) 1 [.int .u8 x] (wr.alloc (.cells #[.int .u8 x] 5))) := fun x => src_u8 wr [.int .u8 x] 1 rfl (fun v hv => ⟨x, by simpa using hv⟩)
        clear hys
        go_wp2_with (at_builtin; refine Hid.out ?_)
        unfold Hid
        refine wpList_append_anyN (P := Tryz.prog) _ rfl (.tmp 21) (.tmp 25) 30 30 rfl 5 (.int .u8 0) 1 1 Tryz.underlying30 info5 rfl _ _ _ rfl (HO3.out _) _ _ _ rfl (HSr.out _) (by omega) (by omega) ?_
        refine Hid.out ?_
        unfold Hid
        intro v' w3 hown hgrow hnew
        obtain ⟨vo', vc', rfl⟩ := own_formK hown
        have hkG := Keeps.ofGrown hgrow
        have HE : Hid (Keeps W w3 (fun z => z = B)) := (HY2.out.tr ((HG.out _).mono fun _ _ h => h.elim)).trans hkG fun z hz e => (HB2.out z e).resolve_right (by omega)
        have HF : Hid (∀ g, (Value.slice vo' (k + (j + 1)) vc').ownBlock = some g → g = B ∨ W.heap.size ≤ g) := fun g e => by
          rcases hnew with q | q
          · exact HB2.out g (q ▸ e)
          have := q g e; have := (HG.out 0).size; have := HY2.out.size
          simp at *
          omega
        have HO4 : Hid (∃ ys, w3.ownsRow 0 5 1 (.slice vo' (k + (j + 1)) vc') (k + (j + 1)) ys) := ⟨_, hown⟩
        clear hown hgrow hnew hkG
        go_wp2_with fail
        go_roundw
        case rel => exact ⟨j + 1, vo', vc', by omega, by simp, rfl, HO4.out, HE.out, HF.out⟩
        case measure => simp [intOf]; omega
      have hj9 : j = 20 := by omega
      subst hj9
      obtain ⟨ys, hys⟩ := HO2.out
      obtain ⟨Z, hZ⟩ : ∃ Z, Z = (List.replicate 90 (Value.int .u8 0)).toArray := ⟨_, rfl⟩
      have hmk : ∀ w : World, (Instr.makeSlice 30 (.int .i64 90) (.int .i64 90)).run Tryz.prog w = .ok (.slice (some ⟨w.heap.size, 0, none⟩) 90 90) (w.alloc (.cells Z 5)) := fun w => by rw [hZ]; kernel_rfl
      obtain ⟨A0, hA0⟩ := ex (wr.alloc (.cells Z 5))
      have HG : Hid (Gr wr A0) := by rw [← hA0]; exact gr_alloc _ _
      have HO3 : Hid (A0.ownsRow 0 5 1 (.slice vo (k + 20) vc) (k + 20) ys) := by rw [← hA0]; exact hys.alloc _
      have HSr : Hid (Src Tryz.prog 1 30 (.slice (some ⟨wr.heap.size, 0, none⟩) 90 90) 90 (List.replicate 90 (Value.int .u8 0)) A0) := by rw [← hA0, hZ]; exact src_u8 wr _ 90 (by simp) (fun v hv => ⟨0, (List.eq_of_mem_replicate hv)⟩)
      clear hys hZ
      go_wp2_with (at_builtin; refine Hid.out ?_)
      unfold Hid
      refine wpList_append_anyN (P := Tryz.prog) _ rfl (.tmp 28) (.tmp 29) 30 30 rfl 5 (.int .u8 0) 1 1 Tryz.underlying30 info5 rfl _ _ _ rfl HO3.out _ _ _ rfl HSr.out (by omega) (by omega) ?_
      refine Hid.out ?_
      unfold Hid
      intro v' w3 hown hgrow hnew
      have hkG := Keeps.ofGrown hgrow
      have HE : Hid (Keeps W w3 (fun z => z = B)) := (HY2.out.tr (HG.out.mono fun _ _ h => h.elim)).trans hkG fun z hz e => (HB2.out z e).resolve_right (by omega)
      clear hown hgrow hnew hkG hmk hA0
      go_wp2_with fail
      go_end0
      exact ⟨rfl, HE.out⟩
end Go.Proofs.YtdihbfjjddmbiaaGreatDoor.Kit
namespace Go.Proofs.YtdihbfjjddmbiaaGreatDoor.Kit
open Go.RowKit Go.Shelf Go.Deep
set_option linter.unusedVariables false
attribute [local go_sem] run_store_func
theorem put7_box {V : World} {Y t : Nat} {x0 x1 x2 x3 x4 x5 x6 : Value} (y0 y1 y2 y3 y4 y5 y6 : Value) (h : V.heap[Y]? = some (.cells #[x0, x1, x2, x3, x4, x5, x6] t (0, 0))) : (((((((V.setCell ⟨Y, 0, none⟩ y0).setCell ⟨Y, 1, none⟩ y1).setCell ⟨Y, 2, none⟩ y2).setCell ⟨Y, 3, none⟩ y3).setCell ⟨Y, 4, none⟩ y4).setCell ⟨Y, 5, none⟩ y5).setCell ⟨Y, 6, none⟩ y6).heap[Y]? = some (.cells #[y0, y1, y2, y3, y4, y5, y6] t (0, 0)) := by
  have h0 : (V.setCell ⟨Y, 0, none⟩ y0).heap[Y]? = some (.cells #[y0, x1, x2, x3, x4, x5, x6] t (0, 0)) := heap_setCell_same _ Y 0 _ _ y0 h
  have h1 : ((V.setCell ⟨Y, 0, none⟩ y0).setCell ⟨Y, 1, none⟩ y1).heap[Y]? = some (.cells #[y0, y1, x2, x3, x4, x5, x6] t (0, 0)) := heap_setCell_same _ Y 1 _ _ y1 h0
  have h2 : (((V.setCell ⟨Y, 0, none⟩ y0).setCell ⟨Y, 1, none⟩ y1).setCell ⟨Y, 2, none⟩ y2).heap[Y]? = some (.cells #[y0, y1, y2, x3, x4, x5, x6] t (0, 0)) := heap_setCell_same _ Y 2 _ _ y2 h1
  have h3 : ((((V.setCell ⟨Y, 0, none⟩ y0).setCell ⟨Y, 1, none⟩ y1).setCell ⟨Y, 2, none⟩ y2).setCell ⟨Y, 3, none⟩ y3).heap[Y]? = some (.cells #[y0, y1, y2, y3, x4, x5, x6] t (0, 0)) := heap_setCell_same _ Y 3 _ _ y3 h2
  have h4 : (((((V.setCell ⟨Y, 0, none⟩ y0).setCell ⟨Y, 1, none⟩ y1).setCell ⟨Y, 2, none⟩ y2).setCell ⟨Y, 3, none⟩ y3).setCell ⟨Y, 4, none⟩ y4).heap[Y]? = some (.cells #[y0, y1, y2, y3, y4, x5, x6] t (0, 0)) := heap_setCell_same _ Y 4 _ _ y4 h3
  have h5 : ((((((V.setCell ⟨Y, 0, none⟩ y0).setCell ⟨Y, 1, none⟩ y1).setCell ⟨Y, 2, none⟩ y2).setCell ⟨Y, 3, none⟩ y3).setCell ⟨Y, 4, none⟩ y4).setCell ⟨Y, 5, none⟩ y5).heap[Y]? = some (.cells #[y0, y1, y2, y3, y4, y5, x6] t (0, 0)) := heap_setCell_same _ Y 5 _ _ y5 h4
  have h6 : (((((((V.setCell ⟨Y, 0, none⟩ y0).setCell ⟨Y, 1, none⟩ y1).setCell ⟨Y, 2, none⟩ y2).setCell ⟨Y, 3, none⟩ y3).setCell ⟨Y, 4, none⟩ y4).setCell ⟨Y, 5, none⟩ y5).setCell ⟨Y, 6, none⟩ y6).heap[Y]? = some (.cells #[y0, y1, y2, y3, y4, y5, y6] t (0, 0)) := heap_setCell_same _ Y 6 _ _ y6 h5
  exact h6
theorem put7_keeps (V : World) (Y : Nat) (y0 y1 y2 y3 y4 y5 y6 : Value) : Keeps V (((((((V.setCell ⟨Y, 0, none⟩ y0).setCell ⟨Y, 1, none⟩ y1).setCell ⟨Y, 2, none⟩ y2).setCell ⟨Y, 3, none⟩ y3).setCell ⟨Y, 4, none⟩ y4).setCell ⟨Y, 5, none⟩ y5).setCell ⟨Y, 6, none⟩ y6) (fun z => z = Y) :=
  (((((((Keeps.refl V (fun z => z = Y)).setCell (p := ⟨Y, 0, none⟩) (fun _ => rfl) _).setCell (p := ⟨Y, 1, none⟩) (fun _ => rfl) _).setCell (p := ⟨Y, 2, none⟩) (fun _ => rfl) _).setCell (p := ⟨Y, 3, none⟩) (fun _ => rfl) _).setCell (p := ⟨Y, 4, none⟩) (fun _ => rfl) _).setCell (p := ⟨Y, 5, none⟩) (fun _ => rfl) _).setCell (p := ⟨Y, 6, none⟩) (fun _ => rfl) _
theorem results_cell80 {fn : Func} {t : Tmp} {tmps : Array Value} {g : Nat} {cs : Array Value} {w : World} (h : fn.results = #[.cell t 52]) (ht : tmps.getD t undef = .pointer (some ⟨g, 0, none⟩)) (hg : w.heap[g]? = some (.cells cs 52 (0, 0))) (hi : (Tryz.prog.info? 52).map (·.size) = some cs.size) :
    (results fn tmps).run Tryz.prog w = .ok (.agg cs) w := by
  have hl := run_loadVar_row (P := Tryz.prog) w g 52 52 cs (0, 0) _ hg Tryz.underlying52 rfl hi
  unfold results
  rw [h]
  simp only [Array.mapM_eq_mapM_toList, List.mapM_cons, List.mapM_nil, ht]
  simp [asAddr, hl]
theorem one75 (p : Nat) (bo : Option Addr) (B : List UInt8) (bc d rb lb : Nat) (lev : Int) (r : Rd FT) (h76 : RdC p bo B bc 103 #[.pointer (some ⟨p, 0, none⟩), .int .i64 lev] r (FV d)) :
    ∀ W a g, RAt W p bo B bc a g → W.heap[rb]? = some (.cells #[.pointer (some ⟨p, 0, none⟩)] 109 (0, 0)) ∧ W.heap[lb]? = some (.cells #[.int .i64 lev] 3 (0, 0)) → Calls Tryz.prog 102 #[.pointer (some ⟨rb, 0, none⟩), .pointer (some ⟨lb, 0, none⟩)] W (RdQ W p bo B bc (r (a, g)) (FV d W)) := by
  intro W a g hR hbx
  obtain ⟨R, hRes⟩ : ∃ R, R = r (a, g) := ⟨_, rfl⟩
  rw [← hRes]
  obtain ⟨V0, hV0⟩ := ex (W.alloc (.cells #[.string ⟨#[]⟩, .bool false, .int .i64 0, .int .i64 0, .int .i64 0, .int .i64 0, .slice none 0 0] 52))
  have g0' : Gr W V0 := by rw [← hV0]; exact gr_alloc W _
  have HBx0 : Hid (V0.heap[W.heap.size]? = some (.cells #[.string ⟨#[]⟩, .bool false, .int .i64 0, .int .i64 0, .int .i64 0, .int .i64 0, .slice none 0 0] 52 (0, 0))) := by show _ = _; rw [← hV0]; exact heap_alloc_new W _
  have HR00 := hidM hR
  have HG0 : Hid (Keeps W V0 (fun z => z = p)) := g0'.mono fun _ _ h => h.elim
  have hq := h76 V0 a g (hR.gr g0')
  rw [← hRes] at hq
  have HQ := hidM hq
  have HNe : Hid (p < W.heap.size) := hR.lt
  have HSz : Hid (W.heap.size ≤ V0.heap.size) := g0'.size
  have c1 : V0.cell? ⟨rb, 0, none⟩ = some (.pointer (some ⟨p, 0, none⟩)) := g0'.cell' (by simp [World.cell?, hbx.1]) id
  have c2 : V0.cell? ⟨lb, 0, none⟩ = some (.int .i64 lev) := g0'.cell' (by simp [World.cell?, hbx.2]) id
  obtain ⟨b, hb⟩ : ∃ b, b = W.heap.size := ⟨_, rfl⟩
  have HV := hidM hV0
  clear hq hR hbx g0' hRes
  go_enter Tryz.func102, Tryz.ntmps102
  go_wp2_with (go_at_call 103; refine Hid.out ?_)
  unfold Hid
  try rw [HV.out]
  rw [← hb]
  rw [← hb] at HBx0 HNe
  have HB := hidM hb
  clear HV hb hV0 c1 c2
  cases R with
  | error er =>
    refine Calls.mono HQ.out ?_
    rintro e' U ⟨hk, rfl⟩
    have HGe := hidM (HG0.out.tr hk)
    clear hk
    go_wp2_with fail
    exact ⟨rfl, RdQ.err HGe.out rfl⟩
  | ok q =>
    obtain ⟨x, a1, g1⟩ := q
    refine Calls.mono HQ.out ?_
    rintro e' U ⟨hk, v, rfl, ⟨ko, kc, rfl, hkc, hrow⟩, hR⟩
    have HBx := hidM ((hk.block b (lt_of_heap HBx0.out) (by have := HNe.out; omega)).trans HBx0.out)
    have HG1 := hidM (HG0.out.tr hk)
    have HR1 := hidM hR
    have HK := hidM (And.intro hkc hrow)
    have HLt : Hid (b < V0.heap.size) := lt_of_heap HBx0.out
    clear hk hR hkc hrow HBx0 HQ
    obtain ⟨z0, z1, z2, z3, z4, z5, z6⟩ := fz7 HBx.out
    obtain ⟨t0, t1, t2, t3, t4, t5, t6⟩ := ce7 HBx.out
    go_wp2_with fail
    have hb3 := put7_box (.string x.name) (.bool x.nul) (.int .i64 x.kind) (.int .i64 x.width) (.int .i64 x.id) (.int .i64 x.index) (.slice ko x.kids.length kc) HBx.out
    have k3 := put7_keeps U b (.string x.name) (.bool x.nul) (.int .i64 x.kind) (.int .i64 x.width) (.int .i64 x.id) (.int .i64 x.index) (.slice ko x.kids.length kc)
    have kW := HG1.out.trans k3 (fun j hj h => by have := HB.out; omega)
    have hrow' := (HK.out.2.kept fun z z1 z2 => k3.block z z2 (by have := HLt.out; omega)).wide (by have := HSz.out; omega) k3.size
    (try simp only [Exit.inBlock, Exit.then])
    exact bodyPost_ret (results_cell80 rfl rfl hb3 (by kernel_rfl)) rfl (RdQ.ok kW rfl ⟨ko, kc, rfl, HK.out.1, hrow'⟩ (RAt.over HR00.out HR1.out kW (k3.block p (lt_of_heap HR1.out.box) (by have := HNe.out; omega))))
theorem fields59 (p : Nat) (bo : Option Addr) (B : List UInt8) (bc n d : Nat) (lev : Int) (r : Rd FT) (hn : n ≤ 65535) (h76 : RdC p bo B bc 103 #[.pointer (some ⟨p, 0, none⟩), .int .i64 lev] r (FV d)) :
    RdC p bo B bc 90 #[.pointer (some ⟨p, 0, none⟩), .int .i64 (n : Int), .int .i64 lev] (sevR n r) (fun W w' l v => ∃ vo vc, v = .slice vo l.length vc ∧ l.length ≤ vc ∧ RowI W.heap.size w'.heap.size w' (d + 1) vo vc l) := by
  intro W a g hR
  obtain ⟨V0, hV0⟩ := ex ((W.alloc (.cells #[.pointer (some ⟨p, 0, none⟩)] 109)).alloc (.cells #[.int .i64 lev] 3))
  have g1' : Gr W (W.alloc (.cells #[.pointer (some ⟨p, 0, none⟩)] 109)) := gr_alloc W _
  have g2' : Gr (W.alloc (.cells #[.pointer (some ⟨p, 0, none⟩)] 109)) V0 := by rw [← hV0]; exact gr_alloc _ _
  have g0' : Gr W V0 := g1'.tr g2'
  have hs1 : (W.alloc (.cells #[.pointer (some ⟨p, 0, none⟩)] 109)).heap.size = W.heap.size + 1 := by simp
  have b1 : V0.heap[W.heap.size]? = some (.cells #[.pointer (some ⟨p, 0, none⟩)] 109 (0, 0)) := (g2'.block _ (by omega) id).trans (heap_alloc_new W _)
  have b2 : V0.heap[W.heap.size + 1]? = some (.cells #[.int .i64 lev] 3 (0, 0)) := by have := heap_alloc_new (W.alloc (.cells #[.pointer (some ⟨p, 0, none⟩)] 109)) (.cells #[.int .i64 lev] 3); rw [hs1, hV0] at this; exact this
  have hp := hR.lt
  have HQ := hidM (fields74 p bo B bc n d W.heap.size (W.heap.size + 1) lev r hn (one75 p bo B bc d _ _ lev r h76) V0 a g (hR.gr g0') ⟨b1, b2⟩ ⟨by omega, by omega⟩)
  have HG0 : Hid (Gr W V0) := g0'
  have HV := hidM hV0
  have hmf : ∀ (fn : Fn) (first cap : Array Value) (w : World), (Instr.makeFunc fn first cap).run Tryz.prog w = .ok (.func fn first cap) w := fun _ _ _ _ => rfl
  clear hR hV0 g1' g2' g0' b1 b2 hp hs1 h76
  go_enter Tryz.func90, Tryz.ntmps90
  go_wp2_with (go_at_call 101; refine Hid.out ?_)
  unfold Hid
  rw [HV.out]
  have hq := HQ.out
  cases hr : sevR n r (a, g) with
  | error er =>
    rw [hr] at hq
    refine Calls.mono hq ?_
    rintro e' U ⟨hk, rfl⟩
    have HGe := hidM ((HG0.out.mono fun _ _ h => h.elim).tr hk)
    have Hr := hidM hr
    clear hk hq hr HQ
    go_wp2_with fail
    exact ⟨rfl, RdQ.err HGe.out Hr.out⟩
  | ok q =>
    obtain ⟨l, a1, g1⟩ := q
    rw [hr] at hq
    refine Calls.mono hq ?_
    rintro e' U ⟨hk, v, rfl, ⟨vo, vc, rfl, hvc, hrow⟩, hR⟩
    have HGe := hidM ((HG0.out.mono fun _ _ h => h.elim).tr hk)
    have HK := hidM (And.intro hvc hrow)
    have HR1 := hidM hR
    have Hr := hidM hr
    clear hk hq hr HQ hR hvc hrow
    go_wp2_with fail
    go_ret
    exact RdQ.ok HGe.out Hr.out ⟨vo, vc, rfl, HK.out.1, HK.out.2.wide HG0.out.size (Nat.le_refl _)⟩ HR1.out
end Go.Proofs.YtdihbfjjddmbiaaGreatDoor.Kit
namespace Go.Proofs.YtdihbfjjddmbiaaGreatDoor.Kit
open Go.RowKit Go.Shelf Go.Deep
set_option linter.unusedVariables false
set_option linter.unusedSimpArgs false
attribute [local go_sem] run_store_func
def markF (i : Int) : FT := .mk ⟨#[109]⟩ false (90 + i) 0 0 0 []
theorem mark31 (i : Nat) (hi : i < 3) (W : World) : Calls Tryz.prog 31 #[.int .i64 (i : Int)] W fun e w' => e = .returned (.agg #[.string ⟨#[109]⟩, .bool false, .int .i64 (90 + (i : Int)), .int .i64 0, .int .i64 0, .int .i64 0, .slice none 0 0]) ∧ Gr W w' := by
  obtain ⟨V0, hV0⟩ := ex (W.alloc (.cells #[.string ⟨#[]⟩, .bool false, .int .i64 0, .int .i64 0, .int .i64 0, .int .i64 0, .slice none 0 0] 52))
  have g0 := gr_al hV0
  have b0 : V0.heap[W.heap.size]? = some (.cells #[.string ⟨#[]⟩, .bool false, .int .i64 0, .int .i64 0, .int .i64 0, .int .i64 0, .slice none 0 0] 52 (0, 0)) := by rw [← hV0]; exact heap_alloc_new W _
  have HB0 := hidM b0
  have HG0 := hidM g0
  obtain ⟨z0, z1, z2, z3, z4, z5, z6⟩ := fz7 b0
  obtain ⟨t0, t1, t2, t3, t4, t5, t6⟩ := ce7 b0
  clear b0 g0
  go_enter Tryz.func31, Tryz.ntmps31
  go_wp2
  have hb3 := put7_box (.string ⟨#[109]⟩) (.bool false) (.int .i64 (90 + (i : Int))) (.int .i64 0) (.int .i64 0) (.int .i64 0) (.slice none 0 0) HB0.out
  have k3 := put7_keeps V0 W.heap.size (.string ⟨#[109]⟩) (.bool false) (.int .i64 (90 + (i : Int))) (.int .i64 0) (.int .i64 0) (.int .i64 0) (.slice none 0 0)
  have kW : Gr W _ := (HG0.out.mono fun _ _ h => h.elim).trans k3 (fun j hj h => by omega)
  (try simp only [Exit.inBlock, Exit.then])
  exact bodyPost_ret (results_cell80 rfl rfl hb3 (by kernel_rfl)) rfl ⟨rfl, kW⟩
def MkAt (S : Nat → Prop) (W : World) (ao : Option Addr) (ca n : Nat) : Prop := n + 3 ≤ ca ∧ ∃ b, ao = some ⟨b, 0, none⟩ ∧ S b ∧ ∀ i : Nat, i < 3 → CellsAt W b ((n + i) * 7) (markF i) none 0
def RowM (S : Nat → Prop) (W : World) : Nat → Option Addr → Nat → List FT → Prop
  | 0, ao, ca, l => l = [] ∧ MkAt S W ao ca 0
  | d + 1, ao, ca, l => l.length ≤ big ∧ MkAt S W ao ca l.length ∧ ∀ i (h : i < l.length), ∃ b ao' ca', ao = some ⟨b, 0, none⟩ ∧ CellsAt W b (i * 7) l[i] ao' ca' ∧ RowM S W d ao' ca' l[i].kids
theorem MkAt.kept {S : Nat → Prop} {W W' : World} (k : KpOf S W W') {ao : Option Addr} {ca n : Nat} (h : MkAt S W ao ca n) : MkAt S W' ao ca n := by
  obtain ⟨h1, b, e, hb, hc⟩ := h
  exact ⟨h1, b, e, hb, fun i hi => (hc i hi).kept (k b hb)⟩
theorem RowM.mk {S : Nat → Prop} {W : World} : ∀ {d : Nat} {ao : Option Addr} {ca : Nat} {l : List FT}, RowM S W d ao ca l → MkAt S W ao ca l.length
  | 0, _, _, _, h => by obtain ⟨rfl, h⟩ := h; exact h
  | _ + 1, _, _, _, h => h.2.1
theorem RowM.kept {S : Nat → Prop} {W W' : World} (k : KpOf S W W') : ∀ {d : Nat} {ao : Option Addr} {ca : Nat} {l : List FT}, RowM S W d ao ca l → RowM S W' d ao ca l
  | 0, _, _, _, h => ⟨h.1, h.2.kept k⟩
  | _ + 1, _, _, _, h => ⟨h.1, h.2.1.kept k, fun i hi => by
    obtain ⟨b, ao', ca', e, hc, hr⟩ := h.2.2 i hi
    obtain ⟨-, b', e', hb, -⟩ := h.2.1
    have : b' = b := by rw [e] at e'; cases e'; rfl
    subst this
    exact ⟨b', ao', ca', e, hc.kept (k b' hb), hr.kept k⟩⟩
theorem RowM.mono {S T : Nat → Prop} (hST : ∀ b, S b → T b) {W : World} : ∀ {d : Nat} {ao : Option Addr} {ca : Nat} {l : List FT}, RowM S W d ao ca l → RowM T W d ao ca l
  | 0, _, _, _, h => ⟨h.1, h.2.1, by obtain ⟨-, b, e, hb, hc⟩ := h.2; exact ⟨b, e, hST b hb, hc⟩⟩
  | _ + 1, _, _, _, h => ⟨h.1, ⟨h.2.1.1, by obtain ⟨-, b, e, hb, hc⟩ := h.2.1; exact ⟨b, e, hST b hb, hc⟩⟩, fun i hi => by
    obtain ⟨b, ao', ca', e, hc, hr⟩ := h.2.2 i hi
    exact ⟨b, ao', ca', e, hc, hr.mono hST⟩⟩
theorem RowM.rowAt {S : Nat → Prop} {W : World} : ∀ {d : Nat} {ao : Option Addr} {ca : Nat} {l : List FT}, RowM S W d ao ca l → RowAt S W d ao l
  | 0, _, _, _, h => h.1
  | _ + 1, _, _, _, h => ⟨h.1, fun hn => by
    obtain ⟨-, b', e', hb, -⟩ := h.2.1
    refine ⟨b', 0, e', hb, fun i hi => ?_⟩
    obtain ⟨b, ao', ca', e, hc, hr⟩ := h.2.2 i hi
    have : b' = b := by rw [e] at e'; cases e'; rfl
    subst this
    rw [Nat.zero_add]
    exact ⟨ao', ca', hc, by have := hr.mk.1; omega, hr.rowAt⟩⟩
structure FM (W w' : World) (d N : Nat) (l : List FE) (vo : Option Addr) (vc : Nat) : Prop where
  row : LAt W w' 52 7 fcel l vo vc
  kids : ∀ i (h : i < l.length), i < N → RowM (fun b => W.heap.size ≤ b ∧ b < w'.heap.size ∧ (Value.slice vo l.length vc).ownBlock ≠ some b) w' d l[i].2.1 l[i].2.2 l[i].1.kids
theorem FM.gr {W U U' : World} {d N : Nat} {l : List FE} {vo : Option Addr} {vc : Nat} (h : FM W U d N l vo vc) (k : Gr U U') : FM W U' d N l vo vc :=
  ⟨⟨row_kp h.row.own fun g e => k.block g (own_lt h.row.own g e) id, h.row.new⟩, fun i hi hN => ((h.kids i hi hN).kept fun b hb => k.block b hb.2.1 id).mono fun b hb => ⟨hb.1, Nat.lt_of_lt_of_le hb.2.1 k.size, hb.2.2⟩⟩
theorem FM.push {W wr U w1 : World} {d N : Nat} {l : List FE} {vo vo' : Option Addr} {vc vc' n : Nat} {x : FT} {ko : Option Addr} {kc : Nat} {ob : Obj} (hW : W.heap.size ≤ wr.heap.size) (hU : wr.heap.size ≤ U.heap.size) (h0 : FM W wr d N l vo vc) (h : FM W U d N l vo vc) (hl : l.length = n) (hr : n < N → RowM (fun b => wr.heap.size ≤ b ∧ b < U.heap.size) U d ko kc x.kids)
    (hown : w1.ownsRow 0 52 7 (.slice vo' (n + 1) vc') (n + 1) (l.flatMap fcel ++ fcel (x, ko, kc))) (hgrow : (U.alloc ob).grownBy w1 (Value.slice vo n vc).ownBlock) (hblk : (Value.slice vo' (n + 1) vc').ownBlock = (Value.slice vo n vc).ownBlock ∨ ∀ g, (Value.slice vo' (n + 1) vc').ownBlock = some g → (U.alloc ob).heap.size ≤ g) :
    FM W w1 d N (l ++ [(x, ko, kc)]) vo' vc' := by
  subst hl
  have gA : Gr U (U.alloc ob) := gr_alloc U _
  have sA := gA.size
  have kA : Keeps U w1 (fun z => (Value.slice vo l.length vc).ownBlock = some z) := (gA.mono fun _ _ h => h.elim).tr (Keeps.ofGrown hgrow)
  have hL : (l ++ [(x, ko, kc)]).length = l.length + 1 := by simp
  refine ⟨⟨?_, fun g e => ?_⟩, fun i hi hN => ?_⟩
  · rw [hL, List.flatMap_append]; simpa using hown
  · rw [hL] at e
    refine hblk.elim (fun q => h.row.new g (q ▸ e)) fun q => ?_
    have a1 := q g e
    omega
  rw [hL] at hi ⊢
  have hne : ∀ b, (W.heap.size ≤ b ∧ b < U.heap.size) → (Value.slice vo l.length vc).ownBlock ≠ some b → (Value.slice vo' (l.length + 1) vc').ownBlock ≠ some b := fun b hb hb' e => by
    rcases hblk with q | q
    · exact hb' (q ▸ e)
    have := q b e; omega
  by_cases hil : i < l.length
  · rw [List.getElem_append_left hil]
    exact ((h.kids i hil hN).kept fun b hb => kA.block b hb.2.1 hb.2.2).mono fun b hb => ⟨hb.1, Nat.lt_of_lt_of_le hb.2.1 kA.size, hne b ⟨hb.1, hb.2.1⟩ hb.2.2⟩
  have e : i = l.length := by omega
  subst e
  simp only [List.getElem_append_right (Nat.le_refl _), Nat.sub_self, List.getElem_cons_zero]
  have hn0 : ∀ b, wr.heap.size ≤ b → (Value.slice vo l.length vc).ownBlock ≠ some b := fun b hb e => by have := own_lt h0.row.own b e; omega
  exact ((hr hN).kept fun b hb => kA.block b hb.2 (hn0 b hb.1)).mono fun b hb => ⟨by omega, Nat.lt_of_lt_of_le hb.2 kA.size, hne b ⟨by omega, hb.2⟩ (hn0 b hb.1)⟩
def marksE : Nat → List FE
  | 0 => []
  | j + 1 => marksE j ++ [(markF j, none, 0)]
theorem marksE_len : ∀ j, (marksE j).length = j
  | 0 => rfl
  | j + 1 => by simp [marksE, marksE_len j]
theorem marksE_get : ∀ (j i : Nat) (h : i < (marksE j).length), (marksE j)[i] = (markF i, none, 0)
  | 0, i, h => by simp [marksE] at h
  | j + 1, i, h => by
    have hl := marksE_len j
    by_cases e : i < j
    · have : (marksE (j + 1))[i] = (marksE j)[i]'(by omega) := by simp only [marksE]; exact List.getElem_append_left (by omega)
      rw [this, marksE_get j i]
    have e' : i = j := by have := marksE_len (j + 1); omega
    subst e'
    simp only [marksE]
    rw [List.getElem_append_right (by omega)]
    simp
theorem FM.rowM {W w' : World} {d : Nat} {l : List FE} {vo : Option Addr} {vc : Nat} (h : FM W w' d l.length (l ++ marksE 3) vo vc) (hb : l.length ≤ big) : ∃ g, vo = some ⟨g, 0, none⟩ ∧ l.length + 3 ≤ vc ∧ RowM (fun b => W.heap.size ≤ b ∧ b < w'.heap.size) w' (d + 1) vo vc (l.map (·.1)) := by
  have hL : (l ++ marksE 3).length = l.length + 3 := by rw [List.length_append, marksE_len]
  rcases h.row.own.2 with ⟨e, h0⟩ | ⟨g, cap, cur, e, h1, h2, h3, h4⟩
  · omega
  cases e
  have hc : ∀ i (hi : i < (l ++ marksE 3).length) j, j < 7 → w'.cell? ⟨g, i * 7 + j, none⟩ = (fcel (l ++ marksE 3)[i])[j]? := fun i hi j hj => by
    rw [h.row.own.cellAt (i * 7 + j) (by omega), flat7 _ i hi j hj]
  have hcell : ∀ i (hi : i < (l ++ marksE 3).length), CellsAt w' g (i * 7) (l ++ marksE 3)[i].1 (l ++ marksE 3)[i].2.1 (l ++ marksE 3)[i].2.2 := fun i hi =>
    ⟨hc i hi 0 (by omega), hc i hi 1 (by omega), hc i hi 2 (by omega), hc i hi 3 (by omega), hc i hi 4 (by omega), hc i hi 5 (by omega), hc i hi 6 (by omega)⟩
  refine ⟨g, rfl, by omega, by simpa using hb, ⟨by simp; omega, g, rfl, ⟨h.row.new g rfl, own_lt h.row.own g rfl⟩, fun i hi => ?_⟩, fun i hi => ?_⟩
  · have := hcell (l.length + i) (by omega)
    have e : (l ++ marksE 3)[l.length + i]'(by omega) = (markF i, none, 0) := by
      rw [List.getElem_append_right (by omega)]
      simp only [Nat.add_sub_cancel_left]
      exact marksE_get 3 i _
    rw [e] at this
    simpa using this
  have hil : i < l.length := by simpa using hi
  have hg := hcell i (by omega)
  have hk := h.kids i (by omega) hil
  have e : (l ++ marksE 3)[i]'(by omega) = l[i] := List.getElem_append_left hil
  rw [e] at hg hk
  refine ⟨g, l[i].2.1, l[i].2.2, rfl, ?_, ?_⟩
  · rw [List.getElem_map]; exact hg
  rw [List.getElem_map]; exact hk.mono fun b hb => ⟨hb.1, hb.2.1⟩
end Go.Proofs.YtdihbfjjddmbiaaGreatDoor.Kit
