import Derived.Test.YtkodgneneiledaaGreatDoorYU
set_option maxRecDepth 100000
set_option maxHeartbeats 4000000
namespace Go.Proofs.YtkodgneneiledaaGreatDoor.Kit
open Go.RowKit Go.Shelf Go.Deep
set_option linter.unusedVariables false
attribute [local go_sem] run_store_func
theorem keeps_below {Y Z w4 : World} {M : Nat} (g : Gr Y Z) (h : Below M Z w4) (hM : M = Y.heap.size) : Keeps Y w4 (fun z => Y.heap.size ≤ z) :=
  ⟨h.os.trans g.os, h.tape.trans g.tape, h.output.trans g.output, Nat.le_trans g.size h.size, fun j hj _ => (h.block j (by omega)).trans (g.block j hj id)⟩
theorem gr_new {Y w4 : World} (k : Keeps Y w4 (fun z => Y.heap.size ≤ z)) : Gr Y w4 := ⟨k.os, k.tape, k.output, k.size, fun j hj _ => k.block j hj (by omega)⟩
theorem parseField10_short (s : ByteArray) (W : World) (hs : s.size ≤ 65536) : Calls Tryz.prog 10 #[.string s] W (PfQ W s) := by
  obtain ⟨R, hRes⟩ : ∃ R, R = whP s.data.toList (fldS s.data.toList) (0, []) := ⟨_, rfl⟩
  have HRes := hidP hRes
  have Hs := hidP hs
  have HR : Hid (R = bnd (.ok (0, [])) ((fieldP s.data.toList D0).bind fun f => finP s.data.toList (([f], []) : List FT × List (ByteArray × ByteArray)))) := by show R = _; rw [hRes]; exact wh_fld _
  obtain ⟨V, hV⟩ : ∃ V, (W.alloc (.cells #[.string ⟨#[]⟩, .bool false, .int .i64 0, .int .i64 0, .int .i64 0, .int .i64 0, .slice none 0 0] 37)).alloc (.cells #[.string s, .int .i64 0, .int .i64 (-1), .slice none 0 0] 62) = V := ⟨_, rfl⟩
  have q1 := gr_alloc W (.cells #[.string ⟨#[]⟩, .bool false, .int .i64 0, .int .i64 0, .int .i64 0, .int .i64 0, .slice none 0 0] 37)
  have q2 := gr_alloc (W.alloc (.cells #[.string ⟨#[]⟩, .bool false, .int .i64 0, .int .i64 0, .int .i64 0, .int .i64 0, .slice none 0 0] 37)) (.cells #[.string s, .int .i64 0, .int .i64 (-1), .slice none 0 0] 62)
  rw [hV] at q2
  have z1 : (W.alloc (.cells #[.string ⟨#[]⟩, .bool false, .int .i64 0, .int .i64 0, .int .i64 0, .int .i64 0, .slice none 0 0] 37)).heap.size = W.heap.size + 1 := by simp
  have h1 := heap_alloc_new W (.cells #[.string ⟨#[]⟩, .bool false, .int .i64 0, .int .i64 0, .int .i64 0, .int .i64 0, .slice none 0 0] 37)
  have h2 := heap_alloc_new (W.alloc (.cells #[.string ⟨#[]⟩, .bool false, .int .i64 0, .int .i64 0, .int .i64 0, .int .i64 0, .slice none 0 0] 37)) (.cells #[.string s, .int .i64 0, .int .i64 (-1), .slice none 0 0] 62)
  rw [hV, z1] at h2
  have h1 := (q2.block _ (by omega) id).trans h1
  obtain ⟨b, hb⟩ : ∃ b, b = W.heap.size := ⟨_, rfl⟩
  rw [← hb] at h1 h2
  have Hb := hidP hb
  obtain ⟨p, hp⟩ : ∃ p, p = b + 1 := ⟨_, rfl⟩
  rw [← hp] at h2
  have Hp := hidP hp
  have HGV : Hid (Gr W V) := q1.trans q2 fun _ _ h => h
  have HRb := hidP h1
  have HDA : Hid (DS V p s (.ok (0, []))) := ⟨0, none, 0, ⟨h2, hs, Nat.zero_le _, World.ownsRow_nil _ _ _ _, fun q e => by simp [Value.ownBlock] at e, by omega⟩, rfl, Nat.le_refl _, Nat.zero_le _⟩
  have HbP : Hid (b < p ∧ p < V.heap.size) := ⟨by omega, lt_of_heap h2⟩
  have HV := hidP hV
  have hlt : ¬ (65536 : Int) < (s.size : Int) := by omega
  have HFd := hidP (field_doc p s)
  have HEn := hidP (cm_of (end28 p s (s.size + 1)) (end28_dead p s))
  clear q1 q2 z1 h1 h2 hb hp hV hRes
  go_enter Tryz.func10, Tryz.ntmps10
  go_wp2_with (go_at_call 35; refine Hid.out ?_)
  unfold Hid
  rw [HV.out, ← Hb.out, ← Hp.out]
  clear HV Hp
  refine Calls.mono (HFd.out V (.ok (0, [])) HDA.out (fun st e => by cases e; show _ < 65537; omega)) ?_
  intro e U1 hp
  obtain ⟨x, ko, kc, rfl, hk, hD, hx⟩ := fld_post2 hp
  have hq0 : QB V (U1.alloc (.cells #[.string x.name, .bool x.nul, .int .i64 x.kind, .int .i64 x.width, .int .i64 x.id, .int .i64 x.index, .slice ko x.kids.length kc] 37)) p b U1.heap.size x ko kc := ⟨((gr_alloc U1 _).block b (Nat.lt_of_lt_of_le (lt_of_heap HRb.out) hk.size) id).trans ((hk.blk (lt_of_heap HRb.out) (by have := HbP.out; omega) (IntsB.of HRb.out (by decide))).trans HRb.out), heap_alloc_new U1 _, ⟨HbP.out.1, HbP.out.2, hk.size⟩, hk.tr (Gr.n p (gr_alloc U1 _))⟩
  obtain ⟨c, hc⟩ : ∃ c, c = U1.heap.size := ⟨_, rfl⟩
  rw [← hc] at hq0
  obtain ⟨y0, hy0⟩ : ∃ y, y = bnd (.ok (0, [])) (fieldP s.data.toList D0) := ⟨_, rfl⟩
  rw [← hy0] at hx hD
  have hR1 : R = bnd (qs y0) ((endP s.data.toList).bind fun _ => Pr.pure (([x], []) : List FT × List (ByteArray × ByteArray))) := by rw [HR.out, bnd_step (n := x) (fun y st e => by rw [← hy0] at e; exact (hx y st e).1), ← hy0]; rfl
  have HR1 := hidP hR1
  have HQ0 := hidP hq0
  have HD0 := hidP (hD.gr (gr_alloc U1 (.cells #[.string x.name, .bool x.nul, .int .i64 x.kind, .int .i64 x.width, .int .i64 x.id, .int .i64 x.index, .slice ko x.kids.length kc] 37)))
  have HX : Hid (∀ y st, y0 = .ok (y, st) → x.kids.length ≤ kc ∧ RowAt (NB p V (U1.alloc (.cells #[.string x.name, .bool x.nul, .int .i64 x.kind, .int .i64 x.width, .int .i64 x.id, .int .i64 x.index, .slice ko x.kids.length kc] 37))) (U1.alloc (.cells #[.string x.name, .bool x.nul, .int .i64 x.kind, .int .i64 x.width, .int .i64 x.id, .int .i64 x.index, .slice ko x.kids.length kc] 37)) D0 ko x.kids) := fun y st e => ⟨(hx y st e).2.1, (hx y st e).2.2.nb (fun z hz => (gr_alloc U1 _).block z hz.2.1 id) (gr_alloc U1 _).size⟩
  have Hc := hidP hc
  clear hp hk hD hx hq0 hR1 hy0 HR HFd HDA HRb hc
  go_wp2_with (go_at_call 28; refine Hid.out ?_)
  unfold Hid
  rw [← Hc.out]
  clear Hc
  generalize U1.alloc (.cells #[.string x.name, .bool x.nul, .int .i64 x.kind, .int .i64 x.width, .int .i64 x.id, .int .i64 x.index, .slice ko x.kids.length kc] 37) = X at HQ0 HD0 HX ⊢
  refine Calls.mono (HEn.out X (qs y0) HD0.out (fun st _ => by omega)) ?_
  intro e U9 hp
  obtain ⟨rfl, hk, hD⟩ := unit_post hp
  have HQ9 := hidP (HQ0.out.kpn hk)
  have HD9 := hidP hD
  have hs3 : R = bp (bnd (qs y0) (endP s.data.toList)) (fun _ => Pr.pure (([x], []) : List FT × List (ByteArray × ByteArray))) := HR1.out.trans bnd_bp
  have HR9 := hidP hs3
  have HX9 : Hid (∀ z, bnd (qs y0) (endP s.data.toList) = .ok z → x.kids.length ≤ kc ∧ RowAt (NB p V U9) U9 D0 ko x.kids) := fun z e => by obtain ⟨y, st, e2⟩ := bnd_from e; exact ⟨(HX.out y st e2).1, (HX.out y st e2).2.nb (fun z hz => hz.kpn hk HbP.out.2) hk.size⟩
  clear hp hk hD hs3 HQ0 HD0 HX HR1
  generalize bnd (qs y0) (endP s.data.toList) = y9 at HD9 HR9 HX9
  rcases y9 with o | ⟨u9, a9, g9⟩
  · have HRo : Hid (R = .error o) := HR9.out
    obtain ⟨aa, vn, hAt, _⟩ := (show DD U9 p s o from HD9.out)
    have i2 : U9.cell? ⟨p, 2, none⟩ = some (.int .i64 (o : Int)) := by simp [World.cell?, hAt]
    have h0o : (0 : Int) ≤ (o : Int) := by omega
    clear hAt HR9 HX9
    have z0 : U9.frozen? ⟨b, 0, none⟩ = false := frz HQ9.out.rb 0
    have v0 : U9.cell? ⟨b, 0, none⟩ = some (.string ⟨#[]⟩) := by simp [World.cell?, HQ9.out.rb]
    have z1 : U9.frozen? ⟨b, 1, none⟩ = false := frz HQ9.out.rb 1
    have v1 : U9.cell? ⟨b, 1, none⟩ = some (.bool false) := by simp [World.cell?, HQ9.out.rb]
    have z2 : U9.frozen? ⟨b, 2, none⟩ = false := frz HQ9.out.rb 2
    have v2 : U9.cell? ⟨b, 2, none⟩ = some (.int .i64 0) := by simp [World.cell?, HQ9.out.rb]
    have z3 : U9.frozen? ⟨b, 3, none⟩ = false := frz HQ9.out.rb 3
    have v3 : U9.cell? ⟨b, 3, none⟩ = some (.int .i64 0) := by simp [World.cell?, HQ9.out.rb]
    have z4 : U9.frozen? ⟨b, 4, none⟩ = false := frz HQ9.out.rb 4
    have v4 : U9.cell? ⟨b, 4, none⟩ = some (.int .i64 0) := by simp [World.cell?, HQ9.out.rb]
    have z5 : U9.frozen? ⟨b, 5, none⟩ = false := frz HQ9.out.rb 5
    have v5 : U9.cell? ⟨b, 5, none⟩ = some (.int .i64 0) := by simp [World.cell?, HQ9.out.rb]
    have z6 : U9.frozen? ⟨b, 6, none⟩ = false := frz HQ9.out.rb 6
    have v6 : U9.cell? ⟨b, 6, none⟩ = some (.slice none 0 0) := by simp [World.cell?, HQ9.out.rb]
    have npb : ¬ b = p := by have := HbP.out; omega
    have nbp : ¬ p = b := by have := HbP.out; omega
    go_wp2_with fail
    go_region
    (try go_wp2_with fail)
    have hb3 := put7_box (.string ⟨#[]⟩) (.bool false) (.int .i64 0) (.int .i64 0) (.int .i64 0) (.int .i64 0) (.slice none 0 0) HQ9.out.rb
    have k3 := put7_keeps U9 b (.string ⟨#[]⟩) (.bool false) (.int .i64 0) (.int .i64 0) (.int .i64 0) (.int .i64 0) (.slice none 0 0)
    obtain ⟨CH, hCH⟩ : ∃ CH, CH = (((((((U9.setCell ⟨b, 0, none⟩ (.string ⟨#[]⟩)).setCell ⟨b, 1, none⟩ (.bool false)).setCell ⟨b, 2, none⟩ (.int .i64 0)).setCell ⟨b, 3, none⟩ (.int .i64 0)).setCell ⟨b, 4, none⟩ (.int .i64 0)).setCell ⟨b, 5, none⟩ (.int .i64 0)).setCell ⟨b, 6, none⟩ (.slice none 0 0)) := ⟨_, rfl⟩
    rw [← hCH] at hb3 k3 ⊢
    clear hCH
    have hb4 : CH.drew.heap[b]? = _ := hb3
    have k4 : Keeps U9 CH.drew (fun z => z = b) := k3.trans ((gr_drewP (W := CH)).mono fun _ _ h => h.elim) fun _ _ h => h
    (try simp only [Exit.inBlock, Exit.then])
    exact bodyPost_ret (results_pf (z := .int .i64 8) (x := .int .i64 (o : Int)) rfl rfl rfl rfl hb4) rfl ⟨gr_pf Hb.out HbP.out.1 HGV.out HQ9.out.kp k4, .inl ⟨8, o, by decide, .inr (.inl ⟨Hs.out, o, HRes.out.symm.trans HRo.out, rfl, rfl⟩), rfl⟩⟩
  have HRo : Hid (R = .ok (([x], []), (a9, g9))) := HR9.out
  obtain ⟨hkc, hrow⟩ := HX9.out _ rfl
  have hrow9 : RowAt (fun z => V.heap.size ≤ z ∧ z < U9.heap.size) U9 D0 ko x.kids := hrow.mono fun z hz => ⟨hz.1, hz.2.1⟩
  obtain ⟨aa, vo, vc, hAt, _, hgc, hpos⟩ := (show DA U9 p s a9 g9 from HD9.out)
  have i2 : U9.cell? ⟨p, 2, none⟩ = some (.int .i64 (-1)) := by simp [World.cell?, hAt.box]
  have HCk := hidP (checkFieldR_n (fun z => V.heap.size ≤ z ∧ z < U9.heap.size) D0 x ko kc U9 hrow9 hkc (fun z h => h.2))
  have HRw := hidP hrow9
  have Hkc := hidP hkc
  have HAt := hidP hAt
  have Hgc : Hid (g9.length ≤ s.size) := by show g9.length ≤ s.size; omega
  clear hrow9 hrow hkc hAt hgc hpos HX9 HR9
  have s0 : U9.cell? ⟨c, 0, none⟩ = some (.string x.name) := by simp [World.cell?, HQ9.out.tb]
  have s1 : U9.cell? ⟨c, 1, none⟩ = some (.bool x.nul) := by simp [World.cell?, HQ9.out.tb]
  have s2 : U9.cell? ⟨c, 2, none⟩ = some (.int .i64 x.kind) := by simp [World.cell?, HQ9.out.tb]
  have s3 : U9.cell? ⟨c, 3, none⟩ = some (.int .i64 x.width) := by simp [World.cell?, HQ9.out.tb]
  have s4 : U9.cell? ⟨c, 4, none⟩ = some (.int .i64 x.id) := by simp [World.cell?, HQ9.out.tb]
  have s5 : U9.cell? ⟨c, 5, none⟩ = some (.int .i64 x.index) := by simp [World.cell?, HQ9.out.tb]
  have s6 : U9.cell? ⟨c, 6, none⟩ = some (.slice ko x.kids.length kc) := by simp [World.cell?, HQ9.out.tb]
  go_wp2_with (first | (go_at_call 36; refine Calls.mono HCk.out ?_; rintro e U10 ⟨er, path, wo, wn, wc, tt, rfl, hwn, hg10, hF, hown⟩; have HG10 := hidP hg10; have HF10 := hidP hF; have HPa := hidP hown; have Hwn0 := hidP hwn; clear hg10 hF hown hwn) | (with_reducible show wpList Tryz.prog _ _ (Oper.mk (some 32) _ _ _ _ _ :: _) _ _; refine Hid.out ?_))
  unfold Hid
  have hz1 := heap_alloc_new U10 (.cells #[.int .i64 er, .slice wo wn wc, .int .i64 tt] 46)
  have hz2 := gr_alloc U10 (.cells #[.int .i64 er, .slice wo wn wc, .int .i64 tt] 46)
  obtain ⟨K, hK⟩ : ∃ K, K = U10.heap.size := ⟨_, rfl⟩
  rw [← hK] at hz1 ⊢
  have HGY := hidP (HG10.out.trans hz2 fun _ _ h => h)
  have HKt := hidP hz1
  have HKl : Hid (U9.heap.size ≤ K) := by show _ ≤ K; rw [hK]; exact HG10.out.size
  have HPY := hidP (HPa.out.gr hz2)
  have hF := HF10.out
  clear hz1 hz2 hK HF10 HG10 HCk HPa i2 s0 s1 s2 s3 s4 s5 s6
  generalize U10.alloc (.cells #[.int .i64 er, .slice wo wn wc, .int .i64 tt] 46) = Y at HGY HKt HPY ⊢
  have HQY := hidP (HQ9.out.kpn (Gr.n p HGY.out))
  have HU9 : Hid (b < U9.heap.size ∧ c < U9.heap.size) := ⟨lt_of_heap HQ9.out.rb, lt_of_heap HQ9.out.tb⟩
  clear HQ9
  have t0 : Y.cell? ⟨K, 0, none⟩ = some (.int .i64 er) := by simp [World.cell?, HKt.out]
  have t1 : Y.cell? ⟨K, 1, none⟩ = some (.slice wo wn wc) := by simp [World.cell?, HKt.out]
  rcases hF with ⟨hE, _⟩ | ⟨_, hAll, rfl, rfl, rfl⟩ | ⟨_, L, xx, hpre, hAllL, hwr, rfl, rfl, rfl⟩
  · exact absurd rfl hE
  · have HAll := hidP hAll
    clear hAll
    have z0 : Y.frozen? ⟨b, 0, none⟩ = false := frz HQY.out.rb 0
    have v0 : Y.cell? ⟨b, 0, none⟩ = some (.string ⟨#[]⟩) := by simp [World.cell?, HQY.out.rb]
    have z1 : Y.frozen? ⟨b, 1, none⟩ = false := frz HQY.out.rb 1
    have v1 : Y.cell? ⟨b, 1, none⟩ = some (.bool false) := by simp [World.cell?, HQY.out.rb]
    have z2 : Y.frozen? ⟨b, 2, none⟩ = false := frz HQY.out.rb 2
    have v2 : Y.cell? ⟨b, 2, none⟩ = some (.int .i64 0) := by simp [World.cell?, HQY.out.rb]
    have z3 : Y.frozen? ⟨b, 3, none⟩ = false := frz HQY.out.rb 3
    have v3 : Y.cell? ⟨b, 3, none⟩ = some (.int .i64 0) := by simp [World.cell?, HQY.out.rb]
    have z4 : Y.frozen? ⟨b, 4, none⟩ = false := frz HQY.out.rb 4
    have v4 : Y.cell? ⟨b, 4, none⟩ = some (.int .i64 0) := by simp [World.cell?, HQY.out.rb]
    have z5 : Y.frozen? ⟨b, 5, none⟩ = false := frz HQY.out.rb 5
    have v5 : Y.cell? ⟨b, 5, none⟩ = some (.int .i64 0) := by simp [World.cell?, HQY.out.rb]
    have z6 : Y.frozen? ⟨b, 6, none⟩ = false := frz HQY.out.rb 6
    have v6 : Y.cell? ⟨b, 6, none⟩ = some (.slice none 0 0) := by simp [World.cell?, HQY.out.rb]
    have s0 : Y.cell? ⟨c, 0, none⟩ = some (.string x.name) := by simp [World.cell?, HQY.out.tb]
    have s1 : Y.cell? ⟨c, 1, none⟩ = some (.bool x.nul) := by simp [World.cell?, HQY.out.tb]
    have s2 : Y.cell? ⟨c, 2, none⟩ = some (.int .i64 x.kind) := by simp [World.cell?, HQY.out.tb]
    have s3 : Y.cell? ⟨c, 3, none⟩ = some (.int .i64 x.width) := by simp [World.cell?, HQY.out.tb]
    have s4 : Y.cell? ⟨c, 4, none⟩ = some (.int .i64 x.id) := by simp [World.cell?, HQY.out.tb]
    have s5 : Y.cell? ⟨c, 5, none⟩ = some (.int .i64 x.index) := by simp [World.cell?, HQY.out.tb]
    have s6 : Y.cell? ⟨c, 6, none⟩ = some (.slice ko x.kids.length kc) := by simp [World.cell?, HQY.out.tb]
    have nbc : ¬ b = c := by have := HQY.out.lt; omega
    have ncb : ¬ c = b := by have := HQY.out.lt; omega
    go_wp2_with fail
    have hb3 := put7_box (.string x.name) (.bool x.nul) (.int .i64 x.kind) (.int .i64 x.width) (.int .i64 x.id) (.int .i64 x.index) (.slice ko x.kids.length kc) HQY.out.rb
    have k3 := put7_keeps Y b (.string x.name) (.bool x.nul) (.int .i64 x.kind) (.int .i64 x.width) (.int .i64 x.id) (.int .i64 x.index) (.slice ko x.kids.length kc)
    (try simp only [Exit.inBlock, Exit.then])
    refine bodyPost_ret (results_pf (z := .int .i64 0) (x := .int .i64 0) rfl rfl rfl rfl hb3) rfl ⟨gr_pf Hb.out HbP.out.1 HGV.out HQY.out.kp k3, .inr ⟨x, a9, g9, ko, kc, Hs.out, HRes.out.symm.trans HRo.out, HAll.out, rfl, Hkc.out, ?_⟩⟩
    exact ((HRw.out.kept fun z hz => HGY.out.block z hz.2 id).kept fun z hz => k3.block z (Nat.lt_of_lt_of_le hz.2 HGY.out.size) (by have := hz.1; have := HQY.out.lt; omega)).mono fun z hz => ⟨by have := hz.1; have := HGV.out.size; omega, by have := hz.2; have := HGY.out.size; have := k3.size; omega⟩
  obtain ⟨hway, hplc⟩ := way_of hpre
  have hnm := whf_names (HRes.out.symm.trans HRo.out)
  have HW3 : Hid (L ++ [xx] <+: nodes (D0 + 1) [x] [] false ∧ AllR L ∧ wrongE xx L.length (tkL L) ≠ 0) := ⟨hpre, hAllL, hwr⟩
  have hwl := way_len _ _ _ hway
  have hwh := way_head hway
  obtain ⟨pt, hpt⟩ : ∃ pt, pt = xx.path.tail := ⟨_, rfl⟩
  rw [← hpt] at hwh HPY Hwn0
  rw [hwh] at hway hplc hwl
  have hwl2 : pt.length ≤ 65537 := by have : (0 :: pt).length ≤ 65538 := hwl; simp at this; omega
  obtain ⟨E1, hE1⟩ : ∃ z, z = wrongE xx L.length (tkL L) := ⟨_, rfl⟩
  rw [← hE1] at t0
  have He := hidP hE1
  have hne : (E1 == 0) = false := beq_eq_false_iff_ne.2 (by rw [hE1]; exact hwr)
  have Hway := hidP hway
  have Hplc := hidP hplc
  have Hnm := hidP hnm
  clear hway hplc hwl hwh hpre hAllL hwr hE1 hpt hnm
  have Hwn : Hid (wn = pt.length) := Hwn0.out
  rw [← Hwn.out] at hwl2
  clear Hwn0
  have hmk := run_make_row' (P := Tryz.prog) 44 3 (.int .i64 0) 8 Tryz.underlying44 info3 rfl .i64 .i64 (wn + 1) (by omega) (by omega)
  have ec : ((wn + 1 : Nat) : Int) = (wn : Int) + 1 := by omega
  rw [ec] at hmk
  clear ec
  have HMk : Hid ((Y.alloc (.cells (madeCells #[.int .i64 0] (wn + 1)) 3)).heap[Y.heap.size]? = some (.cells (List.replicate (wn + 1) (Value.int .i64 0)).toArray 3 (0, 0))) := by show _ = _; rw [← made_int]; exact heap_alloc_new Y _
  have HGM : Hid (Gr Y (Y.alloc (.cells (madeCells #[.int .i64 0] (wn + 1)) 3))) := gr_alloc Y _
  have HYK : Hid (K < Y.heap.size) := lt_of_heap HKt.out
  go_wp2_with fail
  obtain ⟨M, hM⟩ : ∃ M, M = Y.heap.size := ⟨_, rfl⟩
  generalize hY1 : Y.alloc (.cells (madeCells #[.int .i64 0] (wn + 1)) 3) = Y1 at HMk HGM ⊢
  rw [← hM] at HMk ⊢
  have HM := hidP hM
  clear hM hY1 hmk
  by_cases h0 : wn = 0
  · subst h0
    have HSC : Hid (∀ w', Keeps Y w' (fun z => Y.heap.size ≤ z) → w'.cell? ⟨K, 1, none⟩ = some (.slice wo 0 wc)) := fun w' k => (World.cell?_of_block (w := Y) (k.block K HYK.out (by have := HYK.out; omega))).trans t1
    refine wp_region_held_drew (S := fun w' => w'.cell? ⟨K, 1, none⟩ = some (.slice wo 0 wc)) (by kernel_rfl) (HSC.out Y1.drew ((HGM.out.trans gr_drewP fun _ _ h => h).mono fun _ _ h => h.elim)) (fun hHeld => ?_)
    refine tk (i := 0) (oi := { dst := some 41, op := Op.move (Operand.tmp 8), type := 44, pos := "text.go:517", after := #[], guard := none }) (v := ?v0w01) rfl (Or.inl ⟨by rfl, ?y0w01⟩) ?r0w01
    case y0w01 => (intro w hSw; obtain q0 := hSw; go_simp; (try with_reducible rfl))
    try simp only [Act.put]; try simp only [lA]; try simp only [lB]; try simp only [lC]
    refine tk (i := 1) (oi := { dst := some 42, op := Op.slice 44 (Operand.tmp 41) (some (Operand.const (Value.int IntKind.i64 1))) none none, type := 44, pos := "text.go:517", after := #[{ on := 0, ground := Ground.data }], guard := none }) (v := ?v1w02) rfl (Or.inl ⟨by rfl, ?y1w02⟩) ?r1w02
    case y1w02 => (intro w hSw; obtain q0 := hSw; go_simp; (try with_reducible rfl))
    try simp only [Act.put]; try simp only [lA]; try simp only [lB]; try simp only [lC]
    refine tk (i := 2) (oi := { dst := some 43, op := Op.fieldAddr 46 (Operand.tmp 7) 1, type := 0, pos := "text.go:517", after := #[], guard := none }) (v := ?v2w03) rfl (Or.inl ⟨by rfl, ?y2w03⟩) ?r2w03
    case y2w03 => (intro w hSw; obtain q0 := hSw; go_simp; (try with_reducible rfl))
    try simp only [Act.put]; try simp only [lA]; try simp only [lB]; try simp only [lC]
    refine tk (i := 3) (oi := { dst := some 44, op := Op.load 44 (Operand.tmp 43), type := 44, pos := "text.go:517", after := #[{ on := 2, ground := Ground.data }], guard := none }) (v := ?v3w04) rfl (Or.inl ⟨by rfl, ?y3w04⟩) ?r3w04
    case y3w04 => (intro w hSw; obtain q0 := hSw; go_simp; (try with_reducible rfl))
    try simp only [Act.put]; try simp only [lA]; try simp only [lB]; try simp only [lC]
    refine wpAnyH_ready (rs := [4]) (by kernel_rfl) (by simp) ?_
    refine AllReadyH.cons (o := { dst := some 45, op := Op.call { callee := Callee.builtin Builtin.copy, args := #[Operand.tmp 42, Operand.tmp 44], argTypes := #[44, 44] }, type := 3, pos := "text.go:517", after := #[{ on := 1, ground := Ground.data }, { on := 3, ground := Ground.data }], guard := none }) rfl (fun Kc hK => ?_) AllReadyH.nil
    refine step_copy_splice rfl (.tmp 42) (.tmp 44) 44 44 rfl 3 Tryz.underlying44 (by kernel_rfl) _ _ _ _ _ _ rfl rfl M 1 (List.replicate (0 + 1) (Value.int .i64 0)) 3 ?hg (ints pt) ?hn ?hpos ?hfit ?h1 M Y1.drew (Below.refl _ _) (Nat.le_refl _) ?_
    case hg => exact HMk.out
    case hn => rw [show (ints pt).length = pt.length by simp [ints], ← Hwn.out]; rfl
    case hpos =>
      intro hp0
      have hp1 : 0 < pt.length := by simpa [ints] using hp0
      rw [← Hwn.out] at hp1
      exact absurd hp1 (Nat.lt_irrefl 0)
    case hfit => rw [show (ints pt).length = pt.length by simp [ints], ← Hwn.out, List.length_replicate]; omega
    case h1 =>
      intro v hv
      obtain ⟨z, _, rfl⟩ := List.mem_map.1 hv
      rfl
    intro w4 hg4 hb4
    have hk4 : Keeps Y w4 (fun z => Y.heap.size ≤ z) := keeps_below (HGM.out.trans (gr_drewP (W := Y1)) fun _ _ h => h) hb4 HM.out
    have Hk4 := hidP hk4
    have Hg4 := hidP hg4.out
    clear hk4 hg4 hb4
    refine hK.out _ _ (HSC.out _ Hk4.out) (fun hHeld => ?_)
    clear hK Kc
    try simp only [Act.put]; try simp only [lA]; try simp only [lB]; try simp only [lC]
    refine wpAnyH_done (by kernel_rfl) ?_ _
    clear hHeld HSC
    (try refine NoPanic.normal ?_)
    have HG4 : Hid (Gr Y w4) := gr_new Hk4.out
    have HQ4 := hidP (HQY.out.kpn (Gr.n p HG4.out))
    have HKt4 := hidP ((HG4.out.block K HYK.out id).trans HKt.out)
    have HWay : Hid (IntsAt w4 (some ⟨M, 0, none⟩) (0 :: pt)) := way_row (by rw [← Hwn.out]; exact Hg4.out)
    have p3 : w4.cell? ⟨p, 3, none⟩ = some (.slice vo g9.length vc) := by have := ((HGY.out.trans HG4.out fun _ _ h => h).block p (lt_of_heap HAt.out.box) id).trans HAt.out.box; simp [World.cell?, this]
    have r0 : w4.cell? ⟨K, 0, none⟩ = some (.int .i64 E1) := (World.cell?_of_block (w := Y) (HG4.out.block K HYK.out id)).trans t0
    have s0 : w4.cell? ⟨c, 0, none⟩ = some (.string x.name) := by simp [World.cell?, HQ4.out.tb]
    have s1 : w4.cell? ⟨c, 1, none⟩ = some (.bool x.nul) := by simp [World.cell?, HQ4.out.tb]
    have s2 : w4.cell? ⟨c, 2, none⟩ = some (.int .i64 x.kind) := by simp [World.cell?, HQ4.out.tb]
    have s3 : w4.cell? ⟨c, 3, none⟩ = some (.int .i64 x.width) := by simp [World.cell?, HQ4.out.tb]
    have s4 : w4.cell? ⟨c, 4, none⟩ = some (.int .i64 x.id) := by simp [World.cell?, HQ4.out.tb]
    have s5 : w4.cell? ⟨c, 5, none⟩ = some (.int .i64 x.index) := by simp [World.cell?, HQ4.out.tb]
    have s6 : w4.cell? ⟨c, 6, none⟩ = some (.slice ko x.kids.length kc) := by simp [World.cell?, HQ4.out.tb]
    have HSC : Hid (∀ w', Keeps w4 w' (fun z => z = b) → w'.cell? ⟨K, 0, none⟩ = some (.int .i64 E1) ∧ w'.cell? ⟨p, 3, none⟩ = some (.slice vo g9.length vc) ∧ w'.cell? ⟨c, 0, none⟩ = some (.string x.name) ∧ w'.cell? ⟨c, 1, none⟩ = some (.bool x.nul) ∧ w'.cell? ⟨c, 2, none⟩ = some (.int .i64 x.kind) ∧ w'.cell? ⟨c, 3, none⟩ = some (.int .i64 x.width) ∧ w'.cell? ⟨c, 4, none⟩ = some (.int .i64 x.id) ∧ w'.cell? ⟨c, 5, none⟩ = some (.int .i64 x.index) ∧ w'.cell? ⟨c, 6, none⟩ = some (.slice ko x.kids.length kc)) := fun w' k => by
      have hl := HQ4.out.lt
      have e1 := k.block K (lt_of_heap HKt4.out) (by have := HKl.out; have := HU9.out; omega)
      have e2 := k.block c (lt_of_heap HQ4.out.tb) (by omega)
      have e3 := k.block p (by have := HQ4.out.kp.size; omega) (by omega)
      exact ⟨(World.cell?_of_block (w := w4) e1).trans r0, (World.cell?_of_block (w := w4) e3).trans p3, (World.cell?_of_block (w := w4) e2).trans s0, (World.cell?_of_block (w := w4) e2).trans s1, (World.cell?_of_block (w := w4) e2).trans s2, (World.cell?_of_block (w := w4) e2).trans s3, (World.cell?_of_block (w := w4) e2).trans s4, (World.cell?_of_block (w := w4) e2).trans s5, (World.cell?_of_block (w := w4) e2).trans s6⟩
    clear t0 t1
    go_wp2_with fail
    refine wp_region_held_drew (S := fun w' => w'.cell? ⟨K, 0, none⟩ = some (.int .i64 E1) ∧ w'.cell? ⟨p, 3, none⟩ = some (.slice vo g9.length vc) ∧ w'.cell? ⟨c, 0, none⟩ = some (.string x.name) ∧ w'.cell? ⟨c, 1, none⟩ = some (.bool x.nul) ∧ w'.cell? ⟨c, 2, none⟩ = some (.int .i64 x.kind) ∧ w'.cell? ⟨c, 3, none⟩ = some (.int .i64 x.width) ∧ w'.cell? ⟨c, 4, none⟩ = some (.int .i64 x.id) ∧ w'.cell? ⟨c, 5, none⟩ = some (.int .i64 x.index) ∧ w'.cell? ⟨c, 6, none⟩ = some (.slice ko x.kids.length kc)) (by kernel_rfl) (HSC.out w4.drew (gr_drewP.mono fun _ _ h => h.elim)) (fun hHeld => ?_)
    refine tk (i := 0) (oi := { dst := some 46, op := Op.build 37 #[], type := 37, pos := "text.go:518", after := #[], guard := none }) (v := ?v0x01) rfl (Or.inl ⟨by rfl, ?y0x01⟩) ?r0x01
    case y0x01 => (intro w hSw; obtain ⟨q0, q1, q2, q3, q4, q5, q6, q7, q8⟩ := hSw; go_simp; (try with_reducible rfl))
    try simp only [Act.put]; try simp only [lA]; try simp only [lB]; try simp only [lC]
    refine tk (i := 1) (oi := { dst := some 47, op := Op.fieldAddr 46 (Operand.tmp 7) 0, type := 0, pos := "text.go:518", after := #[{ on := 12, ground := Ground.gcOnly Departure.lateStores }], guard := none }) (v := ?v1x02) rfl (Or.inl ⟨by rfl, ?y1x02⟩) ?r1x02
    case y1x02 => (intro w hSw; obtain ⟨q0, q1, q2, q3, q4, q5, q6, q7, q8⟩ := hSw; go_simp; (try with_reducible rfl))
    try simp only [Act.put]; try simp only [lA]; try simp only [lB]; try simp only [lC]
    refine tk (i := 2) (oi := { dst := some 48, op := Op.load 28 (Operand.tmp 47), type := 28, pos := "text.go:518", after := #[{ on := 1, ground := Ground.data }, { on := 12, ground := Ground.gcOnly Departure.lateStores }], guard := none }) (v := ?v2x03) rfl (Or.inl ⟨by rfl, ?y2x03⟩) ?r2x03
    case y2x03 => (intro w hSw; obtain ⟨q0, q1, q2, q3, q4, q5, q6, q7, q8⟩ := hSw; go_simp; (try with_reducible rfl))
    try simp only [Act.put]; try simp only [lA]; try simp only [lB]; try simp only [lC]
    refine tk (i := 3) (oi := { dst := some 49, op := Op.load 37 (Operand.tmp 6), type := 37, pos := "text.go:518", after := #[], guard := none }) (v := ?v3x04) rfl (Or.inl ⟨by rfl, ?y3x04⟩) ?r3x04
    case y3x04 => (intro w hSw; obtain ⟨q0, q1, q2, q3, q4, q5, q6, q7, q8⟩ := hSw; go_simp; (try with_reducible rfl))
    try simp only [Act.put]; try simp only [lA]; try simp only [lB]; try simp only [lC]
    refine tk (i := 6) (oi := { dst := some 52, op := Op.move (Operand.tmp 5), type := 60, pos := "text.go:518", after := #[], guard := none }) (v := ?v6x05) rfl (Or.inl ⟨by rfl, ?y6x05⟩) ?r6x05
    case y6x05 => (intro w hSw; obtain ⟨q0, q1, q2, q3, q4, q5, q6, q7, q8⟩ := hSw; go_simp; (try with_reducible rfl))
    try simp only [Act.put]; try simp only [lA]; try simp only [lB]; try simp only [lC]
    refine tk (i := 7) (oi := { dst := some 53, op := Op.nilCheck (Operand.tmp 52), type := 0, pos := "text.go:518", after := #[{ on := 6, ground := Ground.data }], guard := none }) (v := ?v7x06) rfl (Or.inl ⟨by rfl, ?y7x06⟩) ?r7x06
    case y7x06 => (intro w hSw; obtain ⟨q0, q1, q2, q3, q4, q5, q6, q7, q8⟩ := hSw; go_simp; (try with_reducible rfl))
    try simp only [Act.put]; try simp only [lA]; try simp only [lB]; try simp only [lC]
    refine tk (i := 8) (oi := { dst := some 54, op := Op.fieldAddr 62 (Operand.tmp 53) 3, type := 0, pos := "text.go:518", after := #[{ on := 7, ground := Ground.data }], guard := none }) (v := ?v8x07) rfl (Or.inl ⟨by rfl, ?y8x07⟩) ?r8x07
    case y8x07 => (intro w hSw; obtain ⟨q0, q1, q2, q3, q4, q5, q6, q7, q8⟩ := hSw; go_simp; (try with_reducible rfl))
    try simp only [Act.put]; try simp only [lA]; try simp only [lB]; try simp only [lC]
    refine tk (i := 9) (oi := { dst := some 55, op := Op.load 44 (Operand.tmp 54), type := 44, pos := "text.go:518", after := #[{ on := 8, ground := Ground.data }], guard := none }) (v := ?v9x08) rfl (Or.inl ⟨by rfl, ?y9x08⟩) ?r9x08
    case y9x08 => (intro w hSw; obtain ⟨q0, q1, q2, q3, q4, q5, q6, q7, q8⟩ := hSw; go_simp; (try with_reducible rfl))
    try simp only [Act.put]; try simp only [lA]; try simp only [lB]; try simp only [lC]
    refine tk (i := 10) (oi := { dst := some 56, op := Op.move (Operand.tmp 8), type := 44, pos := "text.go:518", after := #[], guard := none }) (v := ?v10x09) rfl (Or.inl ⟨by rfl, ?y10x09⟩) ?r10x09
    case y10x09 => (intro w hSw; obtain ⟨q0, q1, q2, q3, q4, q5, q6, q7, q8⟩ := hSw; go_simp; (try with_reducible rfl))
    try simp only [Act.put]; try simp only [lA]; try simp only [lB]; try simp only [lC]
    have kA : Keeps w4 (w4.drew.alloc (.cells #[.string x.name, .bool x.nul, .int .i64 x.kind, .int .i64 x.width, .int .i64 x.id, .int .i64 x.index, .slice ko x.kids.length kc] 37)) (fun z => z = b) := ((gr_drewP (W := w4)).trans (gr_alloc w4.drew _) fun _ _ h => h).mono fun _ _ h => h.elim
    have HkA := hidP kA
    clear kA
    have gA : Gr w4 (w4.drew.alloc (.cells #[.string x.name, .bool x.nul, .int .i64 x.kind, .int .i64 x.width, .int .i64 x.id, .int .i64 x.index, .slice ko x.kids.length kc] 37)) := (gr_drewP (W := w4)).trans (gr_alloc w4.drew _) fun _ _ h => h
    have gUA : Gr U9 (w4.drew.alloc (.cells #[.string x.name, .bool x.nul, .int .i64 x.kind, .int .i64 x.width, .int .i64 x.id, .int .i64 x.index, .slice ko x.kids.length kc] 37)) := (HGY.out.trans HG4.out fun _ _ h => h).trans gA fun _ _ h => h
    have hrowA := row_alone (heap_alloc_new w4.drew (.cells #[.string x.name, .bool x.nul, .int .i64 x.kind, .int .i64 x.width, .int .i64 x.id, .int .i64 x.index, .slice ko x.kids.length kc] 37)) (HRw.out.kept fun z hz => gUA.block z hz.2 id) Hkc.out
    have hcall := place30 _ (D0 + 1) [x] (0 :: pt) g9 (some ⟨w4.drew.heap.size, 0, none⟩) none vo (some ⟨M, 0, none⟩) 1 0 0 vc (0 + 1) (0 + 1) (w4.drew.alloc (.cells #[.string x.name, .bool x.nul, .int .i64 x.kind, .int .i64 x.width, .int .i64 x.id, .int .i64 x.index, .slice ko x.kids.length kc] 37)) hrowA (fun z hz => hz.elim (fun h => Nat.lt_of_lt_of_le h.2 gUA.size) fun h => by rw [h]; simp) (by simp) (by rw [← Hnm.out]; have := Hgc.out; have := Hs.out; omega) Hway.out (by rw [Hwn.out]; rfl) (HWay.out.gr gA) ((ints_of_own HAt.out.own).gr gUA) (Nat.le_of_eq Hnm.out.symm) (by have := Hwn.out; simp; omega) (by have := Hgc.out; have := Hs.out; omega)
    rw [Hplc.out] at hcall
    obtain ⟨pv, hpv⟩ : ∃ z, z = g9.getD L.length 0 := ⟨_, rfl⟩
    rw [← hpv] at hcall
    have HCp := hidP hcall
    have Hpv := hidP hpv
    clear hcall hpv hrowA
    have HgA := hidP gA
    clear gA gUA
    refine wpAnyH_ready (rs := [4]) (by kernel_rfl) (by simp) ?_
    refine AllReadyH.cons (o := { dst := some 50, op := Op.buildSlice 24 1 #[(0, Operand.tmp 49)], type := 24, pos := "text.go:518", after := #[{ on := 3, ground := Ground.data }], guard := none }) rfl (fun Kc hK => ?_) AllReadyH.nil
    go_simp
    refine hK.out _ _ (HSC.out _ HkA.out) (fun hHeld => ?_)
    clear hK Kc
    try simp only [Act.put]; try simp only [lA]; try simp only [lB]; try simp only [lC]
    refine tk (i := 5) (oi := { dst := some 51, op := Op.build 27 #[(0, Operand.tmp 50)], type := 27, pos := "text.go:518", after := #[{ on := 4, ground := Ground.data }], guard := none }) (v := ?v5y01) rfl (Or.inl ⟨by rfl, ?y5y01⟩) ?r5y01
    case y5y01 => (intro w hSw; obtain ⟨q0, q1, q2, q3, q4, q5, q6, q7, q8⟩ := hSw; go_simp; (try with_reducible rfl))
    try simp only [Act.put]; try simp only [lA]; try simp only [lB]; try simp only [lC]
    refine wpAnyH_ready (rs := [11]) (by kernel_rfl) (by simp) ?_
    refine AllReadyH.cons (o := { dst := some 57, op := Op.call { callee := Callee.value (Operand.func 30), args := #[Operand.tmp 51, Operand.tmp 55, Operand.tmp 56], argTypes := #[27, 44, 44] }, type := 3, pos := "text.go:518", after := #[{ on := 5, ground := Ground.data }, { on := 9, ground := Ground.data }, { on := 10, ground := Ground.data }], guard := none }) rfl (fun Kc hK => ?_) AllReadyH.nil
    go_simp
    go_at_call 30
    refine Calls.mono HCp.out ?_
    rintro e' Y2 ⟨hg2, rfl⟩
    have HPY2 := hidP (HQ4.out.kpn (Gr.n p (HgA.out.trans hg2 fun _ _ h => h)))
    have HkY2 : Hid (Keeps w4 Y2 (fun z => z = b)) := (HgA.out.trans hg2 fun _ _ h => h).mono fun _ _ h => h.elim
    clear hg2
    go_wp2_with fail
    refine hK.out _ _ (HSC.out _ HkY2.out) (fun hHeld => ?_)
    clear hK Kc
    try simp only [Act.put]; try simp only [lA]; try simp only [lB]; try simp only [lC]
    have z0' : Y2.frozen? ⟨b, 0, none⟩ = false := frz HPY2.out.rb 0
    have v0' : Y2.cell? ⟨b, 0, none⟩ = some (.string ⟨#[]⟩) := by simp [World.cell?, HPY2.out.rb]
    have z1' : Y2.frozen? ⟨b, 1, none⟩ = false := frz HPY2.out.rb 1
    have v1' : Y2.cell? ⟨b, 1, none⟩ = some (.bool false) := by simp [World.cell?, HPY2.out.rb]
    have z2' : Y2.frozen? ⟨b, 2, none⟩ = false := frz HPY2.out.rb 2
    have v2' : Y2.cell? ⟨b, 2, none⟩ = some (.int .i64 0) := by simp [World.cell?, HPY2.out.rb]
    have z3' : Y2.frozen? ⟨b, 3, none⟩ = false := frz HPY2.out.rb 3
    have v3' : Y2.cell? ⟨b, 3, none⟩ = some (.int .i64 0) := by simp [World.cell?, HPY2.out.rb]
    have z4' : Y2.frozen? ⟨b, 4, none⟩ = false := frz HPY2.out.rb 4
    have v4' : Y2.cell? ⟨b, 4, none⟩ = some (.int .i64 0) := by simp [World.cell?, HPY2.out.rb]
    have z5' : Y2.frozen? ⟨b, 5, none⟩ = false := frz HPY2.out.rb 5
    have v5' : Y2.cell? ⟨b, 5, none⟩ = some (.int .i64 0) := by simp [World.cell?, HPY2.out.rb]
    have z6' : Y2.frozen? ⟨b, 6, none⟩ = false := frz HPY2.out.rb 6
    have v6' : Y2.cell? ⟨b, 6, none⟩ = some (.slice none 0 0) := by simp [World.cell?, HPY2.out.rb]
    have k3 := put7_keeps Y2 b (.string ⟨#[]⟩) (.bool false) (.int .i64 0) (.int .i64 0) (.int .i64 0) (.int .i64 0) (.slice none 0 0)
    have HK3 := hidP k3
    have HkY3 := hidP (HkY2.out.trans k3 fun _ _ h => h)
    clear k3
    refine wpAnyH_ready (rs := [12]) (by kernel_rfl) (by simp) ?_
    refine AllReadyH.cons (o := { dst := none, op := Op.store 37 (Operand.tmp 2) (Operand.tmp 46), type := 0, pos := "text.go:518", after := #[{ on := 0, ground := Ground.data }, { on := 11, ground := Ground.chain }, { on := 0, ground := Ground.phase }, { on := 1, ground := Ground.textOnly Departure.lateStores }, { on := 2, ground := Ground.textOnly Departure.lateStores }, { on := 3, ground := Ground.textOnly Departure.lateStores }, { on := 4, ground := Ground.textOnly Departure.lateStores }, { on := 5, ground := Ground.textOnly Departure.lateStores }, { on := 6, ground := Ground.textOnly Departure.lateStores }, { on := 7, ground := Ground.textOnly Departure.lateStores }, { on := 8, ground := Ground.textOnly Departure.lateStores }, { on := 9, ground := Ground.textOnly Departure.lateStores }, { on := 10, ground := Ground.textOnly Departure.lateStores }, { on := 11, ground := Ground.textOnly Departure.lateStoresUnsure }], guard := none }) rfl (fun Kc hK => ?_) AllReadyH.nil
    go_simp
    refine hK.out _ _ (HSC.out _ HkY3.out) (fun hHeld => ?_)
    clear hK Kc
    try simp only [Act.put]; try simp only [lA]; try simp only [lB]; try simp only [lC]
    refine tk (i := 13) (oi := { dst := some 3, op := Op.assign (Operand.tmp 48), type := 3, pos := "text.go:518", after := #[{ on := 2, ground := Ground.data }, { on := 12, ground := Ground.chain }, { on := 0, ground := Ground.phase }, { on := 1, ground := Ground.phase }, { on := 2, ground := Ground.phase }, { on := 3, ground := Ground.textOnly Departure.lateStores }, { on := 4, ground := Ground.textOnly Departure.lateStores }, { on := 5, ground := Ground.textOnly Departure.lateStores }, { on := 6, ground := Ground.textOnly Departure.lateStores }, { on := 7, ground := Ground.textOnly Departure.lateStores }, { on := 8, ground := Ground.textOnly Departure.lateStores }, { on := 9, ground := Ground.textOnly Departure.lateStores }, { on := 10, ground := Ground.textOnly Departure.lateStores }, { on := 11, ground := Ground.textOnly Departure.lateStoresUnsure }, { on := 12, ground := Ground.phase }], guard := none }) (v := ?v13z01) rfl (Or.inl ⟨by rfl, ?y13z01⟩) ?r13z01
    case y13z01 => (intro w hSw; obtain ⟨q0, q1, q2, q3, q4, q5, q6, q7, q8⟩ := hSw; go_simp; (try with_reducible rfl))
    try simp only [Act.put]; try simp only [lA]; try simp only [lB]; try simp only [lC]
    refine tk (i := 14) (oi := { dst := some 4, op := Op.assign (Operand.tmp 57), type := 3, pos := "text.go:518", after := #[{ on := 11, ground := Ground.data }, { on := 13, ground := Ground.chain }, { on := 0, ground := Ground.phase }, { on := 1, ground := Ground.phase }, { on := 2, ground := Ground.phase }, { on := 3, ground := Ground.phase }, { on := 4, ground := Ground.phase }, { on := 5, ground := Ground.phase }, { on := 6, ground := Ground.phase }, { on := 7, ground := Ground.phase }, { on := 8, ground := Ground.phase }, { on := 9, ground := Ground.phase }, { on := 10, ground := Ground.phase }, { on := 11, ground := Ground.phase }, { on := 12, ground := Ground.phase }, { on := 13, ground := Ground.phase }], guard := none }) (v := ?v14z02) rfl (Or.inl ⟨by rfl, ?y14z02⟩) ?r14z02
    case y14z02 => (intro w hSw; obtain ⟨q0, q1, q2, q3, q4, q5, q6, q7, q8⟩ := hSw; go_simp; (try with_reducible rfl))
    try simp only [Act.put]; try simp only [lA]; try simp only [lB]; try simp only [lC]
    refine wpAnyH_done (by kernel_rfl) ?_ _
    (try refine NoPanic.normal ?_)
    clear hHeld
    (try go_wp2_with fail)
    have hb3 := put7_box (.string ⟨#[]⟩) (.bool false) (.int .i64 0) (.int .i64 0) (.int .i64 0) (.int .i64 0) (.slice none 0 0) HPY2.out.rb
    (try simp only [Exit.inBlock, Exit.then])
    exact bodyPost_ret (results_pf (z := .int .i64 E1) (x := .int .i64 (pv : Int)) rfl rfl rfl rfl hb3) rfl ⟨gr_pf Hb.out HbP.out.1 HGV.out HPY2.out.kp HK3.out, .inl ⟨E1, (pv : Int), by rw [He.out]; exact HW3.out.2.2, .inr (.inr ⟨Hs.out, [x], [], a9, g9, HRes.out.symm.trans HRo.out, .inr ⟨rfl, L, xx, HW3.out.1, HW3.out.2.1, HW3.out.2.2, He.out, by rw [Hpv.out]⟩⟩), rfl⟩⟩
  obtain ⟨m, rfl⟩ : ∃ m, wn = m + 1 := ⟨wn - 1, by omega⟩
  clear h0
  have hm1 : (1 : Int) ≤ (m : Int) + 1 + 1 := by omega
  have HSC : Hid (∀ w', Keeps Y w' (fun z => Y.heap.size ≤ z) → w'.cell? ⟨K, 1, none⟩ = some (.slice wo (m + 1) wc)) := fun w' k => (World.cell?_of_block (w := Y) (k.block K HYK.out (by have := HYK.out; omega))).trans t1
  refine wp_region_held_drew (S := fun w' => w'.cell? ⟨K, 1, none⟩ = some (.slice wo (m + 1) wc)) (by kernel_rfl) (HSC.out Y1.drew ((HGM.out.trans gr_drewP fun _ _ h => h).mono fun _ _ h => h.elim)) (fun hHeld => ?_)
  refine tk (i := 0) (oi := { dst := some 41, op := Op.move (Operand.tmp 8), type := 44, pos := "text.go:517", after := #[], guard := none }) (v := ?v0w11) rfl (Or.inl ⟨by rfl, ?y0w11⟩) ?r0w11
  case y0w11 => (intro w hSw; obtain q0 := hSw; go_simp; (try with_reducible rfl))
  try simp only [Act.put]; try simp only [lA]; try simp only [lB]; try simp only [lC]
  refine tk (i := 1) (oi := { dst := some 42, op := Op.slice 44 (Operand.tmp 41) (some (Operand.const (Value.int IntKind.i64 1))) none none, type := 44, pos := "text.go:517", after := #[{ on := 0, ground := Ground.data }], guard := none }) (v := ?v1w12) rfl (Or.inl ⟨by rfl, ?y1w12⟩) ?r1w12
  case y1w12 => (intro w hSw; obtain q0 := hSw; go_simp; (try with_reducible rfl))
  try simp only [Act.put]; try simp only [lA]; try simp only [lB]; try simp only [lC]
  refine tk (i := 2) (oi := { dst := some 43, op := Op.fieldAddr 46 (Operand.tmp 7) 1, type := 0, pos := "text.go:517", after := #[], guard := none }) (v := ?v2w13) rfl (Or.inl ⟨by rfl, ?y2w13⟩) ?r2w13
  case y2w13 => (intro w hSw; obtain q0 := hSw; go_simp; (try with_reducible rfl))
  try simp only [Act.put]; try simp only [lA]; try simp only [lB]; try simp only [lC]
  refine tk (i := 3) (oi := { dst := some 44, op := Op.load 44 (Operand.tmp 43), type := 44, pos := "text.go:517", after := #[{ on := 2, ground := Ground.data }], guard := none }) (v := ?v3w14) rfl (Or.inl ⟨by rfl, ?y3w14⟩) ?r3w14
  case y3w14 => (intro w hSw; obtain q0 := hSw; go_simp; (try with_reducible rfl))
  try simp only [Act.put]; try simp only [lA]; try simp only [lB]; try simp only [lC]
  refine wpAnyH_ready (rs := [4]) (by kernel_rfl) (by simp) ?_
  refine AllReadyH.cons (o := { dst := some 45, op := Op.call { callee := Callee.builtin Builtin.copy, args := #[Operand.tmp 42, Operand.tmp 44], argTypes := #[44, 44] }, type := 3, pos := "text.go:517", after := #[{ on := 1, ground := Ground.data }, { on := 3, ground := Ground.data }], guard := none }) rfl (fun Kc hK => ?_) AllReadyH.nil
  refine step_copy_splice rfl (.tmp 42) (.tmp 44) 44 44 rfl 3 Tryz.underlying44 (by kernel_rfl) _ _ _ _ _ _ rfl rfl M 1 (List.replicate ((m + 1) + 1) (Value.int .i64 0)) 3 ?hg (ints pt) ?hn ?hpos ?hfit ?h1 M Y1.drew (Below.refl _ _) (Nat.le_refl _) ?_
  case hg => exact HMk.out
  case hn => rw [show (ints pt).length = pt.length by simp [ints], ← Hwn.out]; simp
  case hpos =>
    intro hp0
    have hp1 : 0 < pt.length := by simpa [ints] using hp0
    obtain ⟨b1, o1, e1, h1⟩ := HPY.out (fun e => by rw [e] at hp1; simp at hp1)
    refine ⟨rfl, ⟨b1, o1, none⟩, e1, fun j v hj => ?_⟩
    have hjl : j < pt.length := by have := (List.getElem?_eq_some_iff.1 hj).1; simpa [ints] using this
    have hc1 := (HGM.out.trans (gr_drewP (W := Y1)) fun _ _ h => h).cell' (h1 j hjl) id
    have e2 : v = .int .i64 (pt[j] : Int) := by have hj2 := hj; simp [ints, hjl] at hj2; exact hj2.symm
    rw [e2]
    have e3 : (⟨b1, o1, none⟩ : Addr).add j = ⟨b1, o1 + j, none⟩ := by cases j <;> simp [Addr.add]
    rw [e3]
    exact hc1
  case hfit => rw [show (ints pt).length = pt.length by simp [ints], ← Hwn.out, List.length_replicate]; omega
  case h1 =>
    intro v hv
    obtain ⟨z, _, rfl⟩ := List.mem_map.1 hv
    rfl
  intro w4 hg4 hb4
  have hk4 : Keeps Y w4 (fun z => Y.heap.size ≤ z) := keeps_below (HGM.out.trans (gr_drewP (W := Y1)) fun _ _ h => h) hb4 HM.out
  have Hk4 := hidP hk4
  have Hg4 := hidP hg4.out
  clear hk4 hg4 hb4
  refine hK.out _ _ (HSC.out _ Hk4.out) (fun hHeld => ?_)
  clear hK Kc
  try simp only [Act.put]; try simp only [lA]; try simp only [lB]; try simp only [lC]
  refine wpAnyH_done (by kernel_rfl) ?_ _
  clear hHeld HSC
  (try refine NoPanic.normal ?_)
  have HG4 : Hid (Gr Y w4) := gr_new Hk4.out
  have HQ4 := hidP (HQY.out.kpn (Gr.n p HG4.out))
  have HKt4 := hidP ((HG4.out.block K HYK.out id).trans HKt.out)
  have HWay : Hid (IntsAt w4 (some ⟨M, 0, none⟩) (0 :: pt)) := way_row (by rw [← Hwn.out]; exact Hg4.out)
  have p3 : w4.cell? ⟨p, 3, none⟩ = some (.slice vo g9.length vc) := by have := ((HGY.out.trans HG4.out fun _ _ h => h).block p (lt_of_heap HAt.out.box) id).trans HAt.out.box; simp [World.cell?, this]
  have r0 : w4.cell? ⟨K, 0, none⟩ = some (.int .i64 E1) := (World.cell?_of_block (w := Y) (HG4.out.block K HYK.out id)).trans t0
  have s0 : w4.cell? ⟨c, 0, none⟩ = some (.string x.name) := by simp [World.cell?, HQ4.out.tb]
  have s1 : w4.cell? ⟨c, 1, none⟩ = some (.bool x.nul) := by simp [World.cell?, HQ4.out.tb]
  have s2 : w4.cell? ⟨c, 2, none⟩ = some (.int .i64 x.kind) := by simp [World.cell?, HQ4.out.tb]
  have s3 : w4.cell? ⟨c, 3, none⟩ = some (.int .i64 x.width) := by simp [World.cell?, HQ4.out.tb]
  have s4 : w4.cell? ⟨c, 4, none⟩ = some (.int .i64 x.id) := by simp [World.cell?, HQ4.out.tb]
  have s5 : w4.cell? ⟨c, 5, none⟩ = some (.int .i64 x.index) := by simp [World.cell?, HQ4.out.tb]
  have s6 : w4.cell? ⟨c, 6, none⟩ = some (.slice ko x.kids.length kc) := by simp [World.cell?, HQ4.out.tb]
  have HSC : Hid (∀ w', Keeps w4 w' (fun z => z = b) → w'.cell? ⟨K, 0, none⟩ = some (.int .i64 E1) ∧ w'.cell? ⟨p, 3, none⟩ = some (.slice vo g9.length vc) ∧ w'.cell? ⟨c, 0, none⟩ = some (.string x.name) ∧ w'.cell? ⟨c, 1, none⟩ = some (.bool x.nul) ∧ w'.cell? ⟨c, 2, none⟩ = some (.int .i64 x.kind) ∧ w'.cell? ⟨c, 3, none⟩ = some (.int .i64 x.width) ∧ w'.cell? ⟨c, 4, none⟩ = some (.int .i64 x.id) ∧ w'.cell? ⟨c, 5, none⟩ = some (.int .i64 x.index) ∧ w'.cell? ⟨c, 6, none⟩ = some (.slice ko x.kids.length kc)) := fun w' k => by
    have hl := HQ4.out.lt
    have e1 := k.block K (lt_of_heap HKt4.out) (by have := HKl.out; have := HU9.out; omega)
    have e2 := k.block c (lt_of_heap HQ4.out.tb) (by omega)
    have e3 := k.block p (by have := HQ4.out.kp.size; omega) (by omega)
    exact ⟨(World.cell?_of_block (w := w4) e1).trans r0, (World.cell?_of_block (w := w4) e3).trans p3, (World.cell?_of_block (w := w4) e2).trans s0, (World.cell?_of_block (w := w4) e2).trans s1, (World.cell?_of_block (w := w4) e2).trans s2, (World.cell?_of_block (w := w4) e2).trans s3, (World.cell?_of_block (w := w4) e2).trans s4, (World.cell?_of_block (w := w4) e2).trans s5, (World.cell?_of_block (w := w4) e2).trans s6⟩
  clear t0 t1
  go_wp2_with fail
  refine wp_region_held_drew (S := fun w' => w'.cell? ⟨K, 0, none⟩ = some (.int .i64 E1) ∧ w'.cell? ⟨p, 3, none⟩ = some (.slice vo g9.length vc) ∧ w'.cell? ⟨c, 0, none⟩ = some (.string x.name) ∧ w'.cell? ⟨c, 1, none⟩ = some (.bool x.nul) ∧ w'.cell? ⟨c, 2, none⟩ = some (.int .i64 x.kind) ∧ w'.cell? ⟨c, 3, none⟩ = some (.int .i64 x.width) ∧ w'.cell? ⟨c, 4, none⟩ = some (.int .i64 x.id) ∧ w'.cell? ⟨c, 5, none⟩ = some (.int .i64 x.index) ∧ w'.cell? ⟨c, 6, none⟩ = some (.slice ko x.kids.length kc)) (by kernel_rfl) (HSC.out w4.drew (gr_drewP.mono fun _ _ h => h.elim)) (fun hHeld => ?_)
  refine tk (i := 0) (oi := { dst := some 46, op := Op.build 37 #[], type := 37, pos := "text.go:518", after := #[], guard := none }) (v := ?v0x11) rfl (Or.inl ⟨by rfl, ?y0x11⟩) ?r0x11
  case y0x11 => (intro w hSw; obtain ⟨q0, q1, q2, q3, q4, q5, q6, q7, q8⟩ := hSw; go_simp; (try with_reducible rfl))
  try simp only [Act.put]; try simp only [lA]; try simp only [lB]; try simp only [lC]
  refine tk (i := 1) (oi := { dst := some 47, op := Op.fieldAddr 46 (Operand.tmp 7) 0, type := 0, pos := "text.go:518", after := #[{ on := 12, ground := Ground.gcOnly Departure.lateStores }], guard := none }) (v := ?v1x12) rfl (Or.inl ⟨by rfl, ?y1x12⟩) ?r1x12
  case y1x12 => (intro w hSw; obtain ⟨q0, q1, q2, q3, q4, q5, q6, q7, q8⟩ := hSw; go_simp; (try with_reducible rfl))
  try simp only [Act.put]; try simp only [lA]; try simp only [lB]; try simp only [lC]
  refine tk (i := 2) (oi := { dst := some 48, op := Op.load 28 (Operand.tmp 47), type := 28, pos := "text.go:518", after := #[{ on := 1, ground := Ground.data }, { on := 12, ground := Ground.gcOnly Departure.lateStores }], guard := none }) (v := ?v2x13) rfl (Or.inl ⟨by rfl, ?y2x13⟩) ?r2x13
  case y2x13 => (intro w hSw; obtain ⟨q0, q1, q2, q3, q4, q5, q6, q7, q8⟩ := hSw; go_simp; (try with_reducible rfl))
  try simp only [Act.put]; try simp only [lA]; try simp only [lB]; try simp only [lC]
  refine tk (i := 3) (oi := { dst := some 49, op := Op.load 37 (Operand.tmp 6), type := 37, pos := "text.go:518", after := #[], guard := none }) (v := ?v3x14) rfl (Or.inl ⟨by rfl, ?y3x14⟩) ?r3x14
  case y3x14 => (intro w hSw; obtain ⟨q0, q1, q2, q3, q4, q5, q6, q7, q8⟩ := hSw; go_simp; (try with_reducible rfl))
  try simp only [Act.put]; try simp only [lA]; try simp only [lB]; try simp only [lC]
  refine tk (i := 6) (oi := { dst := some 52, op := Op.move (Operand.tmp 5), type := 60, pos := "text.go:518", after := #[], guard := none }) (v := ?v6x15) rfl (Or.inl ⟨by rfl, ?y6x15⟩) ?r6x15
  case y6x15 => (intro w hSw; obtain ⟨q0, q1, q2, q3, q4, q5, q6, q7, q8⟩ := hSw; go_simp; (try with_reducible rfl))
  try simp only [Act.put]; try simp only [lA]; try simp only [lB]; try simp only [lC]
  refine tk (i := 7) (oi := { dst := some 53, op := Op.nilCheck (Operand.tmp 52), type := 0, pos := "text.go:518", after := #[{ on := 6, ground := Ground.data }], guard := none }) (v := ?v7x16) rfl (Or.inl ⟨by rfl, ?y7x16⟩) ?r7x16
  case y7x16 => (intro w hSw; obtain ⟨q0, q1, q2, q3, q4, q5, q6, q7, q8⟩ := hSw; go_simp; (try with_reducible rfl))
  try simp only [Act.put]; try simp only [lA]; try simp only [lB]; try simp only [lC]
  refine tk (i := 8) (oi := { dst := some 54, op := Op.fieldAddr 62 (Operand.tmp 53) 3, type := 0, pos := "text.go:518", after := #[{ on := 7, ground := Ground.data }], guard := none }) (v := ?v8x17) rfl (Or.inl ⟨by rfl, ?y8x17⟩) ?r8x17
  case y8x17 => (intro w hSw; obtain ⟨q0, q1, q2, q3, q4, q5, q6, q7, q8⟩ := hSw; go_simp; (try with_reducible rfl))
  try simp only [Act.put]; try simp only [lA]; try simp only [lB]; try simp only [lC]
  refine tk (i := 9) (oi := { dst := some 55, op := Op.load 44 (Operand.tmp 54), type := 44, pos := "text.go:518", after := #[{ on := 8, ground := Ground.data }], guard := none }) (v := ?v9x18) rfl (Or.inl ⟨by rfl, ?y9x18⟩) ?r9x18
  case y9x18 => (intro w hSw; obtain ⟨q0, q1, q2, q3, q4, q5, q6, q7, q8⟩ := hSw; go_simp; (try with_reducible rfl))
  try simp only [Act.put]; try simp only [lA]; try simp only [lB]; try simp only [lC]
  refine tk (i := 10) (oi := { dst := some 56, op := Op.move (Operand.tmp 8), type := 44, pos := "text.go:518", after := #[], guard := none }) (v := ?v10x19) rfl (Or.inl ⟨by rfl, ?y10x19⟩) ?r10x19
  case y10x19 => (intro w hSw; obtain ⟨q0, q1, q2, q3, q4, q5, q6, q7, q8⟩ := hSw; go_simp; (try with_reducible rfl))
  try simp only [Act.put]; try simp only [lA]; try simp only [lB]; try simp only [lC]
  have kA : Keeps w4 (w4.drew.alloc (.cells #[.string x.name, .bool x.nul, .int .i64 x.kind, .int .i64 x.width, .int .i64 x.id, .int .i64 x.index, .slice ko x.kids.length kc] 37)) (fun z => z = b) := ((gr_drewP (W := w4)).trans (gr_alloc w4.drew _) fun _ _ h => h).mono fun _ _ h => h.elim
  have HkA := hidP kA
  clear kA
  have gA : Gr w4 (w4.drew.alloc (.cells #[.string x.name, .bool x.nul, .int .i64 x.kind, .int .i64 x.width, .int .i64 x.id, .int .i64 x.index, .slice ko x.kids.length kc] 37)) := (gr_drewP (W := w4)).trans (gr_alloc w4.drew _) fun _ _ h => h
  have gUA : Gr U9 (w4.drew.alloc (.cells #[.string x.name, .bool x.nul, .int .i64 x.kind, .int .i64 x.width, .int .i64 x.id, .int .i64 x.index, .slice ko x.kids.length kc] 37)) := (HGY.out.trans HG4.out fun _ _ h => h).trans gA fun _ _ h => h
  have hrowA := row_alone (heap_alloc_new w4.drew (.cells #[.string x.name, .bool x.nul, .int .i64 x.kind, .int .i64 x.width, .int .i64 x.id, .int .i64 x.index, .slice ko x.kids.length kc] 37)) (HRw.out.kept fun z hz => gUA.block z hz.2 id) Hkc.out
  have hcall := place30 _ (D0 + 1) [x] (0 :: pt) g9 (some ⟨w4.drew.heap.size, 0, none⟩) none vo (some ⟨M, 0, none⟩) 1 0 0 vc ((m + 1) + 1) ((m + 1) + 1) (w4.drew.alloc (.cells #[.string x.name, .bool x.nul, .int .i64 x.kind, .int .i64 x.width, .int .i64 x.id, .int .i64 x.index, .slice ko x.kids.length kc] 37)) hrowA (fun z hz => hz.elim (fun h => Nat.lt_of_lt_of_le h.2 gUA.size) fun h => by rw [h]; simp) (by simp) (by rw [← Hnm.out]; have := Hgc.out; have := Hs.out; omega) Hway.out (by rw [Hwn.out]; rfl) (HWay.out.gr gA) ((ints_of_own HAt.out.own).gr gUA) (Nat.le_of_eq Hnm.out.symm) (by have := Hwn.out; simp; omega) (by have := Hgc.out; have := Hs.out; omega)
  rw [Hplc.out] at hcall
  obtain ⟨pv, hpv⟩ : ∃ z, z = g9.getD L.length 0 := ⟨_, rfl⟩
  rw [← hpv] at hcall
  have HCp := hidP hcall
  have Hpv := hidP hpv
  clear hcall hpv hrowA
  have HgA := hidP gA
  clear gA gUA
  refine wpAnyH_ready (rs := [4]) (by kernel_rfl) (by simp) ?_
  refine AllReadyH.cons (o := { dst := some 50, op := Op.buildSlice 24 1 #[(0, Operand.tmp 49)], type := 24, pos := "text.go:518", after := #[{ on := 3, ground := Ground.data }], guard := none }) rfl (fun Kc hK => ?_) AllReadyH.nil
  go_simp
  refine hK.out _ _ (HSC.out _ HkA.out) (fun hHeld => ?_)
  clear hK Kc
  try simp only [Act.put]; try simp only [lA]; try simp only [lB]; try simp only [lC]
  refine tk (i := 5) (oi := { dst := some 51, op := Op.build 27 #[(0, Operand.tmp 50)], type := 27, pos := "text.go:518", after := #[{ on := 4, ground := Ground.data }], guard := none }) (v := ?v5y11) rfl (Or.inl ⟨by rfl, ?y5y11⟩) ?r5y11
  case y5y11 => (intro w hSw; obtain ⟨q0, q1, q2, q3, q4, q5, q6, q7, q8⟩ := hSw; go_simp; (try with_reducible rfl))
  try simp only [Act.put]; try simp only [lA]; try simp only [lB]; try simp only [lC]
  refine wpAnyH_ready (rs := [11]) (by kernel_rfl) (by simp) ?_
  refine AllReadyH.cons (o := { dst := some 57, op := Op.call { callee := Callee.value (Operand.func 30), args := #[Operand.tmp 51, Operand.tmp 55, Operand.tmp 56], argTypes := #[27, 44, 44] }, type := 3, pos := "text.go:518", after := #[{ on := 5, ground := Ground.data }, { on := 9, ground := Ground.data }, { on := 10, ground := Ground.data }], guard := none }) rfl (fun Kc hK => ?_) AllReadyH.nil
  go_simp
  go_at_call 30
  refine Calls.mono HCp.out ?_
  rintro e' Y2 ⟨hg2, rfl⟩
  have HPY2 := hidP (HQ4.out.kpn (Gr.n p (HgA.out.trans hg2 fun _ _ h => h)))
  have HkY2 : Hid (Keeps w4 Y2 (fun z => z = b)) := (HgA.out.trans hg2 fun _ _ h => h).mono fun _ _ h => h.elim
  clear hg2
  go_wp2_with fail
  refine hK.out _ _ (HSC.out _ HkY2.out) (fun hHeld => ?_)
  clear hK Kc
  try simp only [Act.put]; try simp only [lA]; try simp only [lB]; try simp only [lC]
  have z0' : Y2.frozen? ⟨b, 0, none⟩ = false := frz HPY2.out.rb 0
  have v0' : Y2.cell? ⟨b, 0, none⟩ = some (.string ⟨#[]⟩) := by simp [World.cell?, HPY2.out.rb]
  have z1' : Y2.frozen? ⟨b, 1, none⟩ = false := frz HPY2.out.rb 1
  have v1' : Y2.cell? ⟨b, 1, none⟩ = some (.bool false) := by simp [World.cell?, HPY2.out.rb]
  have z2' : Y2.frozen? ⟨b, 2, none⟩ = false := frz HPY2.out.rb 2
  have v2' : Y2.cell? ⟨b, 2, none⟩ = some (.int .i64 0) := by simp [World.cell?, HPY2.out.rb]
  have z3' : Y2.frozen? ⟨b, 3, none⟩ = false := frz HPY2.out.rb 3
  have v3' : Y2.cell? ⟨b, 3, none⟩ = some (.int .i64 0) := by simp [World.cell?, HPY2.out.rb]
  have z4' : Y2.frozen? ⟨b, 4, none⟩ = false := frz HPY2.out.rb 4
  have v4' : Y2.cell? ⟨b, 4, none⟩ = some (.int .i64 0) := by simp [World.cell?, HPY2.out.rb]
  have z5' : Y2.frozen? ⟨b, 5, none⟩ = false := frz HPY2.out.rb 5
  have v5' : Y2.cell? ⟨b, 5, none⟩ = some (.int .i64 0) := by simp [World.cell?, HPY2.out.rb]
  have z6' : Y2.frozen? ⟨b, 6, none⟩ = false := frz HPY2.out.rb 6
  have v6' : Y2.cell? ⟨b, 6, none⟩ = some (.slice none 0 0) := by simp [World.cell?, HPY2.out.rb]
  have k3 := put7_keeps Y2 b (.string ⟨#[]⟩) (.bool false) (.int .i64 0) (.int .i64 0) (.int .i64 0) (.int .i64 0) (.slice none 0 0)
  have HK3 := hidP k3
  have HkY3 := hidP (HkY2.out.trans k3 fun _ _ h => h)
  clear k3
  refine wpAnyH_ready (rs := [12]) (by kernel_rfl) (by simp) ?_
  refine AllReadyH.cons (o := { dst := none, op := Op.store 37 (Operand.tmp 2) (Operand.tmp 46), type := 0, pos := "text.go:518", after := #[{ on := 0, ground := Ground.data }, { on := 11, ground := Ground.chain }, { on := 0, ground := Ground.phase }, { on := 1, ground := Ground.textOnly Departure.lateStores }, { on := 2, ground := Ground.textOnly Departure.lateStores }, { on := 3, ground := Ground.textOnly Departure.lateStores }, { on := 4, ground := Ground.textOnly Departure.lateStores }, { on := 5, ground := Ground.textOnly Departure.lateStores }, { on := 6, ground := Ground.textOnly Departure.lateStores }, { on := 7, ground := Ground.textOnly Departure.lateStores }, { on := 8, ground := Ground.textOnly Departure.lateStores }, { on := 9, ground := Ground.textOnly Departure.lateStores }, { on := 10, ground := Ground.textOnly Departure.lateStores }, { on := 11, ground := Ground.textOnly Departure.lateStoresUnsure }], guard := none }) rfl (fun Kc hK => ?_) AllReadyH.nil
  go_simp
  refine hK.out _ _ (HSC.out _ HkY3.out) (fun hHeld => ?_)
  clear hK Kc
  try simp only [Act.put]; try simp only [lA]; try simp only [lB]; try simp only [lC]
  refine tk (i := 13) (oi := { dst := some 3, op := Op.assign (Operand.tmp 48), type := 3, pos := "text.go:518", after := #[{ on := 2, ground := Ground.data }, { on := 12, ground := Ground.chain }, { on := 0, ground := Ground.phase }, { on := 1, ground := Ground.phase }, { on := 2, ground := Ground.phase }, { on := 3, ground := Ground.textOnly Departure.lateStores }, { on := 4, ground := Ground.textOnly Departure.lateStores }, { on := 5, ground := Ground.textOnly Departure.lateStores }, { on := 6, ground := Ground.textOnly Departure.lateStores }, { on := 7, ground := Ground.textOnly Departure.lateStores }, { on := 8, ground := Ground.textOnly Departure.lateStores }, { on := 9, ground := Ground.textOnly Departure.lateStores }, { on := 10, ground := Ground.textOnly Departure.lateStores }, { on := 11, ground := Ground.textOnly Departure.lateStoresUnsure }, { on := 12, ground := Ground.phase }], guard := none }) (v := ?v13z11) rfl (Or.inl ⟨by rfl, ?y13z11⟩) ?r13z11
  case y13z11 => (intro w hSw; obtain ⟨q0, q1, q2, q3, q4, q5, q6, q7, q8⟩ := hSw; go_simp; (try with_reducible rfl))
  try simp only [Act.put]; try simp only [lA]; try simp only [lB]; try simp only [lC]
  refine tk (i := 14) (oi := { dst := some 4, op := Op.assign (Operand.tmp 57), type := 3, pos := "text.go:518", after := #[{ on := 11, ground := Ground.data }, { on := 13, ground := Ground.chain }, { on := 0, ground := Ground.phase }, { on := 1, ground := Ground.phase }, { on := 2, ground := Ground.phase }, { on := 3, ground := Ground.phase }, { on := 4, ground := Ground.phase }, { on := 5, ground := Ground.phase }, { on := 6, ground := Ground.phase }, { on := 7, ground := Ground.phase }, { on := 8, ground := Ground.phase }, { on := 9, ground := Ground.phase }, { on := 10, ground := Ground.phase }, { on := 11, ground := Ground.phase }, { on := 12, ground := Ground.phase }, { on := 13, ground := Ground.phase }], guard := none }) (v := ?v14z12) rfl (Or.inl ⟨by rfl, ?y14z12⟩) ?r14z12
  case y14z12 => (intro w hSw; obtain ⟨q0, q1, q2, q3, q4, q5, q6, q7, q8⟩ := hSw; go_simp; (try with_reducible rfl))
  try simp only [Act.put]; try simp only [lA]; try simp only [lB]; try simp only [lC]
  refine wpAnyH_done (by kernel_rfl) ?_ _
  (try refine NoPanic.normal ?_)
  clear hHeld
  (try go_wp2_with fail)
  have hb3 := put7_box (.string ⟨#[]⟩) (.bool false) (.int .i64 0) (.int .i64 0) (.int .i64 0) (.int .i64 0) (.slice none 0 0) HPY2.out.rb
  (try simp only [Exit.inBlock, Exit.then])
  exact bodyPost_ret (results_pf (z := .int .i64 E1) (x := .int .i64 (pv : Int)) rfl rfl rfl rfl hb3) rfl ⟨gr_pf Hb.out HbP.out.1 HGV.out HPY2.out.kp HK3.out, .inl ⟨E1, (pv : Int), by rw [He.out]; exact HW3.out.2.2, .inr (.inr ⟨Hs.out, [x], [], a9, g9, HRes.out.symm.trans HRo.out, .inr ⟨rfl, L, xx, HW3.out.1, HW3.out.2.1, HW3.out.2.2, He.out, by rw [Hpv.out]⟩⟩), rfl⟩⟩
end Go.Proofs.YtkodgneneiledaaGreatDoor.Kit
