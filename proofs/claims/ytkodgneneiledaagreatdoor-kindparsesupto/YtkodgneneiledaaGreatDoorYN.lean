import Derived.Test.YtkodgneneiledaaGreatDoorYM
set_option maxRecDepth 100000
set_option maxHeartbeats 4000000
namespace Go.Proofs.YtkodgneneiledaaGreatDoor.Kit
open Go.RowKit Go.Shelf Go.Deep
set_option linter.unusedVariables false
attribute [local go_sem] run_store_func
attribute [local go_sem] tok_fld
def yl (y : Except Nat (TP × Ps)) (l : List FT) : Except Nat (List FT × Ps) := match y with | .ok (_, st) => .ok (l, st) | .error o => .error o
theorem yl_ok {y : Except Nat (TP × Ps)} {l l' : List FT} {st : Ps} (h : yl y l = .ok (l', st)) : ∃ t, y = .ok (t, st) ∧ l = l' := by
  cases y with
  | error o => cases h
  | ok z => cases h; exact ⟨z.1, rfl, rfl⟩
theorem yl_mk {y : Except Nat (TP × Ps)} {l : List FT} {t : TP} {st : Ps} (h : y = .ok (t, st)) : yl y l = .ok (l, st) := by rw [h]; rfl
theorem field35_dead (p : Nat) (s : ByteArray) : DeC p s 35 #[.pointer (some ⟨p, 0, none⟩)] XF := by
  intro W o hD
  obtain ⟨W1, hW1⟩ : ∃ W1, W.alloc (.cells #[.string ⟨#[]⟩, .bool false, .int .i64 0, .int .i64 0, .int .i64 0, .int .i64 0, .slice none 0 0] 37) = W1 := ⟨_, rfl⟩
  have g1' : Gr W W1 := by rw [← hW1]; exact gr_alloc W _
  have hb1 : W1.heap[W.heap.size]? = some (.cells #[.string ⟨#[]⟩, .bool false, .int .i64 0, .int .i64 0, .int .i64 0, .int .i64 0, .slice none 0 0] 37 (0, 0)) := by rw [← hW1]; exact heap_alloc_new W _
  have HW1 := hidP hW1
  obtain ⟨b, hb⟩ : ∃ b, b = W.heap.size := ⟨_, rfl⟩
  rw [← hb] at hb1
  have Hb := hidP hb
  have HB1 := hidP hb1
  have HLt := hidP hD.lt
  have HD1 := hidP (hD.gr g1')
  have HG1 := hidP g1'
  clear g1' hb1 hb hW1
  have HNm := hidP (name61D_dead p s)
  obtain ⟨b0, hsee⟩ := see_dd p s o W1 HD1.out
  unfold tokV at hsee
  rcases hTok : tokOf s.data.toList b0 with ⟨tk, tx, tn, tf⟩
  rw [hTok] at hsee
  (try dsimp only at hsee)
  have HSee := hidP hsee
  clear hTok hsee hD
  have h0o : (0 : Int) ≤ (o : Int) := by omega
  go_enter Tryz.func35, Tryz.ntmps35
  go_wp2_with (go_at_call 24; refine Hid.out ?_)
  unfold Hid
  rw [HW1.out, ← Hb.out]
  clear HW1
  refine Calls.mono HSee.out ?_
  rintro e u ⟨hgu, rfl⟩
  have HGu := hidP (HG1.out.trans hgu fun _ _ h => h)
  have HBv := hidP ((hgu.block b (lt_of_heap HB1.out) id).trans HB1.out)
  have HDv := hidP (HD1.out.gr hgu)
  clear hgu HD1 HB1 HG1 HSee
  go_wp2_with (first | (go_at_call 61; refine Calls.mono (HNm.out u o HDv.out) ?_; rintro e U1 ⟨hk, ⟨v, rfl, rfl⟩, hD⟩; have HBu := hidP ((hk.blk (lt_of_heap HBv.out) (by have := Hb.out; have := HLt.out; omega) (IntsB.of HBv.out (by decide))).trans HBv.out); have HKu := hidP ((Gr.n p HGu.out).tr hk); have HDu : Hid (DS U1 p s (.error o)) := hD; clear hk hD) | (with_reducible show wpList Tryz.prog _ _ (Oper.mk (some 16) _ _ _ _ _ :: _) _ _; refine Hid.out ?_))
  unfold Hid
  have hg9 := gr_alloc U1 (.cells #[.string ⟨#[]⟩, .bool false, .int .i64 0, .int .i64 0, .int .i64 0, .int .i64 0, .slice none 0 0] 37)
  have hc9 := heap_alloc_new U1 (.cells #[.string ⟨#[]⟩, .bool false, .int .i64 0, .int .i64 0, .int .i64 0, .int .i64 0, .slice none 0 0] 37)
  obtain ⟨c, hc⟩ : ∃ c, c = U1.heap.size := ⟨_, rfl⟩
  rw [← hc] at hc9 ⊢
  have HF : Hid (FS W (U1.alloc (.cells #[.string ⟨#[]⟩, .bool false, .int .i64 0, .int .i64 0, .int .i64 0, .int .i64 0, .slice none 0 0] 37)) p s b c (.error o) (.string ⟨#[]⟩) (.bool false) (.int .i64 0) (.int .i64 0) (.int .i64 0) (.int .i64 0) (.slice none 0 0)) := ⟨⟨(hg9.block b (lt_of_heap HBu.out) id).trans HBu.out, hc9, by have := Hb.out; omega, by rw [hc]; exact lt_of_heap HBu.out, HLt.out⟩, HKu.out.tr (Gr.n p hg9), HDu.out.gr hg9⟩
  clear hg9 hc9 hc HBu HKu HDu
  generalize U1.alloc (.cells #[.string ⟨#[]⟩, .bool false, .int .i64 0, .int .i64 0, .int .i64 0, .int .i64 0, .slice none 0 0] 37) = V at HF ⊢
  obtain ⟨aa, vn, hAt, _⟩ := (show DD V p s o from HF.out.ds)
  have i2 : V.cell? ⟨p, 2, none⟩ = some (.int .i64 (o : Int)) := by simp [World.cell?, hAt]
  clear hAt
  have u0 := frz HF.out.fb.rb 0
  have v0 : V.cell? ⟨b, 0, none⟩ = some (.string ⟨#[]⟩) := by simp [World.cell?, HF.out.fb.rb]
  have u1 := frz HF.out.fb.rb 1
  have v1 : V.cell? ⟨b, 1, none⟩ = some (.bool false) := by simp [World.cell?, HF.out.fb.rb]
  have u2 := frz HF.out.fb.rb 2
  have v2 : V.cell? ⟨b, 2, none⟩ = some (.int .i64 0) := by simp [World.cell?, HF.out.fb.rb]
  have u3 := frz HF.out.fb.rb 3
  have v3 : V.cell? ⟨b, 3, none⟩ = some (.int .i64 0) := by simp [World.cell?, HF.out.fb.rb]
  have u4 := frz HF.out.fb.rb 4
  have v4 : V.cell? ⟨b, 4, none⟩ = some (.int .i64 0) := by simp [World.cell?, HF.out.fb.rb]
  have u5 := frz HF.out.fb.rb 5
  have v5 : V.cell? ⟨b, 5, none⟩ = some (.int .i64 0) := by simp [World.cell?, HF.out.fb.rb]
  have u6 := frz HF.out.fb.rb 6
  have v6 : V.cell? ⟨b, 6, none⟩ = some (.slice none 0 0) := by simp [World.cell?, HF.out.fb.rb]
  have s0 : V.cell? ⟨c, 0, none⟩ = some (.string ⟨#[]⟩) := by simp [World.cell?, HF.out.fb.tb]
  have s1 : V.cell? ⟨c, 1, none⟩ = some (.bool false) := by simp [World.cell?, HF.out.fb.tb]
  have s2 : V.cell? ⟨c, 2, none⟩ = some (.int .i64 0) := by simp [World.cell?, HF.out.fb.tb]
  have s3 : V.cell? ⟨c, 3, none⟩ = some (.int .i64 0) := by simp [World.cell?, HF.out.fb.tb]
  have s4 : V.cell? ⟨c, 4, none⟩ = some (.int .i64 0) := by simp [World.cell?, HF.out.fb.tb]
  have s5 : V.cell? ⟨c, 5, none⟩ = some (.int .i64 0) := by simp [World.cell?, HF.out.fb.tb]
  have s6 : V.cell? ⟨c, 6, none⟩ = some (.slice none 0 0) := by simp [World.cell?, HF.out.fb.tb]
  have hcb : ¬ c = b := by have := HF.out.fb.lt; omega
  have hbc : ¬ b = c := by have := HF.out.fb.lt; omega
  go_wp2_with fail
  have hb3 := put7_box (.string ⟨#[]⟩) (.bool false) (.int .i64 0) (.int .i64 0) (.int .i64 0) (.int .i64 0) (.slice none 0 0) HF.out.fb.rb
  have k3 := put7_keeps V b (.string ⟨#[]⟩) (.bool false) (.int .i64 0) (.int .i64 0) (.int .i64 0) (.int .i64 0) (.slice none 0 0)
  (try simp only [Exit.inBlock, Exit.then])
  exact bodyPost_ret (results_cell41 rfl rfl hb3 (by kernel_rfl)) rfl (DeQ.mk' (HF.out.kp.trans k3 fun z hz h => by have := HF.out.fb.lt; omega) (xf_any _ _ _ _ _ _ _ _ _) (DD.kept (W := V) HF.out.ds k3 fun z e => by rw [e]; exact HF.out.fb.bok.1))
theorem field35 (p : Nat) (s : ByteArray) (d : Nat) (h64 : ∀ k : Nat, 14 ≤ k → k ≤ 20 → DnC p s d 64 #[.pointer (some ⟨p, 0, none⟩), .int .i64 (k : Int)] (inrP s.data.toList (fieldP s.data.toList d) (k : Int)) (fun W w' t v => TV p (d + 1) W w' ((k : Int), t) v) XT) : DnC p s (d + 1) 35 #[.pointer (some ⟨p, 0, none⟩)] (fieldP s.data.toList (d + 1)) (FV p (d + 1)) XF := by
  intro W c0 g hN hd
  obtain ⟨R, hRes⟩ : ∃ R, R = fieldP s.data.toList (d + 1) (c0, g) := ⟨_, rfl⟩
  rw [← hRes]
  have HRes := hidP hRes
  have hcs := hN.pos
  have hsz := hN.len
  have hfew := hN.few
  obtain ⟨W1, hW1⟩ : ∃ W1, W.alloc (.cells #[.string ⟨#[]⟩, .bool false, .int .i64 0, .int .i64 0, .int .i64 0, .int .i64 0, .slice none 0 0] 37) = W1 := ⟨_, rfl⟩
  have g1' : Gr W W1 := by rw [← hW1]; exact gr_alloc W _
  have hb1 : W1.heap[W.heap.size]? = some (.cells #[.string ⟨#[]⟩, .bool false, .int .i64 0, .int .i64 0, .int .i64 0, .int .i64 0, .slice none 0 0] 37 (0, 0)) := by rw [← hW1]; exact heap_alloc_new W _
  have HW1 := hidP hW1
  obtain ⟨b, hb⟩ : ∃ b, b = W.heap.size := ⟨_, rfl⟩
  rw [← hb] at hb1
  have Hb := hidP hb
  have HB1 := hidP hb1
  have HLt := hidP hN.lt
  have HD1 := hidP (hN.gr g1')
  have HG1 := hidP g1'
  clear g1' hb1 hb hW1
  have HSee := hidP (see_da p s c0 g)
  unfold tokV at HSee
  rcases hTok : tokOf s.data.toList (c0 + skN (s.data.toList.drop c0)) with ⟨tk0, tx0, tn0, tf0⟩
  rw [hTok] at HSee
  (try dsimp only at HSee)
  clear hTok
  obtain ⟨b0, hb0⟩ : ∃ b0, b0 = c0 + skN (s.data.toList.drop c0) := ⟨_, rfl⟩
  rw [← hb0] at HSee
  have Hb0 := hidP hb0
  clear hb0 hRes hN
  have HNm := hidP (name61D p s (s.size + 1))
  have HSg := hidP (cm_of (sign26 p s (s.size + 1) 63 (by unfold signB; decide) (fun v => v = .bool false)) (sign26_dead p s _))
  have H64 := hidP h64
  go_enter Tryz.func35, Tryz.ntmps35
  go_wp2_with (go_at_call 24; refine Hid.out ?_)
  unfold Hid
  rw [HW1.out, ← Hb.out]
  clear HW1
  refine Calls.mono (HSee.out _ HD1.out) ?_
  rintro e u ⟨hgu, rfl⟩
  have HGu := hidP (HG1.out.trans hgu fun _ _ h => h)
  have HBv := hidP ((hgu.block b (lt_of_heap HB1.out) id).trans HB1.out)
  have HDv := hidP (HD1.out.gr hgu)
  clear hgu HD1 HB1 HG1 HSee
  go_wp2_with (go_at_call 61; refine Hid.out ?_)
  unfold Hid
  have hq := HNm.out u c0 g HDv.out (by omega)
  clear HNm HDv
  cases hn : nmP s.data.toList (c0, g) with
  | error o =>
    have HE : Hid (R = .error o) := by show R = _; rw [HRes.out]; exact field_noname hn
    rw [hn] at hq
    refine Calls.mono hq ?_
    rintro e U1 ⟨hk, v, rfl, rfl, hD⟩
    have HBu := hidP ((hk.blk (lt_of_heap HBv.out) (by have := Hb.out; have := HLt.out; omega) (IntsB.of HBv.out (by decide))).trans HBv.out)
    have HKu := hidP ((Gr.n p HGu.out).tr hk)
    have HDu : Hid (DS U1 p s (.error o)) := hD
    clear hk hD hq hn HBv HGu HSg H64
    have h0o : (0 : Int) ≤ (o : Int) := by omega
    go_wp2_with (first | (with_reducible show wpList Tryz.prog _ _ (Oper.mk (some 16) _ _ _ _ _ :: _) _ _; refine Hid.out ?_))
    unfold Hid
    have hg9 := gr_alloc U1 (.cells #[.string ⟨#[]⟩, .bool false, .int .i64 0, .int .i64 0, .int .i64 0, .int .i64 0, .slice none 0 0] 37)
    have hc9 := heap_alloc_new U1 (.cells #[.string ⟨#[]⟩, .bool false, .int .i64 0, .int .i64 0, .int .i64 0, .int .i64 0, .slice none 0 0] 37)
    obtain ⟨c, hc⟩ : ∃ c, c = U1.heap.size := ⟨_, rfl⟩
    rw [← hc] at hc9 ⊢
    have HF : Hid (FS W (U1.alloc (.cells #[.string ⟨#[]⟩, .bool false, .int .i64 0, .int .i64 0, .int .i64 0, .int .i64 0, .slice none 0 0] 37)) p s b c (.error o) (.string ⟨#[]⟩) (.bool false) (.int .i64 0) (.int .i64 0) (.int .i64 0) (.int .i64 0) (.slice none 0 0)) := ⟨⟨(hg9.block b (lt_of_heap HBu.out) id).trans HBu.out, hc9, by have := Hb.out; omega, by rw [hc]; exact lt_of_heap HBu.out, HLt.out⟩, HKu.out.tr (Gr.n p hg9), HDu.out.gr hg9⟩
    clear hg9 hc9 hc HBu HKu HDu
    generalize U1.alloc (.cells #[.string ⟨#[]⟩, .bool false, .int .i64 0, .int .i64 0, .int .i64 0, .int .i64 0, .slice none 0 0] 37) = V at HF ⊢
    obtain ⟨aa, vn, hAt, _⟩ := (show DD V p s o from HF.out.ds)
    have i2 : V.cell? ⟨p, 2, none⟩ = some (.int .i64 (o : Int)) := by simp [World.cell?, hAt]
    clear hAt
    have u0 := frz HF.out.fb.rb 0
    have v0 : V.cell? ⟨b, 0, none⟩ = some (.string ⟨#[]⟩) := by simp [World.cell?, HF.out.fb.rb]
    have u1 := frz HF.out.fb.rb 1
    have v1 : V.cell? ⟨b, 1, none⟩ = some (.bool false) := by simp [World.cell?, HF.out.fb.rb]
    have u2 := frz HF.out.fb.rb 2
    have v2 : V.cell? ⟨b, 2, none⟩ = some (.int .i64 0) := by simp [World.cell?, HF.out.fb.rb]
    have u3 := frz HF.out.fb.rb 3
    have v3 : V.cell? ⟨b, 3, none⟩ = some (.int .i64 0) := by simp [World.cell?, HF.out.fb.rb]
    have u4 := frz HF.out.fb.rb 4
    have v4 : V.cell? ⟨b, 4, none⟩ = some (.int .i64 0) := by simp [World.cell?, HF.out.fb.rb]
    have u5 := frz HF.out.fb.rb 5
    have v5 : V.cell? ⟨b, 5, none⟩ = some (.int .i64 0) := by simp [World.cell?, HF.out.fb.rb]
    have u6 := frz HF.out.fb.rb 6
    have v6 : V.cell? ⟨b, 6, none⟩ = some (.slice none 0 0) := by simp [World.cell?, HF.out.fb.rb]
    have s0 : V.cell? ⟨c, 0, none⟩ = some (.string ⟨#[]⟩) := by simp [World.cell?, HF.out.fb.tb]
    have s1 : V.cell? ⟨c, 1, none⟩ = some (.bool false) := by simp [World.cell?, HF.out.fb.tb]
    have s2 : V.cell? ⟨c, 2, none⟩ = some (.int .i64 0) := by simp [World.cell?, HF.out.fb.tb]
    have s3 : V.cell? ⟨c, 3, none⟩ = some (.int .i64 0) := by simp [World.cell?, HF.out.fb.tb]
    have s4 : V.cell? ⟨c, 4, none⟩ = some (.int .i64 0) := by simp [World.cell?, HF.out.fb.tb]
    have s5 : V.cell? ⟨c, 5, none⟩ = some (.int .i64 0) := by simp [World.cell?, HF.out.fb.tb]
    have s6 : V.cell? ⟨c, 6, none⟩ = some (.slice none 0 0) := by simp [World.cell?, HF.out.fb.tb]
    have hcb : ¬ c = b := by have := HF.out.fb.lt; omega
    have hbc : ¬ b = c := by have := HF.out.fb.lt; omega
    go_wp2_with fail
    have hb3 := put7_box (.string ⟨#[]⟩) (.bool false) (.int .i64 0) (.int .i64 0) (.int .i64 0) (.int .i64 0) (.slice none 0 0) HF.out.fb.rb
    have k3 := put7_keeps V b (.string ⟨#[]⟩) (.bool false) (.int .i64 0) (.int .i64 0) (.int .i64 0) (.int .i64 0) (.slice none 0 0)
    (try simp only [Exit.inBlock, Exit.then])
    exact bodyPost_ret (results_cell41 rfl rfl hb3 (by kernel_rfl)) rfl (field_end (t := .mk ⟨#[]⟩ false 0 0 0 0 []) (y := (.error o : Except Nat (Unit × Ps))) HF.out (HE.out) (fun u st e => by cases e) k3)
  | ok y =>
    obtain ⟨nm, a1, g1⟩ := y
    obtain ⟨hg1, hca, hnm⟩ := nm_ok hn
    subst hg1
    rw [← Hb0.out] at hnm
    have HS : Hid (R = restP s.data.toList (fieldP s.data.toList d) nm (a1, g1 ++ [b0])) := by show R = _; rw [HRes.out]; exact field_rest hnm
    rw [hn] at hq
    refine Calls.mono hq ?_
    rintro e U1 ⟨hk, v, rfl, rfl, hA⟩
    have HBu := hidP ((hk.blk (lt_of_heap HBv.out) (by have := Hb.out; have := HLt.out; omega) (IntsB.of HBv.out (by decide))).trans HBv.out)
    have HKu := hidP ((Gr.n p HGu.out).tr hk)
    have ha1 := hA.pos
    have HDu : Hid (DS U1 p s (.ok (a1, g1))) := hA
    clear hk hA hq hn hnm HBv HGu HRes
    go_wp2_with (first | (with_reducible show wpList Tryz.prog _ _ (Oper.mk (some 16) _ _ _ _ _ :: _) _ _; refine Hid.out ?_))
    unfold Hid
    have hg9 := gr_alloc U1 (.cells #[.string nm, .bool false, .int .i64 0, .int .i64 0, .int .i64 0, .int .i64 0, .slice none 0 0] 37)
    have hc9 := heap_alloc_new U1 (.cells #[.string nm, .bool false, .int .i64 0, .int .i64 0, .int .i64 0, .int .i64 0, .slice none 0 0] 37)
    obtain ⟨c, hc⟩ : ∃ c, c = U1.heap.size := ⟨_, rfl⟩
    rw [← hc] at hc9 ⊢
    have HF : Hid (FS W (U1.alloc (.cells #[.string nm, .bool false, .int .i64 0, .int .i64 0, .int .i64 0, .int .i64 0, .slice none 0 0] 37)) p s b c (.ok (a1, g1)) (.string nm) (.bool false) (.int .i64 0) (.int .i64 0) (.int .i64 0) (.int .i64 0) (.slice none 0 0)) := ⟨⟨(hg9.block b (lt_of_heap HBu.out) id).trans HBu.out, hc9, by have := Hb.out; omega, by rw [hc]; exact lt_of_heap HBu.out, HLt.out⟩, HKu.out.tr (Gr.n p hg9), HDu.out.gr hg9⟩
    clear hg9 hc9 hc HBu HKu HDu
    generalize U1.alloc (.cells #[.string nm, .bool false, .int .i64 0, .int .i64 0, .int .i64 0, .int .i64 0, .slice none 0 0] 37) = V at HF ⊢
    obtain ⟨aa, vo, vc, hAt, hsm, hgc, hcs1⟩ := (show DA V p s a1 g1 from HF.out.ds)
    have i2 : V.cell? ⟨p, 2, none⟩ = some (.int .i64 (-1)) := by simp [World.cell?, hAt.box]
    have i3 : V.cell? ⟨p, 3, none⟩ = some (.slice vo g1.length vc) := by simp [World.cell?, hAt.box]
    have HAt := hidP hAt
    have Hsm := hidP hsm
    have Hgc := hidP hgc
    clear hAt hsm hgc hcs1
    go_wp2_with (first | (with_reducible show wpList Tryz.prog _ _ (Oper.mk (some 27) _ _ _ _ _ :: _) _ _; refine Hid.out ?_))
    unfold Hid
    refine wpList_append_any (P := Tryz.prog) _ rfl (.tmp 24) (.tmp 26) 44 44 rfl 3 (.int .i64 0) 8 Tryz.underlying44 info3 rfl _ g1.length (ints g1) rfl (HAt.out.own.alloc _) _ 1 [.int .i64 (b0 : Int)] rfl (src_int V (.int .i64 (b0 : Int)) rfl) (by omega) (by omega) ?_
    refine Hid.out ?_
    unfold Hid
    intro v' w1 hown hgrow hblk
    obtain ⟨vo', vc', rfl⟩ := own_formK hown
    obtain ⟨c3, z3, hkp, hAt2⟩ := names_push HAt.out hown hgrow hblk
    have hL : (g1 ++ [b0]).length = g1.length + 1 := by simp
    have HF2 : Hid (FS W _ p s b c (.ok (a1, g1 ++ [b0])) _ _ _ _ _ _ _) := HF.out.call hkp (show DA _ p s a1 (g1 ++ [b0]) from ⟨aa, vo', vc', hAt2, Hsm.out, by rw [hL]; omega, ha1⟩)
    clear hown hgrow hblk hkp hAt2 hL HF HAt Hsm Hgc i2 i3
    go_wp2_with (go_at_call 24; refine Hid.out ?_)
    unfold Hid
    clear c3 z3
    generalize w1.setCell ⟨p, 3, none⟩ (.slice vo' (g1.length + 1) vc') = V2 at HF2 ⊢
    have HF := HF2
    clear HF2
    obtain ⟨g2, hg2⟩ : ∃ g2, g2 = g1 ++ [b0] := ⟨_, rfl⟩
    rw [← hg2] at HF HS
    clear hg2
    have hsee := see_da p s a1 g2 V2 HF.out.ds
    unfold tokV at hsee
    rcases hTok : tokOf s.data.toList (a1 + skN (s.data.toList.drop a1)) with ⟨tk, tx, tn, tf⟩
    rw [hTok] at hsee
    (try dsimp only at hsee)
    obtain ⟨b2, hb2⟩ : ∃ b2, b2 = a1 + skN (s.data.toList.drop a1) := ⟨_, rfl⟩
    rw [← hb2] at hsee hTok
    have hb2s : b2 ≤ s.size := by rw [hb2]; exact skN_le s ha1
    obtain ⟨hmean, htn⟩ := mean_tok (g := g2) (of := kindO) (by decide +kernel) hb2 hb2s hTok
    have Hb2 := hidP hb2
    have HMe := hidP hmean
    have Htn := hidP htn
    clear hTok hmean htn hb2
    refine Calls.mono hsee ?_
    rintro e u2 ⟨hgu, rfl⟩
    have HF3 := hidP (HF.out.gr hgu)
    clear HF hgu hsee
    have HF := HF3
    clear HF3
    go_wp2_with (with_reducible show wpList Tryz.prog _ _ (Oper.mk (some 32) _ _ _ _ _ :: _) _ _; refine Hid.out ?_)
    unfold Hid
    have hz1 := heap_alloc_new u2 (.cells #[.int .i64 tk, .string tx, .int .i64 (b2 : Int), .int .i64 (tn : Int), .int .i64 tf] 64)
    have hz2 := gr_alloc u2 (.cells #[.int .i64 tk, .string tx, .int .i64 (b2 : Int), .int .i64 (tn : Int), .int .i64 tf] 64)
    have HF3 := hidP (HF.out.gr hz2)
    have HKc : Hid (c < u2.heap.size ∧ p < u2.heap.size) := ⟨lt_of_heap HF.out.fb.tb, HF.out.ds.lt⟩
    obtain ⟨K, hK⟩ : ∃ K, K = u2.heap.size := ⟨_, rfl⟩
    rw [← hK] at hz1 HKc ⊢
    have HKt := hidP hz1
    clear HF hz1 hz2 hK
    have HF := HF3
    clear HF3
    generalize u2.alloc (.cells #[.int .i64 tk, .string tx, .int .i64 (b2 : Int), .int .i64 (tn : Int), .int .i64 tf] 64) = U at HF HKt ⊢
    have t0 : U.cell? ⟨K, 0, none⟩ = some (.int .i64 tk) := by simp [World.cell?, HKt.out]
    by_cases h1 : tk = 1
    · have hek : (tk == 1) = true := beq_iff_eq.2 h1
      have hme := HMe.out
      rw [if_pos h1] at hme
      have htn := Htn.out h1
      clear h1 HMe Htn
      rcases kindO_cases tx with hk | ⟨k, hk1, hk2, hk, _⟩
      · rw [hk, if_pos (by decide)] at hme
        have HE : Hid (R = .error b2) := by show R = _; rw [HS.out]; exact rest_none hme
        have hpl : plainO tx = 0 := by unfold plainO; rw [hk]; rfl
        have hop : openO tx = 0 := by unfold openO; rw [hk]; rfl
        clear hk hme HS htn HSg H64
        have H62 : Hid (∀ w, Calls Tryz.prog 62 #[.string tx] w fun e w' => e = .returned (.int .i64 0) ∧ w' = w) := fun w => by have := kindOf62 tx w; rw [hpl] at this; exact this
        have H63 : Hid (∀ w, Calls Tryz.prog 63 #[.string tx] w fun e w' => e = .returned (.int .i64 0) ∧ w' = w) := fun w => by have := kindOpen63 tx w; rw [hop] at this; exact this
        have HC : Hid (U.drew.cell? ⟨K, 1, none⟩ = some (.string tx)) := (show U.cell? ⟨K, 1, none⟩ = some (.string tx) by simp [World.cell?, HKt.out])
        clear hpl hop
        go_wp2_with fail
        clear t0
        go_region_held3 (fun w' => w'.cell? ⟨K, 1, none⟩ = some (.string tx)) (with_reducible exact HC.out) (first | (go_at_call 62; refine Calls.mono (H62.out _) ?_; rintro e u1 ⟨rfl, rfl⟩) | (go_at_call 63; refine Calls.mono (H63.out _) ?_; rintro e u1 ⟨rfl, rfl⟩))
        have HF4 := hidP (HF.out.gr (drew_gr U))
        have HKt4 : Hid (U.drew.heap[K]? = _) := HKt.out
        clear HF HKt HC H62 H63; (try clear hHeld)
        have HF := HF4
        have HKt := HKt4
        clear HF4 HKt4
        generalize U.drew = U4 at HF HKt ⊢
        have HWr := hidP (wrong55 p s U4 a1 g2 HF.out.ds)
        rw [← Hb2.out] at HWr
        go_wp2_with (first | (go_at_call 55; refine Calls.mono HWr.out ?_; rintro e U5 ⟨hk, rfl, hD⟩; have HF5 := hidP (HF.out.call hk (q' := .error b2) hD); clear HF hk hD) | (with_reducible show wpList Tryz.prog _ _ (Oper.mk (some 49) _ _ _ _ _ :: _) _ _; refine Hid.out ?_))
        unfold Hid
        have HF := HF5
        clear HF5 HWr
        have u0 := frz HF.out.fb.rb 0
        have v0 : U5.cell? ⟨b, 0, none⟩ = some (.string ⟨#[]⟩) := by simp [World.cell?, HF.out.fb.rb]
        have u1 := frz HF.out.fb.rb 1
        have v1 : U5.cell? ⟨b, 1, none⟩ = some (.bool false) := by simp [World.cell?, HF.out.fb.rb]
        have u2 := frz HF.out.fb.rb 2
        have v2 : U5.cell? ⟨b, 2, none⟩ = some (.int .i64 0) := by simp [World.cell?, HF.out.fb.rb]
        have u3 := frz HF.out.fb.rb 3
        have v3 : U5.cell? ⟨b, 3, none⟩ = some (.int .i64 0) := by simp [World.cell?, HF.out.fb.rb]
        have u4 := frz HF.out.fb.rb 4
        have v4 : U5.cell? ⟨b, 4, none⟩ = some (.int .i64 0) := by simp [World.cell?, HF.out.fb.rb]
        have u5 := frz HF.out.fb.rb 5
        have v5 : U5.cell? ⟨b, 5, none⟩ = some (.int .i64 0) := by simp [World.cell?, HF.out.fb.rb]
        have u6 := frz HF.out.fb.rb 6
        have v6 : U5.cell? ⟨b, 6, none⟩ = some (.slice none 0 0) := by simp [World.cell?, HF.out.fb.rb]
        have s0 : U5.cell? ⟨c, 0, none⟩ = some (.string nm) := by simp [World.cell?, HF.out.fb.tb]
        have s1 : U5.cell? ⟨c, 1, none⟩ = some (.bool false) := by simp [World.cell?, HF.out.fb.tb]
        have s2 : U5.cell? ⟨c, 2, none⟩ = some (.int .i64 0) := by simp [World.cell?, HF.out.fb.tb]
        have s3 : U5.cell? ⟨c, 3, none⟩ = some (.int .i64 0) := by simp [World.cell?, HF.out.fb.tb]
        have s4 : U5.cell? ⟨c, 4, none⟩ = some (.int .i64 0) := by simp [World.cell?, HF.out.fb.tb]
        have s5 : U5.cell? ⟨c, 5, none⟩ = some (.int .i64 0) := by simp [World.cell?, HF.out.fb.tb]
        have s6 : U5.cell? ⟨c, 6, none⟩ = some (.slice none 0 0) := by simp [World.cell?, HF.out.fb.tb]
        have hcb : ¬ c = b := by have := HF.out.fb.lt; omega
        have hbc : ¬ b = c := by have := HF.out.fb.lt; omega
        go_wp2_with fail
        have hb3 := put7_box (.string nm) (.bool false) (.int .i64 0) (.int .i64 0) (.int .i64 0) (.int .i64 0) (.slice none 0 0) HF.out.fb.rb
        have k3 := put7_keeps U5 b (.string nm) (.bool false) (.int .i64 0) (.int .i64 0) (.int .i64 0) (.int .i64 0) (.slice none 0 0)
        (try simp only [Exit.inBlock, Exit.then])
        exact bodyPost_ret (results_cell41 rfl rfl hb3 (by kernel_rfl)) rfl (field_end (t := .mk ⟨#[]⟩ false 0 0 0 0 []) (y := (.error b2 : Except Nat (Unit × Ps))) HF.out (HE.out) (fun u st e => by cases e) k3)
      have hn0 : ¬ kindO tx < 0 := by rw [hk]; omega
      rw [if_neg hn0, hk] at hme
      have HMk := hidP hme
      clear hn0 hme
      have hkz : ((k : Int) == 0) = false := beq_eq_false_iff_ne.2 (by omega)
      have hkn : ((k : Int) != 0) = true := bne_iff_ne.2 (by omega)
      by_cases h14 : (k : Int) < 14
      · have hpl : plainO tx = (k : Int) := by unfold plainO; rw [hk, if_pos (by omega)]
        have hop : openO tx = 0 := by unfold openO; rw [hk, if_neg (by omega)]
        have HRb : Hid (R = bp (bnd (.ok (tn, g2)) (takesP s.data.toList 63)) fun b => Pr.pure (.mk nm b (k : Int) 0 0 0 [])) := by show R = _; rw [HS.out]; exact rest_plain HMk.out h14
        clear hk h14 HS HMk H64
        have H62 : Hid (∀ w, Calls Tryz.prog 62 #[.string tx] w fun e w' => e = .returned (.int .i64 (k : Int)) ∧ w' = w) := fun w => by have := kindOf62 tx w; rw [hpl] at this; exact this
        have H63 : Hid (∀ w, Calls Tryz.prog 63 #[.string tx] w fun e w' => e = .returned (.int .i64 0) ∧ w' = w) := fun w => by have := kindOpen63 tx w; rw [hop] at this; exact this
        have HC : Hid (U.drew.cell? ⟨K, 1, none⟩ = some (.string tx)) := (show U.cell? ⟨K, 1, none⟩ = some (.string tx) by simp [World.cell?, HKt.out])
        clear hpl hop
        go_wp2_with fail
        clear t0
        go_region_held3 (fun w' => w'.cell? ⟨K, 1, none⟩ = some (.string tx)) (with_reducible exact HC.out) (first | (go_at_call 62; refine Calls.mono (H62.out _) ?_; rintro e u1 ⟨rfl, rfl⟩) | (go_at_call 63; refine Calls.mono (H63.out _) ?_; rintro e u1 ⟨rfl, rfl⟩))
        have HF4 := hidP (HF.out.gr (drew_gr U))
        have HKt4 : Hid (U.drew.heap[K]? = _) := HKt.out
        clear HF HKt HC H62 H63; (try clear hHeld)
        have HF := HF4
        have HKt := HKt4
        clear HF4 HKt4
        generalize U.drew = U4 at HF HKt ⊢
        obtain ⟨aa4, vo4, vc4, hAt4, _, hgc4, _⟩ := (show DA U4 p s a1 g2 from HF.out.ds)
        have d1 : U4.cell? ⟨p, 1, none⟩ = some (.int .i64 (aa4 : Int)) := by simp [World.cell?, hAt4.box]
        have z1 : U4.frozen? ⟨p, 1, none⟩ = false := frz hAt4.box 1
        have t3 : U4.cell? ⟨K, 3, none⟩ = some (.int .i64 (tn : Int)) := by simp [World.cell?, HKt.out]
        have HF6 : Hid (FS W (U4.setCell ⟨p, 1, none⟩ (.int .i64 (tn : Int))) p s b c (.ok (tn, g2)) (.string nm) (.bool false) (.int .i64 0) (.int .i64 0) (.int .i64 0) (.int .i64 0) (.slice none 0 0)) := HF.out.call (kpn_set (Keeps.refl U4 _)) (show DA _ p s tn g2 from ⟨tn, vo4, vc4, hAt4.move htn.2.1, rfl, by have := Hb2.out; omega, htn.2.1⟩)
        clear hAt4
        go_wp2_with (first | (with_reducible show wpList Tryz.prog _ _ (Oper.mk (some 57) _ _ _ _ _ :: _) _ _; refine Hid.out ?_))
        unfold Hid
        clear d1 z1 t3 HF HKt HKc
        generalize U4.setCell ⟨p, 1, none⟩ (.int .i64 (tn : Int)) = V4 at HF6 ⊢
        have HF := HF6
        clear HF6
        have w2 := frz HF.out.fb.tb 2
        have y2 : V4.cell? ⟨c, 2, none⟩ = some (.int .i64 0) := by simp [World.cell?, HF.out.fb.tb]
        have w3 := frz HF.out.fb.tb 3
        have y3 : V4.cell? ⟨c, 3, none⟩ = some (.int .i64 0) := by simp [World.cell?, HF.out.fb.tb]
        have w4 := frz HF.out.fb.tb 4
        have y4 : V4.cell? ⟨c, 4, none⟩ = some (.int .i64 0) := by simp [World.cell?, HF.out.fb.tb]
        have w5 := frz HF.out.fb.tb 5
        have y5 : V4.cell? ⟨c, 5, none⟩ = some (.int .i64 0) := by simp [World.cell?, HF.out.fb.tb]
        have w6 := frz HF.out.fb.tb 6
        have y6 : V4.cell? ⟨c, 6, none⟩ = some (.slice none 0 0) := by simp [World.cell?, HF.out.fb.tb]
        have HF7 := hidP (HF.out.set25 (.int .i64 (k : Int)) (.int .i64 0) (.int .i64 0) (.int .i64 0) (.slice none 0 0))
        go_wp2_with (go_at_call 26; refine Hid.out ?_)
        unfold Hid
        clear w2 w3 w4 w5 w6 y2 y3 y4 y5 y6 HF
        generalize (((((V4.setCell ⟨c, 2, none⟩ (.int .i64 (k : Int))).setCell ⟨c, 3, none⟩ (.int .i64 0)).setCell ⟨c, 4, none⟩ (.int .i64 0)).setCell ⟨c, 5, none⟩ (.int .i64 0)).setCell ⟨c, 6, none⟩ (.slice none 0 0)) = V7 at HF7 ⊢
        have HF := HF7
        clear HF7
        refine Calls.mono (HSg.out V7 (.ok (tn, g2)) HF.out.ds (fun st _ => by omega)) ?_
        intro e U8 hp
        obtain ⟨bb, rfl, hk8, hD8, hv8, _⟩ := bool_post hp
        have HF8 := hidP (HF.out.call hk8 hD8)
        have HRc := hidP (HRb.out.trans (bp_val _ hv8))
        clear HF hp hk8 hD8 hv8 HRb HSg
        have f1 := frz HF8.out.fb.tb 1
        have e1 : U8.cell? ⟨c, 1, none⟩ = some (.bool false) := by simp [World.cell?, HF8.out.fb.tb]
        have HF9 := hidP (HF8.out.set1 (.bool bb))
        clear HF8
        go_wp2_with (first | (with_reducible show wpList Tryz.prog _ _ (Oper.mk (some 67) _ _ _ _ _ :: _) _ _; refine Hid.out ?_))
        unfold Hid
        clear f1 e1
        generalize U8.setCell ⟨c, 1, none⟩ (.bool bb) = U9 at HF9 ⊢
        have HF := HF9
        clear HF9
        have u0 := frz HF.out.fb.rb 0
        have v0 : U9.cell? ⟨b, 0, none⟩ = some (.string ⟨#[]⟩) := by simp [World.cell?, HF.out.fb.rb]
        have u1 := frz HF.out.fb.rb 1
        have v1 : U9.cell? ⟨b, 1, none⟩ = some (.bool false) := by simp [World.cell?, HF.out.fb.rb]
        have u2 := frz HF.out.fb.rb 2
        have v2 : U9.cell? ⟨b, 2, none⟩ = some (.int .i64 0) := by simp [World.cell?, HF.out.fb.rb]
        have u3 := frz HF.out.fb.rb 3
        have v3 : U9.cell? ⟨b, 3, none⟩ = some (.int .i64 0) := by simp [World.cell?, HF.out.fb.rb]
        have u4 := frz HF.out.fb.rb 4
        have v4 : U9.cell? ⟨b, 4, none⟩ = some (.int .i64 0) := by simp [World.cell?, HF.out.fb.rb]
        have u5 := frz HF.out.fb.rb 5
        have v5 : U9.cell? ⟨b, 5, none⟩ = some (.int .i64 0) := by simp [World.cell?, HF.out.fb.rb]
        have u6 := frz HF.out.fb.rb 6
        have v6 : U9.cell? ⟨b, 6, none⟩ = some (.slice none 0 0) := by simp [World.cell?, HF.out.fb.rb]
        have s0 : U9.cell? ⟨c, 0, none⟩ = some (.string nm) := by simp [World.cell?, HF.out.fb.tb]
        have s1 : U9.cell? ⟨c, 1, none⟩ = some (.bool bb) := by simp [World.cell?, HF.out.fb.tb]
        have s2 : U9.cell? ⟨c, 2, none⟩ = some (.int .i64 (k : Int)) := by simp [World.cell?, HF.out.fb.tb]
        have s3 : U9.cell? ⟨c, 3, none⟩ = some (.int .i64 0) := by simp [World.cell?, HF.out.fb.tb]
        have s4 : U9.cell? ⟨c, 4, none⟩ = some (.int .i64 0) := by simp [World.cell?, HF.out.fb.tb]
        have s5 : U9.cell? ⟨c, 5, none⟩ = some (.int .i64 0) := by simp [World.cell?, HF.out.fb.tb]
        have s6 : U9.cell? ⟨c, 6, none⟩ = some (.slice none 0 0) := by simp [World.cell?, HF.out.fb.tb]
        have hcb : ¬ c = b := by have := HF.out.fb.lt; omega
        have hbc : ¬ b = c := by have := HF.out.fb.lt; omega
        go_wp2_with fail
        have hb3 := put7_box (.string nm) (.bool bb) (.int .i64 (k : Int)) (.int .i64 0) (.int .i64 0) (.int .i64 0) (.slice none 0 0) HF.out.fb.rb
        have k3 := put7_keeps U9 b (.string nm) (.bool bb) (.int .i64 (k : Int)) (.int .i64 0) (.int .i64 0) (.int .i64 0) (.slice none 0 0)
        (try simp only [Exit.inBlock, Exit.then])
        exact bodyPost_ret (results_cell41 rfl rfl hb3 (by kernel_rfl)) rfl (field_end (y := _) HF.out (HRc.out) (fun u st e => ⟨[], rfl, rfl, Nat.zero_le _, by simp [big], fun h => absurd rfl h⟩) k3)
      have hpl : plainO tx = 0 := by unfold plainO; rw [hk, if_neg (by omega)]
      have hop : openO tx = (k : Int) := by unfold openO; rw [hk, if_pos (by omega)]
      have HRb : Hid (R = bp (bnd (.ok (tn, g2)) (inrP s.data.toList (fieldP s.data.toList d) (k : Int))) fun t => (takesP s.data.toList 63).bind fun b => Pr.pure (.mk nm b (k : Int) t.width t.id t.index t.kids)) := by show R = _; rw [HS.out]; exact rest_open HMk.out h14
      have HI := hidP (H64.out k (by omega) hk2)
      clear hk h14 HS HMk H64
      have H62 : Hid (∀ w, Calls Tryz.prog 62 #[.string tx] w fun e w' => e = .returned (.int .i64 0) ∧ w' = w) := fun w => by have := kindOf62 tx w; rw [hpl] at this; exact this
      have H63 : Hid (∀ w, Calls Tryz.prog 63 #[.string tx] w fun e w' => e = .returned (.int .i64 (k : Int)) ∧ w' = w) := fun w => by have := kindOpen63 tx w; rw [hop] at this; exact this
      have HC : Hid (U.drew.cell? ⟨K, 1, none⟩ = some (.string tx)) := (show U.cell? ⟨K, 1, none⟩ = some (.string tx) by simp [World.cell?, HKt.out])
      clear hpl hop
      go_wp2_with fail
      clear t0
      go_region_held3 (fun w' => w'.cell? ⟨K, 1, none⟩ = some (.string tx)) (with_reducible exact HC.out) (first | (go_at_call 62; refine Calls.mono (H62.out _) ?_; rintro e u1 ⟨rfl, rfl⟩) | (go_at_call 63; refine Calls.mono (H63.out _) ?_; rintro e u1 ⟨rfl, rfl⟩))
      have HF4 := hidP (HF.out.gr (drew_gr U))
      have HKt4 : Hid (U.drew.heap[K]? = _) := HKt.out
      clear HF HKt HC H62 H63; (try clear hHeld)
      have HF := HF4
      have HKt := HKt4
      clear HF4 HKt4
      generalize U.drew = U4 at HF HKt ⊢
      obtain ⟨aa4, vo4, vc4, hAt4, _, hgc4, _⟩ := (show DA U4 p s a1 g2 from HF.out.ds)
      have d1 : U4.cell? ⟨p, 1, none⟩ = some (.int .i64 (aa4 : Int)) := by simp [World.cell?, hAt4.box]
      have z1 : U4.frozen? ⟨p, 1, none⟩ = false := frz hAt4.box 1
      have t3 : U4.cell? ⟨K, 3, none⟩ = some (.int .i64 (tn : Int)) := by simp [World.cell?, HKt.out]
      have HF6 : Hid (FS W (U4.setCell ⟨p, 1, none⟩ (.int .i64 (tn : Int))) p s b c (.ok (tn, g2)) (.string nm) (.bool false) (.int .i64 0) (.int .i64 0) (.int .i64 0) (.int .i64 0) (.slice none 0 0)) := HF.out.call (kpn_set (Keeps.refl U4 _)) (show DA _ p s tn g2 from ⟨tn, vo4, vc4, hAt4.move htn.2.1, rfl, by have := Hb2.out; omega, htn.2.1⟩)
      clear hAt4
      go_wp2_with (first | (with_reducible show wpList Tryz.prog _ _ (Oper.mk (some 57) _ _ _ _ _ :: _) _ _; refine Hid.out ?_))
      unfold Hid
      clear d1 z1 t3 HF HKt HKc
      generalize U4.setCell ⟨p, 1, none⟩ (.int .i64 (tn : Int)) = V4 at HF6 ⊢
      have HF := HF6
      clear HF6
      have w2 := frz HF.out.fb.tb 2
      have y2 : V4.cell? ⟨c, 2, none⟩ = some (.int .i64 0) := by simp [World.cell?, HF.out.fb.tb]
      have w3 := frz HF.out.fb.tb 3
      have y3 : V4.cell? ⟨c, 3, none⟩ = some (.int .i64 0) := by simp [World.cell?, HF.out.fb.tb]
      have w4 := frz HF.out.fb.tb 4
      have y4 : V4.cell? ⟨c, 4, none⟩ = some (.int .i64 0) := by simp [World.cell?, HF.out.fb.tb]
      have w5 := frz HF.out.fb.tb 5
      have y5 : V4.cell? ⟨c, 5, none⟩ = some (.int .i64 0) := by simp [World.cell?, HF.out.fb.tb]
      have w6 := frz HF.out.fb.tb 6
      have y6 : V4.cell? ⟨c, 6, none⟩ = some (.slice none 0 0) := by simp [World.cell?, HF.out.fb.tb]
      have HF7 := hidP (HF.out.set25 (.int .i64 0) (.int .i64 0) (.int .i64 0) (.int .i64 0) (.slice none 0 0))
      go_wp2_with (go_at_call 64; refine Hid.out ?_)
      unfold Hid
      clear w2 w3 w4 w5 w6 y2 y3 y4 y5 y6 HF
      generalize (((((V4.setCell ⟨c, 2, none⟩ (.int .i64 0)).setCell ⟨c, 3, none⟩ (.int .i64 0)).setCell ⟨c, 4, none⟩ (.int .i64 0)).setCell ⟨c, 5, none⟩ (.int .i64 0)).setCell ⟨c, 6, none⟩ (.slice none 0 0)) = V7 at HF7 ⊢
      have HF := HF7
      clear HF7
      refine Calls.mono (HI.out V7 tn g2 HF.out.ds (by have := Hb2.out; have := htn.1; omega)) ?_
      intro e U7 hp
      obtain ⟨k1, x1, y1, z1, ko, kn, kc, l, rfl, hk7, hD7, hv7, hrow⟩ := typ_post hp
      have HVp : Hid (p < V7.heap.size) := HF.out.ds.lt
      have HVb : Hid (b < V7.heap.size ∧ c < V7.heap.size) := ⟨lt_of_heap HF.out.fb.rb, lt_of_heap HF.out.fb.tb⟩
      have HVw : Hid (W.heap.size ≤ V7.heap.size) := HF.out.kp.size
      have HF7 := hidP (HF.out.call hk7 hD7)
      obtain ⟨yi, hyi⟩ : ∃ y, y = bnd (.ok (tn, g2)) (inrP s.data.toList (fieldP s.data.toList d) (k : Int)) := ⟨_, rfl⟩
      have hyi2 : inrP s.data.toList (fieldP s.data.toList d) (k : Int) (tn, g2) = yi := hyi.symm
      rw [hyi2] at HF7 hv7 hrow
      rw [← hyi] at HRb
      have HRn := hidP ((HRb.out.trans (bp_val _ hv7)).trans (bp_step _ _ _))
      clear HRb
      have HRb := HRn
      clear HRn
      have HRow : Hid (RS p V7 U7 (d + 1) ko kn kc (yl yi l)) := fun l' st e => by obtain ⟨t', e1, rfl⟩ := yl_ok e; exact ⟨(hrow _ _ e1).2.1, (hrow _ _ e1).2.2⟩
      have Hk1 : Hid (∀ t st, yi = .ok (t, st) → k1 = (k : Int)) := fun t st e => (hrow t st e).1
      clear hp hk7 hD7 hv7 hrow HF HI hyi hyi2
      have HF := HF7
      clear HF7
      have w2 := frz HF.out.fb.tb 2
      have y2 : U7.cell? ⟨c, 2, none⟩ = some (.int .i64 0) := by simp [World.cell?, HF.out.fb.tb]
      have w3 := frz HF.out.fb.tb 3
      have y3 : U7.cell? ⟨c, 3, none⟩ = some (.int .i64 0) := by simp [World.cell?, HF.out.fb.tb]
      have w4 := frz HF.out.fb.tb 4
      have y4 : U7.cell? ⟨c, 4, none⟩ = some (.int .i64 0) := by simp [World.cell?, HF.out.fb.tb]
      have w5 := frz HF.out.fb.tb 5
      have y5 : U7.cell? ⟨c, 5, none⟩ = some (.int .i64 0) := by simp [World.cell?, HF.out.fb.tb]
      have w6 := frz HF.out.fb.tb 6
      have y6 : U7.cell? ⟨c, 6, none⟩ = some (.slice none 0 0) := by simp [World.cell?, HF.out.fb.tb]
      have HF7 := hidP (HF.out.set25 (.int .i64 k1) (.int .i64 x1) (.int .i64 y1) (.int .i64 z1) (.slice ko kn kc))
      have HRow7 := hidP (HRow.out.set (put25 (.int .i64 k1) (.int .i64 x1) (.int .i64 y1) (.int .i64 z1) (.slice ko kn kc) HF.out.fb.tb).2 HVb.out.2)
      clear HRow
      go_wp2_with (go_at_call 26; refine Hid.out ?_)
      unfold Hid
      clear w2 w3 w4 w5 w6 y2 y3 y4 y5 y6 HF
      generalize (((((U7.setCell ⟨c, 2, none⟩ (.int .i64 k1)).setCell ⟨c, 3, none⟩ (.int .i64 x1)).setCell ⟨c, 4, none⟩ (.int .i64 y1)).setCell ⟨c, 5, none⟩ (.int .i64 z1)).setCell ⟨c, 6, none⟩ (.slice ko kn kc)) = V8 at HF7 HRow7 ⊢
      have HF := HF7
      have HRow := HRow7
      clear HF7 HRow7
      refine Calls.mono (HSg.out V8 (qs yi) HF.out.ds (fun st _ => by omega)) ?_
      intro e U8 hp
      obtain ⟨bb, rfl, hk8, hD8, hv8, _⟩ := bool_post hp
      have HF8 := hidP (HF.out.call hk8 hD8)
      have HRc := hidP (HRb.out.trans (bp_val _ hv8))
      have HRow8 := hidP (HRow.out.kp hk8 HVp.out)
      clear HRow
      clear HF hp hk8 hD8 hv8 HRb HSg
      have f1 := frz HF8.out.fb.tb 1
      have e1 : U8.cell? ⟨c, 1, none⟩ = some (.bool false) := by simp [World.cell?, HF8.out.fb.tb]
      have HF9 := hidP (HF8.out.set1 (.bool bb))
      have HRow9 := hidP (HRow8.out.set (IS.kS (c := c) (i := 1) (v := .bool bb)) HVb.out.2)
      clear HRow8
      clear HF8
      go_wp2_with (first | (with_reducible show wpList Tryz.prog _ _ (Oper.mk (some 67) _ _ _ _ _ :: _) _ _; refine Hid.out ?_))
      unfold Hid
      clear f1 e1
      generalize U8.setCell ⟨c, 1, none⟩ (.bool bb) = U9 at HF9 HRow9 ⊢
      have HF := HF9
      clear HF9
      have u0 := frz HF.out.fb.rb 0
      have v0 : U9.cell? ⟨b, 0, none⟩ = some (.string ⟨#[]⟩) := by simp [World.cell?, HF.out.fb.rb]
      have u1 := frz HF.out.fb.rb 1
      have v1 : U9.cell? ⟨b, 1, none⟩ = some (.bool false) := by simp [World.cell?, HF.out.fb.rb]
      have u2 := frz HF.out.fb.rb 2
      have v2 : U9.cell? ⟨b, 2, none⟩ = some (.int .i64 0) := by simp [World.cell?, HF.out.fb.rb]
      have u3 := frz HF.out.fb.rb 3
      have v3 : U9.cell? ⟨b, 3, none⟩ = some (.int .i64 0) := by simp [World.cell?, HF.out.fb.rb]
      have u4 := frz HF.out.fb.rb 4
      have v4 : U9.cell? ⟨b, 4, none⟩ = some (.int .i64 0) := by simp [World.cell?, HF.out.fb.rb]
      have u5 := frz HF.out.fb.rb 5
      have v5 : U9.cell? ⟨b, 5, none⟩ = some (.int .i64 0) := by simp [World.cell?, HF.out.fb.rb]
      have u6 := frz HF.out.fb.rb 6
      have v6 : U9.cell? ⟨b, 6, none⟩ = some (.slice none 0 0) := by simp [World.cell?, HF.out.fb.rb]
      have s0 : U9.cell? ⟨c, 0, none⟩ = some (.string nm) := by simp [World.cell?, HF.out.fb.tb]
      have s1 : U9.cell? ⟨c, 1, none⟩ = some (.bool bb) := by simp [World.cell?, HF.out.fb.tb]
      have s2 : U9.cell? ⟨c, 2, none⟩ = some (.int .i64 k1) := by simp [World.cell?, HF.out.fb.tb]
      have s3 : U9.cell? ⟨c, 3, none⟩ = some (.int .i64 x1) := by simp [World.cell?, HF.out.fb.tb]
      have s4 : U9.cell? ⟨c, 4, none⟩ = some (.int .i64 y1) := by simp [World.cell?, HF.out.fb.tb]
      have s5 : U9.cell? ⟨c, 5, none⟩ = some (.int .i64 z1) := by simp [World.cell?, HF.out.fb.tb]
      have s6 : U9.cell? ⟨c, 6, none⟩ = some (.slice ko kn kc) := by simp [World.cell?, HF.out.fb.tb]
      have hcb : ¬ c = b := by have := HF.out.fb.lt; omega
      have hbc : ¬ b = c := by have := HF.out.fb.lt; omega
      go_wp2_with fail
      have hb3 := put7_box (.string nm) (.bool bb) (.int .i64 k1) (.int .i64 x1) (.int .i64 y1) (.int .i64 z1) (.slice ko kn kc) HF.out.fb.rb
      have k3 := put7_keeps U9 b (.string nm) (.bool bb) (.int .i64 k1) (.int .i64 x1) (.int .i64 y1) (.int .i64 z1) (.slice ko kn kc)
      (try simp only [Exit.inBlock, Exit.then])
      exact bodyPost_ret (results_cell41 rfl rfl hb3 (by kernel_rfl)) rfl (field_end (y := _) HF.out (HRc.out) (fun u st e => by obtain ⟨t2, st2, e2⟩ := bnd_from e; have hh := HRow9.out.set k3 HVb.out.1 l st2 (yl_mk e2); exact ⟨l, by rw [Hk1.out t2 st2 e2], hh.1, hh.2.1, hh.2.2.low HVw.out⟩) k3)
    have hek : (tk == 1) = false := beq_eq_false_iff_ne.2 h1
    have hme := HMe.out
    rw [if_neg h1, if_pos (by decide)] at hme
    have HE : Hid (R = .error b2) := by show R = _; rw [HS.out]; exact rest_none hme
    clear hme h1 HMe Htn HS HSg H64
    have HWr := hidP (wrong55 p s U a1 g2 HF.out.ds)
    rw [← Hb2.out] at HWr
    go_wp2_with (first | (go_at_call 55; refine Calls.mono HWr.out ?_; rintro e U5 ⟨hk, rfl, hD⟩; have HF5 := hidP (HF.out.call hk (q' := .error b2) hD); clear HF hk hD) | (with_reducible show wpList Tryz.prog _ _ (Oper.mk (some 49) _ _ _ _ _ :: _) _ _; refine Hid.out ?_))
    unfold Hid
    have HF := HF5
    clear HF5 HWr
    have u0 := frz HF.out.fb.rb 0
    have v0 : U5.cell? ⟨b, 0, none⟩ = some (.string ⟨#[]⟩) := by simp [World.cell?, HF.out.fb.rb]
    have u1 := frz HF.out.fb.rb 1
    have v1 : U5.cell? ⟨b, 1, none⟩ = some (.bool false) := by simp [World.cell?, HF.out.fb.rb]
    have u2 := frz HF.out.fb.rb 2
    have v2 : U5.cell? ⟨b, 2, none⟩ = some (.int .i64 0) := by simp [World.cell?, HF.out.fb.rb]
    have u3 := frz HF.out.fb.rb 3
    have v3 : U5.cell? ⟨b, 3, none⟩ = some (.int .i64 0) := by simp [World.cell?, HF.out.fb.rb]
    have u4 := frz HF.out.fb.rb 4
    have v4 : U5.cell? ⟨b, 4, none⟩ = some (.int .i64 0) := by simp [World.cell?, HF.out.fb.rb]
    have u5 := frz HF.out.fb.rb 5
    have v5 : U5.cell? ⟨b, 5, none⟩ = some (.int .i64 0) := by simp [World.cell?, HF.out.fb.rb]
    have u6 := frz HF.out.fb.rb 6
    have v6 : U5.cell? ⟨b, 6, none⟩ = some (.slice none 0 0) := by simp [World.cell?, HF.out.fb.rb]
    have s0 : U5.cell? ⟨c, 0, none⟩ = some (.string nm) := by simp [World.cell?, HF.out.fb.tb]
    have s1 : U5.cell? ⟨c, 1, none⟩ = some (.bool false) := by simp [World.cell?, HF.out.fb.tb]
    have s2 : U5.cell? ⟨c, 2, none⟩ = some (.int .i64 0) := by simp [World.cell?, HF.out.fb.tb]
    have s3 : U5.cell? ⟨c, 3, none⟩ = some (.int .i64 0) := by simp [World.cell?, HF.out.fb.tb]
    have s4 : U5.cell? ⟨c, 4, none⟩ = some (.int .i64 0) := by simp [World.cell?, HF.out.fb.tb]
    have s5 : U5.cell? ⟨c, 5, none⟩ = some (.int .i64 0) := by simp [World.cell?, HF.out.fb.tb]
    have s6 : U5.cell? ⟨c, 6, none⟩ = some (.slice none 0 0) := by simp [World.cell?, HF.out.fb.tb]
    have hcb : ¬ c = b := by have := HF.out.fb.lt; omega
    have hbc : ¬ b = c := by have := HF.out.fb.lt; omega
    go_wp2_with fail
    have hb3 := put7_box (.string nm) (.bool false) (.int .i64 0) (.int .i64 0) (.int .i64 0) (.int .i64 0) (.slice none 0 0) HF.out.fb.rb
    have k3 := put7_keeps U5 b (.string nm) (.bool false) (.int .i64 0) (.int .i64 0) (.int .i64 0) (.int .i64 0) (.slice none 0 0)
    (try simp only [Exit.inBlock, Exit.then])
    exact bodyPost_ret (results_cell41 rfl rfl hb3 (by kernel_rfl)) rfl (field_end (t := .mk ⟨#[]⟩ false 0 0 0 0 []) (y := (.error b2 : Except Nat (Unit × Ps))) HF.out (HE.out) (fun u st e => by cases e) k3)
end Go.Proofs.YtkodgneneiledaaGreatDoor.Kit
