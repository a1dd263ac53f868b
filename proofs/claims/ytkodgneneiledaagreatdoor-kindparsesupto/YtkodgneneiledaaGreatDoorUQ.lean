import Derived.Test.YtkodgneneiledaaGreatDoorUP
set_option maxRecDepth 100000
set_option maxHeartbeats 4000000
namespace Go.Proofs.YtkodgneneiledaaGreatDoor.Kit
open Go.RowKit Go.Shelf Go.Deep
set_option linter.unusedVariables false
attribute [local go_sem] run_store_func
theorem name61 (p : Nat) (s : ByteArray) (d : Nat) : PnC p s d 59 #[.pointer (some ⟨p, 0, none⟩)] (nameP s.data.toList) (fun _ _ x v => v = .string x) := by
  intro W a g hN _
  obtain ⟨vo, vc, hN⟩ := hN
  have HN0 := hidP hN
  have HQ := hidP (word_any p s (.slice vo g.length vc) W a g hN.tat)
  have hsz := hN.tat.len
  clear hN
  obtain ⟨x, b, g', e⟩ : ∃ x b g', wordP s.data.toList (a, g) = .ok (x, (b, g')) := ⟨_, _, _, rfl⟩
  have hf := fw_word _ _ _ _ e
  have hg : g' = g := hf.2
  subst hg
  have hab : a ≤ b := hf.1
  rw [e] at HQ
  have HRes : Hid (nameP s.data.toList (a, g') = if x.1.size = 0 then .error x.2 else .ok (x.1, (b, g' ++ [x.2]))) := Pr.bind_ok e
  have hxl : x.1.size ≤ 65536 ∧ (x.1.size ≠ 0 → a + 1 ≤ b) := by
    unfold wordP at e
    obtain ⟨c, s3, e3, e4⟩ := Pr.inv e
    have a3 := fw_peek _ _ _ _ e3
    cases e4
    have h1 : (wordsB (s.data.toList.drop s3.1)).length ≤ s.data.toList.length := Nat.le_trans (List.takeWhile_prefix _).length_le (by simp)
    have h2 : s.data.toList.length = s.size := by simp
    refine ⟨?_, fun h => ?_⟩
    · show (wordsB (s.data.toList.drop s3.1)).toArray.size ≤ _; rw [List.size_toArray]; omega
    have h : (wordsB (s.data.toList.drop s3.1)).toArray.size ≠ 0 := h
    rw [List.size_toArray] at h
    have := a3.1
    show a + 1 ≤ s3.1 + (wordsB (s.data.toList.drop s3.1)).length
    have a3' : a ≤ s3.1 := a3.1
    omega
  clear e hf
  obtain ⟨x, o⟩ := x
  rw [HRes.out]
  have hx : x.size ≤ 65536 := hxl.1
  by_cases h0 : x.size = 0
  · rw [if_pos h0]
    have he : x.toList.isEmpty = true := by rw [ByteArray.toList_eq, List.isEmpty_iff_length_eq_zero]; simpa using h0
    clear h0 HRes
    go_enter Tryz.func59, Tryz.ntmps59
    go_wp2_with (go_at_call 86; refine Calls.mono HQ.out ?_; rintro e u ⟨hk, _, v, rfl, rfl, ht⟩; have HK := hidP hk; clear hk ht)
    exact ⟨rfl, PnQ.err HK.out.n rfl⟩
  rw [if_neg h0]
  have hb1 := hxl.2 h0
  have he : x.toList.isEmpty = false := by
    rw [ByteArray.toList_eq]
    cases hl : x.data.toList with
    | nil => exact absurd (by have := congrArg List.length hl; simpa using this) h0
    | cons c l => rfl
  have hfew : g'.length ≤ 65536 := Nat.le_trans HN0.out.few (Nat.le_trans HN0.out.tat.pos hsz)
  have HC := hidP (fun V => clone76 x (by omega) V)
  have Hb1 := hidP hb1
  clear h0 HRes hxl hx hb1
  go_enter Tryz.func59, Tryz.ntmps59
  go_wp2_with (first | (go_at_call 86; refine Calls.mono HQ.out ?_; rintro e u ⟨hk, _, v, rfl, rfl, ht⟩; have HK := hidP hk; have HT := hidP ht; have d2 : u.cell? ⟨p, 2, none⟩ = some (.slice vo g'.length vc) := (by simp [World.cell?, ht.box]); have HO := hidP (row_kp HN0.out.own fun q e => hk.block q (own_lt HN0.out.own q e) fun e' => own_apart HN0.out.own HN0.out.tat.box (by decide) (e' ▸ e)); clear hk ht) | (with_reducible show wpList Tryz.prog _ _ (Oper.mk (some 21) _ _ _ _ _ :: _) _ _; refine Hid.out ?_))
  unfold Hid
  refine wpList_append_any (P := Tryz.prog) _ rfl (.tmp 18) (.tmp 20) 44 44 rfl 3 (.int .i64 0) 8 Tryz.underlying44 info3 rfl _ g'.length (ints g') rfl (HO.out.alloc _) _ 1 [.int .i64 (o : Int)] rfl (src_int u (.int .i64 (o : Int)) rfl) (by omega) (by omega) ?_
  refine Hid.out ?_
  unfold Hid
  intro v' w1 hown hgrow hblk
  obtain ⟨vo', vc', rfl⟩ := own_formK hown
  have gA : Gr u (u.alloc (.cells #[.int .i64 (o : Int)] 3)) := gr_alloc u _
  have kA : Keeps u w1 (fun z => (Value.slice vo g'.length vc).ownBlock = some z) := (gA.mono fun _ _ h => h.elim).trans (Keeps.ofGrown hgrow) (fun _ _ h => h)
  have kN : KpN u w1 p := kA.mono fun z hz e => .inr ⟨HN0.out.new z e, by obtain ⟨cs, hb⟩ := own_blk HO.out e; exact ⟨cs, _, hb⟩⟩
  have hbp : w1.heap[p]? = some (.cells #[.string s, .int .i64 (b : Int), .slice vo g'.length vc] 87 (0, 0)) := (kA.block p HT.out.lt fun h => own_apart HO.out HT.out.box (by decide) h).trans HT.out.box
  have c2 : w1.cell? ⟨p, 2, none⟩ = some (.slice vo g'.length vc) := by simp [World.cell?, hbp]
  have z2 : w1.frozen? ⟨p, 2, none⟩ = false := frz hbp 2
  have hL : (g' ++ [o]).length = g'.length + 1 := by simp
  have hnew : ∀ q, (Value.slice vo' (g'.length + 1) vc').ownBlock = some q → p < q := fun q e => hblk.elim (fun h => HN0.out.new q (h ▸ e)) fun h => by have := h q e; have := HT.out.lt; have := gA.size; omega
  have hnp : ∀ q, (Value.slice vo' (g'.length + 1) vc').ownBlock = some q → q ≠ p := fun q e => by have := hnew q e; omega
  have hbx2 : (w1.setCell ⟨p, 2, none⟩ (.slice vo' (g'.length + 1) vc')).heap[p]? = some (.cells #[.string s, .int .i64 (b : Int), .slice vo' (g'.length + 1) vc'] 87 (0, 0)) := by
    rw [heap_setCell_same w1 p 2 _ _ _ hbp]; simp
  have kS : Keeps w1 (w1.setCell ⟨p, 2, none⟩ (.slice vo' (g'.length + 1) vc')) (fun z => z = p) := (Keeps.refl w1 (fun z => z = p)).setCell (p := ⟨p, 2, none⟩) (fun _ => rfl) _
  have HNA : Hid (NA (w1.setCell ⟨p, 2, none⟩ (.slice vo' (g'.length + 1) vc')) p s b (g' ++ [o])) := by
    refine ⟨vo', vc', ⟨by rw [hL]; exact hbx2, HT.out.len, HT.out.pos⟩, ?_, ?_, by rw [hL]; exact hnew, ?_, HN0.out.pz⟩
    · rw [hL]
      have e1 : ints (g' ++ [o]) = ints g' ++ [.int .i64 (o : Int)] := by simp [ints]
      rw [e1]
      exact row_kp hown fun q e => kS.block q (own_lt hown q e) (hnp q e)
    · rw [hL]; have := HN0.out.few; have := Hb1.out; omega
    have h0 : p ≠ 0 := HN0.out.pz
    have t1 := tab_kp HN0.out.tab HK.out h0
    have t2 : Tab w1 := t1.kp (kA.block 0 t1.1 fun h => by have := HN0.out.new 0 h; omega)
    exact tab_kp t2 kS h0
  have HKN : Hid (KpN W (w1.setCell ⟨p, 2, none⟩ (.slice vo' (g'.length + 1) vc')) p) := (HK.out.n.tr kN).tr (KpR.n kS)
  clear hown hgrow hblk gA kA kN hnew hnp hbx2 kS hL HT HO HK hbp d2
  go_wp2_with (go_at_call 87; refine Calls.mono (HC.out _) ?_; rintro e U2 ⟨rfl, hg⟩; have HG := hidP hg; clear hg)
  go_ret
  exact PnQ.ok (HKN.out.tr (HG.out.n p)) rfl rfl (HNA.out.gr HG.out)
end Go.Proofs.YtkodgneneiledaaGreatDoor.Kit
