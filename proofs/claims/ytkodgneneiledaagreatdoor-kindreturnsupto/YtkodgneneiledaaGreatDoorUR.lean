import Derived.Test.YtkodgneneiledaaGreatDoorUP
namespace Go.Proofs.YtkodgneneiledaaGreatDoor.Kit
open Go.RowKit Go.Shelf Go.Deep
set_option linter.unusedVariables false
attribute [local go_sem] run_store_func

/-! ### name 61 -/
set_option maxRecDepth 100000 in
set_option maxHeartbeats 4000000 in
theorem name61 (p : Nat) (s : ByteArray) (d : Nat) : PnC p s d 59 #[.pointer (some ⟨p, 0, none⟩)] (nameP s.data.toList) (fun _ _ x v => v = .string x) := by
  intro W a g hN _
  obtain ⟨vo, vc, hN⟩ := hN
  have HN0 := hidP hN
  have HQ := hidP (word_any p s (.slice vo g.length vc) W a g hN.tat)
  have hsz := hN.tat.len
  clear hN
  obtain ⟨x, b, g', e⟩ : ∃ x b g', wordP s.data.toList (a, g) = .ok (x, (b, g')) := ⟨_, _, _, rfl⟩
  have hf := fw_word _ _ _ _ e
  have hg : g' = g := hf.2
  subst hg
  have hab : a ≤ b := hf.1
  rw [e] at HQ
  have HRes : Hid (nameP s.data.toList (a, g') = if x.1.size = 0 then .error x.2 else .ok (x.1, (b, g' ++ [x.2]))) := Pr.bind_ok e
  have hxl : x.1.size ≤ 65536 ∧ (x.1.size ≠ 0 → a + 1 ≤ b) := by
    unfold wordP at e
    obtain ⟨c, s3, e3, e4⟩ := Pr.inv e
    have a3 := fw_peek _ _ _ _ e3
    cases e4
    have h1 : (wordsB (s.data.toList.drop s3.1)).length ≤ s.data.toList.length := Nat.le_trans (List.takeWhile_prefix _).length_le (by simp)
    have h2 : s.data.toList.length = s.size := by simp
    refine ⟨?_, fun h => ?_⟩
    · show (wordsB (s.data.toList.drop s3.1)).toArray.size ≤ _; rw [List.size_toArray]; omega
    · have h : (wordsB (s.data.toList.drop s3.1)).toArray.size ≠ 0 := h
      rw [List.size_toArray] at h
      have := a3.1
      show a + 1 ≤ s3.1 + (wordsB (s.data.toList.drop s3.1)).length
      have a3' : a ≤ s3.1 := a3.1
      omega
  clear e hf
  obtain ⟨x, o⟩ := x
  rw [HRes.out]
  have hx : x.size ≤ 65536 := hxl.1
  by_cases h0 : x.size = 0
  · rw [if_pos h0]
    have he : x.toList.isEmpty = true := by rw [ByteArray.toList_eq, List.isEmpty_iff_length_eq_zero]; simpa using h0
    clear h0 HRes
    go_enter Tryz.func59, Tryz.ntmps59
    go_wp2_with (go_at_call 86; refine Calls.mono HQ.out ?_; rintro e u ⟨hk, _, v, rfl, rfl, ht⟩; have HK := hidP hk; clear hk ht)
    exact ⟨rfl, PnQ.err HK.out.n rfl⟩
  · rw [if_neg h0]
    have hb1 := hxl.2 h0
    have he : x.toList.isEmpty = false := by
      rw [ByteArray.toList_eq]
      cases hl : x.data.toList with
      | nil => exact absurd (by have := congrArg List.length hl; simpa using this) h0
      | cons c l => rfl
    have hfew : g'.length ≤ 65536 := Nat.le_trans HN0.out.few (Nat.le_trans HN0.out.tat.pos hsz)
    have HC := hidP (fun V => clone76 x (by omega) V)
    have Hb1 := hidP hb1
    clear h0 HRes hxl hx hb1
    go_enter Tryz.func59, Tryz.ntmps59
    go_wp2_with (first | (go_at_call 86; refine Calls.mono HQ.out ?_; rintro e u ⟨hk, _, v, rfl, rfl, ht⟩; have HK := hidP hk; have HT := hidP ht; have d2 : u.cell? ⟨p, 2, none⟩ = some (.slice vo g'.length vc) := (by simp [World.cell?, ht.box]); have HO := hidP (row_kp HN0.out.own fun q e => hk.block q (own_lt HN0.out.own q e) fun e' => own_apart HN0.out.own HN0.out.tat.box (by decide) (e' ▸ e)); clear hk ht) | (with_reducible show wpList Tryz.prog _ _ (Oper.mk (some 21) _ _ _ _ _ :: _) _ _; refine Hid.out ?_))
    unfold Hid
    refine wpList_append_any (P := Tryz.prog) _ rfl (.tmp 18) (.tmp 20) 44 44 rfl 3 (.int .i64 0) 8 Tryz.underlying44 info3 rfl _ g'.length (ints g') rfl (HO.out.alloc _) _ 1 [.int .i64 (o : Int)] rfl (src_int u (.int .i64 (o : Int)) rfl) (by omega) (by omega) ?_
    refine Hid.out ?_
    unfold Hid
    intro v' w1 hown hgrow hblk
    obtain ⟨vo', vc', rfl⟩ := own_formK hown
    have gA : Gr u (u.alloc (.cells #[.int .i64 (o : Int)] 3)) := gr_alloc u _
    have kA : Keeps u w1 (fun z => (Value.slice vo g'.length vc).ownBlock = some z) := (gA.mono fun _ _ h => h.elim).trans (Keeps.ofGrown hgrow) (fun _ _ h => h)
    have kN : KpN u w1 p := kA.mono fun z hz e => .inr ⟨HN0.out.new z e, by obtain ⟨cs, hb⟩ := own_blk HO.out e; exact ⟨cs, _, hb⟩⟩
    have hbp : w1.heap[p]? = some (.cells #[.string s, .int .i64 (b : Int), .slice vo g'.length vc] 87 (0, 0)) := (kA.block p HT.out.lt fun h => own_apart HO.out HT.out.box (by decide) h).trans HT.out.box
    have c2 : w1.cell? ⟨p, 2, none⟩ = some (.slice vo g'.length vc) := by simp [World.cell?, hbp]
    have z2 : w1.frozen? ⟨p, 2, none⟩ = false := frz hbp 2
    have hL : (g' ++ [o]).length = g'.length + 1 := by simp
    have hnew : ∀ q, (Value.slice vo' (g'.length + 1) vc').ownBlock = some q → p < q := fun q e => hblk.elim (fun h => HN0.out.new q (h ▸ e)) fun h => by have := h q e; have := HT.out.lt; have := gA.size; omega
    have hnp : ∀ q, (Value.slice vo' (g'.length + 1) vc').ownBlock = some q → q ≠ p := fun q e => by have := hnew q e; omega
    have hbx2 : (w1.setCell ⟨p, 2, none⟩ (.slice vo' (g'.length + 1) vc')).heap[p]? = some (.cells #[.string s, .int .i64 (b : Int), .slice vo' (g'.length + 1) vc'] 87 (0, 0)) := by
      rw [heap_setCell_same w1 p 2 _ _ _ hbp]; simp
    have kS : Keeps w1 (w1.setCell ⟨p, 2, none⟩ (.slice vo' (g'.length + 1) vc')) (fun z => z = p) := (Keeps.refl w1 (fun z => z = p)).setCell (p := ⟨p, 2, none⟩) (fun _ => rfl) _
    have HNA : Hid (NA (w1.setCell ⟨p, 2, none⟩ (.slice vo' (g'.length + 1) vc')) p s b (g' ++ [o])) := by
      refine ⟨vo', vc', ⟨by rw [hL]; exact hbx2, HT.out.len, HT.out.pos⟩, ?_, ?_, by rw [hL]; exact hnew, ?_, HN0.out.pz⟩
      · rw [hL]
        have e1 : ints (g' ++ [o]) = ints g' ++ [.int .i64 (o : Int)] := by simp [ints]
        rw [e1]
        exact row_kp hown fun q e => kS.block q (own_lt hown q e) (hnp q e)
      · rw [hL]; have := HN0.out.few; have := Hb1.out; omega
      · have h0 : p ≠ 0 := HN0.out.pz
        have t1 := tab_kp HN0.out.tab HK.out h0
        have t2 : Tab w1 := t1.kp (kA.block 0 t1.1 fun h => by have := HN0.out.new 0 h; omega)
        exact tab_kp t2 kS h0
    have HKN : Hid (KpN W (w1.setCell ⟨p, 2, none⟩ (.slice vo' (g'.length + 1) vc')) p) := (HK.out.n.tr kN).tr (KpR.n kS)
    clear hown hgrow hblk gA kA kN hnew hnp hbx2 kS hL HT HO HK hbp d2
    go_wp2_with (go_at_call 87; refine Calls.mono (HC.out _) ?_; rintro e U2 ⟨rfl, hg⟩; have HG := hidP hg; clear hg)
    go_ret
    exact PnQ.ok (HKN.out.tr (HG.out.n p)) rfl rfl (HNA.out.gr HG.out)
end Go.Proofs.YtkodgneneiledaaGreatDoor.Kit
namespace Go.Proofs.YtkodgneneiledaaGreatDoor.Kit
open Go.RowKit Go.Shelf Go.Deep
set_option linter.unusedVariables false
attribute [local go_sem] run_store_func

/-! ### oneField 48 -/
def OV (p d : Nat) (W w' : World) (f : FT) (v : Value) : Prop := ∃ ko kc vo vc, v = .slice vo 1 vc ∧ FL p W w' d [(f, ko, kc)] vo vc
theorem FL.low {p : Nat} {W V U : World} {d : Nat} {l : List FE} {vo : Option Addr} {vc : Nat} (h : FL p V U d l vo vc) (hs : W.heap.size ≤ V.heap.size) : FL p W U d l vo vc :=
  ⟨⟨h.row.own, fun g e => Nat.le_trans hs (h.row.new g e)⟩, fun e he => ⟨(h.kids e he).1, (h.kids e he).2.mono fun b hb => ⟨⟨Nat.le_trans hs hb.1.1, hb.1.2⟩, hb.2⟩⟩⟩
set_option maxRecDepth 100000 in
set_option maxHeartbeats 4000000 in
theorem one48 (p : Nat) (s : ByteArray) (d : Nat) (r : Pr FT) (h49 : PnC p s d 34 #[.pointer (some ⟨p, 0, none⟩)] r (FV p d)) : PnC p s d 78 #[.pointer (some ⟨p, 0, none⟩)] r (OV p d) := by
  intro W a g hN hd
  have HQ := hidP (h49 W a g hN hd)
  clear hN h49 hd
  go_enter Tryz.func78, Tryz.ntmps78
  go_wp2_with (go_at_call 34; refine Hid.out ?_)
  unfold Hid
  cases hr : r (a, g) with
  | error o =>
    rw [hr] at HQ
    have Hr := hidP hr
    clear hr
    refine Calls.mono HQ.out ?_
    rintro e' U ⟨hk, rfl⟩
    have HK := hidP hk
    clear hk
    go_wp2_with fail
    exact ⟨rfl, PnQ.err HK.out (by first | exact rfl | exact Hr.out)⟩
  | ok q =>
    obtain ⟨x, a1, g1⟩ := q
    rw [hr] at HQ
    have Hr := hidP hr
    clear hr
    refine Calls.mono HQ.out ?_
    rintro e' U ⟨hk, v, rfl, ⟨ko, kc, rfl, hkc, hrow⟩, hR⟩
    have HFL := hidP (FL.one hk.size hkc hrow)
    have hg := gr_alloc U (.cells #[Value.string x.name, .bool x.nul, .int .i64 x.kind, .int .i64 x.width, .int .i64 x.id, .int .i64 x.index, .slice ko x.kids.length kc] 37)
    have HK := hidP (hk.tr (Gr.n p hg))
    have HR := hidP (hR.gr hg)
    clear hk hR hg hkc hrow
    go_wp2_with fail
    go_ret
    exact PnQ.ok HK.out (by first | exact rfl | exact Hr.out) ⟨ko, kc, _, _, rfl, HFL.out⟩ HR.out
/-! ### fields 28 -/
theorem com_end {α : Type} {T : List UInt8} {item : Pr α} {n a : Nat} {g : List Nat} {acc : List α} {s1 : Ps} (h : takesP T 44 (a, g) = .ok (false, s1)) : comP T item (n + 1) acc (a, g) = .ok (acc, s1) := by
  rw [comP]; exact (Pr.bind_ok h).trans rfl
theorem com_err {α : Type} {T : List UInt8} {item : Pr α} {n a o : Nat} {g : List Nat} {acc : List α} {s1 : Ps} (h : takesP T 44 (a, g) = .ok (true, s1)) (hi : item s1 = .error o) : comP T item (n + 1) acc (a, g) = .error o := by
  rw [comP]; exact (Pr.bind_ok h).trans (Pr.bind_err hi)
theorem com_ok {α : Type} {T : List UInt8} {item : Pr α} {n a : Nat} {g : List Nat} {acc : List α} {s1 s2 : Ps} {x : α} (h : takesP T 44 (a, g) = .ok (true, s1)) (hi : item s1 = .ok (x, s2)) : comP T item (n + 1) acc (a, g) = comP T item n (acc ++ [x]) s2 := by
  rw [comP]; exact (Pr.bind_ok h).trans (Pr.bind_ok hi)
theorem takes_cases (T : List UInt8) (c : UInt8) (a : Nat) (g : List Nat) : (∃ a1, a < a1 ∧ takesP T c (a, g) = .ok (true, (a1, g))) ∨ (∃ a1, a ≤ a1 ∧ takesP T c (a, g) = .ok (false, (a1, g))) := by
  by_cases h : (sk (T.drop a)).headD 0 = c
  · exact .inl ⟨_, by omega, takes_yes g h⟩
  · exact .inr ⟨_, Nat.le_add_right _ _, takes_no g h⟩
def naOf (W : World) (p : Nat) : Nat := atOf W p
theorem NA.at {W : World} {p : Nat} {s : ByteArray} {a : Nat} {g : List Nat} (h : NA W p s a g) : atOf W p = a := by obtain ⟨vo, vc, h⟩ := h; exact h.tat.at
theorem NA.few {W : World} {p : Nat} {s : ByteArray} {a : Nat} {g : List Nat} (h : NA W p s a g) : g.length ≤ a := by obtain ⟨vo, vc, h⟩ := h; exact h.few
set_option maxRecDepth 100000 in
set_option maxHeartbeats 4000000 in
theorem fields28 (p : Nat) (s : ByteArray) (d : Nat) (r : Pr FT) (hf : ∀ s0 x s1, r s0 = .ok (x, s1) → s0.1 < s1.1) (h49 : PnC p s d 34 #[.pointer (some ⟨p, 0, none⟩)] r (FV p d)) : PnC p s d 51 #[.pointer (some ⟨p, 0, none⟩)] (manyP s.data.toList r) (LV p d) := by
  intro W a0 g0 hN hd
  obtain ⟨R, hRes⟩ : ∃ R, R = manyP s.data.toList r (a0, g0) := ⟨_, rfl⟩
  rw [← hRes]
  have HQ := hidP (one48 p s d r h49 W a0 g0 hN hd)
  have H49 := hidP h49
  have HF := hidP hf
  have HT := hidP ((takes_any p s 44 (by decide)).n (fw_takes _ _) d)
  have HLt := hidP hN.lt
  have hsz := hN.len
  have HRes := hidP hRes
  clear hN h49 hf hRes
  go_enter Tryz.func51, Tryz.ntmps51
  go_wp2_with (go_at_call 78; refine Hid.out ?_)
  unfold Hid
  cases hr : r (a0, g0) with
  | error o =>
    rw [hr] at HQ
    have HE : Hid (R = .error o) := by show R = _; rw [HRes.out]; exact Pr.bind_err hr
    clear hr
    refine Calls.mono HQ.out ?_
    rintro e' U ⟨hk, rfl⟩
    have HK := hidP hk
    clear hk
    go_wp2_with fail
    exact ⟨rfl, PnQ.err HK.out HE.out⟩
  | ok q =>
    obtain ⟨x0, a1, g1⟩ := q
    rw [hr] at HQ
    have HS0 : Hid (comP s.data.toList r D0 [x0] (a1, g1) = R) := by show _ = R; rw [HRes.out]; exact (Pr.bind_ok (f := fun x => comP s.data.toList r D0 [x]) hr).symm
    have hpos : a0 < a1 := HF.out _ _ _ hr
    clear hr
    refine Calls.mono HQ.out ?_
    rintro e' U ⟨hk, v, rfl, ⟨ko0, kc0, vo0, vc0, rfl, hfl⟩, hR⟩
    have HK0 := hidP hk
    have HR0 := hidP hR
    have HA0 := hidP hfl
    have hp0 := hR.pos
    clear hk hR hfl HQ
    go_wp2_with fail
    go_loopw [3] (fun v wr => ∃ (n a : Nat) (g : List Nat) (acc : List FE) (vo : Option Addr) (vc : Nat), a ≤ s.size ∧ a0 ≤ a ∧ s.size - a < n ∧ acc.length ≤ a ∧ v = .slice vo acc.length vc ∧ Hid (FL p W wr d acc vo vc) ∧ Hid (NA wr p s a g) ∧ Hid (KpN W wr p) ∧ Hid (comP s.data.toList r n (acc.map (·.1)) (a, g) = R)) (fun _ wr => s.size - atOf wr p)
    case atStart => exact ⟨D0, a1, g1, [(x0, ko0, kc0)], vo0, vc0, hp0, by omega, by show _ < 65537; omega, by simp; omega, rfl, HA0.out, HR0.out, HK0.out, HS0.out⟩
    case round =>
      clear HR0 HK0 HS0 HA0 hp0 hpos
      obtain ⟨n, a, g, acc, vo, vc, hp1, ha0, hn, hal, rfl, HA, HR, HK, HS⟩ := hrel
      obtain ⟨n, rfl⟩ : ∃ m, n = m + 1 := ⟨n - 1, by omega⟩
      have Hm := hidP HR.out.at
      have hq := HT.out wr a g HR.out (by omega)
      rcases takes_cases s.data.toList 44 a g with ⟨a2, hlt, hr⟩ | ⟨a2, hle, hr⟩
      · rw [hr] at hq
        have HQ := hidP hq
        have Hr := hidP hr
        clear hq hr
        go_wp2_with (first | (go_at_call 52; refine Calls.mono HQ.out ?_; rintro e' U1 ⟨hk, v, rfl, rfl, hR⟩; have HK1 := hidP hk; have HR1 := hidP hR; clear hk hR) | (go_at_call 34; refine Hid.out ?_))
        unfold Hid
        have hp2 := HR1.out.pos
        have hq := H49.out U1 a2 g HR1.out (by omega)
        have HA1 := hidP (HA.out.kpn HK1.out HLt.out)
        cases hi : r (a2, g) with
        | error o =>
          rw [hi] at hq
          refine Calls.mono hq ?_
          rintro e' U2 ⟨hk, rfl⟩
          have HGe := hidP ((HK.out.tr HK1.out).tr hk)
          have HE : Hid (R = .error o) := by show R = _; rw [← HS.out]; exact com_err Hr.out hi
          clear hk hq hi
          go_wp2_with fail
          exact ⟨rfl, PnQ.err HGe.out HE.out⟩
        | ok q =>
          obtain ⟨x, a3, g3⟩ := q
          rw [hi] at hq
          refine Calls.mono hq ?_
          rintro e' U2 ⟨hk, v, rfl, ⟨ko, kc, rfl, hkc, hrow⟩, hR⟩
          have HS1 : Hid (comP s.data.toList r n ((acc ++ [(x, ko, kc)]).map (·.1)) (a3, g3) = R) := by show _ = R; rw [← HS.out, List.map_append]; exact (com_ok Hr.out hi).symm
          have h23 : a2 < a3 := HF.out _ _ _ hi
          have HR2 := hidP hR
          have hp3 := hR.pos
          have HK2 := hidP ((HK.out.tr HK1.out).tr hk)
          have HA2 := hidP (HA1.out.kpn hk HLt.out)
          have HKd := hidP (And.intro hkc hrow)
          have HWs := hidP (And.intro (HK.out.tr HK1.out).size hk.size)
          have HSr := hidP (src41 U2 x ko kc)
          have HO := hidP (HA2.out.row.own.alloc (.cells #[Value.string x.name, .bool x.nul, .int .i64 x.kind, .int .i64 x.width, .int .i64 x.id, .int .i64 x.index, .slice ko x.kids.length kc] 37))
          clear hk hq hi hR HR HK HS hkc hrow HR1 HK1 HA HQ Hr
          go_wp2_with (with_reducible show wpList Tryz.prog _ _ (Oper.mk (some 12) _ _ _ _ _ :: _) _ _; refine Hid.out ?_)
          unfold Hid
          refine wpList_append_anyN (P := Tryz.prog) _ rfl (.tmp 8) (.tmp 11) 24 24 rfl 37 (.agg #[.string ⟨#[]⟩, .bool false, .int .i64 0, .int .i64 0, .int .i64 0, .int .i64 0, .slice none 0 0]) 7 80 Tryz.underlying24 info41 rfl _ _ _ rfl HO.out _ _ _ rfl HSr.out (by omega) (by omega) ?_
          refine Hid.out ?_
          unfold Hid
          intro v' w1 hown hgrow hblk
          obtain ⟨vo', vc', rfl⟩ := own_formK hown
          have gA : Gr U2 (U2.alloc (.cells #[Value.string x.name, .bool x.nul, .int .i64 x.kind, .int .i64 x.width, .int .i64 x.id, .int .i64 x.index, .slice ko x.kids.length kc] 37)) := gr_alloc U2 _
          have kA : Keeps U2 w1 (fun z => (Value.slice vo acc.length vc).ownBlock = some z) := (gA.mono fun _ _ h => h.elim).trans (Keeps.ofGrown hgrow) (fun _ _ h => h)
          have HR3 := hidP (HR2.out.kept kA fun z h => by
            have h1 := HA2.out.row.new z h
            have h2 := HLt.out
            obtain ⟨cs, hb⟩ := own_blk HA2.out.row.own h
            exact ⟨by omega, by omega, IntsB.of hb (by decide)⟩)
          have HK3 : Hid (KpN W w1 p) := HK2.out.trans kA fun j hj h => by have := HA2.out.row.new j h; omega
          have HA3 := hidP (FL.push HWs.out.1 HWs.out.2 HA1.out HA2.out rfl HKd.out.1 HKd.out.2 hown hgrow hblk)
          have HM := hidP HR3.out.at
          have hL : acc.length + 1 = (acc ++ [(x, ko, kc)]).length := by simp
          rw [hL]
          clear hown hgrow hblk gA kA HO HSr HA1 HA2 HKd HWs HR2 HK2 hL
          go_wp2_with fail
          go_roundw
          case rel => exact ⟨n, a3, g3, acc ++ [(x, ko, kc)], vo', vc', hp3, by omega, by omega, by simp; omega, by simp, HA3.out, HR3.out, HK3.out, HS1.out⟩
          case measure =>
            have h1 := HM.out
            have h2 := Hm.out
            rw [h2]
            refine Nat.lt_of_le_of_lt (Nat.le_of_eq (congrArg (s.size - ·) h1)) ?_
            omega
      · rw [hr] at hq
        have HQ := hidP hq
        have HE : Hid (R = .ok (acc.map (·.1), (a2, g))) := by show R = _; rw [← HS.out]; exact com_end hr
        clear hq hr
        go_wp2_with (go_at_call 52; refine Calls.mono HQ.out ?_; rintro e' U1 ⟨hk, v, rfl, rfl, hR⟩; have HK1 := hidP (HK.out.tr hk); have HR1 := hidP hR; have HA1 := hidP (HA.out.kpn hk HLt.out); clear hk hR)
        go_ret
        have hrow := HA1.out.rowAt (by show _ ≤ 1000000000000; omega)
        exact PnQ.ok HK1.out HE.out ⟨vo, vc, by rw [List.length_map]; rfl, by rw [List.length_map]; exact hrow.1, hrow.2⟩ HR1.out
end Go.Proofs.YtkodgneneiledaaGreatDoor.Kit
