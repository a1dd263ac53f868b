import Derived.Test.YtkodgneneiledaaGreatDoorUQ
set_option maxRecDepth 100000
set_option maxHeartbeats 4000000
namespace Go.Proofs.YtkodgneneiledaaGreatDoor.Kit
open Go.RowKit Go.Shelf Go.Deep
set_option linter.unusedVariables false
attribute [local go_sem] run_store_func
def OV (p d : Nat) (W w' : World) (f : FT) (v : Value) : Prop := ∃ ko kc vo vc, v = .slice vo 1 vc ∧ FL p W w' d [(f, ko, kc)] vo vc
theorem one48 (p : Nat) (s : ByteArray) (d : Nat) (r : Pr FT) (h49 : PnC p s d 34 #[.pointer (some ⟨p, 0, none⟩)] r (FV p d)) : PnC p s d 78 #[.pointer (some ⟨p, 0, none⟩)] r (OV p d) := by
  intro W a g hN hd
  have HQ := hidP (h49 W a g hN hd)
  clear hN h49 hd
  go_enter Tryz.func78, Tryz.ntmps78
  go_wp2_with (go_at_call 34; refine Hid.out ?_)
  unfold Hid
  rcases hr : r (a, g) with o | q
  · rw [hr] at HQ
    have Hr := hidP hr
    clear hr
    refine Calls.mono HQ.out ?_
    rintro e' U ⟨hk, rfl⟩
    have HK := hidP hk
    clear hk
    go_wp2_with fail
    exact ⟨rfl, PnQ.err HK.out (by first | exact rfl | exact Hr.out)⟩
  obtain ⟨x, a1, g1⟩ := q
  rw [hr] at HQ
  have Hr := hidP hr
  clear hr
  refine Calls.mono HQ.out ?_
  rintro e' U ⟨hk, v, rfl, ⟨ko, kc, rfl, hkc, hrow⟩, hR⟩
  have HFL := hidP (FL.one hk.size hkc hrow)
  have hg := gr_alloc U (.cells #[Value.string x.name, .bool x.nul, .int .i64 x.kind, .int .i64 x.width, .int .i64 x.id, .int .i64 x.index, .slice ko x.kids.length kc] 37)
  have HK := hidP (hk.tr (Gr.n p hg))
  have HR := hidP (hR.gr hg)
  clear hk hR hg hkc hrow
  go_wp2_with fail
  go_ret
  exact PnQ.ok HK.out (by first | exact rfl | exact Hr.out) ⟨ko, kc, _, _, rfl, HFL.out⟩ HR.out
theorem com_end {α : Type} {T : List UInt8} {item : Pr α} {n a : Nat} {g : List Nat} {acc : List α} {s1 : Ps} (h : takesP T 44 (a, g) = .ok (false, s1)) : comP T item (n + 1) acc (a, g) = .ok (acc, s1) := by
  rw [comP]; exact (Pr.bind_ok h).trans rfl
theorem com_err {α : Type} {T : List UInt8} {item : Pr α} {n a o : Nat} {g : List Nat} {acc : List α} {s1 : Ps} (h : takesP T 44 (a, g) = .ok (true, s1)) (hi : item s1 = .error o) : comP T item (n + 1) acc (a, g) = .error o := by
  rw [comP]; exact (Pr.bind_ok h).trans (Pr.bind_err hi)
theorem com_ok {α : Type} {T : List UInt8} {item : Pr α} {n a : Nat} {g : List Nat} {acc : List α} {s1 s2 : Ps} {x : α} (h : takesP T 44 (a, g) = .ok (true, s1)) (hi : item s1 = .ok (x, s2)) : comP T item (n + 1) acc (a, g) = comP T item n (acc ++ [x]) s2 := by
  rw [comP]; exact (Pr.bind_ok h).trans (Pr.bind_ok hi)
theorem takes_cases (T : List UInt8) (c : UInt8) (a : Nat) (g : List Nat) : (∃ a1, a < a1 ∧ takesP T c (a, g) = .ok (true, (a1, g))) ∨ (∃ a1, a ≤ a1 ∧ takesP T c (a, g) = .ok (false, (a1, g))) := by
  by_cases h : (sk (T.drop a)).headD 0 = c
  · exact .inl ⟨_, by omega, takes_yes g h⟩
  exact .inr ⟨_, Nat.le_add_right _ _, takes_no g h⟩
theorem NA.at {W : World} {p : Nat} {s : ByteArray} {a : Nat} {g : List Nat} (h : NA W p s a g) : atOf W p = a := by obtain ⟨vo, vc, h⟩ := h; exact h.tat.at
theorem fields28 (p : Nat) (s : ByteArray) (d : Nat) (r : Pr FT) (hf : ∀ s0 x s1, r s0 = .ok (x, s1) → s0.1 < s1.1) (h49 : PnC p s d 34 #[.pointer (some ⟨p, 0, none⟩)] r (FV p d)) : PnC p s d 51 #[.pointer (some ⟨p, 0, none⟩)] (manyP s.data.toList r) (LV p d) := by
  intro W a0 g0 hN hd
  obtain ⟨R, hRes⟩ : ∃ R, R = manyP s.data.toList r (a0, g0) := ⟨_, rfl⟩
  rw [← hRes]
  have HQ := hidP (one48 p s d r h49 W a0 g0 hN hd)
  have H49 := hidP h49
  have HF := hidP hf
  have HT := hidP ((takes_any p s 44 (by decide)).n (fw_takes _ _) d)
  have HLt := hidP hN.lt
  have hsz := hN.len
  have HRes := hidP hRes
  clear hN h49 hf hRes
  go_enter Tryz.func51, Tryz.ntmps51
  go_wp2_with (go_at_call 78; refine Hid.out ?_)
  unfold Hid
  rcases hr : r (a0, g0) with o | q
  · rw [hr] at HQ
    have HE : Hid (R = .error o) := by show R = _; rw [HRes.out]; exact Pr.bind_err hr
    clear hr
    refine Calls.mono HQ.out ?_
    rintro e' U ⟨hk, rfl⟩
    have HK := hidP hk
    clear hk
    go_wp2_with fail
    exact ⟨rfl, PnQ.err HK.out HE.out⟩
  obtain ⟨x0, a1, g1⟩ := q
  rw [hr] at HQ
  have HS0 : Hid (comP s.data.toList r D0 [x0] (a1, g1) = R) := by show _ = R; rw [HRes.out]; exact (Pr.bind_ok (f := fun x => comP s.data.toList r D0 [x]) hr).symm
  have hpos : a0 < a1 := HF.out _ _ _ hr
  clear hr
  refine Calls.mono HQ.out ?_
  rintro e' U ⟨hk, v, rfl, ⟨ko0, kc0, vo0, vc0, rfl, hfl⟩, hR⟩
  have HK0 := hidP hk
  have HR0 := hidP hR
  have HA0 := hidP hfl
  have hp0 := hR.pos
  clear hk hR hfl HQ
  go_wp2_with fail
  go_loopw [3] (fun v wr => ∃ (n a : Nat) (g : List Nat) (acc : List FE) (vo : Option Addr) (vc : Nat), a ≤ s.size ∧ a0 ≤ a ∧ s.size - a < n ∧ acc.length ≤ a ∧ v = .slice vo acc.length vc ∧ Hid (FL p W wr d acc vo vc) ∧ Hid (NA wr p s a g) ∧ Hid (KpN W wr p) ∧ Hid (comP s.data.toList r n (acc.map (·.1)) (a, g) = R)) (fun _ wr => s.size - atOf wr p)
  case atStart => exact ⟨D0, a1, g1, [(x0, ko0, kc0)], vo0, vc0, hp0, by omega, by show _ < 65537; omega, by simp; omega, rfl, HA0.out, HR0.out, HK0.out, HS0.out⟩
  case round =>
    clear HR0 HK0 HS0 HA0 hp0 hpos
    obtain ⟨n, a, g, acc, vo, vc, hp1, ha0, hn, hal, rfl, HA, HR, HK, HS⟩ := hrel
    obtain ⟨n, rfl⟩ : ∃ m, n = m + 1 := ⟨n - 1, by omega⟩
    have Hm := hidP HR.out.at
    have hq := HT.out wr a g HR.out (by omega)
    rcases takes_cases s.data.toList 44 a g with ⟨a2, hlt, hr⟩ | ⟨a2, hle, hr⟩
    · rw [hr] at hq
      have HQ := hidP hq
      have Hr := hidP hr
      clear hq hr
      go_wp2_with (first | (go_at_call 52; refine Calls.mono HQ.out ?_; rintro e' U1 ⟨hk, v, rfl, rfl, hR⟩; have HK1 := hidP hk; have HR1 := hidP hR; clear hk hR) | (go_at_call 34; refine Hid.out ?_))
      unfold Hid
      have hp2 := HR1.out.pos
      have hq := H49.out U1 a2 g HR1.out (by omega)
      have HA1 := hidP (HA.out.kpn HK1.out HLt.out)
      rcases hi : r (a2, g) with o | q
      · rw [hi] at hq
        refine Calls.mono hq ?_
        rintro e' U2 ⟨hk, rfl⟩
        have HGe := hidP ((HK.out.tr HK1.out).tr hk)
        have HE : Hid (R = .error o) := by show R = _; rw [← HS.out]; exact com_err Hr.out hi
        clear hk hq hi
        go_wp2_with fail
        exact ⟨rfl, PnQ.err HGe.out HE.out⟩
      obtain ⟨x, a3, g3⟩ := q
      rw [hi] at hq
      refine Calls.mono hq ?_
      rintro e' U2 ⟨hk, v, rfl, ⟨ko, kc, rfl, hkc, hrow⟩, hR⟩
      have HS1 : Hid (comP s.data.toList r n ((acc ++ [(x, ko, kc)]).map (·.1)) (a3, g3) = R) := by show _ = R; rw [← HS.out, List.map_append]; exact (com_ok Hr.out hi).symm
      have h23 : a2 < a3 := HF.out _ _ _ hi
      have HR2 := hidP hR
      have hp3 := hR.pos
      have HK2 := hidP ((HK.out.tr HK1.out).tr hk)
      have HA2 := hidP (HA1.out.kpn hk HLt.out)
      have HKd := hidP (And.intro hkc hrow)
      have HWs := hidP (And.intro (HK.out.tr HK1.out).size hk.size)
      have HSr := hidP (src41 U2 x ko kc)
      have HO := hidP (HA2.out.row.own.alloc (.cells #[Value.string x.name, .bool x.nul, .int .i64 x.kind, .int .i64 x.width, .int .i64 x.id, .int .i64 x.index, .slice ko x.kids.length kc] 37))
      clear hk hq hi hR HR HK HS hkc hrow HR1 HK1 HA HQ Hr
      go_wp2_with (with_reducible show wpList Tryz.prog _ _ (Oper.mk (some 12) _ _ _ _ _ :: _) _ _; refine Hid.out ?_)
      unfold Hid
      refine wpList_append_anyN (P := Tryz.prog) _ rfl (.tmp 8) (.tmp 11) 24 24 rfl 37 (.agg #[.string ⟨#[]⟩, .bool false, .int .i64 0, .int .i64 0, .int .i64 0, .int .i64 0, .slice none 0 0]) 7 80 Tryz.underlying24 info41 rfl _ _ _ rfl HO.out _ _ _ rfl HSr.out (by omega) (by omega) ?_
      refine Hid.out ?_
      unfold Hid
      intro v' w1 hown hgrow hblk
      obtain ⟨vo', vc', rfl⟩ := own_formK hown
      have gA : Gr U2 (U2.alloc (.cells #[Value.string x.name, .bool x.nul, .int .i64 x.kind, .int .i64 x.width, .int .i64 x.id, .int .i64 x.index, .slice ko x.kids.length kc] 37)) := gr_alloc U2 _
      have kA : Keeps U2 w1 (fun z => (Value.slice vo acc.length vc).ownBlock = some z) := (gA.mono fun _ _ h => h.elim).trans (Keeps.ofGrown hgrow) (fun _ _ h => h)
      have HR3 := hidP (HR2.out.kept kA fun z h => by
        have h1 := HA2.out.row.new z h
        have h2 := HLt.out
        obtain ⟨cs, hb⟩ := own_blk HA2.out.row.own h
        exact ⟨by omega, by omega, IntsB.of hb (by decide)⟩)
      have HK3 : Hid (KpN W w1 p) := HK2.out.trans kA fun j hj h => by have := HA2.out.row.new j h; omega
      have HA3 := hidP (FL.push HWs.out.1 HWs.out.2 HA1.out HA2.out rfl HKd.out.1 HKd.out.2 hown hgrow hblk)
      have HM := hidP HR3.out.at
      have hL : acc.length + 1 = (acc ++ [(x, ko, kc)]).length := by simp
      rw [hL]
      clear hown hgrow hblk gA kA HO HSr HA1 HA2 HKd HWs HR2 HK2 hL
      go_wp2_with fail
      go_roundw
      case rel => exact ⟨n, a3, g3, acc ++ [(x, ko, kc)], vo', vc', hp3, by omega, by omega, by simp; omega, by simp, HA3.out, HR3.out, HK3.out, HS1.out⟩
      case measure =>
        have h1 := HM.out
        have h2 := Hm.out
        rw [h2]
        refine Nat.lt_of_le_of_lt (Nat.le_of_eq (congrArg (s.size - ·) h1)) ?_
        omega
    rw [hr] at hq
    have HQ := hidP hq
    have HE : Hid (R = .ok (acc.map (·.1), (a2, g))) := by show R = _; rw [← HS.out]; exact com_end hr
    clear hq hr
    go_wp2_with (go_at_call 52; refine Calls.mono HQ.out ?_; rintro e' U1 ⟨hk, v, rfl, rfl, hR⟩; have HK1 := hidP (HK.out.tr hk); have HR1 := hidP hR; have HA1 := hidP (HA.out.kpn hk HLt.out); clear hk hR)
    go_ret
    have hrow := HA1.out.rowAt (by show _ ≤ 1000000000000; omega)
    exact PnQ.ok HK1.out HE.out ⟨vo, vc, by rw [List.length_map]; rfl, by rw [List.length_map]; exact hrow.1, hrow.2⟩ HR1.out
end Go.Proofs.YtkodgneneiledaaGreatDoor.Kit
