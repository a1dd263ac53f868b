import Derived.Test.YtfoifmacobldbaaGreatDoorTS
set_option maxRecDepth 100000
set_option maxHeartbeats 4000000
namespace Go.Proofs.YtfoifmacobldbaaGreatDoor.Kit
open Go.RowKit Go.Shelf Go.Deep
set_option linter.unusedVariables false
set_option linter.unusedSimpArgs false
/-! ### parts 68 -/
def ahp (j : Nat) : List UInt8 := if j = 0 then [] else [44]
theorem nmc_list (n : ByteArray) : (n ++ ⟨#[58]⟩ : ByteArray).data.toList = n.data.toList ++ [58] := by simp
theorem nmc_size (n : ByteArray) : (n ++ ⟨#[58]⟩ : ByteArray).size = n.size + 1 := by
  rw [← sz_list, nmc_list, List.length_append, sz_list]
  rfl
/-- where a struct stands -/
def PaI (W wr : World) (p : Nat) (s : ByteArray) (er : Int) (d : Nat) (r : FT → List UInt8 → Option (VT × List UInt8)) (kids : List FT) (R : Option (List VT × List UInt8)) (k : Nat) (vo : Option Addr) (n vc : Nat) : Prop :=
  ∃ l : List VE, l.length = n ∧ ItS W wr p s er d k l vo vc ∧ R = (QB.rdParts r (kids.drop n) (ahp n) (s.data.toList.drop k)).map fun y => (l.map (·.1) ++ y.1, y.2)
def paR (r : FT → List UInt8 → Option (VT × List UInt8)) (kids : List FT) (s : List UInt8) : Option (List VT × List UInt8) := match QB.takes [123] s with
  | none => none
  | some s1 => QB.rdParts r kids [] s1
theorem parts68 (p : Nat) (s : ByteArray) (S : Nat → Prop) (W : World) (a D d : Nat) (er : Int) (r : FT → List UInt8 → Option (VT × List UInt8)) (kids : List FT) (fp : Option Addr) (fc : Nat) (hS : ∀ b, S b → b < W.heap.size ∧ b ≠ p) (hf : RowAt S W (D + 1) fp kids) (hnm : ∀ g ∈ kids, g.name.size ≤ 64) (hkl : kids.length ≤ fc)
    (hV : ∀ i (h : i < kids.length) go gc, kids[i].kids.length ≤ gc → RowAt S W D go kids[i].kids → ∀ W2 k, Keeps W W2 (fun z => z = p) → Rd W2 p s k er → Calls Tryz.prog 29 #[.pointer (some ⟨p, 0, none⟩), .agg #[.string kids[i].name, .bool kids[i].nul, .int .i64 kids[i].kind, .int .i64 kids[i].width, .int .i64 kids[i].id, .int .i64 kids[i].index, .slice go kids[i].kids.length gc]] W2 (VaA W2 p s er d (r kids[i] (s.data.toList.drop k))))
    (hR : Rd W p s a er) : Calls Tryz.prog 68 #[.pointer (some ⟨p, 0, none⟩), .slice fp kids.length fc] W (LsA W p s er d (paR r kids (s.data.toList.drop a))) := by
  have HLT := hidM hR.lt
  have HSL := hidM hR.len
  have HNM := hidM hnm
  have HS := hidM hS
  have HF := hidM hf
  have HV := hidM hV
  obtain ⟨L, hL⟩ : ∃ L, L = kids.length := ⟨_, rfl⟩
  rw [← hL]
  have HL := hidM hL
  have HKL : Hid (L ≤ 1000000000000) := by show _ ≤ _; rw [hL]; exact hf.1
  obtain ⟨b, hb⟩ : ∃ b, [123].isPrefixOf (s.data.toList.drop a) = b := ⟨_, rfl⟩
  have HM := hidM (must98 p s ⟨#[123]⟩ b W a er hR (by decide) hb)
  unfold paR
  rw [takes_iff, hb]
  clear hR hV hf hnm hS hL
  cases b with
  | false =>
    clear hb
    go_enter Tryz.func68, Tryz.ntmps68
    go_wp2_with (go_at_call 98; refine HM.out.mono ?_; rintro e u ⟨rfl, hk, hr⟩; have HK := hidM hk; have HR := hidM hr; clear hk hr; simp only [])
    go_ret2
    exact ⟨HK.out, ⟨_, _, _, rfl⟩, HR.out.isBad⟩
  | true =>
    rw [if_pos rfl]
    have hal : a + 1 ≤ s.size := pre_lt hb
    simp only [List.drop_drop]
    obtain ⟨R, hRe⟩ : ∃ R, R = QB.rdParts r kids [] (s.data.toList.drop (a + 1)) := ⟨_, rfl⟩
    show Calls _ _ _ _ (LsA W p s er d (QB.rdParts r kids [] (s.data.toList.drop (a + 1))))
    rw [← hRe]
    have HRe := hidM hRe
    have HLI : Hid ((L : Int) = (L : Int)) := rfl
    clear hb hRe
    go_enter Tryz.func68, Tryz.ntmps68
    go_wp2_with (go_at_call 98; refine HM.out.mono ?_; rintro e u ⟨rfl, hk, hr⟩; have HK := hidM hk; have HR := hidM hr; clear hk hr; simp only [])
    have HI : Hid (PaI W u p s er d r kids R (a + 1) none 0 0) := ⟨[], rfl, ⟨VL.nil _ _ _, HK.out, HR.out⟩, by rw [HRe.out]; show _ = Option.map _ (QB.rdParts r kids [] (s.data.toList.drop (a + 1))); cases QB.rdParts r kids [] (s.data.toList.drop (a + 1)) <;> rfl⟩
    clear HR HK HM HRe
    go_loopw [6, 16] (fun x6 x16 wr => ∃ (k i : Nat) (vo : Option Addr) (vc : Nat), k ≤ s.size ∧ i ≤ L ∧ x6 = .slice vo i vc ∧ x16 = .int .i64 (i : Int) ∧ Hid (PaI W wr p s er d r kids R k vo i vc)) (fun _ x16 _ => L - (intOf x16).toNat)
    case atStart => exact ⟨a + 1, 0, none, 0, hal, by omega, rfl, rfl, HI⟩
    case round =>
      obtain ⟨k, i, vo, vc, hk, hn, rfl, rfl, HD⟩ := hrel
      clear HI
      obtain ⟨l, hl, hi, hq⟩ := HD.out
      have HI := hidM hi
      have HQ := hidM hq
      have HLn := hidM hl
      have hsl := HSL.out
      have hLb := HKL.out
      clear hi hq hl HD
      by_cases hf : i = L
      · subst hf
        obtain ⟨b3, hb3⟩ : ∃ b3, [125].isPrefixOf (s.data.toList.drop k) = b3 := ⟨_, rfl⟩
        have HM3 := hidM (must98 p s ⟨#[125]⟩ b3 wr k er HI.out.rd (by decide) hb3)
        have HQ2 : Hid (R = Option.map (fun y => (l.map (·.1) ++ y.1, y.2)) (match QB.takes [125] (s.data.toList.drop k) with | none => none | some s1 => some ([], s1))) := by
          show _ = _
          rw [HQ.out, List.drop_of_length_le (by have := HL.out; omega)]
          rfl
        rw [takes_iff, hb3] at HQ2
        clear HQ
        cases b3 with
        | false =>
          have HE : Hid (R = none) := HQ2.out
          clear hb3 HQ2
          go_wp2_with (go_at_call 98; refine HM3.out.mono ?_; rintro e u6 ⟨rfl, hk6, hr6⟩; have HK6 := hidM hk6; have HR6 := hidM hr6; clear hk6 hr6; simp only [])
          go_ret2
          refine ⟨HI.out.kp.trans HK6.out (fun _ _ h => h), ?_⟩
          rw [HE.out]
          exact ⟨⟨_, _, _, rfl⟩, HR6.out.isBad⟩
        | true =>
          have HLK : Hid (k + 1 ≤ s.size) := pre_lt hb3
          have HE : Hid (R = some (l.map (·.1), s.data.toList.drop (k + 1))) := by
            show _ = _
            rw [HQ2.out, if_pos rfl]
            simp
          clear hb3 HQ2
          go_wp2_with (go_at_call 98; refine HM3.out.mono ?_; rintro e u6 ⟨rfl, hk6, hr6⟩; have HI6 := hidM (HI.out.next HLT.out hk6 hr6); clear hk6 hr6; simp only [])
          go_ret2
          obtain ⟨e1, e2, e3⟩ := at_rest HLK.out
          refine ⟨HI6.out.kp, ?_⟩
          rw [HE.out]
          have hll := HLn.out
          have hrow := HI6.out.row.rowAt (by simp [big]; omega)
          refine ⟨⟨vo, vc, by simp [hll], by simpa using hrow.1, hrow.2⟩, e1, e2, ?_⟩
          have h : Rd u6 p s (k + 1) er := HI6.out.rd
          rw [← e3] at h
          exact h
      · have hlt : i < L := by omega
        have hltI : (i : Int) < (L : Int) := by omega
        have hik : i < kids.length := by have := HL.out; omega
        obtain ⟨fb, fo, hfp, hSb, hrows⟩ := HF.out.2 (fun e => by rw [e] at hik; simp at hik)
        obtain ⟨go, gc, hcs, hgc, hgr⟩ := hrows i hik
        have HV1 := hidM (HV.out i hik go gc hgc hgr)
        have hkb : wr.heap[fb]? = W.heap[fb]? := HI.out.kp.block fb (HS.out fb hSb).1 (fun e => (HS.out fb hSb).2 e)
        have hcw := hcs.kept hkb
        obtain ⟨g, hg⟩ : ∃ g, g = kids[i] := ⟨_, rfl⟩
        have HMEM : Hid (g ∈ kids) := by show g ∈ kids; rw [hg]; exact List.getElem_mem hik
        have hdr : kids.drop i = g :: kids.drop (i + 1) := by rw [hg]; exact List.drop_eq_getElem_cons hik
        rw [← hg] at HV1 hcw
        obtain ⟨f0, f1, f2, f3, f4, f5, f6⟩ := hcw
        subst hfp
        obtain ⟨V0, hV0⟩ : ∃ V0, wr.alloc (.cells #[.string g.name, .bool g.nul, .int .i64 g.kind, .int .i64 g.width, .int .i64 g.id, .int .i64 g.index, .slice go g.kids.length gc] 26) = V0 := ⟨_, rfl⟩
        have hG0 : Gr wr V0 := by rw [← hV0]; exact gr_alloc _ _
        have hbx : V0.heap[wr.heap.size]? = some (.cells #[.string g.name, .bool g.nul, .int .i64 g.kind, .int .i64 g.width, .int .i64 g.id, .int .i64 g.index, .slice go g.kids.length gc] 26) := by rw [← hV0]; exact heap_alloc_new wr _
        have hpn : wr.heap.size ≠ p := by have h1 := HLT.out; have h2 := HI.out.kp.size; omega
        have HCB : Hid (∀ w', Keeps V0 w' (fun z => z = p) → w'.cell? ⟨wr.heap.size, 0, none⟩ = some (.string g.name) ∧ w'.cell? ⟨wr.heap.size, 1, none⟩ = some (.bool g.nul) ∧ w'.cell? ⟨wr.heap.size, 2, none⟩ = some (.int .i64 g.kind) ∧ w'.cell? ⟨wr.heap.size, 3, none⟩ = some (.int .i64 g.width) ∧ w'.cell? ⟨wr.heap.size, 4, none⟩ = some (.int .i64 g.id) ∧ w'.cell? ⟨wr.heap.size, 5, none⟩ = some (.int .i64 g.index) ∧ w'.cell? ⟨wr.heap.size, 6, none⟩ = some (.slice go g.kids.length gc)) := fun w' hk => by
          have h := (hk.block wr.heap.size (lt_of_heap hbx) hpn).trans hbx
          simp [World.cell?, h]
        have HI0 := hidM (HI.out.gr HLT.out hG0)
        have HN : Hid (∀ u, Calls Tryz.prog 84 #[.agg #[.string g.name, .bool g.nul, .int .i64 g.kind, .int .i64 g.width, .int .i64 g.id, .int .i64 g.index, .slice go g.kids.length gc]] u fun e W' => e = .returned (.string (g.name ++ ⟨#[58]⟩)) ∧ Gr u W') := fun u => name84 g.name g.nul g.kind g.width g.id g.index go g.kids.length gc (by have := HNM.out g HMEM.out; omega) u
        have hiL : (i : Int) ≤ 1000000000000 := by omega
        have hflI : (L : Int) ≤ (fc : Int) := by have := HL.out; omega
        clear hrows hcs hgr hgc hSb hkb hg hG0 hbx HV
        by_cases hz : i = 0
        · have hzI : ¬ (0 : Int) < (i : Int) := by omega
          have HQ3 : Hid (R = Option.map (fun y => (l.map (·.1) ++ y.1, y.2)) (match QB.takes (QB.nm g ++ [58]) (s.data.toList.drop k) with
              | none => none
              | some s2 => match r g s2 with
                | none => none
                | some (v, s3) => match QB.rdParts r (kids.drop (i + 1)) [44] s3 with
                  | none => none
                  | some (vs, s4) => some (v :: vs, s4))) := by
            show _ = _
            rw [HQ.out, hdr, show ahp i = [] by rw [hz]; rfl]
            rfl
          have hkx : k ≤ s.size := hk
          have HI6 := hidM HI0.out
          have HK6 : Hid (Keeps V0 V0 (fun z => z = p)) := Keeps.refl _ _
          obtain ⟨c0, c1, c2, c3, c4, c5, c6⟩ := HCB.out V0 HK6.out
          clear HQ hdr hz
          obtain ⟨b2, hb2⟩ : ∃ b2, (QB.nm g ++ [58]).isPrefixOf (s.data.toList.drop k) = b2 := ⟨_, rfl⟩
          have HM2 : Hid (∀ u, Rd u p s k er → Calls Tryz.prog 98 #[.pointer (some ⟨p, 0, none⟩), .string (g.name ++ ⟨#[58]⟩)] u fun e W' => e = .returned (.bool b2) ∧ Keeps u W' (fun z => z = p) ∧ Rd W' p s (if b2 then k + (g.name.size + 1) else k) (if b2 then er else 8)) := fun u h => by
            have h2 := must98 p s (g.name ++ ⟨#[58]⟩) b2 u (k) er h (by rw [nmc_size]; have := HNM.out g (HMEM.out); omega) (by rw [nmc_list]; exact hb2)
            rw [nmc_size] at h2
            exact h2
          rw [takes_iff, hb2] at HQ3
          cases b2 with
          | false =>
            have HE : Hid (R = none) := HQ3.out
            clear hb2 HQ3
            go_wp2_with (first | (go_at_call 98; refine (HM2.out _ HI7.out.rd).mono ?_; rintro e u8 ⟨rfl, hk8, hr8⟩; have HK8 := hidM hk8; have HR8 := hidM hr8; clear hk8 hr8; simp only []) | (go_at_call 84; refine (HN.out _).mono ?_; rintro e u7 ⟨rfl, hg7⟩; have HI7 := hidM (HI6.out.gr HLT.out hg7); have HK7 := hidM (HK6.out.trans (gr_kp hg7) (fun _ _ h => h)); clear hg7; simp only []))
            go_ret2
            refine ⟨HI7.out.kp.trans HK8.out (fun _ _ h => h), ?_⟩
            rw [HE.out]
            exact ⟨⟨_, _, _, rfl⟩, HR8.out.isBad⟩
          | true =>
            have hk3 : k + (g.name.size + 1) ≤ s.size := by
              have h := pre_le hkx hb2
              simp only [List.length_append, List.length_singleton] at h
              rw [show (QB.nm g).length = g.name.size from sz_list g.name] at h
              exact h
            replace HQ3 : Hid (R = Option.map (fun y => (l.map (·.1) ++ y.1, y.2)) (match r g (s.data.toList.drop (k + (g.name.size + 1))) with
                | none => none
                | some (v, s3) => match QB.rdParts r (kids.drop (i + 1)) [44] s3 with
                  | none => none
                  | some (vs, s4) => some (v :: vs, s4))) := by
              show _ = _
              rw [HQ3.out, if_pos rfl]
              simp only [List.drop_drop, List.length_append, List.length_singleton]
              rw [show (QB.nm g).length = g.name.size from sz_list g.name]
            replace HM2 : Hid (∀ u, Rd u p s k er → Calls Tryz.prog 98 #[.pointer (some ⟨p, 0, none⟩), .string (g.name ++ ⟨#[58]⟩)] u fun e W' => e = .returned (.bool true) ∧ Keeps u W' (fun z => z = p) ∧ Rd W' p s (k + (g.name.size + 1)) er) := HM2
            clear hb2
            obtain ⟨k3, hk3e⟩ : ∃ k3, k3 = k + (g.name.size + 1) := ⟨_, rfl⟩
            rw [← hk3e] at HQ3 HM2 hk3
            clear hk3e
            cases ho : r g (s.data.toList.drop k3) with
            | none =>
              have HC : Hid (∀ W2, Keeps W W2 (fun z => z = p) → Rd W2 p s k3 er → Calls Tryz.prog 29 #[.pointer (some ⟨p, 0, none⟩), .agg #[.string g.name, .bool g.nul, .int .i64 g.kind, .int .i64 g.width, .int .i64 g.id, .int .i64 g.index, .slice go g.kids.length gc]] W2 fun e W' => Keeps W2 W' (fun z => z = p) ∧ (∃ val, e = .returned (.tuple #[val, .bool false]) ∧ AnyV val) ∧ Bad W' p s) := fun W2 h1 h2 => by
                have h := HV1.out W2 k3 h1 h2
                rw [ho] at h
                exact h
              have HE : Hid (R = none) := by
                show _ = _
                rw [HQ3.out, ho]
                rfl
              clear ho HQ3
              go_wp2_with (first | (go_at_call 98; refine (HM2.out _ HI7.out.rd).mono ?_; rintro e u8 ⟨rfl, hk8, hr8⟩; have HI8 := hidM (HI7.out.next HLT.out hk8 hr8); have HK8 := hidM (HK7.out.trans hk8 (fun _ _ h => h)); have hcc := HCB.out u8 HK8.out; obtain ⟨d0, d1, d2, d3, d4, d5, d6⟩ := hcc; clear hk8 hr8; simp only []) | (go_at_call 84; refine (HN.out _).mono ?_; rintro e u7 ⟨rfl, hg7⟩; have HI7 := hidM (HI6.out.gr HLT.out hg7); have HK7 := hidM (HK6.out.trans (gr_kp hg7) (fun _ _ h => h)); clear hg7; simp only []) | (go_at_call 29; refine (HC.out _ HI8.out.kp HI8.out.rd).mono ?_; rintro e u3 ⟨hk3, ⟨val, rfl, b', n', x', lo, ln, lc, rfl⟩, hbad⟩; have HK3 := hidM hk3; have HBAD := hidM hbad; clear hk3 hbad; simp only []))
              go_ret2
              refine ⟨(HI8.out.kp.trans HK3.out (fun _ _ h => h)).trans (gr_kp (gr_alloc _ _)) (fun _ _ h => h), ?_⟩
              rw [HE.out]
              exact ⟨⟨_, _, _, rfl⟩, HBAD.out.gr (gr_alloc _ _)⟩
            | some vt =>
              obtain ⟨v, t⟩ := vt
              have HC : Hid (∀ W2, Keeps W W2 (fun z => z = p) → Rd W2 p s k3 er → Calls Tryz.prog 29 #[.pointer (some ⟨p, 0, none⟩), .agg #[.string g.name, .bool g.nul, .int .i64 g.kind, .int .i64 g.width, .int .i64 g.id, .int .i64 g.index, .slice go g.kids.length gc]] W2 fun e W' => Keeps W2 W' (fun z => z = p) ∧ (∃ val, e = .returned (.tuple #[val, .bool true]) ∧ VV d W2 W' v val) ∧ t.length ≤ s.size ∧ t = s.data.toList.drop (s.size - t.length) ∧ Rd W' p s (s.size - t.length) er) := fun W2 h1 h2 => by
                have h := HV1.out W2 k3 h1 h2
                rw [ho] at h
                exact h
              rw [ho] at HQ3
              have hnl := HLn.out
              clear ho
              subst hnl
              go_wp2_with (first | (go_at_call 98; refine (HM2.out _ HI7.out.rd).mono ?_; rintro e u8 ⟨rfl, hk8, hr8⟩; have HI8 := hidM (HI7.out.next HLT.out hk8 hr8); have HK8 := hidM (HK7.out.trans hk8 (fun _ _ h => h)); have hcc := HCB.out u8 HK8.out; obtain ⟨d0, d1, d2, d3, d4, d5, d6⟩ := hcc; clear hk8 hr8; simp only []) | (go_at_call 84; refine (HN.out _).mono ?_; rintro e u7 ⟨rfl, hg7⟩; have HI7 := hidM (HI6.out.gr HLT.out hg7); have HK7 := hidM (HK6.out.trans (gr_kp hg7) (fun _ _ h => h)); clear hg7; simp only []) | (go_at_call 29; refine (HC.out _ HI8.out.kp HI8.out.rd).mono ?_; rintro e u3 ⟨hk3, ⟨val, rfl, ko, kc, rfl, hkc, hok, hrow⟩, ht1, ht2, hr3⟩; have HK3 := hidM hk3; have HR3 := hidM hr3; have HT1 := hidM ht1; have HT2 := hidM ht2; have HVV := hidM (And.intro hkc (And.intro hok hrow)); clear hk3 hr3 ht1 ht2 hkc hok hrow; simp only []) | (at_builtin; refine Hid.out ?_))
              unfold Hid
              have HI3 := hidM (HI8.out.next HLT.out HK3.out HR3.out)
              have gB : Gr u3 (u3.alloc (.cells #[.bool v.nul, .int .i64 v.num, .string v.text, .slice ko v.list.length kc] 29)) := gr_alloc _ _
              have HI4 := hidM (HI3.out.gr HLT.out gB)
              have HRW : Hid (VRow (NV u8 (u3.alloc (.cells #[.bool v.nul, .int .i64 v.num, .string v.text, .slice ko v.list.length kc] 29))) (u3.alloc (.cells #[.bool v.nul, .int .i64 v.num, .string v.text, .slice ko v.list.length kc] 29)) d ko v.list) := HVV.out.2.2.nv (fun b hb => gB.block b hb.2 id) gB.size
              have HO := hidM (HI4.out.row.row.own.alloc (.cells #[.bool v.nul, .int .i64 v.num, .string v.text, .slice ko v.list.length kc] 29))
              have HSr : Hid (Src Tryz.prog 4 27 (.slice (some ⟨u3.heap.size + 1, 0, none⟩) 1 1) 1 (vcel (v, ko, kc)) ((u3.alloc (.cells #[.bool v.nul, .int .i64 v.num, .string v.text, .slice ko v.list.length kc] 29)).alloc (.cells #[.bool v.nul, .int .i64 v.num, .string v.text, .slice ko v.list.length kc] 29))) := by
                have h := src29 (u3.alloc (.cells #[.bool v.nul, .int .i64 v.num, .string v.text, .slice ko v.list.length kc] 29)) v ko kc
                rw [show (u3.alloc (.cells #[.bool v.nul, .int .i64 v.num, .string v.text, .slice ko v.list.length kc] 29)).heap.size = u3.heap.size + 1 by simp] at h
                exact h
              refine wpList_append_anyN (P := Tryz.prog) _ rfl (.tmp 43) (.tmp 45) 27 27 rfl 29 (.agg #[.bool false, .int .i64 0, .string ⟨#[]⟩, .slice none 0 0]) 4 56 Tryz.underlying27 info29 rfl _ _ _ rfl HO.out _ _ _ rfl HSr.out (by have := HKL.out; omega) (by have := HKL.out; omega) ?_
              refine Hid.out ?_
              unfold Hid
              intro v' w5 hown hgrow hblk
              obtain ⟨vo5, vc5, rfl⟩ := own_formN hown
              have HI5 := hidM (ItS.push HLT.out HI8.out.row HI8.out.kp.size (Nat.le_trans HK3.out.size gB.size) HI4.out HVV.out.1 HVV.out.2.1 HRW.out hown hgrow hblk)
              clear hown hgrow hblk gB HO HSr HI3 HI4 HRW HK3 HR3 HC
              obtain ⟨k2, hk2⟩ : ∃ k2, k2 = s.size - t.length := ⟨_, rfl⟩
              rw [← hk2] at HT2 HI5
              have hk2l : k2 ≤ s.size := by omega
              have HE : Hid (R = (QB.rdParts r (kids.drop (l.length + 1)) (ahp (l.length + 1)) (s.data.toList.drop k2)).map fun y => ((l ++ [(v, ko, kc)]).map (·.1) ++ y.1, y.2)) := by
                show _ = _
                rw [HQ3.out]
                have hT := HT2.out
                rw [hT]
                show Option.map _ (match QB.rdParts r (kids.drop (l.length + 1)) [44] (s.data.toList.drop k2) with | none => none | some (vs, s3) => some (v :: vs, s3)) = Option.map _ (QB.rdParts r (kids.drop (l.length + 1)) [44] (s.data.toList.drop k2))
                cases QB.rdParts r (kids.drop (l.length + 1)) [44] (s.data.toList.drop k2) with
                | none => rfl
                | some x => simp
              have hw1 : IntKind.i64.wrap ((l.length : Int) + 1) = ((l.length + 1 : Nat) : Int) := by have := HKL.out; rw [IntKind.wrap_i64]; omega
              clear hk2 HQ3 HT1 HT2
              go_wp2_with fail
              go_roundw
              case rel => exact ⟨k2, l.length + 1, vo5, vc5, hk2l, by omega, rfl, by simp, l ++ [(v, ko, kc)], by simp, HI5.out, HE.out⟩
              case measure => simp only [intOf]; omega
        · have hzI : (0 : Int) < (i : Int) := by omega
          obtain ⟨b1, hb1⟩ : ∃ b1, [44].isPrefixOf (s.data.toList.drop k) = b1 := ⟨_, rfl⟩
          have HM1 := hidM (must98 p s ⟨#[44]⟩ b1 V0 k er HI0.out.rd (by decide) hb1)
          have HQ2 : Hid (R = Option.map (fun y => (l.map (·.1) ++ y.1, y.2)) (match QB.takes [44] (s.data.toList.drop k) with
            | none => none
            | some s1 => match QB.takes (QB.nm g ++ [58]) s1 with
              | none => none
              | some s2 => match r g s2 with
                | none => none
                | some (v, s3) => match QB.rdParts r (kids.drop (i + 1)) [44] s3 with
                  | none => none
                  | some (vs, s4) => some (v :: vs, s4))) := by
            show _ = _
            rw [HQ.out, hdr, show ahp i = [44] by unfold ahp; rw [if_neg hz]]
            rfl
          rw [takes_iff, hb1] at HQ2
          clear HQ hdr hz
          cases b1 with
          | false =>
            have HE : Hid (R = none) := HQ2.out
            clear hb1 HQ2
            go_wp2_with (go_at_call 98; refine HM1.out.mono ?_; rintro e u6 ⟨rfl, hk6, hr6⟩; have HK6 := hidM hk6; have HR6 := hidM hr6; clear hk6 hr6; simp only [])
            go_ret2
            refine ⟨HI0.out.kp.trans HK6.out (fun _ _ h => h), ?_⟩
            rw [HE.out]
            exact ⟨⟨_, _, _, rfl⟩, HR6.out.isBad⟩
          | true =>
            have hkx : k + 1 ≤ s.size := pre_lt hb1
            have HQ3 : Hid (R = Option.map (fun y => (l.map (·.1) ++ y.1, y.2)) (match QB.takes (QB.nm g ++ [58]) (s.data.toList.drop (k + 1)) with
                | none => none
                | some s2 => match r g s2 with
                  | none => none
                  | some (v, s3) => match QB.rdParts r (kids.drop (i + 1)) [44] s3 with
                    | none => none
                    | some (vs, s4) => some (v :: vs, s4))) := by
              show _ = _
              rw [HQ2.out, if_pos rfl]
              simp only [List.drop_drop]
              rfl
            replace HM1 : Hid (Calls Tryz.prog 98 #[.pointer (some ⟨p, 0, none⟩), .string ⟨#[44]⟩] V0 fun e W' => e = .returned (.bool true) ∧ Keeps V0 W' (fun z => z = p) ∧ Rd W' p s (k + 1) er) := HM1
            clear hb1 HQ2
            obtain ⟨b2, hb2⟩ : ∃ b2, (QB.nm g ++ [58]).isPrefixOf (s.data.toList.drop (k + 1)) = b2 := ⟨_, rfl⟩
            have HM2 : Hid (∀ u, Rd u p s (k + 1) er → Calls Tryz.prog 98 #[.pointer (some ⟨p, 0, none⟩), .string (g.name ++ ⟨#[58]⟩)] u fun e W' => e = .returned (.bool b2) ∧ Keeps u W' (fun z => z = p) ∧ Rd W' p s (if b2 then (k + 1) + (g.name.size + 1) else (k + 1)) (if b2 then er else 8)) := fun u h => by
              have h2 := must98 p s (g.name ++ ⟨#[58]⟩) b2 u ((k + 1)) er h (by rw [nmc_size]; have := HNM.out g (HMEM.out); omega) (by rw [nmc_list]; exact hb2)
              rw [nmc_size] at h2
              exact h2
            rw [takes_iff, hb2] at HQ3
            cases b2 with
            | false =>
              have HE : Hid (R = none) := HQ3.out
              clear hb2 HQ3
              go_wp2_with (first | (go_at_call 98; refine (HM2.out _ HI7.out.rd).mono ?_; rintro e u8 ⟨rfl, hk8, hr8⟩; have HK8 := hidM hk8; have HR8 := hidM hr8; clear hk8 hr8; simp only []) | (go_at_call 84; refine (HN.out _).mono ?_; rintro e u7 ⟨rfl, hg7⟩; have HI7 := hidM (HI6.out.gr HLT.out hg7); have HK7 := hidM (HK6.out.trans (gr_kp hg7) (fun _ _ h => h)); clear hg7; simp only []) | (go_at_call 98; refine HM1.out.mono ?_; rintro e u6 ⟨rfl, hk6, hr6⟩; have HI6 := hidM (HI0.out.next HLT.out hk6 hr6); have HK6 := hidM hk6; have hcc := HCB.out u6 hk6; obtain ⟨c0, c1, c2, c3, c4, c5, c6⟩ := hcc; clear hk6 hr6; simp only []))
              go_ret2
              refine ⟨HI7.out.kp.trans HK8.out (fun _ _ h => h), ?_⟩
              rw [HE.out]
              exact ⟨⟨_, _, _, rfl⟩, HR8.out.isBad⟩
            | true =>
              have hk3 : (k + 1) + (g.name.size + 1) ≤ s.size := by
                have h := pre_le hkx hb2
                simp only [List.length_append, List.length_singleton] at h
                rw [show (QB.nm g).length = g.name.size from sz_list g.name] at h
                exact h
              replace HQ3 : Hid (R = Option.map (fun y => (l.map (·.1) ++ y.1, y.2)) (match r g (s.data.toList.drop ((k + 1) + (g.name.size + 1))) with
                  | none => none
                  | some (v, s3) => match QB.rdParts r (kids.drop (i + 1)) [44] s3 with
                    | none => none
                    | some (vs, s4) => some (v :: vs, s4))) := by
                show _ = _
                rw [HQ3.out, if_pos rfl]
                simp only [List.drop_drop, List.length_append, List.length_singleton]
                rw [show (QB.nm g).length = g.name.size from sz_list g.name]
              replace HM2 : Hid (∀ u, Rd u p s (k + 1) er → Calls Tryz.prog 98 #[.pointer (some ⟨p, 0, none⟩), .string (g.name ++ ⟨#[58]⟩)] u fun e W' => e = .returned (.bool true) ∧ Keeps u W' (fun z => z = p) ∧ Rd W' p s ((k + 1) + (g.name.size + 1)) er) := HM2
              clear hb2
              obtain ⟨k3, hk3e⟩ : ∃ k3, k3 = (k + 1) + (g.name.size + 1) := ⟨_, rfl⟩
              rw [← hk3e] at HQ3 HM2 hk3
              clear hk3e
              cases ho : r g (s.data.toList.drop k3) with
              | none =>
                have HC : Hid (∀ W2, Keeps W W2 (fun z => z = p) → Rd W2 p s k3 er → Calls Tryz.prog 29 #[.pointer (some ⟨p, 0, none⟩), .agg #[.string g.name, .bool g.nul, .int .i64 g.kind, .int .i64 g.width, .int .i64 g.id, .int .i64 g.index, .slice go g.kids.length gc]] W2 fun e W' => Keeps W2 W' (fun z => z = p) ∧ (∃ val, e = .returned (.tuple #[val, .bool false]) ∧ AnyV val) ∧ Bad W' p s) := fun W2 h1 h2 => by
                  have h := HV1.out W2 k3 h1 h2
                  rw [ho] at h
                  exact h
                have HE : Hid (R = none) := by
                  show _ = _
                  rw [HQ3.out, ho]
                  rfl
                clear ho HQ3
                go_wp2_with (first | (go_at_call 98; refine (HM2.out _ HI7.out.rd).mono ?_; rintro e u8 ⟨rfl, hk8, hr8⟩; have HI8 := hidM (HI7.out.next HLT.out hk8 hr8); have HK8 := hidM (HK7.out.trans hk8 (fun _ _ h => h)); have hcc := HCB.out u8 HK8.out; obtain ⟨d0, d1, d2, d3, d4, d5, d6⟩ := hcc; clear hk8 hr8; simp only []) | (go_at_call 84; refine (HN.out _).mono ?_; rintro e u7 ⟨rfl, hg7⟩; have HI7 := hidM (HI6.out.gr HLT.out hg7); have HK7 := hidM (HK6.out.trans (gr_kp hg7) (fun _ _ h => h)); clear hg7; simp only []) | (go_at_call 98; refine HM1.out.mono ?_; rintro e u6 ⟨rfl, hk6, hr6⟩; have HI6 := hidM (HI0.out.next HLT.out hk6 hr6); have HK6 := hidM hk6; have hcc := HCB.out u6 hk6; obtain ⟨c0, c1, c2, c3, c4, c5, c6⟩ := hcc; clear hk6 hr6; simp only []) | (go_at_call 29; refine (HC.out _ HI8.out.kp HI8.out.rd).mono ?_; rintro e u3 ⟨hk3, ⟨val, rfl, b', n', x', lo, ln, lc, rfl⟩, hbad⟩; have HK3 := hidM hk3; have HBAD := hidM hbad; clear hk3 hbad; simp only []))
                go_ret2
                refine ⟨(HI8.out.kp.trans HK3.out (fun _ _ h => h)).trans (gr_kp (gr_alloc _ _)) (fun _ _ h => h), ?_⟩
                rw [HE.out]
                exact ⟨⟨_, _, _, rfl⟩, HBAD.out.gr (gr_alloc _ _)⟩
              | some vt =>
                obtain ⟨v, t⟩ := vt
                have HC : Hid (∀ W2, Keeps W W2 (fun z => z = p) → Rd W2 p s k3 er → Calls Tryz.prog 29 #[.pointer (some ⟨p, 0, none⟩), .agg #[.string g.name, .bool g.nul, .int .i64 g.kind, .int .i64 g.width, .int .i64 g.id, .int .i64 g.index, .slice go g.kids.length gc]] W2 fun e W' => Keeps W2 W' (fun z => z = p) ∧ (∃ val, e = .returned (.tuple #[val, .bool true]) ∧ VV d W2 W' v val) ∧ t.length ≤ s.size ∧ t = s.data.toList.drop (s.size - t.length) ∧ Rd W' p s (s.size - t.length) er) := fun W2 h1 h2 => by
                  have h := HV1.out W2 k3 h1 h2
                  rw [ho] at h
                  exact h
                rw [ho] at HQ3
                have hnl := HLn.out
                clear ho
                subst hnl
                go_wp2_with (first | (go_at_call 98; refine (HM2.out _ HI7.out.rd).mono ?_; rintro e u8 ⟨rfl, hk8, hr8⟩; have HI8 := hidM (HI7.out.next HLT.out hk8 hr8); have HK8 := hidM (HK7.out.trans hk8 (fun _ _ h => h)); have hcc := HCB.out u8 HK8.out; obtain ⟨d0, d1, d2, d3, d4, d5, d6⟩ := hcc; clear hk8 hr8; simp only []) | (go_at_call 84; refine (HN.out _).mono ?_; rintro e u7 ⟨rfl, hg7⟩; have HI7 := hidM (HI6.out.gr HLT.out hg7); have HK7 := hidM (HK6.out.trans (gr_kp hg7) (fun _ _ h => h)); clear hg7; simp only []) | (go_at_call 98; refine HM1.out.mono ?_; rintro e u6 ⟨rfl, hk6, hr6⟩; have HI6 := hidM (HI0.out.next HLT.out hk6 hr6); have HK6 := hidM hk6; have hcc := HCB.out u6 hk6; obtain ⟨c0, c1, c2, c3, c4, c5, c6⟩ := hcc; clear hk6 hr6; simp only []) | (go_at_call 29; refine (HC.out _ HI8.out.kp HI8.out.rd).mono ?_; rintro e u3 ⟨hk3, ⟨val, rfl, ko, kc, rfl, hkc, hok, hrow⟩, ht1, ht2, hr3⟩; have HK3 := hidM hk3; have HR3 := hidM hr3; have HT1 := hidM ht1; have HT2 := hidM ht2; have HVV := hidM (And.intro hkc (And.intro hok hrow)); clear hk3 hr3 ht1 ht2 hkc hok hrow; simp only []) | (at_builtin; refine Hid.out ?_))
                unfold Hid
                have HI3 := hidM (HI8.out.next HLT.out HK3.out HR3.out)
                have gB : Gr u3 (u3.alloc (.cells #[.bool v.nul, .int .i64 v.num, .string v.text, .slice ko v.list.length kc] 29)) := gr_alloc _ _
                have HI4 := hidM (HI3.out.gr HLT.out gB)
                have HRW : Hid (VRow (NV u8 (u3.alloc (.cells #[.bool v.nul, .int .i64 v.num, .string v.text, .slice ko v.list.length kc] 29))) (u3.alloc (.cells #[.bool v.nul, .int .i64 v.num, .string v.text, .slice ko v.list.length kc] 29)) d ko v.list) := HVV.out.2.2.nv (fun b hb => gB.block b hb.2 id) gB.size
                have HO := hidM (HI4.out.row.row.own.alloc (.cells #[.bool v.nul, .int .i64 v.num, .string v.text, .slice ko v.list.length kc] 29))
                have HSr : Hid (Src Tryz.prog 4 27 (.slice (some ⟨u3.heap.size + 1, 0, none⟩) 1 1) 1 (vcel (v, ko, kc)) ((u3.alloc (.cells #[.bool v.nul, .int .i64 v.num, .string v.text, .slice ko v.list.length kc] 29)).alloc (.cells #[.bool v.nul, .int .i64 v.num, .string v.text, .slice ko v.list.length kc] 29))) := by
                  have h := src29 (u3.alloc (.cells #[.bool v.nul, .int .i64 v.num, .string v.text, .slice ko v.list.length kc] 29)) v ko kc
                  rw [show (u3.alloc (.cells #[.bool v.nul, .int .i64 v.num, .string v.text, .slice ko v.list.length kc] 29)).heap.size = u3.heap.size + 1 by simp] at h
                  exact h
                refine wpList_append_anyN (P := Tryz.prog) _ rfl (.tmp 43) (.tmp 45) 27 27 rfl 29 (.agg #[.bool false, .int .i64 0, .string ⟨#[]⟩, .slice none 0 0]) 4 56 Tryz.underlying27 info29 rfl _ _ _ rfl HO.out _ _ _ rfl HSr.out (by have := HKL.out; omega) (by have := HKL.out; omega) ?_
                refine Hid.out ?_
                unfold Hid
                intro v' w5 hown hgrow hblk
                obtain ⟨vo5, vc5, rfl⟩ := own_formN hown
                have HI5 := hidM (ItS.push HLT.out HI8.out.row HI8.out.kp.size (Nat.le_trans HK3.out.size gB.size) HI4.out HVV.out.1 HVV.out.2.1 HRW.out hown hgrow hblk)
                clear hown hgrow hblk gB HO HSr HI3 HI4 HRW HK3 HR3 HC
                obtain ⟨k2, hk2⟩ : ∃ k2, k2 = s.size - t.length := ⟨_, rfl⟩
                rw [← hk2] at HT2 HI5
                have hk2l : k2 ≤ s.size := by omega
                have HE : Hid (R = (QB.rdParts r (kids.drop (l.length + 1)) (ahp (l.length + 1)) (s.data.toList.drop k2)).map fun y => ((l ++ [(v, ko, kc)]).map (·.1) ++ y.1, y.2)) := by
                  show _ = _
                  rw [HQ3.out]
                  have hT := HT2.out
                  rw [hT]
                  show Option.map _ (match QB.rdParts r (kids.drop (l.length + 1)) [44] (s.data.toList.drop k2) with | none => none | some (vs, s3) => some (v :: vs, s3)) = Option.map _ (QB.rdParts r (kids.drop (l.length + 1)) [44] (s.data.toList.drop k2))
                  cases QB.rdParts r (kids.drop (l.length + 1)) [44] (s.data.toList.drop k2) with
                  | none => rfl
                  | some x => simp
                have hw1 : IntKind.i64.wrap ((l.length : Int) + 1) = ((l.length + 1 : Nat) : Int) := by have := HKL.out; rw [IntKind.wrap_i64]; omega
                clear hk2 HQ3 HT1 HT2
                go_wp2_with fail
                go_roundw
                case rel => exact ⟨k2, l.length + 1, vo5, vc5, hk2l, by omega, rfl, by simp, l ++ [(v, ko, kc)], by simp, HI5.out, HE.out⟩
                case measure => simp only [intOf]; omega
end Go.Proofs.YtfoifmacobldbaaGreatDoor.Kit
