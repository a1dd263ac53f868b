import Derived.Test.YtfoifmacobldbaaGreatDoorTR
set_option maxRecDepth 100000
set_option maxHeartbeats 4000000
namespace Go.Proofs.YtfoifmacobldbaaGreatDoor.Kit
open Go.RowKit Go.Shelf Go.Deep
set_option linter.unusedVariables false
set_option linter.unusedSimpArgs false
/-! ### span 67 -/
def ahd (j : Nat) : ByteArray := if j = 0 then ⟨#[91]⟩ else ⟨#[44]⟩
theorem ahd_size (j : Nat) : (ahd j).size = 1 := by unfold ahd; split <;> rfl
/-- where a span stands -/
def SpI (W1 wr : World) (p : Nat) (s : ByteArray) (er : Int) (d : Nat) (r : List UInt8 → Option (VT × List UInt8)) (R : Option (List VT × List UInt8)) (wn k : Nat) (vo : Option Addr) (n vc : Nat) : Prop :=
  ∃ l : List VE, l.length = n ∧ ItS W1 wr p s er d k l vo vc ∧ R = (QB.rdSpan r (wn - n) (ahd n).data.toList (s.data.toList.drop k)).map fun y => (l.map (·.1) ++ y.1, y.2)
theorem pre_le {s : ByteArray} {k : Nat} {q : List UInt8} (hk : k ≤ s.size) (h : q.isPrefixOf (s.data.toList.drop k) = true) : k + q.length ≤ s.size := by
  have := (List.isPrefixOf_iff_prefix.1 h).length_le
  simp only [List.length_drop, sz_list] at this
  omega
theorem span67 (p : Nat) (s : ByteArray) (W : World) (a d wn : Nat) (hwn : wn ≤ 1000000) (er : Int) (r : List UInt8 → Option (VT × List UInt8)) (g0 : ByteArray) (g1 : Bool) (g2 g3 g4 g5 : Int) (go : Option Addr) (gn gc : Nat)
    (hV : ∀ W2 k, Keeps W W2 (fun z => z = p) → Rd W2 p s k er → Calls Tryz.prog 29 #[.pointer (some ⟨p, 0, none⟩), .agg #[.string g0, .bool g1, .int .i64 g2, .int .i64 g3, .int .i64 g4, .int .i64 g5, .slice go gn gc]] W2 (VaA W2 p s er d (r (s.data.toList.drop k))))
    (hR : Rd W p s a er) : Calls Tryz.prog 67 #[.pointer (some ⟨p, 0, none⟩), .int .i64 (wn : Int), .agg #[.string g0, .bool g1, .int .i64 g2, .int .i64 g3, .int .i64 g4, .int .i64 g5, .slice go gn gc]] W (LsA W p s er d (QB.rdSpan r wn [91] (s.data.toList.drop a))) := by
  obtain ⟨W1, hW1⟩ : ∃ W1, W.alloc (.cells #[.string g0, .bool g1, .int .i64 g2, .int .i64 g3, .int .i64 g4, .int .i64 g5, .slice go gn gc] 26) = W1 := ⟨_, rfl⟩
  have hG1 : Gr W W1 := by rw [← hW1]; exact gr_alloc _ _
  have hbx : W1.heap[W.heap.size]? = some (.cells #[.string g0, .bool g1, .int .i64 g2, .int .i64 g3, .int .i64 g4, .int .i64 g5, .slice go gn gc] 26) := by rw [← hW1]; exact heap_alloc_new W _
  have hLT := hR.lt
  have hsz : W1.heap.size = W.heap.size + 1 := by rw [← hW1]; simp
  have hpn : p ≠ W.heap.size := by omega
  have HCB : Hid (∀ wr, Keeps W1 wr (fun z => z = p) → wr.cell? ⟨W.heap.size, 0, none⟩ = some (.string g0) ∧ wr.cell? ⟨W.heap.size, 1, none⟩ = some (.bool g1) ∧ wr.cell? ⟨W.heap.size, 2, none⟩ = some (.int .i64 g2) ∧ wr.cell? ⟨W.heap.size, 3, none⟩ = some (.int .i64 g3) ∧ wr.cell? ⟨W.heap.size, 4, none⟩ = some (.int .i64 g4) ∧ wr.cell? ⟨W.heap.size, 5, none⟩ = some (.int .i64 g5) ∧ wr.cell? ⟨W.heap.size, 6, none⟩ = some (.slice go gn gc)) := fun wr hk => by
    have h := (hk.block W.heap.size (lt_of_heap hbx) (fun e => hpn e.symm)).trans hbx
    simp [World.cell?, h]
  have HV : Hid (∀ W2 k, Keeps W1 W2 (fun z => z = p) → Rd W2 p s k er → Calls Tryz.prog 29 #[.pointer (some ⟨p, 0, none⟩), .agg #[.string g0, .bool g1, .int .i64 g2, .int .i64 g3, .int .i64 g4, .int .i64 g5, .slice go gn gc]] W2 (VaA W2 p s er d (r (s.data.toList.drop k)))) := fun W2 k hk hr => hV W2 k ((gr_kp hG1).trans hk (fun _ _ h => h)) hr
  have HG1 := hidM hG1
  have HLT1 : Hid (p < W1.heap.size) := by show _ < _; omega
  have HSL := hidM hR.len
  have HAL := hidM hR.pos
  obtain ⟨R, hRe⟩ : ∃ R, R = QB.rdSpan r wn [91] (s.data.toList.drop a) := ⟨_, rfl⟩
  rw [← hRe]
  have HI : Hid (SpI W1 W1 p s er d r R wn a none 0 0) := ⟨[], rfl, ⟨VL.nil _ _ _, Keeps.refl _ _, hR.gr hG1⟩, by rw [hRe]; show _ = Option.map _ (QB.rdSpan r wn [91] (s.data.toList.drop a)); cases QB.rdSpan r wn [91] (s.data.toList.drop a) <;> rfl⟩
  clear hR hV hG1 hbx hLT hRe
  go_enter Tryz.func67, Tryz.ntmps67
  go_wp2_with fail
  go_loopw [8, 9, 13] (fun x8 x9 x13 wr => ∃ (k n : Nat) (vo : Option Addr) (vc : Nat), k ≤ s.size ∧ n ≤ wn ∧ x8 = .slice vo n vc ∧ x9 = .string (ahd n) ∧ x13 = .int .i64 (n : Int) ∧ Hid (SpI W1 wr p s er d r R wn k vo n vc)) (fun _ _ x13 _ => wn - (intOf x13).toNat)
  case atStart => exact ⟨a, 0, none, 0, HAL.out, by omega, rfl, rfl, rfl, HI⟩
  case round =>
    obtain ⟨k, n, vo, vc, hk, hn, rfl, rfl, rfl, HD⟩ := hrel
    clear HI
    obtain ⟨l, hl, hi, hq⟩ := HD.out
    have HI := hidM hi
    have HQ := hidM hq
    have HLn := hidM hl
    have hsl := HSL.out
    obtain ⟨c0, c1, c2, c3, c4, c5, c6⟩ := HCB.out wr hi.kp
    clear hi hq hl HD
    by_cases hf : n = wn
    · -- the end
      subst hf
      obtain ⟨b3, hb3⟩ : ∃ b3, [93].isPrefixOf (s.data.toList.drop k) = b3 := ⟨_, rfl⟩
      have HM3 := hidM (must98 p s ⟨#[93]⟩ b3 wr k er HI.out.rd (by decide) hb3)
      have HQ2 : Hid (R = Option.map (fun y => (l.map (·.1) ++ y.1, y.2)) (match QB.takes [93] (s.data.toList.drop k) with | none => none | some s1 => some ([], s1))) := by
        show _ = _
        rw [HQ.out, Nat.sub_self]
        rfl
      rw [takes_iff, hb3] at HQ2
      clear HQ
      cases b3 with
      | false =>
        have HE : Hid (R = none) := HQ2.out
        clear hb3 HQ2
        go_wp2_with (go_at_call 98; refine HM3.out.mono ?_; rintro e u6 ⟨rfl, hk6, hr6⟩; have HK6 := hidM hk6; have HR6 := hidM hr6; clear hk6 hr6; simp only [])
        go_ret2
        refine ⟨((gr_kp HG1.out).trans HI.out.kp (fun _ _ h => h)).trans HK6.out (fun _ _ h => h), ?_⟩
        rw [HE.out]
        exact ⟨⟨_, _, _, rfl⟩, HR6.out.isBad⟩
      | true =>
        have HLK : Hid (k + 1 ≤ s.size) := pre_lt hb3
        have HE : Hid (R = some (l.map (·.1), s.data.toList.drop (k + 1))) := by
          show _ = _
          rw [HQ2.out, if_pos rfl]
          simp
        clear hb3 HQ2
        go_wp2_with (go_at_call 98; refine HM3.out.mono ?_; rintro e u6 ⟨rfl, hk6, hr6⟩; have HI6 := hidM (HI.out.next HLT1.out hk6 hr6); clear hk6 hr6; simp only [])
        go_ret2
        obtain ⟨e1, e2, e3⟩ := at_rest HLK.out
        refine ⟨(gr_kp HG1.out).trans HI6.out.kp (fun _ _ h => h), ?_⟩
        rw [HE.out]
        have hll := HLn.out
        have hrow := HI6.out.row.rowAt (by simp [big]; omega)
        refine ⟨⟨vo, vc, by simp [hll], by simpa using hrow.1, hrow.2.mono (S' := NV W u6) fun b hb => ⟨Nat.le_trans HG1.out.size hb.1, hb.2⟩⟩, e1, e2, ?_⟩
        have h : Rd u6 p s (k + 1) er := HI6.out.rd
        rw [← e3] at h
        exact h
    · have hlt : n < wn := by omega
      obtain ⟨m, hm⟩ : ∃ m, wn - n = m + 1 := ⟨wn - n - 1, by omega⟩
      have hltI : (n : Int) < (wn : Int) := by omega
      have haz := ahd_size n
      obtain ⟨b1, hb1⟩ : ∃ b1, (ahd n).data.toList.isPrefixOf (s.data.toList.drop k) = b1 := ⟨_, rfl⟩
      have HM1 := hidM (must98 p s (ahd n) b1 wr k er HI.out.rd (by omega) hb1)
      have hz1 : (ahd n).data.toList.length = 1 := by rw [sz_list]; exact haz
      have HQ2 : Hid (R = Option.map (fun y => (l.map (·.1) ++ y.1, y.2)) (match QB.takes (ahd n).data.toList (s.data.toList.drop k) with
          | none => none
          | some s1 => match r s1 with
            | none => none
            | some (v, s2) => match QB.rdSpan r m [44] s2 with
              | none => none
              | some (vs, s3) => some (v :: vs, s3))) := by
        show _ = _
        rw [HQ.out, hm]
        rfl
      rw [takes_iff, hb1, hz1] at HQ2
      rw [haz] at HM1
      clear HQ haz hz1
      have hpl := fun h => pre_le hk (q := (ahd n).data.toList) h
      generalize hah : ahd n = ah at *
      cases b1 with
      | false =>
        have HE : Hid (R = none) := HQ2.out
        clear hb1 HQ2 hpl hah
        go_wp2_with (go_at_call 98; refine HM1.out.mono ?_; rintro e u6 ⟨rfl, hk6, hr6⟩; have HK6 := hidM hk6; have HR6 := hidM hr6; clear hk6 hr6; simp only [])
        go_ret2
        refine ⟨((gr_kp HG1.out).trans HI.out.kp (fun _ _ h => h)).trans HK6.out (fun _ _ h => h), ?_⟩
        rw [HE.out]
        exact ⟨⟨_, _, _, rfl⟩, HR6.out.isBad⟩
      | true =>
        have hk1 : k + 1 ≤ s.size := by
          have h := hpl hb1
          rw [← hah, sz_list, ahd_size] at h
          exact h
        replace HQ2 : Hid (R = Option.map (fun y => (l.map (·.1) ++ y.1, y.2)) (match r (s.data.toList.drop (k + 1)) with
            | none => none
            | some (v, s2) => match QB.rdSpan r m [44] s2 with
              | none => none
              | some (vs, s3) => some (v :: vs, s3))) := by
          show _ = _
          rw [HQ2.out, if_pos rfl]
          simp only [List.drop_drop]
        replace HM1 : Hid (Calls Tryz.prog 98 #[.pointer (some ⟨p, 0, none⟩), .string ah] wr fun e W' => e = .returned (.bool true) ∧ Keeps wr W' (fun z => z = p) ∧ Rd W' p s (k + 1) er) := HM1
        clear hb1 hpl hah
        cases ho : r (s.data.toList.drop (k + 1)) with
        | none =>
          have HC : Hid (∀ W2, Keeps W1 W2 (fun z => z = p) → Rd W2 p s (k + 1) er → Calls Tryz.prog 29 #[.pointer (some ⟨p, 0, none⟩), .agg #[.string g0, .bool g1, .int .i64 g2, .int .i64 g3, .int .i64 g4, .int .i64 g5, .slice go gn gc]] W2 fun e W' => Keeps W2 W' (fun z => z = p) ∧ (∃ val, e = .returned (.tuple #[val, .bool false]) ∧ AnyV val) ∧ Bad W' p s) := fun W2 h1 h2 => by
            have h := HV.out W2 (k + 1) h1 h2
            rw [ho] at h
            exact h
          have HE : Hid (R = none) := by
            show _ = _
            rw [HQ2.out, ho]
            rfl
          clear ho HQ2
          go_wp2_with (first
            | (go_at_call 98; refine HM1.out.mono ?_; rintro e u6 ⟨rfl, hk6, hr6⟩; have HI6 := hidM (HI.out.next HLT1.out hk6 hr6); have hcc := HCB.out u6 HI6.out.kp; obtain ⟨c0, c1, c2, c3, c4, c5, c6⟩ := hcc; clear hk6 hr6; simp only [])
            | (go_at_call 29; refine (HC.out _ HI6.out.kp HI6.out.rd).mono ?_; rintro e u3 ⟨hk3, ⟨val, rfl, b', n', x', lo, ln, lc, rfl⟩, hbad⟩; have HK3 := hidM hk3; have HBAD := hidM hbad; clear hk3 hbad; simp only []))
          go_ret2
          refine ⟨(((gr_kp HG1.out).trans HI6.out.kp (fun _ _ h => h)).trans HK3.out (fun _ _ h => h)).trans (gr_kp (gr_alloc _ _)) (fun _ _ h => h), ?_⟩
          rw [HE.out]
          exact ⟨⟨_, _, _, rfl⟩, HBAD.out.gr (gr_alloc _ _)⟩
        | some vt =>
          obtain ⟨v, t⟩ := vt
          have HC : Hid (∀ W2, Keeps W1 W2 (fun z => z = p) → Rd W2 p s (k + 1) er → Calls Tryz.prog 29 #[.pointer (some ⟨p, 0, none⟩), .agg #[.string g0, .bool g1, .int .i64 g2, .int .i64 g3, .int .i64 g4, .int .i64 g5, .slice go gn gc]] W2 fun e W' => Keeps W2 W' (fun z => z = p) ∧ (∃ val, e = .returned (.tuple #[val, .bool true]) ∧ VV d W2 W' v val) ∧ t.length ≤ s.size ∧ t = s.data.toList.drop (s.size - t.length) ∧ Rd W' p s (s.size - t.length) er) := fun W2 h1 h2 => by
            have h := HV.out W2 (k + 1) h1 h2
            rw [ho] at h
            exact h
          rw [ho] at HQ2
          have hnl := HLn.out
          clear ho
          subst hnl
          go_wp2_with (first
            | (go_at_call 98; refine HM1.out.mono ?_; rintro e u6 ⟨rfl, hk6, hr6⟩; have HI6 := hidM (HI.out.next HLT1.out hk6 hr6); have hcc := HCB.out u6 HI6.out.kp; obtain ⟨c0, c1, c2, c3, c4, c5, c6⟩ := hcc; clear hk6 hr6; simp only [])
            | (go_at_call 29; refine (HC.out _ HI6.out.kp HI6.out.rd).mono ?_; rintro e u3 ⟨hk3, ⟨val, rfl, ko, kc, rfl, hkc, hok, hrow⟩, ht1, ht2, hr3⟩; have HK3 := hidM hk3; have HR3 := hidM hr3; have HT1 := hidM ht1; have HT2 := hidM ht2; have HVV := hidM (And.intro hkc (And.intro hok hrow)); clear hk3 hr3 ht1 ht2 hkc hok hrow; simp only [])
            | (at_builtin; refine Hid.out ?_))
          unfold Hid
          have HI3 := hidM (HI6.out.next HLT1.out HK3.out HR3.out)
          have gB : Gr u3 (u3.alloc (.cells #[.bool v.nul, .int .i64 v.num, .string v.text, .slice ko v.list.length kc] 29)) := gr_alloc _ _
          have HI4 := hidM (HI3.out.gr HLT1.out gB)
          have HRW : Hid (VRow (NV u6 (u3.alloc (.cells #[.bool v.nul, .int .i64 v.num, .string v.text, .slice ko v.list.length kc] 29))) (u3.alloc (.cells #[.bool v.nul, .int .i64 v.num, .string v.text, .slice ko v.list.length kc] 29)) d ko v.list) := HVV.out.2.2.nv (fun b hb => gB.block b hb.2 id) gB.size
          have HO := hidM (HI4.out.row.row.own.alloc (.cells #[.bool v.nul, .int .i64 v.num, .string v.text, .slice ko v.list.length kc] 29))
          have HSr : Hid (Src Tryz.prog 4 27 (.slice (some ⟨u3.heap.size + 1, 0, none⟩) 1 1) 1 (vcel (v, ko, kc)) ((u3.alloc (.cells #[.bool v.nul, .int .i64 v.num, .string v.text, .slice ko v.list.length kc] 29)).alloc (.cells #[.bool v.nul, .int .i64 v.num, .string v.text, .slice ko v.list.length kc] 29))) := by
            have h := src29 (u3.alloc (.cells #[.bool v.nul, .int .i64 v.num, .string v.text, .slice ko v.list.length kc] 29)) v ko kc
            rw [show (u3.alloc (.cells #[.bool v.nul, .int .i64 v.num, .string v.text, .slice ko v.list.length kc] 29)).heap.size = u3.heap.size + 1 by simp] at h
            exact h
          refine wpList_append_anyN (P := Tryz.prog) _ rfl (.tmp 27) (.tmp 29) 27 27 rfl 29 (.agg #[.bool false, .int .i64 0, .string ⟨#[]⟩, .slice none 0 0]) 4 56 Tryz.underlying27 info29 rfl _ _ _ rfl HO.out _ _ _ rfl HSr.out (by omega) (by omega) ?_
          refine Hid.out ?_
          unfold Hid
          intro v' w5 hown hgrow hblk
          obtain ⟨vo5, vc5, rfl⟩ := own_formN hown
          have HI5 := hidM (ItS.push HLT1.out HI6.out.row HI6.out.kp.size (Nat.le_trans HK3.out.size gB.size) HI4.out HVV.out.1 HVV.out.2.1 HRW.out hown hgrow hblk)
          clear hown hgrow hblk gB HO HSr HI3 HI4 HRW HK3 HR3 HC
          obtain ⟨k2, hk2⟩ : ∃ k2, k2 = s.size - t.length := ⟨_, rfl⟩
          rw [← hk2] at HT2 HI5
          have hk2l : k2 ≤ s.size := by omega
          have HE : Hid (R = (QB.rdSpan r (wn - (l.length + 1)) (ahd (l.length + 1)).data.toList (s.data.toList.drop k2)).map fun y => ((l ++ [(v, ko, kc)]).map (·.1) ++ y.1, y.2)) := by
            show _ = _
            rw [HQ2.out, show wn - (l.length + 1) = m by omega]
            have hT := HT2.out
            rw [hT]
            show Option.map _ (match QB.rdSpan r m [44] (s.data.toList.drop k2) with | none => none | some (vs, s3) => some (v :: vs, s3)) = Option.map _ (QB.rdSpan r m [44] (s.data.toList.drop k2))
            cases QB.rdSpan r m [44] (s.data.toList.drop k2) with
            | none => rfl
            | some x => simp
          have hw1 : IntKind.i64.wrap ((l.length : Int) + 1) = ((l.length + 1 : Nat) : Int) := by rw [IntKind.wrap_i64]; omega
          clear hk2 HQ2 HT1 HT2
          go_wp2_with fail
          go_roundw
          case rel => exact ⟨k2, l.length + 1, vo5, vc5, hk2l, by omega, rfl, rfl, by simp, l ++ [(v, ko, kc)], by simp, HI5.out, HE.out⟩
          case measure => simp only [intOf]; omega
end Go.Proofs.YtfoifmacobldbaaGreatDoor.Kit
