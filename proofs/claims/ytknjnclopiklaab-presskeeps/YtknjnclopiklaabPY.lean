import Derived.Test.YtknjnclopiklaabPX
namespace Go.Proofs.Ytknjnclopiklaab.Kit
open Go.RowKit Go.Shelf Go.Deep
set_option linter.unusedVariables false
attribute [local go_sem] run_store_func

/-! ### Pack by references -/
set_option maxRecDepth 100000 in
set_option maxHeartbeats 2000000 in
theorem long33 {ao mo : Option Addr} {ca mc B M : Nat} {bs : List UInt8} {w : World} (h : BytesAt w ao bs) (hm : MetsAt w mo bs) (hB : w.cell? ⟨B, 0, none⟩ = some (.slice ao bs.length ca)) (hM : w.cell? ⟨M, 0, none⟩ = some (.slice mo (bs.length - 3) mc)) (hl : bs.length ≤ 100000) :
    ∀ W i, Gr w W → i < bs.length → Calls Try.prog 27 #[.int .i64 (i : Int), .pointer (some ⟨B, 0, none⟩), .pointer (some ⟨M, 0, none⟩)] W fun e w' => e = .returned (.int .i64 (backI bs i : Int)) ∧ Gr W w' := by
  intro W i g hi
  have hb := g.cell' hB id
  have hm2 := g.cell' hM id
  have H := hidM (backAt_any (ca := ca) (mc := mc) h hm hi hl W g)
  clear h hB hl g hi hM hm
  go_enter Try.func27, Try.ntmps27
  go_wp2_with (go_at_call 28; refine Hid.out ?_)
  unfold Hid
  refine Calls.mono H.out ?_
  rintro e V ⟨rfl, hg⟩
  go_wp2_with fail
  go_ret
  exact ⟨rfl, hg⟩
set_option maxRecDepth 100000 in
set_option maxHeartbeats 2000000 in
theorem item35 {mo : Option Addr} {mc M : Nat} {bs : List UInt8} {w : World} (hm : MetsAt w mo bs) (hM : w.cell? ⟨M, 0, none⟩ = some (.slice mo (bs.length - 3) mc)) (hl : bs.length ≤ 65536) :
    ∀ V vo vc n bs' i (c p : Nat), Byts w V vo vc n bs' → metO bs i = some p → 4 ≤ c → c ≤ 131 → n ≤ 1000000 → Calls Try.prog 29 #[.slice vo n vc, .int .i64 (i : Int), .int .i64 (c : Int), .pointer (some ⟨M, 0, none⟩)] V fun e w' => ∃ vo' vc', e = .returned (.slice vo' (n + 3) vc') ∧ Ap w V w' vo vc n vo' vc' (n + 3) (bs' ++ backC bs i c) := by
  intro V vo vc n bs' i c p hb hme hc1 hc2 hn
  have t0 := hb.gr.cell' hM id
  obtain ⟨hp1, hp2, -⟩ := metO_some hme
  obtain ⟨b, o, rfl, hc⟩ := (hm.gr hb.gr) (by omega)
  have t1' := hc i (by omega)
  rw [hme] at t1'
  have t1 : V.cell? ⟨b, o + i, none⟩ = some (.int .i64 (p : Int)) := t1'
  obtain ⟨Q, hQ⟩ : ∃ Q, Q = bs.length - 3 := ⟨_, rfl⟩
  rw [← hQ] at t0
  have hiI : (i : Int) < (Q : Int) := by omega
  have hi0 : (0 : Int) ≤ (i : Int) := by omega
  have hiu : i ≤ 65536 := by omega
  obtain ⟨far, hfar⟩ : ∃ far, far = i - p - 1 := ⟨_, rfl⟩
  have hf : (i : Int) - (p : Int) - 1 = (far : Int) := by omega
  have hfb : far < 65536 := by omega
  have hw : IntKind.u8.wrap (128 + (c : Int) - 4) = ((c + 124 : Nat) : Int) := by rw [show (128 + (c : Int) - 4) = ((c + 124 : Nat) : Int) by omega]; exact wrap8 (by omega)
  have hw1 : IntKind.u8.wrap (far : Int) = ((far % 256 : Nat) : Int) := by rw [IntKind.wrap_u8]; omega
  obtain ⟨k, hk⟩ : ∃ k : Int, k = ((c + 124 : Nat) : Int) := ⟨_, rfl⟩
  obtain ⟨k1, hk1⟩ : ∃ k : Int, k = ((far % 256 : Nat) : Int) := ⟨_, rfl⟩
  obtain ⟨k2, hk2⟩ : ∃ k : Int, k = ((far / 256 % 256 : Nat) : Int) := ⟨_, rfl⟩
  rw [← hk] at hw
  rw [← hk1] at hw1
  have HB := hidM hb
  have HV : Hid ([Value.int .u8 k, Value.int .u8 k1, Value.int .u8 k2] = bv (backC bs i c)) := by
    show _ = _
    unfold bv backC
    rw [hme]
    simp only [List.map_cons, List.map_nil]
    rw [u8_ofNat (by omega), u8_ofNat (by omega), u8_ofNat (by omega), ← hk, ← hfar, ← hk1, ← hk2]
  have hsh : (far : Int) / 256 = k2 := by omega
  clear hb hc hm hM hQ hk t1' hme hk1 hk2 hfar
  go_enter Try.func29, Try.ntmps29
  go_wp2_with (at_builtin; refine Hid.out ?_)
  unfold Hid
  have hB1 := HB.out.gr' (gr_alloc V (.cells #[.int .u8 k, .int .u8 k1, .int .u8 k2] 5))
  refine wpList_append_any _ rfl (.tmp 16) (.tmp 26) 22 22 rfl 5 (.int .u8 0) 1 Try.underlying22 info5 rfl _ n (bv bs') rfl hB1.own _ 3 [.int .u8 k, .int .u8 k1, .int .u8 k2] rfl (src_u8 V [.int .u8 k, .int .u8 k1, .int .u8 k2] 3 rfl (by simp)) (by omega) (by omega) ?_
  intro v' w1 hown hgrow hblk
  obtain ⟨vo2, vc2, rfl⟩ := own_form1 hown
  have HN : Hid (Ap w V w1 vo vc n vo2 vc2 (n + 3) (bs' ++ backC bs i c)) := (hB1.app HV.out hown hgrow hblk).pre (gr_alloc V _)
  clear hown hgrow hblk hB1
  go_wp2_with fail
  go_ret
  exact ⟨vo2, vc2, rfl, HN.out⟩

set_option maxRecDepth 100000 in
set_option maxHeartbeats 2000000 in
theorem literal33 {ao : Option Addr} {ca B M i len : Nat} {w : World} (it : Nat → Nat) (hi : i < len) (hl : len ≤ 140737488355328) (hit : ∀ j, it j ≤ 1000)
    (hL : ∀ W j, Gr w W → j < len → Calls Try.prog 27 #[.int .i64 (j : Int), .pointer (some ⟨B, 0, none⟩), .pointer (some ⟨M, 0, none⟩)] W fun e w' => e = .returned (.int .i64 (it j : Int)) ∧ Gr W w') :
    ∀ W, Gr w W → Calls Try.prog 34 #[.slice ao len ca, .int .i64 (i : Int), .func (.func 27) #[] #[.pointer (some ⟨B, 0, none⟩), .pointer (some ⟨M, 0, none⟩)]] W fun e w' => e = .returned (.int .i64 (litN it len i : Int)) ∧ Gr W w' := by
  intro W g
  have HL := hidM hL
  have HG := hidM g
  have HIt := hidM hit
  clear hL g hit
  obtain ⟨m, hm⟩ : ∃ m, m = min 128 (len - i) := ⟨_, rfl⟩
  have hm1 : min (128 : Int) ((len : Int) - (i : Int)) = (m : Int) := by omega
  have hmb : 1 ≤ m ∧ m ≤ 128 ∧ i + m ≤ len := by omega
  obtain ⟨hm2, hm3, hm4⟩ := hmb
  have HM := hidM hm
  clear hm
  go_enter Try.func34, Try.ntmps34
  go_wp2_with fail
  all_goals first | rw [show ((len : Int) - (i : Int)) = (m : Int) by omega] | rw [show (128 : Int) = (m : Int) by omega]
  all_goals clear hm1
  all_goals try clear h
  all_goals
    go_loopw [8] (fun p wr => ∃ n : Nat, 1 ≤ n ∧ n ≤ m ∧ p = .int .i64 (n : Int) ∧ Hid ((∀ k, 1 ≤ k → k < n → it (i + k) = 0) ∧ Gr W wr)) (fun p _ => m - (intOf p).toNat)
    case atStart => exact ⟨1, by omega, by omega, rfl, fun k h1 h2 => by omega, Keeps.refl _ _⟩
    case round =>
      obtain ⟨n, hn1, hn2, rfl, HR⟩ := hrel
      by_cases c : n < m
      · have cI : (n : Int) < (m : Int) := by omega
        have HC := hidM (HL.out wr (i + n) (HG.out.trans HR.out.2 (fun _ _ h => h)) (by omega))
        obtain ⟨q, hq⟩ : ∃ q, q = it (i + n) := ⟨_, rfl⟩
        have hqb : q ≤ 1000 := by rw [hq]; exact HIt.out _
        have hcast : ((i + n : Nat) : Int) = (i : Int) + (n : Int) := by omega
        rw [hcast, ← hq] at HC
        have HQ := hidM hq
        clear hq hcast
        go_wp2_with (go_at_call 27; refine Hid.out ?_)
        unfold Hid
        refine Calls.mono HC.out ?_
        rintro e V ⟨rfl, hg⟩
        have HG2 := hidM (HR.out.2.trans hg (fun _ _ h => h))
        clear hg HC
        by_cases c2 : 0 < q
        · have c2I : (0 : Int) < (q : Int) := by omega
          have HZ : Hid (litN it len i = n) := litGo_done hn1 (by have := HM.out; omega) HR.out.1 (.inr (by rw [← HQ.out]; exact c2))
          go_wp2_with fail
          go_ret
          exact ⟨by rw [HZ.out]; rfl, HG2.out⟩
        · have c2I : ¬ (0 : Int) < (q : Int) := by omega
          have HN : Hid (∀ k, 1 ≤ k → k < n + 1 → it (i + k) = 0) := fun k h1 h2 => by
            by_cases e : k = n
            · subst e; rw [← HQ.out]; omega
            · exact HR.out.1 k h1 (by omega)
          clear HQ
          go_wp2_with fail
          go_roundw
          case rel => exact ⟨n + 1, by omega, by omega, by simp, HN.out, HG2.out⟩
          case measure => simp [intOf]; omega
      · have cI : ¬ (n : Int) < (m : Int) := by omega
        have HZ : Hid (litN it len i = m) := litGo_done hm2 (by have := HM.out; omega) (fun k h1 h2 => HR.out.1 k h1 (by omega)) (.inl (by have := HM.out; omega))
        go_wp2_with fail
        go_ret
        exact ⟨by rw [HZ.out]; rfl, HR.out.2⟩

set_option maxRecDepth 100000 in
set_option maxHeartbeats 4000000 in
theorem packBack {ao : Option Addr} {ca B M : Nat} {bs : List UInt8} {w : World} (it : Nat → Nat) (code : Nat → Nat → List UInt8) (h : BytesAt w ao bs) (hca : bs.length ≤ ca) (hl : bs.length ≤ 100000) (hit : ∀ j, it j ≤ 1000)
    (hst : ∀ j, j < bs.length → 0 < it j → j + it j ≤ bs.length ∧ (code j (it j)).length ≤ 2 * it j)
    (hL : ∀ W j, Gr w W → j < bs.length → Calls Try.prog 27 #[.int .i64 (j : Int), .pointer (some ⟨B, 0, none⟩), .pointer (some ⟨M, 0, none⟩)] W fun e w' => e = .returned (.int .i64 (it j : Int)) ∧ Gr W w')
    (hI : ∀ V vo vc n bs' j, Byts w V vo vc n bs' → j < bs.length → 0 < it j → n ≤ 1000000 → Calls Try.prog 29 #[.slice vo n vc, .int .i64 (j : Int), .int .i64 (it j : Int), .pointer (some ⟨M, 0, none⟩)] V fun e w' => ∃ vo' vc' n', e = .returned (.slice vo' n' vc') ∧ Ap w V w' vo vc n vo' vc' n' (bs' ++ code j (it j))) :
    Calls Try.prog 24 #[.slice ao bs.length ca, .func (.func 27) #[] #[.pointer (some ⟨B, 0, none⟩), .pointer (some ⟨M, 0, none⟩)], .func (.func 29) #[] #[.pointer (some ⟨M, 0, none⟩)]] w fun e w' => ∃ vo vc n, e = .returned (.slice vo n vc) ∧ Byts w w' vo vc n (packG bs it code) := by
  have HA := hidM h
  have HLo := hidM hL
  have HIt := hidM hI
  have HB := hidM hit
  have HSt := hidM hst
  obtain ⟨N, hN⟩ : ∃ N, N = bs.length := ⟨_, rfl⟩
  rw [← hN] at hca hl ⊢
  have HN := hidM hN
  clear h hL hI hit hst hN
  go_enter Try.func24, Try.ntmps24
  go_wp2_with fail
  go_loopw [7, 8] (fun v p wr => ∃ (i n : Nat) (vo : Option Addr) (vc : Nat), i ≤ N ∧ n ≤ 2 * i ∧ p = .int .i64 (i : Int) ∧ v = .slice vo n vc ∧ Hid (∃ (f : Nat) (ob : List UInt8), N - i ≤ f ∧ ob ++ packGo bs it code f i = packG bs it code ∧ Byts w wr vo vc n ob)) (fun _ p _ => N - (intOf p).toNat)
  case atStart => exact ⟨0, 0, none, 0, by omega, by omega, rfl, rfl, bs.length, [], by have := HN.out; omega, rfl, Byts.nil w w (Keeps.refl _ _)⟩
  case round =>
    obtain ⟨i, n, vo, vc, hi, hn, rfl, rfl, HR⟩ := hrel
    obtain ⟨f, ob, hf, hT, hb⟩ := HR.out
    have HOb := hidM hb
    have HT := hidM hT
    clear hT hb HR
    by_cases c : i < N
    · have cI : (i : Int) < (N : Int) := by omega
      have cb : i < bs.length := by rw [← HN.out]; exact c
      have HC := hidM (HLo.out wr i HOb.out.gr cb)
      obtain ⟨q, hq⟩ : ∃ q, q = it i := ⟨_, rfl⟩
      have hqb : q ≤ 1000 := by rw [hq]; exact HB.out _
      have HIi := hidM (HIt.out · · · · · i · cb · ·)
      rw [← hq] at HC
      have HQ := hidM hq
      have HCb := hidM cb
      clear hq cb
      go_wp2_with (go_at_call 27; refine Hid.out ?_)
      unfold Hid
      refine Calls.mono HC.out ?_
      rintro e V ⟨rfl, hg⟩
      have HOv := hidM (HOb.out.gr' hg)
      clear hg HC
      by_cases c2 : 0 < q
      · have c2I : (0 : Int) < (q : Int) := by omega
        obtain ⟨hs1, hs2⟩ := HSt.out i HCb.out (by rw [← HQ.out]; exact c2)
        rw [← HQ.out, ← HN.out] at hs1
        have HCi := hidM (HIi.out V vo vc n ob HOv.out (by rw [← HQ.out]; exact c2) (by omega))
        rw [← HQ.out] at HCi hs2
        have HS2 := hidM hs2
        clear hs2
        go_wp2_with (go_at_call 29; refine Hid.out ?_)
        unfold Hid
        refine Calls.mono HCi.out ?_
        rintro e V2 ⟨vo2, vc2, n2, rfl, hap⟩
        have hl2 := hap.b.len
        have hl1 := HOv.out.len
        have hn2 : n2 ≤ 2 * (i + q) := by
          rw [List.length_append] at hl2
          have := HS2.out
          omega
        have HNx : Hid (∃ (f : Nat) (ob : List UInt8), N - (i + q) ≤ f ∧ ob ++ packGo bs it code f (i + q) = packG bs it code ∧ Byts w V2 vo2 vc2 n2 ob) := by
          obtain ⟨f', e1, e2⟩ := packGo_item (it := it) (code := code) HCb.out (by rw [← HN.out]; exact hf) (by rw [← HQ.out]; exact c2)
          rw [← HQ.out] at e1 e2
          refine ⟨f', ob ++ code i q, by rw [HN.out]; exact e2, ?_, hap.b⟩
          rw [List.append_assoc, ← e1]
          exact HT.out
        clear hap hl2 hl1 HCi HS2
        go_wp2_with fail
        go_roundw
        case rel => exact ⟨i + q, n2, vo2, vc2, by omega, by omega, by simp, rfl, HNx.out⟩
        case measure => simp [intOf]; omega
      · have c2I : ¬ (0 : Int) < (q : Int) := by omega
        have hq0 : it i = 0 := by have := HQ.out; omega
        have HLt := hidM (literal33 (ao := ao) (ca := ca) (B := B) (M := M) (w := w) (i := i) (len := N) it c (by omega) HB.out (by have := HLo.out; rw [← HN.out] at this; exact this) V HOv.out.gr)
        obtain ⟨m, hm⟩ : ∃ m, m = litN it N i := ⟨_, rfl⟩
        have hmb := litN_bound it c
        rw [← hm] at HLt hmb
        obtain ⟨hm1, hm2, hm3⟩ := hmb
        have HM := hidM hm
        have HQ0 := hidM hq0
        clear hm hq0
        go_wp2_with (go_at_call 34; refine Hid.out ?_)
        unfold Hid
        refine Calls.mono HLt.out ?_
        rintro e V1 ⟨rfl, hg1⟩
        have HO1 := hidM (HOv.out.gr' hg1)
        clear hg1 HLt
        have hw : IntKind.u8.wrap ((m : Int) - 1) = ((m - 1 : Nat) : Int) := by rw [show ((m : Int) - 1) = ((m - 1 : Nat) : Int) by omega]; exact wrap8 (by omega)
        obtain ⟨k, hk⟩ : ∃ k : Int, k = ((m - 1 : Nat) : Int) := ⟨_, rfl⟩
        rw [← hk] at hw
        have HV : Hid ([Value.int .u8 k] = bv [UInt8.ofNat (m - 1)]) := by
          show _ = _
          unfold bv
          simp only [List.map_cons, List.map_nil]
          rw [u8_ofNat (by omega), ← hk]
        clear hk
        go_wp2_with (at_builtin; refine Hid.out ?_)
        unfold Hid
        have hB1 := HO1.out.gr' (gr_alloc V1 (.cells #[.int .u8 k] 5))
        refine wpList_append_any _ rfl (.tmp 28) (.tmp 32) 22 22 rfl 5 (.int .u8 0) 1 Try.underlying22 info5 rfl _ n (bv ob) rfl hB1.own _ 1 [.int .u8 k] rfl (src_u8 V1 [.int .u8 k] 1 rfl (by simp)) (by omega) (by omega) ?_
        intro v' w1 hown hgrow hblk
        obtain ⟨vo2, vc2, rfl⟩ := own_form1 hown
        have HO2 := hidM (hB1.app HV.out hown hgrow hblk).b
        clear hown hgrow hblk hB1 HV hw
        obtain ⟨b, o, hao, hcells⟩ := (HA.out.gr HO2.out.gr).at (ne_nil HCb.out)
        subst hao
        have HCl := hidM hcells
        clear hcells
        have hi0 : (0 : Int) ≤ (i : Int) := by omega
        have hmI : (i : Int) + (m : Int) ≤ (ca : Int) := by omega
        have hmI2 : (i : Int) ≤ (i : Int) + (m : Int) := by omega
        go_wp2_with (at_builtin; refine Hid.out ?_)
        unfold Hid
        rw [show i + m - i = m by omega]
        refine wpList_append_any _ rfl (.tmp 34) (.tmp 40) 22 22 rfl 5 (.int .u8 0) 1 Try.underlying22 info5 rfl _ (n + 1) (bv (ob ++ [UInt8.ofNat (m - 1)])) rfl HO2.out.own _ m (bv ((bs.drop i).take m)) rfl (src_part Try.underlying22 (by rw [← HN.out]; omega) HCl.out) (by omega) (by omega) ?_
        intro v' w2 hown hgrow hblk
        obtain ⟨vo3, vc3, rfl⟩ := own_form1 hown
        have HO3 := hidM (HO2.out.app rfl hown hgrow hblk).b
        have HNx : Hid (∃ (f : Nat) (ob : List UInt8), N - (i + m) ≤ f ∧ ob ++ packGo bs it code f (i + m) = packG bs it code ∧ Byts w w2 vo3 vc3 (n + 1 + m) ob) := by
          obtain ⟨f', e1, e2⟩ := packGo_lit (it := it) (code := code) HCb.out (by rw [← HN.out]; exact hf) HQ0.out
          rw [← HN.out, ← HM.out] at e1 e2
          refine ⟨f', ob ++ [UInt8.ofNat (m - 1)] ++ (bs.drop i).take m, e2, ?_, HO3.out⟩
          rw [show ob ++ [UInt8.ofNat (m - 1)] ++ (bs.drop i).take m = ob ++ (UInt8.ofNat (m - 1) :: (bs.drop i).take m) by simp, List.append_assoc, ← e1]
          exact HT.out
        clear hown hgrow hblk
        go_wp2_with fail
        go_roundw
        case rel => exact ⟨i + m, n + 1 + m, vo3, vc3, by omega, by omega, by simp, rfl, HNx.out⟩
        case measure => simp [intOf]; omega
    · have cI : ¬ (i : Int) < (N : Int) := by omega
      have HE : Hid (packG bs it code = ob) := by
        show _ = _
        rw [← HT.out, packGo_end bs it code (by rw [← HN.out]; omega), List.append_nil]
      go_wp2_with fail
      go_ret
      exact ⟨vo, vc, n, rfl, by rw [HE.out]; exact HOb.out⟩

theorem backN_bound {bs : List UInt8} {i p : Nat} (hi : i ≤ bs.length) : i + backN bs i p ≤ bs.length ∧ backN bs i p ≤ 131 := by
  have h1 := comN_le (bs.drop i) (bs.drop p)
  rw [List.length_drop] at h1
  unfold backN
  omega
theorem backI_le (bs : List UInt8) (i : Nat) : backI bs i ≤ 131 := by
  unfold backI
  split
  · omega
  · unfold backN; omega
theorem backI_pos {bs : List UInt8} {i : Nat} (h : 0 < backI bs i) : ∃ p, metO bs i = some p ∧ 4 ≤ backI bs i := by
  cases hm : metO bs i with
  | none => rw [backI_none hm] at h; omega
  | some p =>
    refine ⟨p, rfl, ?_⟩
    rw [backI_some hm]
    obtain ⟨h1, h2, h3⟩ := metO_some hm
    have h4 := ComTo.four h1 h2 h3
    have a1 : 4 ≤ (bs.drop i).length := by simp; omega
    have a2 : 4 ≤ (bs.drop p).length := by simp; omega
    have := comN_ge a1 a2 (fun j hj hj' hjn => by rw [drop_get hj, drop_get hj']; exact h4.2 j hjn)
    unfold backN
    omega
set_option maxRecDepth 100000 in
set_option maxHeartbeats 2000000 in
theorem packBack_any {ao : Option Addr} {ca : Nat} {bs : List UInt8} {w : World} (h : BytesAt w ao bs) (hca : bs.length ≤ ca) (hl : bs.length ≤ 65536) :
    Calls Try.prog 14 #[.slice ao bs.length ca] w fun e w' => ∃ vo vc n, e = .returned (.slice vo n vc) ∧ Byts w w' vo vc n (packBackB bs) := by
  have hbx := heap_alloc_new w (.cells #[.slice ao bs.length ca] 22)
  have p0 := ce1 hbx
  have HA := hidM (h.gr (gr_alloc w (.cells #[.slice ao bs.length ca] 22)))
  have HM := hidM (metAt_any (ca := ca) HA.out (by omega))
  obtain ⟨L, hL⟩ : ∃ L, L = bs.length := ⟨_, rfl⟩
  have HL := hidM hL
  have HBx := hidM hbx
  clear hbx h
  go_enter Try.func14, Try.ntmps14
  go_wp2_with (go_at_call 26; refine Hid.out ?_)
  unfold Hid
  refine Calls.mono HM.out ?_
  rintro e V ⟨mo, mc, rfl, hm⟩
  have hg : Gr (w.alloc (.cells #[.slice ao bs.length ca] 22)) V := hm.gr
  have hMa := hm.at
  have c0 := hg.cell' p0 id
  have gA := gr_alloc V (.cells #[.slice mo (bs.length - 3) mc] 50)
  have c1 := gA.cell' c0 id
  have c2 := ce1 (heap_alloc_new V (.cells #[.slice mo (bs.length - 3) mc] 50))
  have hA2 := HA.out.gr (hg.trans gA (fun _ _ h => h))
  have hM2 := hMa.gr gA
  have HP := hidM (packBack (B := w.heap.size) (M := V.heap.size) (ca := ca) (backI bs) (backC bs) hA2 hca (by omega) (fun j => by have := backI_le bs j; omega)
    (fun j hj hp => by
      obtain ⟨p, h1, h2⟩ := backI_pos hp
      refine ⟨?_, ?_⟩
      · rw [backI_some h1]; exact (backN_bound (by omega)).1
      · unfold backC; rw [h1]; simp; omega)
    (fun W j g hj => long33 hA2 hM2 c1 c2 (by omega) W j g hj)
    (fun V' vo vc n bs' j hb hj hp hn => by
      obtain ⟨p, h1, h2⟩ := backI_pos hp
      refine Calls.mono (item35 hM2 c2 (by omega) V' vo vc n bs' j (backI bs j) p hb h1 h2 (backI_le bs j) hn) ?_
      rintro e w' ⟨vo', vc', rfl, hap⟩
      exact ⟨vo', vc', _, rfl, hap⟩))
  have HG := hidM ((gr_alloc w _).trans (hg.trans gA (fun _ _ h => h)) (fun _ _ h => h))
  clear hm hg hMa gA hA2 hM2 HM HA
  go_wp2_with (go_at_call 24; refine Hid.out ?_)
  unfold Hid
  refine Calls.mono HP.out ?_
  rintro e V2 ⟨vo, vc, n, rfl, hb⟩
  have HB := hidM (hb.base HG.out)
  clear hb HP
  go_wp2_with fail
  go_ret
  exact ⟨vo, vc, n, rfl, HB.out⟩

end Go.Proofs.Ytknjnclopiklaab.Kit
