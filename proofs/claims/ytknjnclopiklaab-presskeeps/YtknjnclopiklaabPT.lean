import Derived.Test.YtknjnclopiklaabPS
namespace Go.Proofs.Ytknjnclopiklaab.Kit
open Go.RowKit Go.Shelf Go.Deep
set_option linter.unusedVariables false
attribute [local go_sem] run_store_func

/-! ### items, and the walk that packs -/
theorem u8_ofNat {x : Nat} (h : x < 256) : ((UInt8.ofNat x).toNat : Int) = (x : Int) := by
  rw [UInt8.toNat_ofNat']
  omega
theorem wrap8 {x : Nat} (h : x < 256) : IntKind.u8.wrap (x : Int) = (x : Int) := by rw [IntKind.wrap_u8]; omega
theorem src_part {P : Program} {tx e' : TypeId} (hk : P.underlying tx = some (.slice e')) {W : World} {b o i m c : Nat} {bs : List UInt8} (him : i + m ≤ bs.length) (hc : ∀ j, j < bs.length → W.cell? ⟨b, o + j, none⟩ = some (.int .u8 ((bs.getD j 0).toNat : Int))) :
    Src P 1 tx (.slice (some ⟨b, o + i, none⟩) m c) m (bv ((bs.drop i).take m)) W := by
  have hl : ((bs.drop i).take m).length = m := by simp; omega
  refine Src.ofSlice W hk ⟨b, o + i, none⟩ m c (bv ((bs.drop i).take m)) (by simp [bv]; omega) (fun j x h => ?_) (fun x h => by obtain ⟨z, _, rfl⟩ := List.mem_map.1 h; rfl)
  have hj : j < m := by
    have := (List.getElem?_eq_some_iff.1 h).1
    simp [bv] at this
    omega
  have e : (⟨b, o + i, none⟩ : Addr).add j = ⟨b, o + (i + j), none⟩ := by simp [Addr.add, Nat.add_assoc]
  rw [e, hc (i + j) (by omega), ← h]
  unfold bv
  rw [List.getElem?_map, List.getElem?_eq_getElem (by rw [hl]; exact hj), List.getElem_take, drop_get (by simp; omega)]
  rfl
set_option maxRecDepth 100000 in
set_option maxHeartbeats 2000000 in
theorem item31 {ao : Option Addr} {ca B : Nat} {bs : List UInt8} {w : World} (h : BytesAt w ao bs) (hB : w.cell? ⟨B, 0, none⟩ = some (.slice ao bs.length ca)) (hl : bs.length ≤ 140737488355328) :
    ∀ V vo vc n bs' i (c : Nat), Byts w V vo vc n bs' → i < bs.length → 3 ≤ c → c ≤ 130 → n ≤ 1000000 → Calls Try.prog 25 #[.slice vo n vc, .int .i64 (i : Int), .int .i64 (c : Int), .pointer (some ⟨B, 0, none⟩)] V fun e w' => ∃ vo' vc', e = .returned (.slice vo' (n + 2) vc') ∧ Ap w V w' vo vc n vo' vc' (n + 2) (bs' ++ runC bs i c) := by
  intro V vo vc n bs' i c hb hi hc1 hc2 hn
  have t0 := hb.gr.cell' hB id
  obtain ⟨b, o, rfl, hc⟩ := (h.gr hb.gr).at (ne_nil hi)
  have t1 := hc i hi
  obtain ⟨x, hx⟩ : ∃ x : Int, x = ((bs.getD i 0).toNat : Int) := ⟨_, rfl⟩
  obtain ⟨L, hL⟩ : ∃ L, L = bs.length := ⟨_, rfl⟩
  rw [← hL] at t0 hi hl
  rw [← hx] at t1
  have hiI : (i : Int) < (L : Int) := by omega
  have hi0 : (0 : Int) ≤ (i : Int) := by omega
  have hw : IntKind.u8.wrap (128 + (c : Int) - 3) = ((c + 125 : Nat) : Int) := by rw [show (128 + (c : Int) - 3) = ((c + 125 : Nat) : Int) by omega]; exact wrap8 (by omega)
  obtain ⟨k, hk⟩ : ∃ k : Int, k = ((c + 125 : Nat) : Int) := ⟨_, rfl⟩
  rw [← hk] at hw
  have HB := hidM hb
  have HV : Hid ([Value.int .u8 k, Value.int .u8 x] = bv (runC bs i c)) := by
    show _ = _
    unfold bv runC
    simp only [List.map_cons, List.map_nil]
    rw [u8_ofNat (by omega), ← hx, ← hk]
  clear hb hc h hB hx hL hk
  go_enter Try.func25, Try.ntmps25
  go_wp2_with (at_builtin; refine Hid.out ?_)
  unfold Hid
  have hB1 := HB.out.gr' (gr_alloc V (.cells #[.int .u8 k, .int .u8 x] 5))
  refine wpList_append_any _ rfl (.tmp 8) (.tmp 17) 22 22 rfl 5 (.int .u8 0) 1 Try.underlying22 info5 rfl _ n (bv bs') rfl hB1.own _ 2 [.int .u8 k, .int .u8 x] rfl (src_u8 V [.int .u8 k, .int .u8 x] 2 rfl (by simp)) (by omega) (by omega) ?_
  intro v' w1 hown hgrow hblk
  obtain ⟨vo2, vc2, rfl⟩ := own_form1 hown
  have HN : Hid (Ap w V w1 vo vc n vo2 vc2 (n + 2) (bs' ++ runC bs i c)) := (hB1.app HV.out hown hgrow hblk).pre (gr_alloc V _)
  clear hown hgrow hblk hB1
  go_wp2_with fail
  go_ret
  exact ⟨vo2, vc2, rfl, HN.out⟩

set_option maxRecDepth 100000 in
set_option maxHeartbeats 4000000 in
theorem packRuns {ao : Option Addr} {ca B : Nat} {bs : List UInt8} {w : World} (it : Nat → Nat) (code : Nat → Nat → List UInt8) (h : BytesAt w ao bs) (hca : bs.length ≤ ca) (hl : bs.length ≤ 100000) (hit : ∀ j, it j ≤ 1000)
    (hst : ∀ j, j < bs.length → 0 < it j → j + it j ≤ bs.length ∧ (code j (it j)).length ≤ 2 * it j)
    (hL : ∀ W j, Gr w W → j < bs.length → Calls Try.prog 22 #[.int .i64 (j : Int), .pointer (some ⟨B, 0, none⟩)] W fun e w' => e = .returned (.int .i64 (it j : Int)) ∧ Gr W w')
    (hI : ∀ V vo vc n bs' j, Byts w V vo vc n bs' → j < bs.length → 0 < it j → n ≤ 1000000 → Calls Try.prog 25 #[.slice vo n vc, .int .i64 (j : Int), .int .i64 (it j : Int), .pointer (some ⟨B, 0, none⟩)] V fun e w' => ∃ vo' vc' n', e = .returned (.slice vo' n' vc') ∧ Ap w V w' vo vc n vo' vc' n' (bs' ++ code j (it j))) :
    Calls Try.prog 24 #[.slice ao bs.length ca, .func (.func 22) #[] #[.pointer (some ⟨B, 0, none⟩)], .func (.func 25) #[] #[.pointer (some ⟨B, 0, none⟩)]] w fun e w' => ∃ vo vc n, e = .returned (.slice vo n vc) ∧ Byts w w' vo vc n (packG bs it code) := by
  have HA := hidM h
  have HLo := hidM hL
  have HIt := hidM hI
  have HB := hidM hit
  have HSt := hidM hst
  obtain ⟨N, hN⟩ : ∃ N, N = bs.length := ⟨_, rfl⟩
  rw [← hN] at hca hl ⊢
  have HN := hidM hN
  clear h hL hI hit hst hN
  go_enter Try.func24, Try.ntmps24
  go_wp2_with fail
  go_loopw [7, 8] (fun v p wr => ∃ (i n : Nat) (vo : Option Addr) (vc : Nat), i ≤ N ∧ n ≤ 2 * i ∧ p = .int .i64 (i : Int) ∧ v = .slice vo n vc ∧ Hid (∃ (f : Nat) (ob : List UInt8), N - i ≤ f ∧ ob ++ packGo bs it code f i = packG bs it code ∧ Byts w wr vo vc n ob)) (fun _ p _ => N - (intOf p).toNat)
  case atStart => exact ⟨0, 0, none, 0, by omega, by omega, rfl, rfl, bs.length, [], by have := HN.out; omega, rfl, Byts.nil w w (Keeps.refl _ _)⟩
  case round =>
    obtain ⟨i, n, vo, vc, hi, hn, rfl, rfl, HR⟩ := hrel
    obtain ⟨f, ob, hf, hT, hb⟩ := HR.out
    have HOb := hidM hb
    have HT := hidM hT
    clear hT hb HR
    by_cases c : i < N
    · have cI : (i : Int) < (N : Int) := by omega
      have cb : i < bs.length := by rw [← HN.out]; exact c
      have HC := hidM (HLo.out wr i HOb.out.gr cb)
      obtain ⟨q, hq⟩ : ∃ q, q = it i := ⟨_, rfl⟩
      have hqb : q ≤ 1000 := by rw [hq]; exact HB.out _
      have HIi := hidM (HIt.out · · · · · i · cb · ·)
      rw [← hq] at HC
      have HQ := hidM hq
      have HCb := hidM cb
      clear hq cb
      go_wp2_with (go_at_call 22; refine Hid.out ?_)
      unfold Hid
      refine Calls.mono HC.out ?_
      rintro e V ⟨rfl, hg⟩
      have HOv := hidM (HOb.out.gr' hg)
      clear hg HC
      by_cases c2 : 0 < q
      · have c2I : (0 : Int) < (q : Int) := by omega
        obtain ⟨hs1, hs2⟩ := HSt.out i HCb.out (by rw [← HQ.out]; exact c2)
        rw [← HQ.out, ← HN.out] at hs1
        have HCi := hidM (HIi.out V vo vc n ob HOv.out (by rw [← HQ.out]; exact c2) (by omega))
        rw [← HQ.out] at HCi hs2
        have HS2 := hidM hs2
        clear hs2
        go_wp2_with (go_at_call 25; refine Hid.out ?_)
        unfold Hid
        refine Calls.mono HCi.out ?_
        rintro e V2 ⟨vo2, vc2, n2, rfl, hap⟩
        have hl2 := hap.b.len
        have hl1 := HOv.out.len
        have hn2 : n2 ≤ 2 * (i + q) := by
          rw [List.length_append] at hl2
          have := HS2.out
          omega
        have HNx : Hid (∃ (f : Nat) (ob : List UInt8), N - (i + q) ≤ f ∧ ob ++ packGo bs it code f (i + q) = packG bs it code ∧ Byts w V2 vo2 vc2 n2 ob) := by
          obtain ⟨f', e1, e2⟩ := packGo_item (it := it) (code := code) HCb.out (by rw [← HN.out]; exact hf) (by rw [← HQ.out]; exact c2)
          rw [← HQ.out] at e1 e2
          refine ⟨f', ob ++ code i q, by rw [HN.out]; exact e2, ?_, hap.b⟩
          rw [List.append_assoc, ← e1]
          exact HT.out
        clear hap hl2 hl1 HCi HS2
        go_wp2_with fail
        go_roundw
        case rel => exact ⟨i + q, n2, vo2, vc2, by omega, by omega, by simp, rfl, HNx.out⟩
        case measure => simp [intOf]; omega
      · have c2I : ¬ (0 : Int) < (q : Int) := by omega
        have hq0 : it i = 0 := by have := HQ.out; omega
        have HLt := hidM (literal28 (ao := ao) (ca := ca) (B := B) (w := w) (i := i) (len := N) it c (by omega) HB.out (by have := HLo.out; rw [← HN.out] at this; exact this) V HOv.out.gr)
        obtain ⟨m, hm⟩ : ∃ m, m = litN it N i := ⟨_, rfl⟩
        have hmb := litN_bound it c
        rw [← hm] at HLt hmb
        obtain ⟨hm1, hm2, hm3⟩ := hmb
        have HM := hidM hm
        have HQ0 := hidM hq0
        clear hm hq0
        go_wp2_with (go_at_call 34; refine Hid.out ?_)
        unfold Hid
        refine Calls.mono HLt.out ?_
        rintro e V1 ⟨rfl, hg1⟩
        have HO1 := hidM (HOv.out.gr' hg1)
        clear hg1 HLt
        have hw : IntKind.u8.wrap ((m : Int) - 1) = ((m - 1 : Nat) : Int) := by rw [show ((m : Int) - 1) = ((m - 1 : Nat) : Int) by omega]; exact wrap8 (by omega)
        obtain ⟨k, hk⟩ : ∃ k : Int, k = ((m - 1 : Nat) : Int) := ⟨_, rfl⟩
        rw [← hk] at hw
        have HV : Hid ([Value.int .u8 k] = bv [UInt8.ofNat (m - 1)]) := by
          show _ = _
          unfold bv
          simp only [List.map_cons, List.map_nil]
          rw [u8_ofNat (by omega), ← hk]
        clear hk
        go_wp2_with (at_builtin; refine Hid.out ?_)
        unfold Hid
        have hB1 := HO1.out.gr' (gr_alloc V1 (.cells #[.int .u8 k] 5))
        refine wpList_append_any _ rfl (.tmp 28) (.tmp 32) 22 22 rfl 5 (.int .u8 0) 1 Try.underlying22 info5 rfl _ n (bv ob) rfl hB1.own _ 1 [.int .u8 k] rfl (src_u8 V1 [.int .u8 k] 1 rfl (by simp)) (by omega) (by omega) ?_
        intro v' w1 hown hgrow hblk
        obtain ⟨vo2, vc2, rfl⟩ := own_form1 hown
        have HO2 := hidM (hB1.app HV.out hown hgrow hblk).b
        clear hown hgrow hblk hB1 HV hw
        obtain ⟨b, o, hao, hcells⟩ := (HA.out.gr HO2.out.gr).at (ne_nil HCb.out)
        subst hao
        have HCl := hidM hcells
        clear hcells
        have hi0 : (0 : Int) ≤ (i : Int) := by omega
        have hmI : (i : Int) + (m : Int) ≤ (ca : Int) := by omega
        have hmI2 : (i : Int) ≤ (i : Int) + (m : Int) := by omega
        go_wp2_with (at_builtin; refine Hid.out ?_)
        unfold Hid
        rw [show i + m - i = m by omega]
        refine wpList_append_any _ rfl (.tmp 34) (.tmp 40) 22 22 rfl 5 (.int .u8 0) 1 Try.underlying22 info5 rfl _ (n + 1) (bv (ob ++ [UInt8.ofNat (m - 1)])) rfl HO2.out.own _ m (bv ((bs.drop i).take m)) rfl (src_part Try.underlying22 (by rw [← HN.out]; omega) HCl.out) (by omega) (by omega) ?_
        intro v' w2 hown hgrow hblk
        obtain ⟨vo3, vc3, rfl⟩ := own_form1 hown
        have HO3 := hidM (HO2.out.app rfl hown hgrow hblk).b
        have HNx : Hid (∃ (f : Nat) (ob : List UInt8), N - (i + m) ≤ f ∧ ob ++ packGo bs it code f (i + m) = packG bs it code ∧ Byts w w2 vo3 vc3 (n + 1 + m) ob) := by
          obtain ⟨f', e1, e2⟩ := packGo_lit (it := it) (code := code) HCb.out (by rw [← HN.out]; exact hf) HQ0.out
          rw [← HN.out, ← HM.out] at e1 e2
          refine ⟨f', ob ++ [UInt8.ofNat (m - 1)] ++ (bs.drop i).take m, e2, ?_, HO3.out⟩
          rw [show ob ++ [UInt8.ofNat (m - 1)] ++ (bs.drop i).take m = ob ++ (UInt8.ofNat (m - 1) :: (bs.drop i).take m) by simp, List.append_assoc, ← e1]
          exact HT.out
        clear hown hgrow hblk
        go_wp2_with fail
        go_roundw
        case rel => exact ⟨i + m, n + 1 + m, vo3, vc3, by omega, by omega, by simp, rfl, HNx.out⟩
        case measure => simp [intOf]; omega
    · have cI : ¬ (i : Int) < (N : Int) := by omega
      have HE : Hid (packG bs it code = ob) := by
        show _ = _
        rw [← HT.out, packGo_end bs it code (by rw [← HN.out]; omega), List.append_nil]
      go_wp2_with fail
      go_ret
      exact ⟨vo, vc, n, rfl, by rw [HE.out]; exact HOb.out⟩

end Go.Proofs.Ytknjnclopiklaab.Kit
