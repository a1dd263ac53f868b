import Derived.Test.YtknjnclopiklaabRF
namespace Go.Proofs.Ytknjnclopiklaab.Kit
open Go.RowKit Go.Shelf Go.Deep
set_option linter.unusedVariables false
attribute [local go_sem] run_store_func

/-! ### the document's packing -/
set_option maxRecDepth 100000 in
set_option maxHeartbeats 2000000 in
theorem runR_any {ao : Option Addr} {ca i : Nat} {bs : List UInt8} {w : World} (h : BytesAt w ao bs) (hi : i < bs.length) (hl : bs.length ≤ 140737488355328) :
    ∀ W, Gr w W → Calls Try.prog 31 #[.slice ao bs.length ca, .int .i64 (i : Int)] W fun e w' => e = .returned (.int .i64 (runN bs i : Int)) ∧ Gr W w' := by
  intro W g
  obtain ⟨b, o, rfl, hc⟩ := (h.gr g).at (ne_nil hi)
  have HC := hidM hc
  obtain ⟨L, hL⟩ : ∃ L, L = bs.length := ⟨_, rfl⟩
  rw [← hL] at hi hl ⊢
  have HL := hidM hL
  clear hc h g hL
  go_enter Try.func31, Try.ntmps31
  go_wp2_with fail
  go_loopw [5] (fun p wr => ∃ n : Nat, n ≤ 130 ∧ i + n ≤ L ∧ p = .int .i64 (n : Int) ∧ Hid (RunTo bs i n ∧ Gr W wr)) (fun p _ => 200 - (intOf p).toNat)
  case atStart => exact ⟨0, by omega, by omega, rfl, RunTo.zero (by rw [← HL.out]; omega), Keeps.refl _ _⟩
  case round =>
    obtain ⟨n, hn2, hn3, rfl, HR⟩ := hrel
    have HF : Hid ((n = 130 ∨ i + n = L ∨ bs.getD (i + n) 0 ≠ bs.getD i 0) → runN bs i = n) := fun h => HR.out.1.done hn2 (by rw [HL.out] at h; exact h)
    by_cases c2 : i + n < L
    rotate_left
    · have c2I : decide ((i : Int) + (n : Int) < (L : Int)) = false := by simp; omega
      have HE := hidM (HF.out (.inr (.inl (by omega))))
      clear HF
      go_wp2_with fail
      go_quiet (fail)
      go_wp2_with fail
      go_ret
      exact ⟨by rw [HE.out]; rfl, HR.out.2.drewN _⟩
    have c2I : (i : Int) + (n : Int) < (L : Int) := by omega
    have t1 := HR.out.2.cell' (HC.out (i + n) (by rw [← HL.out]; exact c2)) id
    have t2 := HR.out.2.cell' (HC.out i (by rw [← HL.out]; exact hi)) id
    by_cases c3 : bs.getD (i + n) 0 = bs.getD i 0
    rotate_left
    · have e1 := u8_bne.2 c3
      have HE := hidM (HF.out (.inr (.inr c3)))
      obtain ⟨x, hx⟩ : ∃ x : Int, x = ((bs.getD (i + n) 0).toNat : Int) := ⟨_, rfl⟩
      obtain ⟨y, hy⟩ : ∃ y : Int, y = ((bs.getD i 0).toNat : Int) := ⟨_, rfl⟩
      rw [← hx, ← hy] at e1
      rw [← hx] at t1
      rw [← hy] at t2
      clear HF hx hy c3
      go_wp2_with fail
      go_quiet (fail)
      go_wp2_with fail
      go_ret
      exact ⟨by rw [HE.out]; rfl, HR.out.2.drewN _⟩
    have HN := hidM (HR.out.1.next (by rw [← HL.out]; exact c2) c3)
    rw [c3] at t1
    obtain ⟨y, hy⟩ : ∃ y : Int, y = ((bs.getD i 0).toNat : Int) := ⟨_, rfl⟩
    rw [← hy] at t1 t2
    have e1 : (y == y) = true := by simp
    clear hy c3
    by_cases c1 : n < 130
    rotate_left
    · have c1I : decide ((n : Int) < 130) = false := by simp; omega
      have HE := hidM (HF.out (.inl (by omega)))
      clear HF
      go_wp2_with fail
      go_quiet (fail)
      go_wp2_with fail
      go_ret
      exact ⟨by rw [HE.out]; rfl, HR.out.2.drewN _⟩
    have c1I : (n : Int) < 130 := by omega
    clear HF
    go_wp2_with fail
    go_quiet (fail)
    go_wp2_with fail
    go_roundw
    case rel => exact ⟨n + 1, by omega, by omega, by simp, HN.out, HR.out.2.drewN _⟩
    case measure => simp [intOf]; omega
set_option maxRecDepth 100000 in
set_option maxHeartbeats 2000000 in
theorem literalR_any {w V : World} {bo vo : Option Addr} {bc vc n : Nat} {bs l : List UInt8} (hb : Byts w V vo vc n bs) (hl : BytesAt w bo l) (h1 : 1 ≤ l.length) (h2 : l.length ≤ 128) (hn : n ≤ 1000000) :
    Calls Try.prog 32 #[.slice vo n vc, .slice bo l.length bc] V fun e w' => ∃ vo' vc', e = .returned (.slice vo' (n + (l.length + 1)) vc') ∧ Byts w w' vo' vc' (n + (l.length + 1)) (bs ++ (UInt8.ofNat (l.length - 1) :: l)) := by
  obtain ⟨m, hm⟩ : ∃ m, m = l.length := ⟨_, rfl⟩
  rw [← hm] at h1 h2 ⊢
  have hw : IntKind.u8.wrap ((m : Int) - 1) = ((m - 1 : Nat) : Int) := by rw [show ((m : Int) - 1) = ((m - 1 : Nat) : Int) by omega]; exact wrap8 (by omega)
  obtain ⟨k, hk⟩ : ∃ k : Int, k = ((m - 1 : Nat) : Int) := ⟨_, rfl⟩
  rw [← hk] at hw
  have HV : Hid ([Value.int .u8 k] = bv [UInt8.ofNat (m - 1)]) := by
    show _ = _
    unfold bv
    simp only [List.map_cons, List.map_nil]
    rw [u8_ofNat (by omega), ← hk]
  have HB := hidM hb
  have HLt := hidM hl
  have HM := hidM hm
  clear hk hb hl hm
  go_enter Try.func32, Try.ntmps32
  go_wp2_with (at_builtin; refine Hid.out ?_)
  unfold Hid
  have hB1 := HB.out.gr' (gr_alloc V (.cells #[.int .u8 k] 5))
  refine wpList_append_any _ rfl (.tmp 5) (.tmp 10) 22 22 rfl 5 (.int .u8 0) 1 Try.underlying22 info5 rfl _ n (bv bs) rfl hB1.own _ 1 [.int .u8 k] rfl (src_u8 V [.int .u8 k] 1 rfl (by simp)) (by omega) (by omega) ?_
  intro v' w1 hown hgrow hblk
  obtain ⟨vo2, vc2, rfl⟩ := own_form1 hown
  have HB2 := hidM (hB1.app HV.out hown hgrow hblk).b
  have hsrc := src_all (ca := bc) (HLt.out.gr HB2.out.gr)
  rw [← HM.out] at hsrc
  have HSrc := hidM hsrc
  clear hown hgrow hblk hB1 HV hw hsrc
  go_wp2_with (at_builtin; refine Hid.out ?_)
  unfold Hid
  refine wpList_append_any _ rfl (.tmp 12) (.tmp 13) 22 22 rfl 5 (.int .u8 0) 1 Try.underlying22 info5 rfl _ (n + 1) (bv (bs ++ [UInt8.ofNat (m - 1)])) rfl HB2.out.own _ m (bv l) rfl HSrc.out (by omega) (by omega) ?_
  intro v' w2 hown hgrow hblk
  obtain ⟨vo3, vc3, rfl⟩ := own_form1 hown
  have HB3 : Hid (Byts w w2 vo3 vc3 (n + (m + 1)) (bs ++ (UInt8.ofNat (m - 1) :: l))) := by
    have := (HB2.out.app rfl hown hgrow hblk).b
    rw [List.append_assoc, show n + 1 + m = n + (m + 1) by omega] at this
    exact this
  rw [show n + 1 + m = n + (m + 1) by omega]
  clear hown hgrow hblk
  go_wp2_with fail
  go_ret
  exact ⟨vo3, vc3, rfl, HB3.out⟩
theorem litN_is {it : Nat → Nat} {len i m : Nat} (hi : i < len) (h1 : 1 ≤ m) (h2 : m ≤ 128) (h3 : i + m ≤ len) (hz : ∀ k, k < m → it (i + k) = 0) (he : m = 128 ∨ i + m = len ∨ 0 < it (i + m)) : litN it len i = m := by
  unfold litN
  refine litGo_done h1 (by omega) (fun k _ hk => hz k hk) ?_
  rcases he with e | e | e
  · exact .inl (by omega)
  · exact .inl (by omega)
  · exact .inr e
theorem runI_zero {bs : List UInt8} {i : Nat} (h : runN bs i < 3) : runI bs i = 0 := by unfold runI; rw [if_pos h]
theorem runI_eq {bs : List UInt8} {i : Nat} (h : ¬ runN bs i < 3) : runI bs i = runN bs i := by unfold runI; rw [if_neg h]
set_option maxRecDepth 100000 in
set_option maxHeartbeats 8000000 in
theorem packRunsR_any {ao : Option Addr} {ca : Nat} {bs : List UInt8} {w : World} (h : BytesAt w ao bs) (hca : bs.length ≤ ca) (hl : bs.length ≤ 100000) :
    Calls Try.prog 18 #[.slice ao bs.length ca] w fun e w' => ∃ vo vc n, e = .returned (.slice vo n vc) ∧ Byts w w' vo vc n (packRunsB bs) := by
  have HA := hidM h
  obtain ⟨N, hN⟩ : ∃ N, N = bs.length := ⟨_, rfl⟩
  have HN := hidM hN
  have HRn : Hid (∀ W i, Gr w W → i < N → Calls Try.prog 31 #[.slice ao N ca, .int .i64 (i : Int)] W fun e w' => e = .returned (.int .i64 (runN bs i : Int)) ∧ Gr W w') := fun W i g hi => by
    rw [hN] at hi ⊢
    exact runR_any (ca := ca) HA.out hi (by omega) W g
  rw [← hN] at hca hl ⊢
  clear h hN
  go_enter Try.func18, Try.ntmps18
  go_wp2_with fail
  go_loopw [3, 4] (fun v p wr => ∃ (i n : Nat) (vo : Option Addr) (vc : Nat), i ≤ N ∧ n ≤ 2 * i ∧ p = .int .i64 (i : Int) ∧ v = .slice vo n vc ∧ Hid (∃ (f : Nat) (ob : List UInt8), N - i ≤ f ∧ ob ++ packGo bs (runI bs) (runC bs) f i = packRunsB bs ∧ Byts w wr vo vc n ob)) (fun _ p _ => N - (intOf p).toNat)
  case atStart => exact ⟨0, 0, _, _, by omega, by omega, rfl, rfl, bs.length, [], by have := HN.out; omega, rfl, Byts.empty w⟩
  case round =>
    obtain ⟨i, n, vo, vc, hi, hn, rfl, rfl, HR⟩ := hrel
    obtain ⟨f, ob, hf, hT, hb⟩ := HR.out
    have HOb := hidM hb
    have HT := hidM hT
    clear hT hb HR
    by_cases c : i < N
    rotate_left
    · have cI : ¬ (i : Int) < (N : Int) := by omega
      have HE : Hid (packRunsB bs = ob) := by
        show _ = _
        rw [← HT.out, packGo_end _ _ _ (by rw [← HN.out]; omega), List.append_nil]
      go_wp2_with fail
      go_ret
      exact ⟨vo, vc, n, rfl, by rw [HE.out]; exact HOb.out⟩
    have cI : (i : Int) < (N : Int) := by omega
    have hi0 : (0 : Int) ≤ (i : Int) := by omega
    have HCb : Hid (i < bs.length) := by show _ < _; rw [← HN.out]; exact c
    have HC := hidM (HRn.out wr i HOb.out.gr c)
    obtain ⟨q, hq⟩ : ∃ q, q = runN bs i := ⟨_, rfl⟩
    have hqb : q ≤ 130 := by rw [hq]; exact runN_le _ _
    rw [← hq] at HC
    have HQ := hidM hq
    clear hq
    go_wp2_with (go_at_call 31; refine Hid.out ?_)
    unfold Hid
    refine Calls.mono HC.out ?_
    rintro e V ⟨rfl, hg⟩
    have HOv := hidM (HOb.out.gr' hg)
    clear hg HC
    by_cases c2 : 3 ≤ q
    · have c2I : (3 : Int) ≤ (q : Int) := by omega
      have hqi : runI bs i = q := by rw [HQ.out]; exact runI_eq (by rw [← HQ.out]; omega)
      have hqb2 := runI_bound HCb.out
      rw [hqi, ← HN.out] at hqb2
      obtain ⟨b, o, hao, hcs⟩ := (HA.out.gr HOv.out.gr).at (ne_nil HCb.out)
      subst hao
      have t1 := hcs i HCb.out
      obtain ⟨x, hx⟩ : ∃ x : Int, x = ((bs.getD i 0).toNat : Int) := ⟨_, rfl⟩
      rw [← hx] at t1
      have hw : IntKind.u8.wrap ((q : Int) + 125) = ((q + 125 : Nat) : Int) := by rw [show ((q : Int) + 125) = ((q + 125 : Nat) : Int) by omega]; exact wrap8 (by omega)
      obtain ⟨k, hk⟩ : ∃ k : Int, k = ((q + 125 : Nat) : Int) := ⟨_, rfl⟩
      rw [← hk] at hw
      have HV : Hid ([Value.int .u8 k, Value.int .u8 x] = bv (runC bs i q)) := by
        show _ = _
        unfold bv runC
        simp only [List.map_cons, List.map_nil]
        rw [u8_ofNat (by omega), ← hx, ← hk]
      have HQi := hidM hqi
      clear hcs hx hk hqi
      go_wp2_with (at_builtin; refine Hid.out ?_)
      unfold Hid
      have hB1 := HOv.out.gr' (gr_alloc V (.cells #[.int .u8 k, .int .u8 x] 5))
      refine wpList_append_any _ rfl (.tmp 17) (.tmp 25) 22 22 rfl 5 (.int .u8 0) 1 Try.underlying22 info5 rfl _ n (bv ob) rfl hB1.own _ 2 [.int .u8 k, .int .u8 x] rfl (src_u8 V [.int .u8 k, .int .u8 x] 2 rfl (by simp)) (by omega) (by omega) ?_
      intro v' w1 hown hgrow hblk
      obtain ⟨vo2, vc2, rfl⟩ := own_form1 hown
      have HB2 := hidM (hB1.app HV.out hown hgrow hblk).b
      have HNx : Hid (∃ (f : Nat) (ob : List UInt8), N - (i + q) ≤ f ∧ ob ++ packGo bs (runI bs) (runC bs) f (i + q) = packRunsB bs ∧ Byts w w1 vo2 vc2 (n + 2) ob) := by
        obtain ⟨f', e1, e2⟩ := packGo_item (it := runI bs) (code := runC bs) HCb.out (by rw [← HN.out]; exact hf) (by rw [HQi.out]; omega)
        rw [HQi.out] at e1 e2
        refine ⟨f', ob ++ runC bs i q, by rw [HN.out]; exact e2, ?_, HB2.out⟩
        rw [List.append_assoc, ← e1]
        exact HT.out
      clear hown hgrow hblk hB1 t1 hw
      go_wp2_with fail
      go_roundw
      case rel => exact ⟨i + q, n + 2, vo2, vc2, by omega, by omega, by simp, rfl, HNx.out⟩
      case measure => simp [intOf]; omega
    · have c2I : ¬ (3 : Int) ≤ (q : Int) := by omega
      have HZ0 := hidM (runI_zero (bs := bs) (i := i) (by rw [← HQ.out]; omega))
      obtain ⟨b, o, hao, hcs⟩ := HA.out.at (ne_nil HCb.out)
      subst hao
      have HCs := hidM hcs
      clear hcs
      go_wp2_with fail
      go_loopw [6] (fun p wi => ∃ e : Nat, i ≤ e ∧ e ≤ N ∧ e ≤ i + 128 ∧ p = .int .i64 (e : Int) ∧ Hid ((∀ k, k < e - i → runI bs (i + k) = 0) ∧ Byts w wi vo vc n ob)) (fun p _ => N + 1 - (intOf p).toNat)
      case atStart => exact ⟨i, by omega, by omega, by omega, rfl, fun k hk => by omega, HOv.out⟩
      case round =>
        obtain ⟨e, he1, he2, he3, rfl, HI⟩ := hrel
        by_cases d1 : e < N
        rotate_left
        · have d1I : ¬ (e : Int) < (N : Int) := by omega
          have HLit : Hid (litN (runI bs) N i = e - i) := litN_is c (by omega) (by omega) (by omega) HI.out.1 (.inr (.inl (by omega)))
          have hlt : e - i ≤ 128 := by omega
          obtain ⟨m, hm⟩ : ∃ m, m = e - i := ⟨_, rfl⟩
          have hlen : ((bs.drop i).take m).length = m := by have := HN.out; simp; omega
          have hpart : BytesAt w (some ⟨b, o + i, none⟩) ((bs.drop i).take m) := fun hne => by
            refine ⟨b, o + i, rfl, fun k hk => ?_⟩
            have hk' : k < m := by rw [hlen] at hk; exact hk
            rw [Nat.add_assoc, HCs.out (i + k) (by have := HN.out; omega), List.getElem_take, drop_get (by have := HN.out; simp; omega)]
          have HLi := hidM (literalR_any (bc := ca - i) (HI.out.2) hpart (by rw [hlen]; omega) (by rw [hlen]; omega) (by omega))
          rw [hlen] at HLi
          rw [← hm] at HLit
          have hmI : (i : Int) ≤ (e : Int) := by omega
          have hmC : (e : Int) ≤ (ca : Int) := by omega
          have hmr : e - i = m := hm.symm
          have HMr := hidM hmr
          have hme : e = i + m := by omega
          subst hme
          clear hpart hlen hm hmr
          go_wp2_with (go_at_call 32; refine Hid.out ?_)
          unfold Hid
          try rw [HMr.out]
          refine Calls.mono HLi.out ?_
          rintro e V3 ⟨vo3, vc3, rfl, hb3⟩
          have HNx : Hid (∃ (f : Nat) (ob : List UInt8), N - (i + m) ≤ f ∧ ob ++ packGo bs (runI bs) (runC bs) f (i + m) = packRunsB bs ∧ Byts w V3 vo3 vc3 (n + (m + 1)) ob) := by
            obtain ⟨f', e1, e2⟩ := packGo_lit (it := runI bs) (code := runC bs) HCb.out (by rw [← HN.out]; exact hf) HZ0.out
            rw [← HN.out, HLit.out] at e1 e2
            refine ⟨f', _, e2, ?_, hb3⟩
            rw [List.append_assoc, ← e1]
            exact HT.out
          clear hb3 HLi
          go_wp2_with fail
          go_roundw
          case rel => exact ⟨i + m, n + (m + 1), vo3, vc3, by omega, by omega, by simp, rfl, HNx.out⟩
          case measure => simp [intOf]; omega
        have d1I : (e : Int) < (N : Int) := by omega
        by_cases d2 : e - i < 128
        rotate_left
        · have d2I : ¬ (e : Int) - (i : Int) < 128 := by omega
          have HLit : Hid (litN (runI bs) N i = e - i) := litN_is c (by omega) (by omega) (by omega) HI.out.1 (.inl (by omega))
          have hlt : e - i ≤ 128 := by omega
          obtain ⟨m, hm⟩ : ∃ m, m = e - i := ⟨_, rfl⟩
          have hlen : ((bs.drop i).take m).length = m := by have := HN.out; simp; omega
          have hpart : BytesAt w (some ⟨b, o + i, none⟩) ((bs.drop i).take m) := fun hne => by
            refine ⟨b, o + i, rfl, fun k hk => ?_⟩
            have hk' : k < m := by rw [hlen] at hk; exact hk
            rw [Nat.add_assoc, HCs.out (i + k) (by have := HN.out; omega), List.getElem_take, drop_get (by have := HN.out; simp; omega)]
          have HLi := hidM (literalR_any (bc := ca - i) (HI.out.2) hpart (by rw [hlen]; omega) (by rw [hlen]; omega) (by omega))
          rw [hlen] at HLi
          rw [← hm] at HLit
          have hmI : (i : Int) ≤ (e : Int) := by omega
          have hmC : (e : Int) ≤ (ca : Int) := by omega
          have hmr : e - i = m := hm.symm
          have HMr := hidM hmr
          have hme : e = i + m := by omega
          subst hme
          clear hpart hlen hm hmr
          go_wp2_with (go_at_call 32; refine Hid.out ?_)
          unfold Hid
          try rw [HMr.out]
          refine Calls.mono HLi.out ?_
          rintro e V3 ⟨vo3, vc3, rfl, hb3⟩
          have HNx : Hid (∃ (f : Nat) (ob : List UInt8), N - (i + m) ≤ f ∧ ob ++ packGo bs (runI bs) (runC bs) f (i + m) = packRunsB bs ∧ Byts w V3 vo3 vc3 (n + (m + 1)) ob) := by
            obtain ⟨f', e1, e2⟩ := packGo_lit (it := runI bs) (code := runC bs) HCb.out (by rw [← HN.out]; exact hf) HZ0.out
            rw [← HN.out, HLit.out] at e1 e2
            refine ⟨f', _, e2, ?_, hb3⟩
            rw [List.append_assoc, ← e1]
            exact HT.out
          clear hb3 HLi
          go_wp2_with fail
          go_roundw
          case rel => exact ⟨i + m, n + (m + 1), vo3, vc3, by omega, by omega, by simp, rfl, HNx.out⟩
          case measure => simp [intOf]; omega
        have d2I : (e : Int) - (i : Int) < 128 := by omega
        have HC3 := hidM (HRn.out wr e HI.out.2.gr d1)
        obtain ⟨r, hr⟩ : ∃ r, r = runN bs e := ⟨_, rfl⟩
        have hrb : r ≤ 130 := by rw [hr]; exact runN_le _ _
        rw [← hr] at HC3
        have HRq := hidM hr
        clear hr
        go_wp2_with (go_at_call 31; refine Hid.out ?_)
        unfold Hid
        refine Calls.mono HC3.out ?_
        rintro e' V2 ⟨rfl, hg2⟩
        have HI2 := hidM (HI.out.2.gr' hg2)
        clear hg2 HC3
        by_cases d3 : r < 3
        · have d3I : (r : Int) < 3 := by omega
          have HZe : Hid (∀ k, k < e + 1 - i → runI bs (i + k) = 0) := fun k hk => by
            by_cases ek : k = e - i
            · rw [ek, show i + (e - i) = e by omega]; exact runI_zero (by rw [← HRq.out]; exact d3)
            · exact HI.out.1 k (by omega)
          go_wp2_with fail
          go_roundw
          case rel => exact ⟨e + 1, by omega, by omega, by omega, by simp, HZe.out, HI2.out⟩
          case measure => simp [intOf]; omega
        · have d3I : ¬ (r : Int) < 3 := by omega
          have hne : e ≠ i := fun e1 => by
            have := HRq.out
            rw [e1, ← HQ.out] at this
            omega
          have HLit : Hid (litN (runI bs) N i = e - i) := litN_is c (by omega) (by omega) (by omega) HI.out.1 (.inr (.inr (by rw [show i + (e - i) = e by omega, runI_eq (by rw [← HRq.out]; exact d3), ← HRq.out]; omega)))
          have hlt : e - i ≤ 128 := by omega
          obtain ⟨m, hm⟩ : ∃ m, m = e - i := ⟨_, rfl⟩
          have hlen : ((bs.drop i).take m).length = m := by have := HN.out; simp; omega
          have hpart : BytesAt w (some ⟨b, o + i, none⟩) ((bs.drop i).take m) := fun hne => by
            refine ⟨b, o + i, rfl, fun k hk => ?_⟩
            have hk' : k < m := by rw [hlen] at hk; exact hk
            rw [Nat.add_assoc, HCs.out (i + k) (by have := HN.out; omega), List.getElem_take, drop_get (by have := HN.out; simp; omega)]
          have HLi := hidM (literalR_any (bc := ca - i) (HI2.out) hpart (by rw [hlen]; omega) (by rw [hlen]; omega) (by omega))
          rw [hlen] at HLi
          rw [← hm] at HLit
          have hmI : (i : Int) ≤ (e : Int) := by omega
          have hmC : (e : Int) ≤ (ca : Int) := by omega
          have hmr : e - i = m := hm.symm
          have HMr := hidM hmr
          have hme : e = i + m := by omega
          subst hme
          clear hpart hlen hm hmr
          go_wp2_with (go_at_call 32; refine Hid.out ?_)
          unfold Hid
          try rw [HMr.out]
          refine Calls.mono HLi.out ?_
          rintro e V3 ⟨vo3, vc3, rfl, hb3⟩
          have HNx : Hid (∃ (f : Nat) (ob : List UInt8), N - (i + m) ≤ f ∧ ob ++ packGo bs (runI bs) (runC bs) f (i + m) = packRunsB bs ∧ Byts w V3 vo3 vc3 (n + (m + 1)) ob) := by
            obtain ⟨f', e1, e2⟩ := packGo_lit (it := runI bs) (code := runC bs) HCb.out (by rw [← HN.out]; exact hf) HZ0.out
            rw [← HN.out, HLit.out] at e1 e2
            refine ⟨f', _, e2, ?_, hb3⟩
            rw [List.append_assoc, ← e1]
            exact HT.out
          clear hb3 HLi
          go_wp2_with fail
          go_roundw
          case rel => exact ⟨i + m, n + (m + 1), vo3, vc3, by omega, by omega, by simp, rfl, HNx.out⟩
          case measure => simp [intOf]; omega

end Go.Proofs.Ytknjnclopiklaab.Kit
