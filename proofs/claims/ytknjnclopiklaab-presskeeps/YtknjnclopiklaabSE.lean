import Derived.Test.YtknjnclopiklaabSD
namespace Go.Proofs.Ytknjnclopiklaab.Kit
open Go.RowKit Go.Shelf Go.Deep
set_option linter.unusedVariables false
attribute [local go_sem] run_store_func

/-! ### the document's Pack by references -/
def MetRow (W : World) (C : Nat) (bs : List UInt8) : Prop := ∃ F, IRow W C bs.length F ∧ ∀ p, p < bs.length → F p = metZ (metO bs p)
theorem MetRow.cell {W : World} {C p : Nat} {bs : List UInt8} (h : MetRow W C bs) (hp : p < bs.length) : W.cell? ⟨C, p, none⟩ = some (.int .i64 (metZ (metO bs p))) := by
  obtain ⟨F, h1, h2⟩ := h
  rw [h1.cell hp, h2 p hp]
theorem MetRow.gr {W W' : World} {C : Nat} {bs : List UInt8} (h : MetRow W C bs) (g : Gr W W') : MetRow W' C bs := by
  obtain ⟨F, h1, h2⟩ := h
  exact ⟨F, h1.gr g, h2⟩
theorem MetRow.ap {w W W' : World} {C vc n vc' n' : Nat} {vo vo' : Option Addr} {bs ob ob' : List UInt8} (h : MetRow W C bs) (hb : Byts w W vo vc n ob) (a : Ap w W W' vo vc n vo' vc' n' ob') : MetRow W' C bs := by
  obtain ⟨F, ⟨c, h1, h3, h4⟩, h2⟩ := h
  exact ⟨F, ⟨c, (a.kp.block C (lt_of_heap h1) (row5_ne hb.own h1 (by decide))).trans h1, h3, h4⟩, h2⟩
set_option maxRecDepth 100000 in
set_option maxHeartbeats 2000000 in
theorem literalR_ap {w V : World} {bo vo : Option Addr} {bc vc n : Nat} {bs l : List UInt8} (hb : Byts w V vo vc n bs) (hl : BytesAt w bo l) (h1 : 1 ≤ l.length) (h2 : l.length ≤ 128) (hn : n ≤ 1000000) :
    Calls Try.prog 32 #[.slice vo n vc, .slice bo l.length bc] V fun e w' => ∃ vo' vc', e = .returned (.slice vo' (n + (l.length + 1)) vc') ∧ Ap w V w' vo vc n vo' vc' (n + (l.length + 1)) (bs ++ (UInt8.ofNat (l.length - 1) :: l)) := by
  obtain ⟨m, hm⟩ : ∃ m, m = l.length := ⟨_, rfl⟩
  rw [← hm] at h1 h2 ⊢
  have hw : IntKind.u8.wrap ((m : Int) - 1) = ((m - 1 : Nat) : Int) := by rw [show ((m : Int) - 1) = ((m - 1 : Nat) : Int) by omega]; exact wrap8 (by omega)
  obtain ⟨k, hk⟩ : ∃ k : Int, k = ((m - 1 : Nat) : Int) := ⟨_, rfl⟩
  rw [← hk] at hw
  have HV : Hid ([Value.int .u8 k] = bv [UInt8.ofNat (m - 1)]) := by
    show _ = _
    unfold bv
    simp only [List.map_cons, List.map_nil]
    rw [u8_ofNat (by omega), ← hk]
  have HB := hidM hb
  have HLt := hidM hl
  have HM := hidM hm
  clear hk hb hl hm
  go_enter Try.func32, Try.ntmps32
  go_wp2_with (at_builtin; refine Hid.out ?_)
  unfold Hid
  have hB1 := HB.out.gr' (gr_alloc V (.cells #[.int .u8 k] 5))
  refine wpList_append_any _ rfl (.tmp 5) (.tmp 10) 22 22 rfl 5 (.int .u8 0) 1 Try.underlying22 info5 rfl _ n (bv bs) rfl hB1.own _ 1 [.int .u8 k] rfl (src_u8 V [.int .u8 k] 1 rfl (by simp)) (by omega) (by omega) ?_
  intro v' w1 hown hgrow hblk
  obtain ⟨vo2, vc2, rfl⟩ := own_form1 hown
  have HA1 := hidM ((hB1.app HV.out hown hgrow hblk).pre (gr_alloc V _))
  have hsrc := src_all (ca := bc) (HLt.out.gr HA1.out.b.gr)
  rw [← HM.out] at hsrc
  have HSrc := hidM hsrc
  clear hown hgrow hblk hB1 HV hw hsrc
  go_wp2_with (at_builtin; refine Hid.out ?_)
  unfold Hid
  refine wpList_append_any _ rfl (.tmp 12) (.tmp 13) 22 22 rfl 5 (.int .u8 0) 1 Try.underlying22 info5 rfl _ (n + 1) (bv (bs ++ [UInt8.ofNat (m - 1)])) rfl HA1.out.b.own _ m (bv l) rfl HSrc.out (by omega) (by omega) ?_
  intro v' w2 hown hgrow hblk
  obtain ⟨vo3, vc3, rfl⟩ := own_form1 hown
  have HA3 : Hid (Ap w V w2 vo vc n vo3 vc3 (n + (m + 1)) (bs ++ (UInt8.ofNat (m - 1) :: l))) := by
    have := HA1.out.trans (HA1.out.b.app rfl hown hgrow hblk)
    rw [List.append_assoc, show n + 1 + m = n + (m + 1) by omega] at this
    exact this
  rw [show n + 1 + m = n + (m + 1) by omega]
  clear hown hgrow hblk
  go_wp2_with fail
  go_ret
  exact ⟨vo3, vc3, rfl, HA3.out⟩

set_option maxRecDepth 100000 in
set_option maxHeartbeats 8000000 in
theorem packBackR_any {ao : Option Addr} {ca : Nat} {bs : List UInt8} {w : World} (h : BytesAt w ao bs) (hca : bs.length ≤ ca) (hl : bs.length ≤ 65536) :
    Calls Try.prog 19 #[.slice ao bs.length ca] w fun e w' => ∃ vo vc n, e = .returned (.slice vo n vc) ∧ Byts w w' vo vc n (packBackB bs) := by
  have HA := hidM h
  obtain ⟨N, hN⟩ : ∃ N, N = bs.length := ⟨_, rfl⟩
  have HN := hidM hN
  have HMt := hidM (metAtR_any (ca := ca) (h.gr (gr_alloc w (.cells #[] 5))) hl)
  rw [← hN] at hca hl HMt ⊢
  clear h hN
  go_enter Try.func19, Try.ntmps19
  go_wp2_with (go_at_call 33; refine Hid.out ?_)
  unfold Hid
  refine Calls.mono HMt.out ?_
  rintro e W1 ⟨C, rfl, hMR⟩
  have HB0 := hidM ((Byts.empty w).gr' hMR.gr)
  have HM0 : Hid (MetRow W1 C bs) := hMR.me
  clear hMR HMt
  go_wp2_with fail
  go_loopw [3, 5] (fun v p wr => ∃ (i n : Nat) (vo : Option Addr) (vc : Nat), i ≤ N ∧ n ≤ 2 * i ∧ p = .int .i64 (i : Int) ∧ v = .slice vo n vc ∧ Hid (∃ (f : Nat) (ob : List UInt8), N - i ≤ f ∧ ob ++ packGo bs (backI bs) (backC bs) f i = packBackB bs ∧ Byts w wr vo vc n ob ∧ MetRow wr C bs)) (fun _ p _ => N - (intOf p).toNat)
  case atStart => exact ⟨0, 0, _, _, by omega, by omega, rfl, rfl, bs.length, [], by have := HN.out; omega, rfl, HB0.out, HM0.out⟩
  case round =>
    obtain ⟨i, n, vo, vc, hi, hn, rfl, rfl, HR⟩ := hrel
    obtain ⟨f, ob, hf, hT, hb, hMr⟩ := HR.out
    have HOb := hidM hb
    have HMr := hidM hMr
    have HT := hidM hT
    clear hT hb HR hMr
    by_cases c : i < N
    rotate_left
    · have cI : ¬ (i : Int) < (N : Int) := by omega
      have HE : Hid (packBackB bs = ob) := by
        show _ = _
        rw [← HT.out, packGo_end _ _ _ (by rw [← HN.out]; omega), List.append_nil]
      go_wp2_with fail
      go_ret
      exact ⟨vo, vc, n, rfl, by rw [HE.out]; exact HOb.out⟩
    have cI : (i : Int) < (N : Int) := by omega
    have hi0 : (0 : Int) ≤ (i : Int) := by omega
    have HCb : Hid (i < bs.length) := by show _ < _; rw [← HN.out]; exact c
    obtain ⟨b, o, hao, hcs⟩ := HA.out.at (ne_nil HCb.out)
    subst hao
    have HCs := hidM hcs
    clear hcs
    have m0 := HMr.out.cell HCb.out
    cases hme : metO bs i with
    | some p =>
      obtain ⟨hp1, hp2, hp3⟩ := metO_some hme
      rw [hme] at m0
      have m1 : wr.cell? ⟨C, i, none⟩ = some (.int .i64 (p : Int)) := m0
      have HMe := hidM hme
      have HC4 := hidM (ComTo.four hp1 hp2 hp3)
      rw [← HN.out] at hp1
      have hp0 : (0 : Int) ≤ (p : Int) := by omega
      clear m0 hme hp3
      go_wp2_with fail
      clear m1
      have HG0 := hidM (Keeps.refl wr (fun _ => False))
      obtain ⟨WS, hWS⟩ : ∃ WS, WS = wr := ⟨_, rfl⟩
      rw [← hWS] at HG0 HOb HMr ⊢
      clear hWS
      go_loopw [6] (fun q wi => ∃ k : Nat, k ≤ 131 ∧ i + k ≤ N ∧ q = .int .i64 (k : Int) ∧ Hid (ComTo bs i p k ∧ Gr WS wi)) (fun q _ => 200 - (intOf q).toNat)
      case atStart => exact ⟨0, by omega, by omega, rfl, ⟨by have := HN.out; omega, fun j hj => by omega⟩, Keeps.refl _ _⟩
      case round =>
        obtain ⟨k, hk1, hk2, rfl, HI⟩ := hrel
        have HMq := hidM (HMr.out.gr HI.out.2)
        have HBq := hidM (HOb.out.gr' HI.out.2)
        have m2' := HMq.out.cell HCb.out
        rw [HMe.out] at m2'
        have m2 : wr.cell? ⟨C, i, none⟩ = some (.int .i64 (p : Int)) := m2'
        clear m2'
        have HF : Hid ((k = 131 ∨ i + k = N ∨ bs.getD (i + k) 0 ≠ bs.getD (p + k) 0) → backI bs i = k) := fun h => by
          rw [backI_some HMe.out]
          exact HI.out.1.done hp2 hk1 (by rw [HN.out] at h; exact h)
        have HPosK : Hid (backI bs i = k → 0 < k) := fun h => by
          have h4 := HC4.out
          have hge : 4 ≤ backI bs i := by
            rw [backI_some HMe.out]
            have a1 : 4 ≤ (bs.drop i).length := by have := HN.out; simp; omega
            have a2 : 4 ≤ (bs.drop p).length := by have := HN.out; simp; omega
            have := comN_ge a1 a2 (fun j hj hj' hjn => by rw [drop_get hj, drop_get hj']; exact h4.2 j hjn)
            unfold backN
            omega
          omega
        by_cases c2 : i + k < N
        rotate_left
        · have c2I : decide ((i : Int) + (k : Int) < (N : Int)) = false := by simp; omega
          have HE := hidM (HF.out (.inr (.inl (by omega))))
          have hkp := HPosK.out HE.out
          clear HF HPosK
          go_wp2_with fail
          go_quiet (fail)
          have HMq := hidM (HMq.out.gr ((Keeps.refl wr _).drewN nq))
          have HBq := hidM (HBq.out.gr' ((Keeps.refl wr _).drewN nq))
          obtain ⟨WQ, hWQ⟩ : ∃ WQ, WQ = wr.drewN nq := ⟨_, rfl⟩
          rw [← hWQ] at HMq HBq ⊢
          clear hWQ m2
          have hn4 : 4 ≤ k := by obtain ⟨_, _, h4⟩ := backI_pos (bs := bs) (i := i) (by rw [HE.out]; exact hkp); rw [HE.out] at h4; exact h4
          obtain ⟨far, hfar⟩ : ∃ far, far = i - p - 1 := ⟨_, rfl⟩
          have hfI : (i : Int) - (p : Int) - 1 = (far : Int) := by omega
          have hfb : far < 65536 := by omega
          have hw : IntKind.u8.wrap ((k : Int) + 124) = ((k + 124 : Nat) : Int) := by rw [show ((k : Int) + 124) = ((k + 124 : Nat) : Int) by omega]; exact wrap8 (by omega)
          have hw1 : IntKind.u8.wrap (far : Int) = ((far % 256 : Nat) : Int) := by rw [IntKind.wrap_u8]; omega
          obtain ⟨q0, hq0⟩ : ∃ k2 : Int, k2 = ((k + 124 : Nat) : Int) := ⟨_, rfl⟩
          obtain ⟨q1, hq1⟩ : ∃ k2 : Int, k2 = ((far % 256 : Nat) : Int) := ⟨_, rfl⟩
          obtain ⟨q2, hq2⟩ : ∃ k2 : Int, k2 = ((far / 256 % 256 : Nat) : Int) := ⟨_, rfl⟩
          rw [← hq0] at hw
          rw [← hq1] at hw1
          have hsh : (far : Int) / 256 = q2 := by omega
          have HV : Hid ([Value.int .u8 q0, Value.int .u8 q1, Value.int .u8 q2] = bv (backC bs i k)) := by
            show _ = _
            unfold bv backC
            rw [HMe.out]
            simp only [List.map_cons, List.map_nil]
            rw [u8_ofNat (by omega), u8_ofNat (by omega), u8_ofNat (by omega), ← hq0, ← hfar, ← hq1, ← hq2]
          obtain ⟨g1, g2⟩ := backN_bound (bs := bs) (i := i) (p := p) (by have := HN.out; omega)
          have hkN : i + k ≤ N := by rw [HN.out]; rw [← backI_some HMe.out, HE.out] at g1; exact g1
          have m4 := HMq.out.cell HCb.out
          rw [HMe.out] at m4
          have m5 : WQ.cell? ⟨C, i, none⟩ = some (.int .i64 (p : Int)) := m4
          clear hq0 hq1 hq2 hfar g1 g2 m4
          go_wp2_with (at_builtin; refine Hid.out ?_)
          unfold Hid
          have hB1 := HBq.out.gr' (gr_alloc WQ (.cells #[.int .u8 q0, .int .u8 q1, .int .u8 q2] 5))
          refine wpList_append_any _ rfl (.tmp 58) (.tmp 67) 22 22 rfl 5 (.int .u8 0) 1 Try.underlying22 info5 rfl _ n (bv ob) rfl hB1.own _ 3 [.int .u8 q0, .int .u8 q1, .int .u8 q2] rfl (src_u8 WQ [.int .u8 q0, .int .u8 q1, .int .u8 q2] 3 rfl (by simp)) (by omega) (by omega) ?_
          intro v' w1 hown hgrow hblk
          obtain ⟨vo2, vc2, rfl⟩ := own_form1 hown
          have hap := (hB1.app HV.out hown hgrow hblk).pre (gr_alloc WQ _)
          have HNx : Hid (∃ (f : Nat) (ob : List UInt8), N - (i + k) ≤ f ∧ ob ++ packGo bs (backI bs) (backC bs) f (i + k) = packBackB bs ∧ Byts w w1 vo2 vc2 (n + 3) ob ∧ MetRow w1 C bs) := by
            obtain ⟨f', e1, e2⟩ := packGo_item (it := backI bs) (code := backC bs) HCb.out (by rw [← HN.out]; exact hf) (by rw [HE.out]; omega)
            rw [HE.out] at e1 e2
            refine ⟨f', ob ++ backC bs i k, by rw [HN.out]; exact e2, ?_, hap.b, HMq.out.ap HBq.out hap⟩
            rw [List.append_assoc, ← e1]
            exact HT.out
          clear hown hgrow hblk hB1 hap hw hw1 m5
          go_wp2_with fail
          go_roundw
          case rel => exact ⟨i + k, n + 3, vo2, vc2, by omega, by have := hn4; omega, by simp, rfl, HNx.out⟩
          case measure => simp [intOf]; omega
        have c2I : (i : Int) + (k : Int) < (N : Int) := by omega
        by_cases c1 : k < 131
        rotate_left
        · have c1I : decide ((k : Int) < 131) = false := by simp; omega
          have HE := hidM (HF.out (.inl (by omega)))
          have hkp := HPosK.out HE.out
          clear HF HPosK
          go_wp2_with fail
          go_quiet (fail)
          have HMq := hidM (HMq.out.gr ((Keeps.refl wr _).drewN nq))
          have HBq := hidM (HBq.out.gr' ((Keeps.refl wr _).drewN nq))
          obtain ⟨WQ, hWQ⟩ : ∃ WQ, WQ = wr.drewN nq := ⟨_, rfl⟩
          rw [← hWQ] at HMq HBq ⊢
          clear hWQ m2
          have hn4 : 4 ≤ k := by obtain ⟨_, _, h4⟩ := backI_pos (bs := bs) (i := i) (by rw [HE.out]; exact hkp); rw [HE.out] at h4; exact h4
          obtain ⟨far, hfar⟩ : ∃ far, far = i - p - 1 := ⟨_, rfl⟩
          have hfI : (i : Int) - (p : Int) - 1 = (far : Int) := by omega
          have hfb : far < 65536 := by omega
          have hw : IntKind.u8.wrap ((k : Int) + 124) = ((k + 124 : Nat) : Int) := by rw [show ((k : Int) + 124) = ((k + 124 : Nat) : Int) by omega]; exact wrap8 (by omega)
          have hw1 : IntKind.u8.wrap (far : Int) = ((far % 256 : Nat) : Int) := by rw [IntKind.wrap_u8]; omega
          obtain ⟨q0, hq0⟩ : ∃ k2 : Int, k2 = ((k + 124 : Nat) : Int) := ⟨_, rfl⟩
          obtain ⟨q1, hq1⟩ : ∃ k2 : Int, k2 = ((far % 256 : Nat) : Int) := ⟨_, rfl⟩
          obtain ⟨q2, hq2⟩ : ∃ k2 : Int, k2 = ((far / 256 % 256 : Nat) : Int) := ⟨_, rfl⟩
          rw [← hq0] at hw
          rw [← hq1] at hw1
          have hsh : (far : Int) / 256 = q2 := by omega
          have HV : Hid ([Value.int .u8 q0, Value.int .u8 q1, Value.int .u8 q2] = bv (backC bs i k)) := by
            show _ = _
            unfold bv backC
            rw [HMe.out]
            simp only [List.map_cons, List.map_nil]
            rw [u8_ofNat (by omega), u8_ofNat (by omega), u8_ofNat (by omega), ← hq0, ← hfar, ← hq1, ← hq2]
          obtain ⟨g1, g2⟩ := backN_bound (bs := bs) (i := i) (p := p) (by have := HN.out; omega)
          have hkN : i + k ≤ N := by rw [HN.out]; rw [← backI_some HMe.out, HE.out] at g1; exact g1
          have m4 := HMq.out.cell HCb.out
          rw [HMe.out] at m4
          have m5 : WQ.cell? ⟨C, i, none⟩ = some (.int .i64 (p : Int)) := m4
          clear hq0 hq1 hq2 hfar g1 g2 m4
          go_wp2_with (at_builtin; refine Hid.out ?_)
          unfold Hid
          have hB1 := HBq.out.gr' (gr_alloc WQ (.cells #[.int .u8 q0, .int .u8 q1, .int .u8 q2] 5))
          refine wpList_append_any _ rfl (.tmp 58) (.tmp 67) 22 22 rfl 5 (.int .u8 0) 1 Try.underlying22 info5 rfl _ n (bv ob) rfl hB1.own _ 3 [.int .u8 q0, .int .u8 q1, .int .u8 q2] rfl (src_u8 WQ [.int .u8 q0, .int .u8 q1, .int .u8 q2] 3 rfl (by simp)) (by omega) (by omega) ?_
          intro v' w1 hown hgrow hblk
          obtain ⟨vo2, vc2, rfl⟩ := own_form1 hown
          have hap := (hB1.app HV.out hown hgrow hblk).pre (gr_alloc WQ _)
          have HNx : Hid (∃ (f : Nat) (ob : List UInt8), N - (i + k) ≤ f ∧ ob ++ packGo bs (backI bs) (backC bs) f (i + k) = packBackB bs ∧ Byts w w1 vo2 vc2 (n + 3) ob ∧ MetRow w1 C bs) := by
            obtain ⟨f', e1, e2⟩ := packGo_item (it := backI bs) (code := backC bs) HCb.out (by rw [← HN.out]; exact hf) (by rw [HE.out]; omega)
            rw [HE.out] at e1 e2
            refine ⟨f', ob ++ backC bs i k, by rw [HN.out]; exact e2, ?_, hap.b, HMq.out.ap HBq.out hap⟩
            rw [List.append_assoc, ← e1]
            exact HT.out
          clear hown hgrow hblk hB1 hap hw hw1 m5
          go_wp2_with fail
          go_roundw
          case rel => exact ⟨i + k, n + 3, vo2, vc2, by omega, by have := hn4; omega, by simp, rfl, HNx.out⟩
          case measure => simp [intOf]; omega
        have c1I : (k : Int) < 131 := by omega
        have c3I : (p : Int) + (k : Int) < (N : Int) := by omega
        have gq := HBq.out.gr
        have t1 := gq.cell' (HCs.out (i + k) (by rw [← HN.out]; exact c2)) id
        have t2 := gq.cell' (HCs.out (p + k) (by rw [← HN.out]; omega)) id
        clear gq
        by_cases c3 : bs.getD (i + k) 0 = bs.getD (p + k) 0
        rotate_left
        · have HE := hidM (HF.out (.inr (.inr c3)))
          have hkp := HPosK.out HE.out
          have e1 := u8_bne.2 (fun e => c3 e.symm)
          obtain ⟨x, hx⟩ : ∃ x : Int, x = ((bs.getD (i + k) 0).toNat : Int) := ⟨_, rfl⟩
          obtain ⟨y, hy⟩ : ∃ y : Int, y = ((bs.getD (p + k) 0).toNat : Int) := ⟨_, rfl⟩
          rw [← hx, ← hy] at e1
          rw [← hx] at t1
          rw [← hy] at t2
          clear HF HPosK hx hy c3
          go_wp2_with fail
          go_quiet (fail)
          have HMq := hidM (HMq.out.gr ((Keeps.refl wr _).drewN nq))
          have HBq := hidM (HBq.out.gr' ((Keeps.refl wr _).drewN nq))
          obtain ⟨WQ, hWQ⟩ : ∃ WQ, WQ = wr.drewN nq := ⟨_, rfl⟩
          rw [← hWQ] at HMq HBq ⊢
          clear hWQ m2 t1 t2
          have hn4 : 4 ≤ k := by obtain ⟨_, _, h4⟩ := backI_pos (bs := bs) (i := i) (by rw [HE.out]; exact hkp); rw [HE.out] at h4; exact h4
          obtain ⟨far, hfar⟩ : ∃ far, far = i - p - 1 := ⟨_, rfl⟩
          have hfI : (i : Int) - (p : Int) - 1 = (far : Int) := by omega
          have hfb : far < 65536 := by omega
          have hw : IntKind.u8.wrap ((k : Int) + 124) = ((k + 124 : Nat) : Int) := by rw [show ((k : Int) + 124) = ((k + 124 : Nat) : Int) by omega]; exact wrap8 (by omega)
          have hw1 : IntKind.u8.wrap (far : Int) = ((far % 256 : Nat) : Int) := by rw [IntKind.wrap_u8]; omega
          obtain ⟨q0, hq0⟩ : ∃ k2 : Int, k2 = ((k + 124 : Nat) : Int) := ⟨_, rfl⟩
          obtain ⟨q1, hq1⟩ : ∃ k2 : Int, k2 = ((far % 256 : Nat) : Int) := ⟨_, rfl⟩
          obtain ⟨q2, hq2⟩ : ∃ k2 : Int, k2 = ((far / 256 % 256 : Nat) : Int) := ⟨_, rfl⟩
          rw [← hq0] at hw
          rw [← hq1] at hw1
          have hsh : (far : Int) / 256 = q2 := by omega
          have HV : Hid ([Value.int .u8 q0, Value.int .u8 q1, Value.int .u8 q2] = bv (backC bs i k)) := by
            show _ = _
            unfold bv backC
            rw [HMe.out]
            simp only [List.map_cons, List.map_nil]
            rw [u8_ofNat (by omega), u8_ofNat (by omega), u8_ofNat (by omega), ← hq0, ← hfar, ← hq1, ← hq2]
          obtain ⟨g1, g2⟩ := backN_bound (bs := bs) (i := i) (p := p) (by have := HN.out; omega)
          have hkN : i + k ≤ N := by rw [HN.out]; rw [← backI_some HMe.out, HE.out] at g1; exact g1
          have m4 := HMq.out.cell HCb.out
          rw [HMe.out] at m4
          have m5 : WQ.cell? ⟨C, i, none⟩ = some (.int .i64 (p : Int)) := m4
          clear hq0 hq1 hq2 hfar g1 g2 m4
          go_wp2_with (at_builtin; refine Hid.out ?_)
          unfold Hid
          have hB1 := HBq.out.gr' (gr_alloc WQ (.cells #[.int .u8 q0, .int .u8 q1, .int .u8 q2] 5))
          refine wpList_append_any _ rfl (.tmp 58) (.tmp 67) 22 22 rfl 5 (.int .u8 0) 1 Try.underlying22 info5 rfl _ n (bv ob) rfl hB1.own _ 3 [.int .u8 q0, .int .u8 q1, .int .u8 q2] rfl (src_u8 WQ [.int .u8 q0, .int .u8 q1, .int .u8 q2] 3 rfl (by simp)) (by omega) (by omega) ?_
          intro v' w1 hown hgrow hblk
          obtain ⟨vo2, vc2, rfl⟩ := own_form1 hown
          have hap := (hB1.app HV.out hown hgrow hblk).pre (gr_alloc WQ _)
          have HNx : Hid (∃ (f : Nat) (ob : List UInt8), N - (i + k) ≤ f ∧ ob ++ packGo bs (backI bs) (backC bs) f (i + k) = packBackB bs ∧ Byts w w1 vo2 vc2 (n + 3) ob ∧ MetRow w1 C bs) := by
            obtain ⟨f', e1, e2⟩ := packGo_item (it := backI bs) (code := backC bs) HCb.out (by rw [← HN.out]; exact hf) (by rw [HE.out]; omega)
            rw [HE.out] at e1 e2
            refine ⟨f', ob ++ backC bs i k, by rw [HN.out]; exact e2, ?_, hap.b, HMq.out.ap HBq.out hap⟩
            rw [List.append_assoc, ← e1]
            exact HT.out
          clear hown hgrow hblk hB1 hap hw hw1 m5
          go_wp2_with fail
          go_roundw
          case rel => exact ⟨i + k, n + 3, vo2, vc2, by omega, by have := hn4; omega, by simp, rfl, HNx.out⟩
          case measure => simp [intOf]; omega
        have HNc := hidM (HI.out.1.next (by rw [← HN.out]; exact c2) c3)
        rw [c3] at t1
        obtain ⟨y, hy⟩ : ∃ y : Int, y = ((bs.getD (p + k) 0).toNat : Int) := ⟨_, rfl⟩
        rw [← hy] at t1 t2
        have e1 : (y == y) = true := by simp
        clear HF HPosK hy c3
        go_wp2_with fail
        go_quiet (fail)
        go_wp2_with fail
        go_roundw
        case rel => exact ⟨k + 1, by omega, by omega, by simp, HNc.out, HI.out.2.drewN _⟩
        case measure => simp [intOf]; omega
    | none =>
      rw [hme] at m0
      have m1 : wr.cell? ⟨C, i, none⟩ = some (.int .i64 (-1)) := m0
      have HZ0 := hidM (backI_none hme)
      clear m0 hme
      go_wp2_with fail
      clear m1
      go_loopw [8] (fun p wi => ∃ e : Nat, i ≤ e ∧ e ≤ N ∧ e ≤ i + 128 ∧ p = .int .i64 (e : Int) ∧ Hid ((∀ k, k < e - i → backI bs (i + k) = 0) ∧ Byts w wi vo vc n ob ∧ MetRow wi C bs)) (fun p _ => N + 1 - (intOf p).toNat)
      case atStart => exact ⟨i, by omega, by omega, by omega, rfl, fun k hk => by omega, HOb.out, HMr.out⟩
      case round =>
        obtain ⟨e, he1, he2, he3, rfl, HI⟩ := hrel
        by_cases d1 : e < N
        rotate_left
        · have d1I : ¬ (e : Int) < (N : Int) := by omega
          have HLit : Hid (litN (backI bs) N i = e - i) := litN_is c (by omega) (by omega) (by omega) HI.out.1 (.inr (.inl (by omega)))
          have hlt : e - i ≤ 128 := by omega
          obtain ⟨m, hm⟩ : ∃ m, m = e - i := ⟨_, rfl⟩
          have hlen : ((bs.drop i).take m).length = m := by have := HN.out; simp; omega
          have hpart : BytesAt w (some ⟨b, o + i, none⟩) ((bs.drop i).take m) := fun hne => by
            refine ⟨b, o + i, rfl, fun k hk => ?_⟩
            have hk' : k < m := by rw [hlen] at hk; exact hk
            rw [Nat.add_assoc, HCs.out (i + k) (by have := HN.out; omega), List.getElem_take, drop_get (by have := HN.out; simp; omega)]
          have HLi := hidM (literalR_ap (bc := ca - i) HI.out.2.1 hpart (by rw [hlen]; omega) (by rw [hlen]; omega) (by omega))
          rw [hlen] at HLi
          rw [← hm] at HLit
          have hmI : (i : Int) ≤ (e : Int) := by omega
          have hmC : (e : Int) ≤ (ca : Int) := by omega
          have hmr : e - i = m := hm.symm
          have HMr := hidM hmr
          have hme : e = i + m := by omega
          subst hme
          clear hpart hlen hm hmr
          go_wp2_with (go_at_call 32; refine Hid.out ?_)
          unfold Hid
          try rw [HMr.out]
          refine Calls.mono HLi.out ?_
          rintro e V3 ⟨vo3, vc3, rfl, hb3⟩
          have HNx : Hid (∃ (f : Nat) (ob : List UInt8), N - (i + m) ≤ f ∧ ob ++ packGo bs (backI bs) (backC bs) f (i + m) = packBackB bs ∧ Byts w V3 vo3 vc3 (n + (m + 1)) ob ∧ MetRow V3 C bs) := by
            obtain ⟨f', e1, e2⟩ := packGo_lit (it := backI bs) (code := backC bs) HCb.out (by rw [← HN.out]; exact hf) HZ0.out
            rw [← HN.out, HLit.out] at e1 e2
            refine ⟨f', _, e2, ?_, hb3.b, HI.out.2.2.ap HI.out.2.1 hb3⟩
            rw [List.append_assoc, ← e1]
            exact HT.out
          clear hb3 HLi
          go_wp2_with fail
          go_roundw
          case rel => exact ⟨i + m, n + (m + 1), vo3, vc3, by omega, by omega, by simp, rfl, HNx.out⟩
          case measure => simp [intOf]; omega
        have d1I : (e : Int) < (N : Int) := by omega
        by_cases d2 : e - i < 128
        rotate_left
        · have d2I : ¬ (e : Int) - (i : Int) < 128 := by omega
          have HLit : Hid (litN (backI bs) N i = e - i) := litN_is c (by omega) (by omega) (by omega) HI.out.1 (.inl (by omega))
          have hlt : e - i ≤ 128 := by omega
          obtain ⟨m, hm⟩ : ∃ m, m = e - i := ⟨_, rfl⟩
          have hlen : ((bs.drop i).take m).length = m := by have := HN.out; simp; omega
          have hpart : BytesAt w (some ⟨b, o + i, none⟩) ((bs.drop i).take m) := fun hne => by
            refine ⟨b, o + i, rfl, fun k hk => ?_⟩
            have hk' : k < m := by rw [hlen] at hk; exact hk
            rw [Nat.add_assoc, HCs.out (i + k) (by have := HN.out; omega), List.getElem_take, drop_get (by have := HN.out; simp; omega)]
          have HLi := hidM (literalR_ap (bc := ca - i) HI.out.2.1 hpart (by rw [hlen]; omega) (by rw [hlen]; omega) (by omega))
          rw [hlen] at HLi
          rw [← hm] at HLit
          have hmI : (i : Int) ≤ (e : Int) := by omega
          have hmC : (e : Int) ≤ (ca : Int) := by omega
          have hmr : e - i = m := hm.symm
          have HMr := hidM hmr
          have hme : e = i + m := by omega
          subst hme
          clear hpart hlen hm hmr
          go_wp2_with (go_at_call 32; refine Hid.out ?_)
          unfold Hid
          try rw [HMr.out]
          refine Calls.mono HLi.out ?_
          rintro e V3 ⟨vo3, vc3, rfl, hb3⟩
          have HNx : Hid (∃ (f : Nat) (ob : List UInt8), N - (i + m) ≤ f ∧ ob ++ packGo bs (backI bs) (backC bs) f (i + m) = packBackB bs ∧ Byts w V3 vo3 vc3 (n + (m + 1)) ob ∧ MetRow V3 C bs) := by
            obtain ⟨f', e1, e2⟩ := packGo_lit (it := backI bs) (code := backC bs) HCb.out (by rw [← HN.out]; exact hf) HZ0.out
            rw [← HN.out, HLit.out] at e1 e2
            refine ⟨f', _, e2, ?_, hb3.b, HI.out.2.2.ap HI.out.2.1 hb3⟩
            rw [List.append_assoc, ← e1]
            exact HT.out
          clear hb3 HLi
          go_wp2_with fail
          go_roundw
          case rel => exact ⟨i + m, n + (m + 1), vo3, vc3, by omega, by omega, by simp, rfl, HNx.out⟩
          case measure => simp [intOf]; omega
        have d2I : (e : Int) - (i : Int) < 128 := by omega
        have he0 : (0 : Int) ≤ (e : Int) := by omega
        have k0 := HI.out.2.2.cell (p := e) (by rw [← HN.out]; exact d1)
        cases hme : metO bs e with
        | none =>
          rw [hme] at k0
          have k1 : wr.cell? ⟨C, e, none⟩ = some (.int .i64 (-1)) := k0
          have HZe : Hid (∀ k, k < e + 1 - i → backI bs (i + k) = 0) := fun k hk => by
            by_cases ek : k = e - i
            · rw [ek, show i + (e - i) = e by omega]; exact backI_none hme
            · exact HI.out.1 k (by omega)
          clear k0 hme
          go_wp2_with fail
          go_roundw
          case rel => exact ⟨e + 1, by omega, by omega, by omega, by simp, HZe.out, HI.out.2.1, HI.out.2.2⟩
          case measure => simp [intOf]; omega
        | some p =>
          rw [hme] at k0
          have k1 : wr.cell? ⟨C, e, none⟩ = some (.int .i64 (p : Int)) := k0
          have hpI : ¬ (p : Int) < 0 := by omega
          obtain ⟨hp1, hp2, hp3⟩ := metO_some hme
          have hpos : 0 < backI bs e := by
            rw [backI_some hme]
            have h4 := ComTo.four hp1 hp2 hp3
            have a1 : 4 ≤ (bs.drop e).length := by simp; omega
            have a2 : 4 ≤ (bs.drop p).length := by simp; omega
            have := comN_ge a1 a2 (fun j hj hj' hjn => by rw [drop_get hj, drop_get hj']; exact h4.2 j hjn)
            unfold backN
            omega
          have hne : e ≠ i := fun e1 => by
            rw [e1, HZ0.out] at hpos
            omega
          have HLit : Hid (litN (backI bs) N i = e - i) := litN_is c (by omega) (by omega) (by omega) HI.out.1 (.inr (.inr (by rw [show i + (e - i) = e by omega]; exact hpos)))
          clear hme k0 hp1 hp2 hp3 hpos
          have hlt : e - i ≤ 128 := by omega
          obtain ⟨m, hm⟩ : ∃ m, m = e - i := ⟨_, rfl⟩
          have hlen : ((bs.drop i).take m).length = m := by have := HN.out; simp; omega
          have hpart : BytesAt w (some ⟨b, o + i, none⟩) ((bs.drop i).take m) := fun hne => by
            refine ⟨b, o + i, rfl, fun k hk => ?_⟩
            have hk' : k < m := by rw [hlen] at hk; exact hk
            rw [Nat.add_assoc, HCs.out (i + k) (by have := HN.out; omega), List.getElem_take, drop_get (by have := HN.out; simp; omega)]
          have HLi := hidM (literalR_ap (bc := ca - i) HI.out.2.1 hpart (by rw [hlen]; omega) (by rw [hlen]; omega) (by omega))
          rw [hlen] at HLi
          rw [← hm] at HLit
          have hmI : (i : Int) ≤ (e : Int) := by omega
          have hmC : (e : Int) ≤ (ca : Int) := by omega
          have hmr : e - i = m := hm.symm
          have HMr := hidM hmr
          have hme : e = i + m := by omega
          subst hme
          clear hpart hlen hm hmr
          go_wp2_with (go_at_call 32; refine Hid.out ?_)
          unfold Hid
          try rw [HMr.out]
          refine Calls.mono HLi.out ?_
          rintro e V3 ⟨vo3, vc3, rfl, hb3⟩
          have HNx : Hid (∃ (f : Nat) (ob : List UInt8), N - (i + m) ≤ f ∧ ob ++ packGo bs (backI bs) (backC bs) f (i + m) = packBackB bs ∧ Byts w V3 vo3 vc3 (n + (m + 1)) ob ∧ MetRow V3 C bs) := by
            obtain ⟨f', e1, e2⟩ := packGo_lit (it := backI bs) (code := backC bs) HCb.out (by rw [← HN.out]; exact hf) HZ0.out
            rw [← HN.out, HLit.out] at e1 e2
            refine ⟨f', _, e2, ?_, hb3.b, HI.out.2.2.ap HI.out.2.1 hb3⟩
            rw [List.append_assoc, ← e1]
            exact HT.out
          clear hb3 HLi
          go_wp2_with fail
          go_roundw
          case rel => exact ⟨i + m, n + (m + 1), vo3, vc3, by omega, by omega, by simp, rfl, HNx.out⟩
          case measure => simp [intOf]; omega

end Go.Proofs.Ytknjnclopiklaab.Kit
