import Derived.Test.YtomlndoffoeaiaaReadsT
namespace Go.Proofs.Ytomlndoffoeaiaa.Kit
open Go.RowKit Go.Deep
set_option linter.unusedVariables false

set_option maxRecDepth 100000 in
set_option maxHeartbeats 40000000 in
theorem watches_any (m : Nat) (Q : Nat → Nat) (G : Nat → Option Nat) (RS : Nat → List (Int × Int)) (TO : Nat → Option Addr) (TC : Nat → Nat) (w : World)
    (h3 : ∀ i, 1 ≤ i → i < 3 → w.cell? ⟨m, 3 + i, none⟩ = some (.pointer (some ⟨Q i, 0, none⟩)))
    (h6 : ∀ i, 1 ≤ i → i < 3 → w.cell? ⟨m, 6 + i, none⟩ = some (.slice (TO i) (RS i).length (TC i)))
    (hw : ∀ i, 1 ≤ i → i < 3 → WatchAt w (Q i) (G i) (RS i))
    (ht : ∀ i, 1 ≤ i → i < 3 → ReadsAt w (TO i) (RS i).length (RS i))
    (hl : ∀ i, 1 ≤ i → i < 3 → (RS i).length ≤ 1000000000000) :
    Calls Try.prog 11 #[.pointer (some ⟨m, 0, none⟩)] w fun e w' => e = .returned (.bool true) ∧ Keeps w w' (fun _ => False) := by
  have H3 := hidM h3
  have H6 := hidM h6
  have HW := hidM hw
  have HT := hidM ht
  have HL := hidM hl
  clear h3 h6 hw ht hl
  go_enter Try.func11, Try.ntmps11
  go_wp2
  go_loopw [3] (fun p wr => ∃ i : Nat, 1 ≤ i ∧ i ≤ 3 ∧ p = .int .i64 (i : Int) ∧ Hid (Keeps w wr (fun _ => False))) (fun p _ => 3 - (intOf p).toNat)
  case atStart => exact ⟨1, by omega, by omega, rfl, Keeps.refl _ _⟩
  case round =>
    obtain ⟨i, hi1, hi3, rfl, HK⟩ := hrel
    by_cases hlt : i < 3
    · obtain ⟨V, rfl⟩ : ∃ V, V = wr := ⟨_, rfl⟩
      have hltI : (i : Int) < 3 := by omega
      have c3 := HK.out.cell' (H3.out i hi1 hlt) id
      have c6 := HK.out.cell' (H6.out i hi1 hlt) id
      have HWa := hidM ((HW.out i hi1 hlt).kept HK.out id (fun _ _ h => h))
      have HRa := hidM ((HT.out i hi1 hlt).kept HK.out)
      have HLa := hidM (HL.out i hi1 hlt)
      obtain ⟨q, hq⟩ : ∃ q, q = Q i := ⟨_, rfl⟩
      obtain ⟨gq, hgq⟩ : ∃ gq, gq = G i := ⟨_, rfl⟩
      obtain ⟨rs, hrs⟩ : ∃ rs, rs = RS i := ⟨_, rfl⟩
      obtain ⟨to, hto⟩ : ∃ to, to = TO i := ⟨_, rfl⟩
      obtain ⟨tc, htc⟩ : ∃ tc, tc = TC i := ⟨_, rfl⟩
      rw [← hq, ← hgq, ← hrs] at HWa
      rw [← hrs, ← hto] at HRa
      rw [← hrs] at HLa
      rw [← hq] at c3
      rw [← hto, ← hrs, ← htc] at c6
      obtain ⟨n, hn⟩ : ∃ n, n = rs.length := ⟨_, rfl⟩
      rw [← hn] at HRa HLa c6
      have HN := hidM hn
      have hnb := HLa.out
      clear hq hgq hrs hto htc hn H3 H6 HW HT HL
      have HRaV := hidM HRa.out
      clear HRa
      go_wp2_with (go_at_call 18; refine Hid.out ?_)
      unfold Hid
      refine Calls.mono (reads_any q gq rs _ HWa.out (by have := HN.out; omega)) ?_
      rintro e W1 ⟨rfl, hrow, hbel⟩
      rw [← HN.out]
      have k1 : Keeps V W1 (fun _ => False) := (Keeps.ofBelow hbel).mono fun b hb h => by omega
      have HD1 : Hid (Wd V W1 (.slice (some ⟨V.heap.size, 0, none⟩) n n) n (readCells rs)) := ⟨k1, own_ofRow hrow (by rw [readCells_length, HN.out]) (by omega), fun g e => by simp [Value.ownBlock] at e; omega⟩
      have HR1 : Hid (ReadsAt W1 (some ⟨V.heap.size, 0, none⟩) n rs) := by have h := reads_row (w := W1) hrow; rw [← HN.out] at h; exact h
      have HT1 : Hid (ReadsAt W1 to n rs) := ReadsAt.kept HRaV.out k1
      have d61 := k1.cell' c6 id
      clear hrow hbel k1
      go_wp2_with (go_at_call 48; refine Hid.out ?_)
      unfold Hid
      refine Calls.mono (sameReads_all _ _ n _ _ rs _ (by omega) HR1.out HT1.out) ?_
      rintro e X1 ⟨rfl, dq, hX⟩
      have kX1 : Keeps W1 X1 (fun _ => False) := by rw [hX]; exact (Keeps.refl _ _).drewN dq
      have HE1 := hidM (HD1.out.to kX1)
      clear hX kX1
      clear HD1 HR1 HT1 d61
      go_wp2_with fail
      go_loopw [6] (fun p wr => ∃ k : Nat, k ≤ n ∧ p = .int .i64 (k : Int) ∧ ∃ xs, Hid (Wd V wr (.slice (some ⟨V.heap.size, 0, none⟩) n n) n xs ∧ Mk (-9) k xs)) (fun p _ => n - (intOf p).toNat)
      case atStart => exact ⟨0, by omega, rfl, readCells rs, HE1.out, fun j hj => by omega⟩
      case round =>
        obtain ⟨k, hk, rfl, xs, HX⟩ := hrel
        by_cases hkn : k < n
        · have hkI : (k : Int) < (n : Int) := by omega
          have hxl : xs.length = n * 2 := HX.out.1.own.1
          have x0 : wr.cell? ⟨V.heap.size, k * 2, none⟩ = some xs[k * 2] := by have h := HX.out.1.own.cells (g := V.heap.size) rfl (k * 2) xs[k * 2] (List.getElem?_eq_getElem (by omega)); rwa [add_lit0] at h
          have x1 : wr.cell? ⟨V.heap.size, k * 2 + 1, none⟩ = some xs[k * 2 + 1] := by have h := HX.out.1.own.cells (g := V.heap.size) rfl (k * 2 + 1) xs[k * 2 + 1] (List.getElem?_eq_getElem (by omega)); rwa [add_lit0] at h
          have f0 := own_frz HX.out.1.own (k * 2)
          have f1 := own_frz HX.out.1.own (k * 2 + 1)
          have HNx : Hid (Wd V ((wr.setCell ⟨V.heap.size, k * 2, none⟩ (.int .i64 (-9))).setCell ⟨V.heap.size, k * 2 + 1, none⟩ (.int .i64 (-9))) (.slice (some ⟨V.heap.size, 0, none⟩) n n) n ((xs.set (k * 2) (.int .i64 (-9))).set (k * 2 + 1) (.int .i64 (-9))) ∧ Mk (-9) (k + 1) ((xs.set (k * 2) (.int .i64 (-9))).set (k * 2 + 1) (.int .i64 (-9)))) := ⟨HX.out.1.put k _, HX.out.2.put hxl hkn⟩
          go_wp2_with fail
          exact ⟨⟨k + 1, by omega, by simp, _, HNx.out⟩, by simp [intOf]; omega⟩
        · have hkn' : n = k := by omega
          subst hkn'
          clear hk hkn
          obtain ⟨V1b, rfl⟩ : ∃ V, V = wr := ⟨_, rfl⟩
          go_wp2_with fail
          go_loopw [4, 7] (fun v p wr => ∃ j : Nat, j ≤ 5 ∧ p = .int .i64 (j : Int) ∧ ∃ vo vc xs, v = .slice vo (n + j) vc ∧ Hid (Wd V wr (.slice vo (n + j) vc) (n + j) xs ∧ Mk (-9) (n + j) xs)) (fun _ p _ => 5 - (intOf p).toNat)
          case atStart => exact ⟨0, by omega, rfl, _, _, xs, rfl, HX.out⟩
          case round =>
            obtain ⟨j, hj, rfl, vo, vc, ys, rfl, HY⟩ := hrel
            by_cases hj5 : j < 5
            · have hjI : (j : Int) < 5 := by omega
              obtain ⟨Va, hVa⟩ : ∃ Va, wr.alloc (.cells #[.int .i64 (-9), .int .i64 (-9)] 50) = Va := ⟨_, rfl⟩
              have hkVa : Keeps wr Va (fun _ => False) := by rw [← hVa]; exact (Keeps.refl wr _).alloc _
              have HWV := hidM (HY.out.1.to hkVa)
              have HSr : Hid (Src Try.prog 2 44 (.slice (some ⟨wr.heap.size, 0, none⟩) 1 1) 1 [.int .i64 (-9), .int .i64 (-9)] Va) := by rw [← hVa]; exact src_read' wr _ _
              have HMk := hidM (HY.out.2.app HY.out.1.own.1)
              clear hkVa
              go_wp2_with (with_reducible show wpList Try.prog _ _ (Oper.mk (some 51) _ _ _ _ _ :: _) _ _; refine wpList_append_anyN (P := Try.prog) _ rfl (.tmp 48) (.tmp 50) 44 44 rfl 50 (.agg #[.int .i64 0, .int .i64 0]) 2 16 Try.underlying44 info50 rfl (.slice vo (n + j) vc) (n + j) ys rfl HWV.out.own (.slice (some ⟨wr.heap.size, 0, none⟩) 1 1) 1 [.int .i64 (-9), .int .i64 (-9)] rfl HSr.out (by omega) (by omega) ?_; intro v' w7 ha1 ha2 ha3; replace ha3 := hidM (HWV.out.app ha1 ha2 ha3); obtain ⟨uo, uc, rfl⟩ := ownN_form ha1; clear ha1 ha2)
              exact ⟨⟨j + 1, by omega, by simp, uo, uc, _, rfl, ha3.out, HMk.out⟩, by simp [intOf]; omega⟩
            · have hj5' : j = 5 := by omega
              subst hj5'
              clear hj hj5
              obtain ⟨V2, rfl⟩ : ∃ V, V = wr := ⟨_, rfl⟩
              obtain ⟨g1, c1, hv⟩ := own_some HY.out.1.own (by omega)
              cases hv
              have HR1x := hidM HY.out
              have k1x : Keeps V V2 (fun _ => False) := HY.out.1.k
              clear HX HY
              have HK2 := hidM k1x
              have d3 := k1x.cell' c3 id
              have d6 := k1x.cell' c6 id
              have HWb := hidM (HWa.out.kept k1x id (fun _ _ h => h))
              have HRaV2 := hidM (HRaV.out.kept k1x)
              clear k1x c3 c6
              go_wp2_with (go_at_call 18; refine Hid.out ?_)
              unfold Hid
              refine Calls.mono (reads_any q gq rs _ HWb.out (by have := HN.out; omega)) ?_
              rintro e W2 ⟨rfl, hrow, hbel⟩
              rw [← HN.out]
              have k2 : Keeps V2 W2 (fun _ => False) := (Keeps.ofBelow hbel).mono fun b hb h => by omega
              have HD2 : Hid (Wd V2 W2 (.slice (some ⟨V2.heap.size, 0, none⟩) n n) n (readCells rs)) := ⟨k2, own_ofRow hrow (by rw [readCells_length, HN.out]) (by omega), fun g e => by simp [Value.ownBlock] at e; omega⟩
              have HR2 : Hid (ReadsAt W2 (some ⟨V2.heap.size, 0, none⟩) n rs) := by have h := reads_row (w := W2) hrow; rw [← HN.out] at h; exact h
              have HT2 : Hid (ReadsAt W2 to n rs) := ReadsAt.kept HRaV2.out k2
              have d62 := k2.cell' d6 id
              clear hrow hbel k2
              go_wp2_with (go_at_call 48; refine Hid.out ?_)
              unfold Hid
              refine Calls.mono (sameReads_all _ _ n _ _ rs _ (by omega) HR2.out HT2.out) ?_
              rintro e X2 ⟨rfl, dq, hX⟩
              have kX2 : Keeps W2 X2 (fun _ => False) := by rw [hX]; exact (Keeps.refl _ _).drewN dq
              have HE2 := hidM (HD2.out.to kX2)
              clear hX kX2
              go_wp2_with (go_at_call 49; refine Hid.out ?_)
              unfold Hid
              refine Calls.mono (marked_some g1 0 (n + 5) _ (-9) _ (by omega) ((HR1x.out.1.to HE2.out.k).marks HR1x.out.2)) ?_
              rintro e Y2 ⟨rfl, dqa, hYa⟩
              have kYa : Keeps X2 Y2 (fun _ => False) := by rw [hYa]; exact (Keeps.refl _ _).drewN dqa
              clear hYa
              replace HE2 := hidM (HE2.out.to kYa)
              clear HD2 HR2 HT2 d62 kYa
              go_wp2_with fail
              go_loopw [10] (fun p wr => ∃ k : Nat, k ≤ n ∧ p = .int .i64 (k : Int) ∧ ∃ xs, Hid (Wd V2 wr (.slice (some ⟨V2.heap.size, 0, none⟩) n n) n xs ∧ Mk (-8) k xs)) (fun p _ => n - (intOf p).toNat)
              case atStart => exact ⟨0, by omega, rfl, readCells rs, HE2.out, fun j hj => by omega⟩
              case round =>
                obtain ⟨k, hk, rfl, xs, HX⟩ := hrel
                by_cases hkn : k < n
                · have hkI : (k : Int) < (n : Int) := by omega
                  have hxl : xs.length = n * 2 := HX.out.1.own.1
                  have x0 : wr.cell? ⟨V2.heap.size, k * 2, none⟩ = some xs[k * 2] := by have h := HX.out.1.own.cells (g := V2.heap.size) rfl (k * 2) xs[k * 2] (List.getElem?_eq_getElem (by omega)); rwa [add_lit0] at h
                  have x1 : wr.cell? ⟨V2.heap.size, k * 2 + 1, none⟩ = some xs[k * 2 + 1] := by have h := HX.out.1.own.cells (g := V2.heap.size) rfl (k * 2 + 1) xs[k * 2 + 1] (List.getElem?_eq_getElem (by omega)); rwa [add_lit0] at h
                  have f0 := own_frz HX.out.1.own (k * 2)
                  have f1 := own_frz HX.out.1.own (k * 2 + 1)
                  have HNx : Hid (Wd V2 ((wr.setCell ⟨V2.heap.size, k * 2, none⟩ (.int .i64 (-8))).setCell ⟨V2.heap.size, k * 2 + 1, none⟩ (.int .i64 (-8))) (.slice (some ⟨V2.heap.size, 0, none⟩) n n) n ((xs.set (k * 2) (.int .i64 (-8))).set (k * 2 + 1) (.int .i64 (-8))) ∧ Mk (-8) (k + 1) ((xs.set (k * 2) (.int .i64 (-8))).set (k * 2 + 1) (.int .i64 (-8)))) := ⟨HX.out.1.put k _, HX.out.2.put hxl hkn⟩
                  go_wp2_with fail
                  exact ⟨⟨k + 1, by omega, by simp, _, HNx.out⟩, by simp [intOf]; omega⟩
                · have hkn' : n = k := by omega
                  subst hkn'
                  clear hk hkn
                  obtain ⟨V2b, rfl⟩ : ∃ V, V = wr := ⟨_, rfl⟩
                  go_wp2_with fail
                  go_loopw [8, 11] (fun v p wr => ∃ j : Nat, j ≤ 5 ∧ p = .int .i64 (j : Int) ∧ ∃ vo vc xs, v = .slice vo (n + j) vc ∧ Hid (Wd V2 wr (.slice vo (n + j) vc) (n + j) xs ∧ Mk (-8) (n + j) xs)) (fun _ p _ => 5 - (intOf p).toNat)
                  case atStart => exact ⟨0, by omega, rfl, _, _, xs, rfl, HX.out⟩
                  case round =>
                    obtain ⟨j, hj, rfl, vo, vc, ys, rfl, HY⟩ := hrel
                    by_cases hj5 : j < 5
                    · have hjI : (j : Int) < 5 := by omega
                      obtain ⟨Va, hVa⟩ : ∃ Va, wr.alloc (.cells #[.int .i64 (-8), .int .i64 (-8)] 50) = Va := ⟨_, rfl⟩
                      have hkVa : Keeps wr Va (fun _ => False) := by rw [← hVa]; exact (Keeps.refl wr _).alloc _
                      have HWV := hidM (HY.out.1.to hkVa)
                      have HSr : Hid (Src Try.prog 2 44 (.slice (some ⟨wr.heap.size, 0, none⟩) 1 1) 1 [.int .i64 (-8), .int .i64 (-8)] Va) := by rw [← hVa]; exact src_read' wr _ _
                      have HMk := hidM (HY.out.2.app HY.out.1.own.1)
                      clear hkVa
                      go_wp2_with (with_reducible show wpList Try.prog _ _ (Oper.mk (some 92) _ _ _ _ _ :: _) _ _; refine wpList_append_anyN (P := Try.prog) _ rfl (.tmp 89) (.tmp 91) 44 44 rfl 50 (.agg #[.int .i64 0, .int .i64 0]) 2 16 Try.underlying44 info50 rfl (.slice vo (n + j) vc) (n + j) ys rfl HWV.out.own (.slice (some ⟨wr.heap.size, 0, none⟩) 1 1) 1 [.int .i64 (-8), .int .i64 (-8)] rfl HSr.out (by omega) (by omega) ?_; intro v' w7 ha1 ha2 ha3; replace ha3 := hidM (HWV.out.app ha1 ha2 ha3); obtain ⟨uo, uc, rfl⟩ := ownN_form ha1; clear ha1 ha2)
                      exact ⟨⟨j + 1, by omega, by simp, uo, uc, _, rfl, ha3.out, HMk.out⟩, by simp [intOf]; omega⟩
                    · have hj5' : j = 5 := by omega
                      subst hj5'
                      clear hj hj5
                      obtain ⟨V3, rfl⟩ : ∃ V, V = wr := ⟨_, rfl⟩
                      obtain ⟨g2, c2, hv⟩ := own_some HY.out.1.own (by omega)
                      cases hv
                      have HR2x := hidM HY.out
                      have k2x : Keeps V2 V3 (fun _ => False) := HY.out.1.k
                      clear HX HY
                      have HK3 := hidM (HK2.out.trans k2x (fun _ _ h => h))
                      have e3 := k2x.cell' d3 id
                      have e6 := k2x.cell' d6 id
                      have HWc := hidM (HWb.out.kept k2x id (fun _ _ h => h))
                      have HRaV3 := hidM (HRaV2.out.kept k2x)
                      have HA3 := hidM (And.intro (HR1x.out.1.to k2x) HR1x.out.2)
                      clear k2x d3 d6 HR1x
                      go_wp2_with (go_at_call 18; refine Hid.out ?_)
                      unfold Hid
                      refine Calls.mono (reads_any q gq rs _ HWc.out (by have := HN.out; omega)) ?_
                      rintro e W3 ⟨rfl, hrow, hbel⟩
                      rw [← HN.out]
                      have k3 : Keeps V3 W3 (fun _ => False) := (Keeps.ofBelow hbel).mono fun b hb h => by omega
                      have HD3 : Hid (Wd V3 W3 (.slice (some ⟨V3.heap.size, 0, none⟩) n n) n (readCells rs)) := ⟨k3, own_ofRow hrow (by rw [readCells_length, HN.out]) (by omega), fun g e => by simp [Value.ownBlock] at e; omega⟩
                      have HR3 : Hid (ReadsAt W3 (some ⟨V3.heap.size, 0, none⟩) n rs) := by have h := reads_row (w := W3) hrow; rw [← HN.out] at h; exact h
                      have HT3 : Hid (ReadsAt W3 to n rs) := ReadsAt.kept HRaV3.out k3
                      have d63 := k3.cell' e6 id
                      clear hrow hbel k3
                      go_wp2_with (go_at_call 48; refine Hid.out ?_)
                      unfold Hid
                      refine Calls.mono (sameReads_all _ _ n _ _ rs _ (by omega) HR3.out HT3.out) ?_
                      rintro e X3 ⟨rfl, dq, hX⟩
                      have kX3 : Keeps W3 X3 (fun _ => False) := by rw [hX]; exact (Keeps.refl _ _).drewN dq
                      have HE3 := hidM (HD3.out.to kX3)
                      clear hX kX3
                      go_wp2_with (go_at_call 49; refine Hid.out ?_)
                      unfold Hid
                      refine Calls.mono (marked_some g1 0 (n + 5) _ (-9) _ (by omega) ((HA3.out.1.to HE3.out.k).marks HA3.out.2)) ?_
                      rintro e Y3 ⟨rfl, dqb, hYb⟩
                      have kYb : Keeps X3 Y3 (fun _ => False) := by rw [hYb]; exact (Keeps.refl _ _).drewN dqb
                      clear hYb
                      have HE4 := hidM (HE3.out.to kYb)
                      clear HD3 HR3 HT3 d63 kYb
                      go_wp2_with (go_at_call 49; refine Hid.out ?_)
                      unfold Hid
                      refine Calls.mono (marked_some g2 0 (n + 5) _ (-8) _ (by omega) ((HR2x.out.1.to HE4.out.k).marks HR2x.out.2)) ?_
                      rintro e Z3 ⟨rfl, dqc, hYc⟩
                      have kYc : Keeps Y3 Z3 (fun _ => False) := by rw [hYc]; exact (Keeps.refl _ _).drewN dqc
                      clear hYc
                      have HEnd := hidM ((HK.out.trans HK3.out (fun _ _ h => h)).trans (HE4.out.to kYc).k (fun _ _ h => h))
                      clear kYc
                      go_wp2_with fail
                      exact ⟨⟨i + 1, by omega, by omega, by simp, HEnd.out⟩, by simp [intOf]; omega⟩
    · have hi : i = 3 := by omega
      subst hi
      go_wp2
      go_ret
      exact ⟨rfl, HK.out⟩
end Go.Proofs.Ytomlndoffoeaiaa.Kit
