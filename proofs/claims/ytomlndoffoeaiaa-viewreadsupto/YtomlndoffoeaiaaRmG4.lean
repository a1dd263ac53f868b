import Derived.Test.YtomlndoffoeaiaaRmF
import Derived.Test.YtomlndoffoeaiaaReadsG
namespace Go.Proofs.Ytomlndoffoeaiaa.Kit
open Go.RowKit Go.Deep
set_option linter.unusedVariables false

theorem infoX105 : (Try.prog.info? 105).map (fun i => (i.zero, i.size, i.bytes)) = some (some (.slice none 0 0), 1, 24) := by kernel_rfl

set_option maxRecDepth 100000 in
set_option maxHeartbeats 8000000 in
theorem numbers_gen4 (c : Cn) (g : Gh) (k : Nat) (ao ao' : Option Addr) (n cap off cap' who : Nat) (a b : Int) (a' cnt : Nat) (xs : List Int) (f : Int) (w : World) (h : Inv c w g) (o : Ok c g k) (hk : k ≤ 100000000) (hs : SnOk c ⟨ao, n, cap, off, ao', cap', who⟩)
    (hxl : xs.length = cnt) (hcnt : cnt ≤ 1048576) (hxr : ∀ j, j < cnt → IntKind.u64.wrap (xs.getD j 0) = xs.getD j 0) (hin : f = 0 → a = (a' : Int) ∧ b = (cnt : Int) ∧ a' + cnt * 4 ≤ n)
    (hD : ∀ W, Inv c W g → Calls Try.prog 63 #[refV ao' n cap' off, .int .i64 a, .int .i64 b, .int .i64 4] W fun e w' => ∃ v, e = .returned (.tuple #[v, .int .i64 f]) ∧ w'.ownsRow 0 46 1 v cnt (xs.map (Value.int .u64)) ∧ (∀ g, v.ownBlock = some g → W.heap.size ≤ g) ∧ Keeps W w' (fun _ => False))
    (hV : ∀ W g', Inv c W g' → Ok c g' (k + 4) → g'.L = g.L → Calls Try.prog 66 #[viewV ao n cap off (qOf c who), .int .i64 a, .int .i64 b] W fun e w' => ∃ u, e = .returned (.tuple #[u, .int .i64 f]) ∧ w'.ownsRow 0 106 1 u cnt (xs.map (Value.int .u32)) ∧ (∀ g, u.ownBlock = some g → W.heap.size ≤ g) ∧ WatDone W w' (qOf c who) (gqOf g' who) (if f = 0 then tellR (qOf c who) (wOf g' who) (off + a') (off + a' + (cnt * 4 : Nat)) else wOf g' who)) :
    Calls Try.prog 46 #[.pointer (some ⟨c.m, 0, none⟩), seenV ao n cap off (qOf c who) ao' n cap' off who, .int .i64 2, .int .i64 a, .int .i64 b] w fun e w' => e = .returned (.bool true) ∧ ∃ g', Go c NoF w g w' g' ∧ Ok c g' (k + 4) := by
  have HS := hidM hs
  have HO := hidM o
  have HI := hidM h
  have HD := hidM hD
  have HV := hidM hV
  have HXR := hidM hxr
  have HIN := hidM hin
  have HXL := hidM hxl
  have hw : who ≤ 2 := hs.who
  have hno : off + n ≤ c.N := hs.v.le
  have hN : c.N ≤ 1048576 := o.N
  obtain ⟨q, hq⟩ : ∃ q, q = qOf c who := ⟨_, rfl⟩
  have HQ := hidM hq
  rw [← hq]
  clear h o hs hq hD hV hxr hin hxl
  unfold seenV
  go_enter Try.func46, Try.ntmps46
  go_wp2_with fail
  obtain ⟨W0, hW0⟩ : ∃ W0, W0 = w.alloc (.cells #[.slice ao n cap, .int .i64 off, .pointer (q.map fun b => ⟨b, 0, none⟩), .slice ao' n cap', .int .i64 off, .int .i64 who] 93) := ⟨_, rfl⟩
  obtain ⟨B, hB⟩ : ∃ B, B = w.heap.size := ⟨_, rfl⟩
  rw [← hW0, ← hB]
  have HG0 : Hid (Go c NoF w g W0 g) := by rw [hW0]; exact HI.out.rest0 ((Keeps.refl _ _).alloc _)
  have HB0 : Hid (W0.heap[B]? = some (.cells #[.slice ao n cap, .int .i64 off, .pointer (q.map fun b => ⟨b, 0, none⟩), .slice ao' n cap', .int .i64 off, .int .i64 who] 93 (0, 0)) ∧ ∀ i, ¬ ft c g i B) := by rw [hW0, hB]; exact ⟨heap_alloc_new w _, HI.out.out (Nat.le_refl _)⟩
  clear hW0 hB
  go_loopw [11, 12] (fun p q wr => (p = .int .i64 1 ∧ q = .int .i64 0 ∧ wr = W0) ∨ (p = .int .i64 2 ∧ q = .int .i64 1 ∧ wr = W0) ∨ (p = .int .i64 4 ∧ q = .int .i64 2 ∧ wr = W0)) (fun _ q _ => 2 - (intOf q).toNat)
  case atStart => exact .inl ⟨rfl, rfl, rfl⟩
  case round =>
    rcases hrel with ⟨rfl, rfl, rfl⟩ | ⟨rfl, rfl, rfl⟩ | ⟨rfl, rfl, rfl⟩
    · go_wp2_with fail
      exact ⟨by simp, by simp [intOf]⟩
    · go_wp2_with fail
      exact ⟨by simp, by simp [intOf]⟩
    · obtain ⟨s0, s1, s2, s3, s4, s5⟩ := boxCells6 HB0.out.1
      go_wp2_with fail
      go_at_call 63
      refine Calls.mono (HD.out _ HG0.out.inv) ?_
      rintro e w1 ⟨wv, rfl, hwv, hwn, hk1⟩
      obtain ⟨wo, wc, rfl⟩ := ownN_form hwv
      have HT1 : Hid (Tn c g w B #[.slice ao n cap, .int .i64 off, .pointer (q.map fun b => ⟨b, 0, none⟩), .slice ao' n cap', .int .i64 off, .int .i64 who] (.slice wo cnt wc) cnt (xs.map (Value.int .u64)) w1 g) := by
        have hgo := HG0.out.inv.rest0 hk1
        obtain ⟨b1, b2⟩ := hgo.box HB0.out.1 HB0.out.2
        exact ⟨HG0.out.trans hgo (fun _ f => f.elim), rfl, b1, b2, hwv, fun b e => HG0.out.inv.out (hwn b e)⟩
      clear hwv hwn hk1 HB0 HG0 s0 s1 s2 s3 s4 s5 HD
      go_wp2_with fail
      go_loopw [15] (fun p wr => ∃ j : Nat, j ≤ 2 ∧ p = .int .i64 (j : Int) ∧ ∃ g', Hid (Tn c g w B #[.slice ao n cap, .int .i64 off, .pointer (q.map fun b => ⟨b, 0, none⟩), .slice ao' n cap', .int .i64 off, .int .i64 who] (.slice wo cnt wc) cnt (xs.map (Value.int .u64)) wr g' ∧ Ok c g' (k + 2 * j))) (fun p _ => 2 - (intOf p).toNat)
      case atStart => exact ⟨0, by omega, rfl, g, HT1.out, HO.out⟩
      case round =>
        clear HT1 HO HI
        obtain ⟨j, hj, rfl, g', HX⟩ := hrel
        obtain ⟨V, rfl⟩ : ∃ V, V = wr := ⟨_, rfl⟩
        by_cases hj2 : j < 2
        · have hjI : (j : Int) < 2 := by omega
          obtain ⟨s0, s1, s2, s3, s4, s5⟩ := boxCells6 HX.out.1.box
          go_wp2_with fail
          go_at_call 66
          have hv := HV.out V g' HX.out.1.go.inv (HX.out.2.mono (by omega)) HX.out.1.L
          rw [← HQ.out] at hv
          refine Calls.mono hv ?_
          clear hv
          rintro e W1 ⟨u, rfl, hu1, hu2, hd⟩
          obtain ⟨uo, uc, rfl⟩ := ownN_form hu1
          rw [HQ.out] at hd
          obtain ⟨gq1, hg1⟩ := Inv.wat hw HX.out.1.go.inv hd
          obtain ⟨rs1, hrs1⟩ : ∃ rs1, rs1 = (if f = 0 then tellR (qOf c who) (wOf g' who) (off + a') (off + a' + (cnt * 4 : Nat)) else wOf g' who) := ⟨_, rfl⟩
          rw [← hrs1] at hg1
          obtain ⟨g1, hgg1⟩ : ∃ g1, g1 = setW g' who gq1 rs1 := ⟨_, rfl⟩
          rw [← hgg1] at hg1
          have HRS := hidM hrs1
          have HGG1 := hidM hgg1
          have HG1 := hidM hg1
          have HU1 := hidM hu1
          have HU2 := hidM hu2
          have HFr := hidM (fresh_u hgg1 HX.out.1.go.inv hg1.inv hu1 hu2 (by decide) (by decide))
          clear hd hg1 hgg1 hrs1 hu1 hu2 s0 s1 s2 s3 s4 s5
          obtain ⟨N, hNN⟩ : ∃ N, N = g1.N4 := ⟨_, rfl⟩
          have hNk : N ≤ 200000000 := by rw [hNN, HGG1.out, (setW_rest _ _ _ _).2.2.2.2.2.2.2.1]; have := HX.out.2.c4; omega
          have HN := hidM hNN
          obtain ⟨vo, hvo⟩ : ∃ v, v = g1.v13 := ⟨_, rfl⟩
          have HVo := hidM hvo
          have cf : W1.cell? ⟨c.m, 13, none⟩ = some vo := by rw [hvo]; exact HG1.out.inv.cell rfl
          have hnl : NL 0 W1 105 106 .u32 mk4 g1.v13 g1.N4 g1.R4 g1.l4 := HG1.out.inv.cm .n4
          have HOw : Hid (W1.ownsRow 0 105 1 vo N ((List.range N).map g1.R4)) := by rw [hvo, hNN]; exact hnl.outer
          obtain ⟨V3, hV3⟩ : ∃ V3, W1.alloc (.cells #[.slice uo cnt uc] 105) = V3 := ⟨_, rfl⟩
          have hk3 : Keeps W1 V3 (fun _ => False) := by rw [← hV3]; exact (Keeps.refl _ _).alloc _
          have HK3 := hidM hk3
          have HSr : Hid (Src Try.prog 1 84 (.slice (some ⟨W1.heap.size, 0, none⟩) 1 1) 1 [.slice uo cnt uc] V3) := by rw [← hV3]; exact src1 84 105 Try.underlying84 _ rfl
          have HGr : Hid (∀ (w7 : World) (oo : Option Addr) (oc : Nat), w7.ownsRow 0 105 1 (.slice oo (N + 1) oc) (N + 1) ((List.range N).map g1.R4 ++ [.slice uo cnt uc]) → V3.grownBy w7 vo.ownBlock → ((Value.slice oo (N + 1) oc).ownBlock = vo.ownBlock ∨ ∀ g', (Value.slice oo (N + 1) oc).ownBlock = some g' → V3.heap.size ≤ g') → w7.cell? ⟨c.m, 13, none⟩ = some vo ∧ w7.frozen? ⟨c.m, 13, none⟩ = false ∧ RowDone W1 (w7.setCell ⟨c.m, 13, none⟩ (.slice oo (N + 1) oc)) c.m 13 105 1 (csOf c g1) vo (N + 1) ((List.range N).map g1.R4 ++ [.slice uo cnt uc])) := fun w7 oo oc a1 a2 a3 => RowDone.grown (off := 13) (by decide) HK3.out HG1.out.inv.room (by rw [HVo.out]; rfl) (fun g' e e2 => absurd (e2 ▸ e) (ownN_ne (by decide) HG1.out.inv.room HOw.out)) a1 a2 a3
          have HOw3 := hidM (ownN_kept HOw.out HK3.out fun _ _ => id)
          clear hNN hvo hk3 hnl
          go_wp2_with (with_reducible show wpList Try.prog _ _ (Oper.mk (some 198) _ _ _ _ _ :: _) _ _; refine wpList_append_any (P := Try.prog) _ rfl (.tmp 195) (.tmp 197) 84 84 rfl 105 (.slice none 0 0) 24 Try.underlying84 infoX105 rfl vo N ((List.range N).map g1.R4) rfl HOw3.out (.slice (some ⟨W1.heap.size, 0, none⟩) 1 1) 1 [.slice uo cnt uc] rfl HSr.out (by omega) (by omega) ?_; intro v' w7 ha1 ha2 ha3; obtain ⟨oo, oc, rfl⟩ := ownN_form ha1; obtain ⟨p1, p2, hrd⟩ := HGr.out w7 oo oc ha1 ha2 ha3; replace hrd := hidM hrd; clear ha1 ha2 ha3)
          have hrd' := hrd.out
          generalize w7.setCell ⟨c.m, 13, none⟩ (.slice oo (N + 1) oc) = W2 at hrd' ⊢
          rw [HVo.out, HN.out] at hrd'
          have HRD := hidM hrd'
          obtain ⟨hm1, ⟨oo2, oc2, cf2⟩, hm3, hm4⟩ := HG1.out.inv.mid4 HFr.out HU1.out hrd'
          rw [← HN.out] at cf2
          obtain ⟨N', hN'⟩ : ∃ N', N' = N + 1 := ⟨_, rfl⟩
          rw [← hN'] at cf2
          obtain ⟨z, hz⟩ : ∃ z, IntKind.u32.wrap (N' : Int) = z := ⟨_, rfl⟩
          have HZ : Hid (mk4 g1.N4 = z) := by rw [← hz, hN', HN.out]; rfl
          have HLp0 : Hid (Lp W2 W2 106 .u32 (.slice uo cnt uc) cnt xs z 0 (.slice none 0 0)) := Lp.start hm1 HXL.out
          have HM3 := hidM hm3
          have HM4 := hidM hm4
          have HCf := hidM cf2
          clear hrd hrd' hm1 hm3 hm4 cf2 cf p1 p2 hV3 HGr HOw3 HSr HK3 HOw hN'
          go_wp2_with fail
          go_loopw [16, 26] (fun v p wr => ∃ i : Nat, i ≤ cnt ∧ p = .int .i64 (i : Int) ∧ ∃ go gc, v = .slice go i gc ∧ Hid (Lp W2 wr 106 .u32 (.slice uo cnt uc) cnt xs z i (.slice go i gc))) (fun _ p _ => cnt - (intOf p).toNat)
          case atStart => exact ⟨0, by omega, rfl, none, 0, rfl, HLp0.out⟩
          case round =>
            obtain ⟨i, hi, rfl, go, gc, rfl, HY⟩ := hrel
            clear HLp0
            by_cases hic : i < cnt
            · have hiI : (i : Int) < (cnt : Int) := by omega
              obtain ⟨ub, uc2, hue⟩ := own_some HU1.out (by omega)
              simp only [Value.slice.injEq] at hue
              obtain ⟨rfl, -, rfl⟩ := hue
              obtain ⟨x, hx⟩ : ∃ x, x = xs.getD i 0 := ⟨_, rfl⟩
              have hxw : IntKind.u64.wrap x = x := by rw [hx]; exact HXR.out i hic
              have cl : wr.cell? ⟨ub, i, none⟩ = some (.int .u32 x) := by rw [hx]; exact HY.out.cell hic
              obtain ⟨Va, hVa⟩ : ∃ Va, wr.alloc (.cells #[.int .u64 x] 46) = Va := ⟨_, rfl⟩
              have hka : Keeps wr Va (fun _ => False) := by rw [← hVa]; exact (Keeps.refl _ _).alloc _
              have HSa : Hid (Src Try.prog 1 107 (.slice (some ⟨wr.heap.size, 0, none⟩) 1 1) 1 [.int .u64 x] Va) := by rw [← hVa]; exact src_one46 wr _ rfl
              have HOa : Hid (Va.ownsRow 0 46 1 (.slice go i gc) i ((xs.take i).map (Value.int .u64))) := ownN_kept HY.out.got hka fun _ _ => id
              have HNx : Hid (∀ (w7 : World) (go' : Option Addr) (gc' : Nat), w7.ownsRow 0 46 1 (.slice go' (i + 1) gc') (i + 1) ((xs.take i).map (Value.int .u64) ++ [.int .u64 x]) → Va.grownBy w7 (Value.slice go i gc).ownBlock → ((Value.slice go' (i + 1) gc').ownBlock = (Value.slice go i gc).ownBlock ∨ ∀ b, (Value.slice go' (i + 1) gc').ownBlock = some b → Va.heap.size ≤ b) → (w7.cell? ⟨ub, i, none⟩ = some (.int .u32 x) ∧ w7.frozen? ⟨ub, i, none⟩ = false ∧ w7.cell? ⟨c.m, 13, none⟩ = some (.slice oo2 N' oc2)) ∧ Lp W2 (w7.setCell ⟨ub, i, none⟩ (.int .u32 z)) 106 .u32 (.slice (some ⟨ub, 0, none⟩) cnt uc) cnt xs z (i + 1) (.slice go' (i + 1) gc')) := fun w7 go' gc' a1 a2 a3 => by
                rw [hx] at a1 ⊢
                obtain ⟨q1, q2, q3, q4⟩ := HY.out.next hic HXL.out (HM4.out ub rfl) hka a1 a2 a3
                exact ⟨⟨q1, q2, q3 _ _ HCf.out fun e => HM3.out (by rw [← e]; rfl)⟩, q4⟩
              have hib : i ≤ 1048576 := by omega
              clear hka hx
              go_wp2_with (with_reducible show wpList Try.prog _ _ (Oper.mk (some 214) _ _ _ _ _ :: _) _ _; refine wpList_append_any (P := Try.prog) _ rfl (.tmp 207) (.tmp 213) 107 107 rfl 46 (.int .u64 0) 8 Try.underlying107 info46' rfl (.slice go i gc) i ((xs.take i).map (Value.int .u64)) rfl HOa.out (.slice (some ⟨wr.heap.size, 0, none⟩) 1 1) 1 [.int .u64 x] rfl HSa.out (by omega) (by omega) ?_; intro v' w7 ha1 ha2 ha3; obtain ⟨go', gc', rfl⟩ := ownN_form ha1; obtain ⟨⟨p1, p2, p3⟩, hnx⟩ := HNx.out w7 go' gc' ha1 ha2 ha3; replace hnx := hidM hnx; clear ha1 ha2 ha3 cl)
              exact ⟨⟨i + 1, by omega, by simp, go', gc', rfl, hnx.out⟩, by simp [intOf]; omega⟩
            · have hic' : i = cnt := by omega
              subst hic'
              obtain ⟨W3, rfl⟩ : ∃ W3, W3 = wr := ⟨_, rfl⟩
              obtain ⟨u4, hfin⟩ := HG1.out.inv.fin4 HFr.out HU1.out HZ.out HRD.out HY.out
              have hgo3 := HG1.out.trans hfin (fun b e => .inr (HU2.out b e))
              obtain ⟨g3, hg3⟩ : ∃ g3, g3 = nu4 g1 u4 (.slice uo i uc) i := ⟨_, rfl⟩
              rw [← hg3] at hgo3
              have HGG3 := hidM hg3
              have HT3 : Hid (Tn c g w B #[.slice ao n cap, .int .i64 off, .pointer (q.map fun b => ⟨b, 0, none⟩), .slice ao' n cap', .int .i64 off, .int .i64 who] (.slice wo i wc) i (xs.map (Value.int .u64)) W3 g3) := HX.out.1.next hgo3 (by rw [hg3, nu4_L, HGG1.out, (setW_rest _ _ _ _).2.2.2.1]; exact HX.out.1.L)
              have HGot : Hid (W3.ownsRow 0 46 1 (.slice go i gc) i (xs.map (Value.int .u64))) := by have := HY.out.got; rwa [List.take_of_length_le (by rw [HXL.out]; exact Nat.le_refl _)] at this
              clear hfin hgo3 hg3 HY hi hic HCf
              have hff : (f == f) = true := by simp
              go_wp2_with fail
              go_loopw [30] (fun p wr => ∃ y : Nat, y ≤ i ∧ p = .int .i64 (y : Int) ∧ ∃ dq, wr = W3.drewN dq) (fun p _ => i - (intOf p).toNat)
              case atStart => exact ⟨0, by omega, rfl, 0, rfl⟩
              case round =>
                obtain ⟨y, hy, rfl, dq, rfl⟩ := hrel
                by_cases hyi : y < i
                · have hyI : (y : Int) < (i : Int) := by omega
                  obtain ⟨gb, gc2, hge⟩ := own_some HGot.out (by omega)
                  simp only [Value.slice.injEq] at hge
                  obtain ⟨rfl, -, rfl⟩ := hge
                  obtain ⟨wb, wc2, hwe⟩ := own_some HT3.out.want (by omega)
                  simp only [Value.slice.injEq] at hwe
                  obtain ⟨rfl, -, rfl⟩ := hwe
                  have hy1 : (xs.map (Value.int .u64))[y]? = some (.int .u64 (xs.getD y 0)) := by simp [List.getElem?_eq_getElem (show y < xs.length by rw [HXL.out]; exact hyi)]
                  have h1 := HGot.out.cells (g := gb) rfl y _ hy1
                  have h2 := HT3.out.want.cells (g := wb) rfl y _ hy1
                  rw [add_lit0] at h1 h2
                  obtain ⟨zz, hzz⟩ : ∃ zz, zz = xs.getD y 0 := ⟨_, rfl⟩
                  rw [← hzz] at h1 h2
                  clear hzz hy1
                  go_wp2
                  go_quiet (fail)
                  go_wp2
                  go_roundw
                  case rel => exact ⟨y + 1, by omega, by go_num, dq + nq, rfl⟩
                  case measure => simp [intOf]; omega
                · have HT4 : Hid (Tn c g w B #[.slice ao n cap, .int .i64 off, .pointer (q.map fun b => ⟨b, 0, none⟩), .slice ao' n cap', .int .i64 off, .int .i64 who] (.slice wo i wc) i (xs.map (Value.int .u64)) (W3.drewN dq) g3) := HT3.out.next (HT3.out.go.inv.rest0 ((Keeps.refl _ _).drewN dq)) HT3.out.L
                  generalize W3.drewN dq = W4 at HT4 ⊢
                  clear HT3 HGot hy hff
                  obtain ⟨s0, s1, s2, s3, s4, s5⟩ := boxCells6 HT4.out.box
                  by_cases hf : f = 0
                  · obtain ⟨ha, hb, hab⟩ := HIN.out hf
                    subst hf
                    subst ha
                    subst hb
                    obtain ⟨cw, hcw⟩ : ∃ cw : Nat, cw = i * 4 := ⟨_, rfl⟩
                    have hcwn : a' + cw ≤ n := by rw [hcw]; exact hab
                    have HRS' : Hid (rs1 = tellR (qOf c who) (wOf g' who) (off + a') (off + a' + (cw : Nat))) := hidM (by rw [HRS.out, if_pos rfl, hcw])
                    have hmul : IntKind.i64.wrap ((i : Int) * 4) = (cw : Int) := by rw [IntKind.wrap_i64, hcw]; push_cast; omega
                    clear hcw hab
                    go_wp2_with fail
                    go_at_call 42
                    have ht := reads_td c g3 (.slice ao n cap) (.int .i64 off) (.pointer (q.map fun b => ⟨b, 0, none⟩)) (.slice ao' n cap') off who a' cw W4 hw (by omega) (HT4.out.go.inv.cm .room) (HT4.out.go.inv.cm .t1) (HT4.out.go.inv.cm .t2) (by rw [HGG3.out, (nu4_t _ _ _ _).1, HGG1.out, (setW_rest _ _ _ _).1]; have := HX.out.2.b1; omega) (by rw [HGG3.out, (nu4_t _ _ _ _).2, HGG1.out, (setW_rest _ _ _ _).2.1]; have := HX.out.2.b2; omega)
                    refine Calls.mono ht ?_
                    clear ht
                    rintro e w5 ⟨rfl, ht2⟩
                    obtain ⟨u5, hg5⟩ := Inv.td hw HT4.out.go.inv ht2
                    have HOk5 : Hid (Ok c (setT g3 who u5 (tellR (qOf c who) (tOf g3 who) (off + a') (off + a' + (cw : Nat)))) (k + 2 * j + 1 + 1)) := by
                      rw [HGG3.out, HGG1.out, nu4_setW, tOf_setW, HRS'.out, ← wOf_nu4 g' u4 (.slice uo i uc) i]
                      exact (HX.out.2.nl4 hcnt).told hw
                    have HT5 := hidM (HT4.out.next hg5 (by rw [(setT_rest _ _ _ _).2.1]; exact HT4.out.L))
                    clear ht2 hg5 s0 s1 s2 s3 s4 s5
                    go_wp2_with fail
                    exact ⟨⟨j + 1, by omega, by simp, _, HT5.out, HOk5.out.mono (by omega)⟩, by simp [intOf]; omega⟩
                  · have HOk5 : Hid (Ok c g3 (k + 2 * j + 1)) := by
                      rw [HGG3.out, HGG1.out, nu4_setW, HRS.out, if_neg hf, ← wOf_nu4 g' u4 (.slice uo i uc) i]
                      exact (HX.out.2.nl4 hcnt).same hw
                    go_wp2_with fail
                    exact ⟨⟨j + 1, by omega, by simp, _, HT4.out, HOk5.out.mono (by omega)⟩, by simp [intOf]; omega⟩
        · have hj2' : j = 2 := by omega
          subst hj2'
          go_wp2_with fail
          go_ret
          exact ⟨rfl, g', HX.out.1.go, HX.out.2⟩
end Go.Proofs.Ytomlndoffoeaiaa.Kit
