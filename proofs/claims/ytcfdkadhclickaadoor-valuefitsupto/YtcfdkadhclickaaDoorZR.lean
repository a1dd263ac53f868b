import Derived.Test.YtcfdkadhclickaaDoorZY
namespace Go.Proofs.YtcfdkadhclickaaDoor.Kit
open Go.RowKit Go.Shelf Go.Deep
set_option linter.unusedVariables false
attribute [local go_sem] run_store_func

/-! ### Apart 16 -/
theorem BkV.ne {W : World} {K : Nat} {vb : Nat} {vc : Nat} {rs : List ZR} {mo : Option Addr} {M mc : Nat} (h : BkV W K (some ⟨vb, 0, none⟩) vc rs mo M mc) : vb ≠ K := fun q => by
  subst q
  rcases h.own.2 with ⟨e, _⟩ | ⟨g, cap, cur, e, _, hg, _⟩
  · cases e
  · cases e
    rw [h.box] at hg
    simp at hg
theorem ZR.own.row {W : World} {lo hi : Nat} {r : ZR} (h : r.own W lo hi) : ∃ xs, W.ownsRow 0 29 4 (.slice r.1 r.2.1 r.2.2) r.2.1 xs := by
  rcases h with ⟨h0, h1, h2⟩ | ⟨b, cur, h0, _, _, h3, h4, h5, h6, _⟩
  · exact ⟨[], by rw [h0, h1, h2]; exact ⟨rfl, .inl ⟨rfl, rfl⟩⟩⟩
  · refine ⟨cur.toList.take (r.2.1 * 4), ?_, .inr ⟨b, r.2.2, cur, by rw [h0], Nat.zero_le _, h3, h5, h6, h4, rfl⟩⟩
    rw [List.length_take, Array.length_toList]
    omega
set_option maxRecDepth 100000 in
set_option maxHeartbeats 4000000 in
theorem apart16 {W : World} {K lo hi : Nat} {vo : Option Addr} {vc : Nat} {rs : List ZR} (hb : BkV W K vo vc rs none 0 0) (hr : RowsIn W lo hi rs) (hK : hi ≤ K) (hv : ∀ g, (Value.slice vo rs.length vc).ownBlock = some g → hi ≤ g) (hh : hi ≤ W.heap.size) (hn : rs.length ≤ 1000000000) :
    Calls Tryd.prog 16 #[.pointer (some ⟨K, 0, none⟩)] W (fun e w' => e = .returned (.bool true) ∧ Keeps W w' (fun z => lo ≤ z ∧ z < hi ∨ z = K)) := by
  have HB := hidM hb
  have HR := hidM hr
  have HN := hidM (And.intro hK (And.intro hv (And.intro hh hn)))
  obtain ⟨n, hnn⟩ : ∃ n, n = rs.length := ⟨_, rfl⟩
  have HE := hidM hnn
  have hn' : n ≤ 1000000000 := by omega
  clear hb hr hK hv hh hn hnn
  go_enter Tryd.func16, Tryd.ntmps16
  go_wp2
  go_loopw [3] (fun p wr => ∃ i : Nat, i ≤ n ∧ p = .int .i64 (i : Int) ∧ Hid (ApA W wr lo hi rs i 0)) (fun p _ => n - (intOf p).toNat)
  case atStart => exact ⟨0, by omega, rfl, ApA.begin HR.out⟩
  case round =>
    obtain ⟨i, hi', rfl, HA⟩ := hrel
    have kK : wr.heap[K]? = W.heap[K]? := HA.out.kp.block K (lt_of_heap HB.out.box) (by have := HN.out.1; omega)
    have k0 : wr.cell? ⟨K, 0, none⟩ = some (.slice vo n vc) := by rw [HE.out]; simp [World.cell?, kK, HB.out.box]
    have k2 : wr.cell? ⟨K, 2, none⟩ = some (.slice none 0 0) := by simp [World.cell?, kK, HB.out.box]
    clear kK
    by_cases hlt : i < n
    · have hltI : (i : Int) < (n : Int) := by omega
      have hil : i < rs.length := HE.out ▸ hlt
      obtain ⟨vb, evb, hc⟩ := HB.out.at_ hil
      subst evb
      have hvb : ¬ (lo ≤ vb ∧ vb < hi) := fun q => by have := HN.out.2.1 vb (by simp [Value.ownBlock]); omega
      have c0 : wr.cell? ⟨vb, i, none⟩ = some (.slice rs[i].1 rs[i].2.1 rs[i].2.2) := by
        exact HA.out.kp.cell' hc hvb
      obtain ⟨ro, hro⟩ : ∃ r, r = rs[i].1 := ⟨_, rfl⟩
      obtain ⟨rl, hrl⟩ : ∃ r, r = rs[i].2.1 := ⟨_, rfl⟩
      obtain ⟨rc, hrc⟩ : ∃ r, r = rs[i].2.2 := ⟨_, rfl⟩
      rw [← hro, ← hrl, ← hrc] at c0
      have HQ := hidM (And.intro hro (And.intro hrl hrc))
      have HC := hidM (And.intro hvb hc)
      have hrlb : rl ≤ 1000000000000 := by
        rcases HR.out.own _ (List.getElem_mem hil) with ⟨_, q, _⟩ | ⟨_, _, _, _, _, _, _, _, _, q⟩
        · omega
        · unfold big at q; omega
      clear hc hvb hro hrl hrc
      go_wp2
      go_loopw [4] (fun p w2 => ∃ k : Nat, k ≤ rl ∧ p = .int .i64 (k : Int) ∧ Hid (ApA W w2 lo hi rs i k)) (fun p _ => rl - (intOf p).toNat)
      case atStart => exact ⟨0, by omega, rfl, HA.out⟩
      case round =>
        obtain ⟨k, hk, rfl, HA2⟩ := hrel
        have kK : wr.heap[K]? = W.heap[K]? := HA2.out.kp.block K (lt_of_heap HB.out.box) (by have := HN.out.1; omega)
        have k0 : wr.cell? ⟨K, 0, none⟩ = some (.slice (some ⟨vb, 0, none⟩) n vc) := by rw [HE.out]; simp [World.cell?, kK, HB.out.box]
        have c0 : wr.cell? ⟨vb, i, none⟩ = some (.slice ro rl rc) := by
          have := HA2.out.kp.cell' HC.out.2 HC.out.1
          rwa [← HQ.out.1, ← HQ.out.2.1, ← HQ.out.2.2] at this
        clear kK
        by_cases hkl : k < rl
        · have hklI : (k : Int) < (rl : Int) := by omega
          obtain ⟨rb, cur, erb, hlo, hhi, hrow, hcs, hle, hcm, _⟩ := (HA2.out.rows.own _ (List.getElem_mem hil)).resolve_left (fun q => by have := q.2.1; have := HQ.out.2.1; omega)
          have ero : ro = some ⟨rb, 0, none⟩ := HQ.out.1.trans erb
          have hkc : k < rs[i].2.2 := by have := HQ.out.2.1; omega
          have hx : ∀ j, j < 4 → ∃ x, wr.cell? ⟨rb, k * 4 + j, none⟩ = some x := fun j hj => ⟨cur[k * 4 + j]'(by omega), by simp [World.cell?, hrow, show k * 4 + j < cur.size by omega]⟩
          obtain ⟨x0, e0⟩ := hx 0 (by omega)
          obtain ⟨x1, e1⟩ := hx 1 (by omega)
          obtain ⟨x2, e2⟩ := hx 2 (by omega)
          obtain ⟨x3, e3⟩ := hx 3 (by omega)
          rw [Nat.add_zero] at e0
          have z0 := frz hrow (k * 4)
          have z1 := frz hrow (k * 4 + 1)
          have z2 := frz hrow (k * 4 + 2)
          have z3 := frz hrow (k * 4 + 3)
          have HW := hidM (HA2.out.write hil erb ⟨hlo, hhi⟩ hrow hcs hkc)
          subst ero
          have hw : wrap64 (1000 + (i : Int)) = 1000 + (i : Int) := by unfold wrap64; omega
          clear hx hrow hcs hle hcm hkc erb hlo hhi
          go_wp2
          go_roundw
          case rel => exact ⟨k + 1, by omega, by simp, HW.out⟩
          case measure => simp [intOf]; omega
        · have hkn : k = rl := by omega
          subst hkn
          go_wp2
          go_roundw
          case rel => exact ⟨i + 1, by omega, by simp, ApA.next hil (HQ.out.2.1 ▸ HA2.out)⟩
          case measure => simp [intOf]; omega
    · have hkn : n = i := by omega
      rw [← hkn] at HA ⊢
      clear hkn hi' hlt
      go_wp2
      obtain ⟨w1, hw1⟩ : ∃ w1, w1 = wr := ⟨_, rfl⟩
      rw [← hw1] at HA k0 k2 ⊢
      clear hw1
      go_loopw [5] (fun p wr => p = .int .i64 0 ∧ wr = w1) (fun _ _ => 0)
      case atStart => exact ⟨rfl, rfl⟩
      case round =>
        obtain ⟨rfl, rfl⟩ := hrel
        go_wp2
        clear k0 k2
        go_loopw [7] (fun p wr => ∃ (i : Nat) (mo : Option Addr) (mc : Nat) (ms : List ZR), i ≤ n ∧ p = .int .i64 (i : Int) ∧ Hid (Ap7 W wr K lo hi vo vc rs i mo mc ms)) (fun p _ => n - (intOf p).toNat)
        case atStart => exact ⟨0, none, 0, [], by omega, rfl, Ap7.begin HB.out HN.out.1 (HE.out ▸ HA.out)⟩
        case round =>
          obtain ⟨i, mo, mc, ms, hi', rfl, H7⟩ := hrel
          have k0 : wr.cell? ⟨K, 0, none⟩ = some (.slice vo n vc) := by rw [HE.out]; simp [World.cell?, H7.out.box]
          have k2 : wr.cell? ⟨K, 2, none⟩ = some (.slice none 0 0) := by simp [World.cell?, H7.out.box]
          by_cases hlt : i < n
          · have hltI : (i : Int) < (n : Int) := by omega
            have hil : i < rs.length := HE.out ▸ hlt
            obtain ⟨vb, evb, hc⟩ := HB.out.at_ hil
            subst evb
            have hvb : ¬ (lo ≤ vb ∧ vb < hi ∨ vb = K) := fun q => by
              have := HN.out.2.1 vb (by simp [Value.ownBlock])
              have := HB.out.ne
              omega
            have c0 : wr.cell? ⟨vb, i, none⟩ = some (.slice rs[i].1 rs[i].2.1 rs[i].2.2) := H7.out.kp.cell' hc hvb
            obtain ⟨xs, hown⟩ := (H7.out.rest i hil (Nat.le_refl _)).row
            have hsafe := H7.out.safe HR.out HN.out.2.2.1 hil
            have hrlb : rs[i].2.1 ≤ 1000000000000 := by
              rcases HR.out.own _ (List.getElem_mem hil) with ⟨_, q, _⟩ | ⟨_, _, _, _, _, _, _, _, _, q⟩
              · omega
              · unfold big at q; omega
            obtain ⟨ro, hro⟩ : ∃ r, r = rs[i].1 := ⟨_, rfl⟩
            obtain ⟨rl, hrl⟩ : ∃ r, r = rs[i].2.1 := ⟨_, rfl⟩
            obtain ⟨rc, hrc⟩ : ∃ r, r = rs[i].2.2 := ⟨_, rfl⟩
            have hval : ZR.val rs[i] = .slice ro rl rc := by rw [ZR.val, ← hro, ← hrl, ← hrc]
            rw [hval, ← hrl] at hsafe
            rw [← hro, ← hrl, ← hrc] at c0 hown
            rw [← hrl] at hrlb
            have HQ := hidM (And.intro hro (And.intro hrl (And.intro hrc hval)))
            have HO := hidM (And.intro hown hsafe)
            have hw : wrap64 (1000 + (i : Int)) = 1000 + (i : Int) := by unfold wrap64; omega
            have h63 : rl + 1 ≤ 9223372036854775807 := by omega
            have h56 : (rl + 1) * 56 ≤ 140737488355328 := by omega
            clear hc hvb hro hrl hrc hval hown hsafe
            go_wp2_with (at_builtin; refine Hid.out ?_)
            unfold Hid
            refine wpList_append_twoN _ rfl (.tmp 99) (.tmp 103) 27 27 rfl 29 _ 4 56 Tryd.underlying27 info29 rfl (.slice ro rl rc) rl xs rfl (row_kp HO.out.1 fun g e => Below.heap_alloc wr _ g (own_lt HO.out.1 g e)) _ 1 (by omega) _ rfl (src_val wr _ _ _ _ rfl rfl rfl rfl) h63 h56 ?_
            intro v8 w2 own8 alt8
            have hq := HQ.out
            have hfst := H7.out.first HR.out HN.out.2.2.1 hil (xs := xs) (v8 := v8) (w2 := w2) (by rw [hq.2.2.2, ← hq.2.1]; exact HO.out.1) (by rw [← hq.2.1]; exact own8) (by rw [hq.2.2.2]; exact alt8)
            obtain ⟨b8, c8, ev8, kk2, h8, mk2, sf2⟩ := hfst
            rw [← hq.2.1] at ev8 mk2 sf2
            subst ev8
            obtain ⟨m1, m2, _, _⟩ := H7.out.mid HR.out HN.out.1 HN.out.2.2.1 hil kk2
            have HF := hidM (And.intro kk2 (And.intro h8 (And.intro mk2 (And.intro sf2 (And.intro m1 (And.intro m2 own8))))))
            have y1 : w2.cell? ⟨K, 1, none⟩ = some (.slice mo i mc) := by simp [World.cell?, m1]
            have h63' : i + 1 ≤ 9223372036854775807 := by omega
            have h24 : (i + 1) * 24 ≤ 140737488355328 := by omega
            clear hq kk2 h8 mk2 sf2 m1 m2 own8 alt8 k0 k2 c0 HO h63 h56
            go_wp2_with (at_builtin; refine Hid.out ?_)
            unfold Hid
            refine wpList_append_any _ rfl (.tmp 109) (.tmp 111) 40 40 rfl 27 (.slice none 0 0) 24 Tryd.underlying40 info27 rfl (.slice mo i mc) i (ms.map ZR.val) rfl (row_kp HF.out.2.2.2.2.2.1 fun g e => Below.heap_alloc w2 _ g (own_lt HF.out.2.2.2.2.2.1 g e)) _ 1 [.slice (some ⟨b8, 0, none⟩) (rl + 1) c8] rfl (src_row1 w2 _ rfl) h63' h24 ?_
            intro v' w3 own3 hgr hor
            obtain ⟨f1, f2, f3, f4, f5, f6, f7⟩ := HF.out
            obtain ⟨mo', mc', ev', hb3, H7', st⟩ := H7.out.push HR.out HN.out.1 (lt_of_heap HB.out.box) HN.out.2.2.1 hrlb hil f1 f2 f3 own3 hgr hor
            subst ev'
            have y0 : w3.cell? ⟨K, 1, none⟩ = some (.slice mo i mc) := by simp [World.cell?, hb3]
            have z0 := frz hb3 1
            obtain ⟨wA, hwA⟩ : ∃ wA, w3.setCell ⟨K, 1, none⟩ (.slice mo' (i + 1) mc') = wA := ⟨_, rfl⟩
            rw [hwA] at H7' st
            have H9 : Hid (Ap9 wA wA (mkl rs ++ mkl (ms ++ [(some ⟨b8, 0, none⟩, rl + 1, c8)])) b8 (rl + 1) 0 (.slice (some ⟨b8, 0, none⟩) (rl + 1) c8)) := by
              refine Ap9.begin (xs := _) (row_kp f7 fun g e => ?_) H7'.mks ?_
              · simp [Value.ownBlock] at e
                subst e
                rcases f7.2 with ⟨q, _⟩ | ⟨g', cap, cur', q, _, hg', _⟩
                · cases q
                · cases q; exact st _ _ hg'
              · rw [mkl_push, H7.out.len, ← List.append_assoc]; exact f4
            have HA7 := hidM H7'
            have HWA := hidM hwA
            clear f1 f2 f3 f4 f5 f6 f7 own3 hgr hor hb3 H7' st hwA HF y1 h63' h24
            go_wp2_with fail
            rw [HWA.out]
            clear y0 z0 HWA
            go_loopw [8, 9] (fun p8 p9 wr => ∃ k : Nat, k ≤ 6 ∧ p9 = .int .i64 (k : Int) ∧ Hid (Ap9 wA wr (mkl rs ++ mkl (ms ++ [(some ⟨b8, 0, none⟩, rl + 1, c8)])) b8 (rl + 1) k p8)) (fun _ p _ => 6 - (intOf p).toNat)
            case atStart => exact ⟨0, by omega, rfl, H9.out⟩
            case round =>
              obtain ⟨k, hk, rfl, HI⟩ := hrel
              by_cases hkl : k < 6
              · have hklI : (k : Int) < 6 := by omega
                obtain ⟨ys, hys⟩ := HI.out.own
                obtain ⟨a9, c9, rfl⟩ := own_formN hys
                have HY := hidM hys
                have h63 : rl + 1 + k + 1 ≤ 9223372036854775807 := by omega
                have h56 : (rl + 1 + k + 1) * 56 ≤ 140737488355328 := by omega
                clear hys
                go_wp2_with (at_builtin; refine Hid.out ?_)
                unfold Hid
                refine wpList_append_twoN _ rfl (.tmp 119) (.tmp 123) 27 27 rfl 29 _ 4 56 Tryd.underlying27 info29 rfl (.slice a9 (rl + 1 + k) c9) (rl + 1 + k) ys rfl (row_kp HY.out fun g e => Below.heap_alloc wr _ g (own_lt HY.out g e)) _ 1 (by omega) _ rfl (src_val wr _ _ _ _ rfl rfl rfl rfl) h63 h56 ?_
                intro v9 w9 hown9 alt9
                have H9' := hidM (HI.out.next (i := i) HY.out hown9 alt9)
                clear hown9 alt9 HY
                go_wp2_with fail
                go_roundw
                case rel => exact ⟨k + 1, by omega, by simp, H9'.out⟩
                case measure => simp [intOf]; omega
              · have hk6 : k = 6 := by omega
                subst hk6
                go_wp2
                go_roundw
                case rel => exact ⟨i + 1, mo', mc', _, by omega, by simp, HA7.out.grow HR.out HN.out.2.2.1 ⟨b8, rfl⟩ (HI.out.kp.mono fun z _ q => by rw [q]; rfl) HI.out.mks⟩
                case measure => simp [intOf]; omega
          · have hkn : n = i := by omega
            rw [← hkn] at H7 ⊢
            clear hkn hi' hlt
            go_wp2
            obtain ⟨wB, hwB⟩ : ∃ wB, wB = wr := ⟨_, rfl⟩
            rw [← hwB] at H7 k0 k2 ⊢
            clear hwB
            go_loopw [10] (fun p wr => p = .int .i64 0 ∧ wr = wB) (fun _ _ => 0)
            case atStart => exact ⟨rfl, rfl⟩
            case round =>
              obtain ⟨rfl, rfl⟩ := hrel
              go_wp2
              have y0 := k0
              have y1 : wr.cell? ⟨K, 1, none⟩ = some (.slice mo n mc) := by simp [World.cell?, H7.out.box]
              have y2 := k2
              have y3 : wr.cell? ⟨K, 3, none⟩ = some (.slice none 0 0) := by simp [World.cell?, H7.out.box]
              have HY := hidM (And.intro y0 (And.intro y1 (And.intro y2 y3)))
              clear k0 k2 y0 y1 y2 y3
              obtain ⟨wC, hwC⟩ : ∃ wC, wC = wr := ⟨_, rfl⟩
              rw [← hwC] at H7 HY ⊢
              clear hwC
              go_loopw [13] (fun p w4 => ∃ j : Nat, j ≤ n ∧ p = .int .i64 (j : Int) ∧ Hid (Gr wC w4)) (fun p _ => n - (intOf p).toNat)
              case atStart => exact ⟨0, by omega, rfl, Keeps.refl _ _⟩
              case round =>
                obtain ⟨j, hj', rfl, HG⟩ := hrel
                have k0 := gr_c HG.out HY.out.1
                have k1 := gr_c HG.out HY.out.2.1
                have k2 := gr_c HG.out HY.out.2.2.1
                by_cases hlt : j < n
                · have hltI : (j : Int) < (n : Int) := by omega
                  have hjl : j < rs.length := HE.out ▸ hlt
                  have hjm : j < ms.length := H7.out.len.symm ▸ hlt
                  obtain ⟨vb, evb, hc⟩ := HB.out.at_ hjl
                  obtain ⟨mb, emb, hd⟩ := H7.out.at2 hjm
                  subst evb emb
                  have hvb : ¬ (lo ≤ vb ∧ vb < hi ∨ vb = K) := fun q => by
                    have := HN.out.2.1 vb (by simp [Value.ownBlock])
                    have := HB.out.ne
                    omega
                  have c0 := gr_c HG.out (H7.out.kp.cell' hc hvb)
                  have d0 := gr_c HG.out hd
                  have r1 : rs[j].2.1 ≤ 2000000000000 := by
                    rcases HR.out.own _ (List.getElem_mem hjl) with ⟨_, q, _⟩ | ⟨_, _, _, _, _, _, _, _, _, q⟩
                    · omega
                    · unfold big at q; omega
                  have r2 : ms[j].2.1 ≤ 2000000000000 := by have := H7.out.mlen _ (List.getElem_mem hjm); omega
                  have m1 := (H7.out.mks _ (List.mem_append.2 (.inl (mem_mkl.2 ⟨j, hjl, rfl⟩)))).1
                  have m2 := (H7.out.mks _ (List.mem_append.2 (.inr (mem_mkl.2 ⟨j, hjm, rfl⟩)))).1
                  have V1 := hidM (valued38 rs[j].1 rs[j].2.1 rs[j].2.2 j wC r1 (by omega) m1)
                  have V2 := hidM (valued38 ms[j].1 ms[j].2.1 ms[j].2.2 j wC r2 (by omega) m2)
                  obtain ⟨a1, ha1⟩ : ∃ r, r = rs[j].1 := ⟨_, rfl⟩
                  obtain ⟨a2, ha2⟩ : ∃ r, r = rs[j].2.1 := ⟨_, rfl⟩
                  obtain ⟨a3, ha3⟩ : ∃ r, r = rs[j].2.2 := ⟨_, rfl⟩
                  obtain ⟨e1, he1⟩ : ∃ r, r = ms[j].1 := ⟨_, rfl⟩
                  obtain ⟨e2, he2⟩ : ∃ r, r = ms[j].2.1 := ⟨_, rfl⟩
                  obtain ⟨e3, he3⟩ : ∃ r, r = ms[j].2.2 := ⟨_, rfl⟩
                  rw [← ha1, ← ha2, ← ha3] at c0 V1
                  rw [← he1, ← he2, ← he3] at d0 V2
                  clear hc hd hvb r1 r2 m1 m2 ha1 ha2 ha3 he1 he2 he3
                  go_wp2_with (go_at_call 38; refine Hid.out ?_)
                  unfold Hid
                  refine Calls.mono (V1.out _ HG.out) ?_
                  rintro e w5 ⟨rfl, hg5⟩
                  have HG5 := hidM (HG.out.trans hg5 (fun _ _ h => h))
                  have k1' := gr_c hg5 k1
                  have d0' := gr_c hg5 d0
                  clear hg5 k0 k1 k2 c0 d0
                  go_wp2_with (go_at_call 38; refine Hid.out ?_)
                  unfold Hid
                  refine Calls.mono (V2.out _ HG5.out) ?_
                  rintro e w6 ⟨rfl, hg6⟩
                  have HG6 := hidM (HG5.out.trans hg6 (fun _ _ h => h))
                  clear hg6 k1' d0'
                  go_wp2_with fail
                  go_roundw
                  case rel => exact ⟨j + 1, by omega, by simp, HG6.out⟩
                  case measure => simp [intOf]; omega
                · go_wp2
                  obtain ⟨wD, hwD⟩ : ∃ wD, wD = wr := ⟨_, rfl⟩
                  rw [← hwD] at HG k2 ⊢
                  clear hwD k0 k1
                  go_loopw [16] (fun p w4 => p = .int .i64 0 ∧ w4 = wD) (fun _ _ => 0)
                  case atStart => exact ⟨rfl, rfl⟩
                  case round =>
                    obtain ⟨rfl, rfl⟩ := hrel
                    go_wp2
                    go_ret
                    exact ⟨rfl, H7.out.kp.trans HG.out (fun _ _ h => h.elim)⟩
end Go.Proofs.YtcfdkadhclickaaDoor.Kit
namespace Go.Proofs.YtcfdkadhclickaaDoor.Kit
open Go.RowKit Go.Shelf Go.Deep
set_option linter.unusedVariables false

/-! ### the book of two zero values -/
/-- the first value's lists lie in blocks that are new -/
theorem VsQ.new {W w1 : World} {K : Nat} {vo1 : Option Addr} {vc1 : Nat} {rs1 : List ZR} {lo hi c1 : Nat} (q1 : VsQ W K none 0 [] none 0 0 lo hi c1 w1 vo1 vc1 rs1) : ∀ g, (Value.slice vo1 rs1.length vc1).ownBlock = some g → W.heap.size ≤ g := fun g e => by
  rcases q1.own with q | q
  · have e' : (Value.slice vo1 ([] ++ rs1).length vc1).ownBlock = some g := e
    rw [q] at e'
    simp [Value.ownBlock] at e'
  · exact q g e
/-- behind both: Apart answers true, and neither value's neighbours are written -/
theorem book_apart {W w1 w2 : World} {K : Nat} {vo1 vo2 : Option Addr} {vc1 vc2 : Nat} {rs1 rs2 : List ZR} {lo hi lo2 hi2 c1 c2 : Nat} (q1 : VsQ W K none 0 [] none 0 0 lo hi c1 w1 vo1 vc1 rs1) (q2 : VsQ w1 K vo1 vc1 rs1 none 0 0 lo2 hi2 c2 w2 vo2 vc2 rs2)
    (h1 : lo ≤ hi) (h2 : hi ≤ lo2) (h3 : lo2 ≤ hi2) (h4 : hi2 ≤ K) (h5 : K < W.heap.size) (hc : c1 + c2 ≤ 1000000000) :
    Keeps W w2 (fun z => z = K) ∧ Calls Tryd.prog 16 #[.pointer (some ⟨K, 0, none⟩)] w2 (fun e w' => e = .returned (.bool true) ∧ Keeps w2 w' (fun z => lo ≤ z ∧ z < hi2 ∨ z = K)) := by
  have n1 := q1.new
  have s1 := q1.kp.size
  have s2 := q2.kp.size
  have k12 : Keeps W w2 (fun z => z = K) := by
    refine (q1.kp.mono fun z _ e => ?_).trans q2.kp fun z hz e => ?_
    · rcases e with e | e
      · exact e
      · simp [Value.ownBlock] at e
    · rcases e with e | e
      · exact e
      · have := n1 z e; omega
  refine ⟨k12, apart16 q2.bk ?_ h4 (fun g e => ?_) (by omega) ?_⟩
  · refine RowsIn.append (q1.rows.kept fun b g1 g2 => q2.kp.block b (by omega) (fun e => ?_)) q2.rows (fun b g1 g2 q => by omega) (Nat.le_refl _) (by omega) (by omega) (Nat.le_refl _)
    rcases e with e | e
    · omega
    · have := n1 b e; omega
  · rcases q2.own with q | q
    · have := n1 g (q ▸ e); omega
    · have := q g e; omega
  · have := q1.len
    have := q2.len
    rw [List.length_append]
    omega
end Go.Proofs.YtcfdkadhclickaaDoor.Kit
