import Derived.Test.YtemleibpmaclmaaXD
namespace Go.Proofs.Ytemleibpmaclmaa.Kit
open Go.RowKit Go.Shelf Go.Deep
set_option linter.unusedVariables false

/-- blocks of nobody have changed -/
theorem Two.kpAll {w W V : World} {p x K lm lb : Nat} {s : Sc} {sh : Bool} {hd : Int} {F : List UInt8} {shD : Bool} {A : Nat} {last : Bool} {fo : Option Addr} {fc n : Nat} {R : Nat → Row} {wo : Option Addr} {wc : Nat} {N : Nat} {ao : Option Addr} {ac : Nat} {bo : Option Addr} {bc : Nat} {R' Q : Nat → Row} {D : Nat → List UInt8} {S : Nat → Prop} (h : Two w W p x K lm lb s sh hd F shD A last fo fc n R wo wc N ao ac bo bc R' Q D) (k : Keeps W V S) (hS : ∀ g, S g → w.heap.size ≤ g) (h1 : ∀ g, RIs p s.ms.length R wo wc g → ¬ S g) (h2 : ∀ g, DIs x fo g → ¬ S g) (h3 : ∀ g, h.bk.Is g → ¬ S g) (h4 : ∀ j X o, j < N → (Q j).1 = some ⟨X, o, none⟩ → D j ≠ [] → ¬ S X) :
    Two w V p x K lm lb s sh hd F shD A last fo fc n R wo wc N ao ac bo bc R' Q D := by
  have gw : Gr w V := h.rd.gr.trans k (fun j hj e => by have := hS j e; omega)
  exact ⟨h.rd.kp (fun g r => k.block g (h.rd.lt r) (h1 g r)) gw, h.dr.kp fun g r => k.block g (h.dr.lt r) (h2 g r), h.bk.kp (fun g r => k.block g (h.bk.lt r) (h3 g r)) gw, h.rxd, h.rxb, h.dxb, fun j hj => ⟨fun hn => ((h.wants j hj).bytes.keep k (fun X o e => h4 j X o hj e hn)) hn, fun X o e dn => ((h.wants j hj).typ X o e dn).keep k (h4 j X o hj e dn), (h.wants j hj).rd, (h.wants j hj).bk, (h.wants j hj).fo⟩⟩
/-- the step Feed -/
theorem Jn.feed2 {w W V : World} {p x K lm lb i m c g0 ca : Nat} {q : List UInt8} (h : Jn w W p x K lm lb i m c) (hlm : lm ≤ 65536) (hlb : lb ≤ 4194304) (hm : m + q.length ≤ 4000000000) (gV : Gr W V) (hg0 : W.heap.size ≤ g0) (hq : BytesAt V (some ⟨g0, 0, none⟩) q) (hca : q.length ≤ ca) (hcm : ca ≤ 9223372036854775807) :
    ∃ z : Int, Calls Try.prog 20 #[.pointer (some ⟨p, 0, none⟩), .slice (some ⟨g0, 0, none⟩) q.length ca] V fun e V1 => e = .returned (.int .i64 z) ∧ Keeps V V1 (fun g => w.heap.size ≤ g ∧ g < W.heap.size) ∧ ∀ ao cb, BytesAt V1 ao q → Calls Try.prog 21 #[.pointer (some ⟨x, 0, none⟩), .slice ao q.length cb] V1 fun e V2 => e = .returned (.int .i64 z) ∧ Keeps V1 V2 (fun g => w.heap.size ≤ g ∧ g < W.heap.size) ∧ ∀ V3, Keeps V2 V3 (fun g => W.heap.size ≤ g ∧ g < V.heap.size) → Jn w V3 p x K lm lb i (m + q.length) c := by
  obtain ⟨F, sh, A, last, n, N, hd, ⟨fo, fc, R, wo, wc, ao, ac, bo, bc, R', Q, D, t⟩, r1, r2, r3, r4, r5⟩ := h
  have tV := t.grow gV
  obtain ⟨k1, k2⟩ := docS_ok hlm hlb last (F.drop A)
  rw [List.length_drop, t.dr.len] at k2
  have hok : (docS lm lb last (F.drop A)).e ≠ 0 ∨ (PreOk (docS lm lb last (F.drop A)) ∧ 0 < (docS lm lb last (F.drop A)).left) := k1.imp And.left id
  have h20 := feed_any tV.rd hq hca hcm (fun X o e r => by cases e; have := t.rd.lt r; omega) (by omega) (by omega) hok (by omega)
  cases sh
  · refine ⟨0, h20.mono ?_⟩
    rintro e V1 z
    simp only [Bool.false_eq_true, if_false] at z
    obtain ⟨rfl, R2, wo2, wc2, f⟩ := z
    have tw := tV.prog f
    refine ⟨rfl, f.kp.mono fun b _ r => ⟨tV.rd.news r, t.rd.lt r⟩, fun ao' cb hb => (docFeed_any tw.dr hb rfl (by omega) tw.rd.gr.size).mono ?_⟩
    rintro e V2 z
    simp only [Bool.false_eq_true, if_false] at z
    obtain ⟨rfl, fo', fc', d, k, bl, st⟩ := z
    have t2 := tw.docFed d k bl st
    refine ⟨rfl, k.mono fun b _ r => ?_, fun V3 k3 => ?_⟩
    rotate_left
    · have t3 := t2.kpAll k3 (fun g s => by have := t.rd.gr.size; omega) (fun g r s => by
          rcases f.bk g r with z | z
          · have := t.rd.lt z; omega
          · omega) (fun g r s => by
          rcases r.to (n + q.length) fc' with z | z
          · have := lt_of_heap t.dr.box; omega
          · rcases bl with b1 | b1
            · rw [b1] at z; have := own_lt t.dr.own g z; omega
            · have h1 := b1 g z
              have h2 := f.kp.size
              omega) (fun g r s => by have := t.bk.lt r; omega) (fun j X o hj e dn s => by have := ((t.wants j hj).typ X o e dn).lt; omega)
      rw [docS_feed hlm hlb last F q A (by rw [t.dr.len]; exact t.dr.at')] at t3
      exact ⟨F ++ q, false, A, last, n + q.length, N, hd + q.length, ⟨fo', fc', R2, wo2, wc2, ao, ac, bo, bc, R', Q, D, t3⟩, fun z => by have := r1 z; omega, by omega, by omega, r4, r5⟩
    refine ⟨?_, t.dr.lt r⟩
    rcases r.to n fc with r | r
    · have := t.dr.xnew; omega
    · exact t.dr.fnew b r
  · refine ⟨9, h20.mono ?_⟩
    rintro e V1 z
    simp only [if_true] at z
    obtain ⟨rfl, rfl⟩ := z
    refine ⟨rfl, Keeps.refl _ _, fun ao' cb hb => (docFeed_any tV.dr hb rfl (by omega) tV.rd.gr.size).mono ?_⟩
    rintro e V2 z
    simp only [if_true] at z
    obtain ⟨rfl, rfl⟩ := z
    refine ⟨rfl, Keeps.refl _ _, fun V3 k3 => ?_⟩
    have t3 := tV.kpAll k3 (fun g s => by have := t.rd.gr.size; omega) (fun g r s => by have := t.rd.lt r; omega) (fun g r s => by have := t.dr.lt r; omega) (fun g r s => by have := t.bk.lt r; omega) (fun j X o hj e dn s => by have := ((t.wants j hj).typ X o e dn).lt; omega)
    exact ⟨F, true, A, last, n, N, hd, ⟨fo, fc, R, wo, wc, ao, ac, bo, bc, R', Q, D, t3⟩, r1, r2, by omega, r4, r5⟩
end Go.Proofs.Ytemleibpmaclmaa.Kit

namespace Go.Proofs.Ytemleibpmaclmaa.Kit
open Go.RowKit Go.Shelf Go.Deep
set_option linter.unusedVariables false
attribute [local go_sem] run_store_func

/-! ### the law FrameReads -/
theorem Jn.gr {w W : World} {p x K lm lb i m c : Nat} (h : Jn w W p x K lm lb i m c) : Gr w W := by
  obtain ⟨F, sh, A, last, n, N, hd, ⟨fo, fc, R, wo, wc, ao, ac, bo, bc, R', Q, D, t⟩, r⟩ := h
  exact t.rd.gr
theorem over_len : ∀ l : List Op2, l.length ≤ overN l
  | [] => Nat.le_refl _
  | x :: l => by
    have h := over_len l
    simp only [overN, List.map_cons, List.sum_cons, List.length_cons] at h ⊢
    omega
set_option maxRecDepth 100000 in
set_option maxHeartbeats 16000000 in
theorem reads_good {so : Option Addr} {scap len lm lb : Nat} {l : List Op2} {w : World} (hl : l.length = len) (hlen : len ≤ 140737488355328) (ho : OpsAt w so l) (hlm : lm ≤ 65536) (hlb : lb ≤ 4194304) :
    Calls Try.prog 4 #[.agg #[.int .i64 (lm : Int), .int .i64 (lb : Int)], .slice so len scap] w fun e w' => e = .returned (.bool true) ∧ Gr w w' := by
  obtain ⟨W0, hW0⟩ : ∃ W0, W0 = w.alloc (.cells #[.int .i64 (lm : Int), .int .i64 (lb : Int)] 40) := ⟨_, rfl⟩
  have G0 := gr_alloc w (.cells #[.int .i64 (lm : Int), .int .i64 (lb : Int)] 40)
  have hbx := heap_alloc_new w (.cells #[.int .i64 (lm : Int), .int .i64 (lb : Int)] 40)
  rw [← hW0] at G0 hbx
  obtain ⟨bx, hbxe⟩ : ∃ bx, bx = w.heap.size := ⟨_, rfl⟩
  rw [← hbxe] at hbx
  have HCb : Hid (∀ V, Gr W0 V → V.cell? ⟨bx, 0, none⟩ = some (.int .i64 (lm : Int)) ∧ V.cell? ⟨bx, 1, none⟩ = some (.int .i64 (lb : Int))) := fun V g => ce2 ((g.block bx (lt_of_heap hbx) id).trans hbx)
  have HO := hidM (ho.gr G0)
  have HG0 := hidM G0
  have HL := hidM hl
  have HN0 : Hid (∀ V, Calls Try.prog 16 #[.agg #[.int .i64 0, .int .i64 0]] V fun e w' => ∃ p R wo wc, e = .returned (.tuple #[.pointer (some ⟨p, 0, none⟩), .int .i64 0]) ∧ Rd V w' p 76 [.bool false, .int .i64 ((0 : Nat) : Int)] (newF 0 0) R wo wc) := fun V => newReader_ok 0 0 V (by omega) (by omega)
  have HN1 : Hid (∀ V, Calls Try.prog 16 #[.agg #[.int .i64 (lm : Int), .int .i64 (lb : Int)]] V fun e w' => ∃ p R wo wc, e = .returned (.tuple #[.pointer (some ⟨p, 0, none⟩), .int .i64 0]) ∧ Rd V w' p 76 [.bool false, .int .i64 ((0 : Nat) : Int)] (newF lm lb) R wo wc) := fun V => newReader_ok lm lb V hlm hlb
  have HN2 : Hid (∀ V, Calls Try.prog 19 #[.agg #[.int .i64 (lm : Int), .int .i64 (lb : Int)]] V fun e w' => ∃ x, e = .returned (.tuple #[.pointer (some ⟨x, 0, none⟩), .int .i64 0]) ∧ Gr V w' ∧ Dr V w' x lm lb [] false 0 false none 0 0) := fun V => docNew_ok lm lb V hlm hlb
  clear ho hl G0 hbx
  go_enter Try.func4, Try.ntmps4
  go_wp2_with (go_at_call 16; refine Hid.out ?_)
  unfold Hid
  rw [← hbxe, ← hW0]
  refine Calls.mono (HN0.out _) ?_
  rintro e V1 ⟨q0, R0, wo0, wc0, rfl, r0⟩
  have HR0 := hidM r0
  have HG1 := hidM r0.gr
  clear r0 hbxe hW0
  go_wp2_with (go_at_call 17; refine Hid.out ?_)
  unfold Hid
  refine Calls.mono (new_more HR0.out) ?_
  rintro e V2 ⟨rfl, g2⟩
  have HG2 := hidM (HG1.out.trans g2 (fun _ _ h => h))
  clear g2 HR0 HG1 HN0
  have hra_ra := heap_alloc_new V2 (.cells #[.slice none 0 0, .slice none 0 0] 24)
  obtain ⟨V2a, hV2a⟩ : ∃ Z, V2.alloc (.cells #[.slice none 0 0, .slice none 0 0] 24) = Z := ⟨_, rfl⟩
  obtain ⟨ra, hra⟩ : ∃ r, V2.heap.size = r := ⟨_, rfl⟩
  have gA_ra : Gr V2 V2a := by rw [← hV2a]; exact gr_alloc V2 _
  rw [hV2a, hra] at hra_ra
  go_wp2_with (with_reducible show wpList Try.prog _ _ (Oper.mk none (Op.store 24 (Operand.tmp 7) _) _ _ _ _ :: _) _ _; refine Hid.out ?_)
  unfold Hid
  first | rw [hV2a] | skip
  first | rw [hra] | skip
  refine wpList_store_off rfl 24 (.tmp 7) (.tmp 36) rfl ra 0 #[.slice none 0 0, .slice none 0 0] hra_ra (by rfl) (by rfl) (by simp) (by kernel_rfl) (by simp [Value.oneCell']) ?_
  obtain ⟨G1, hG1⟩ : ∃ G, G = World.setRow V2a ra ((#[.slice none 0 0, .slice none 0 0] : Array Value).toList.take 0 ++ (#[.slice none 0 0, .slice none 0 0] : Array Value).toList ++ (#[.slice none 0 0, .slice none 0 0] : Array Value).toList.drop (0 + (#[.slice none 0 0, .slice none 0 0] : Array Value).size)).toArray := ⟨_, rfl⟩
  rw [← hG1]
  have hb1 : G1.heap[ra]? = some (.cells #[.slice none 0 0, .slice none 0 0] 24 (0, 0)) := by rw [hG1]; exact setRow_heap V2a ra _ _ 24 (0, 0) hra_ra
  have k1 : Gr V2 G1 := by
    have k1 : Keeps V2a G1 (fun z => z = ra) := by rw [hG1]; exact ⟨rfl, rfl, rfl, by simp, fun kk hk hn => setRow_other V2a ra kk _ hn⟩
    exact gA_ra.trans k1 (fun j hj e => by omega)
  have HG3 := hidM (HG2.out.trans k1 (fun _ _ h => h))
  have hov := over_any (cap := scap) (by have := HL.out; omega : l.length ≤ 9223372036854775807) (HO.out.gr HG3.out)
  rw [HL.out] at hov
  have HOv := hidM hov
  clear hov hG1 k1 gA_ra hra_ra hV2a hra hb1 HG2
  by_cases co : overB l = true
  · rw [co] at HOv
    go_wp2_with (first | (go_at_call 18; (with_reducible refine HOv.out.mono ?_); rintro e V3 ⟨rfl, g3⟩; have HG4 := hidM (HG3.out.trans g3 (fun _ _ h => h)); clear g3))
    go_ret
    exact ⟨rfl, HG0.out.trans HG4.out (fun _ _ h => h)⟩
  have co' : overB l = false := by simpa using co
  rw [co'] at HOv
  have hov2 : overN l < 2147483648 := by simpa [overB] using co'
  have HOn := hidM hov2
  clear co co' hov2
  go_wp2_with (go_at_call 18; refine Hid.out ?_)
  unfold Hid
  refine Calls.mono HOv.out ?_
  rintro e V3 ⟨rfl, g3⟩
  have HG4 := hidM (HG3.out.trans g3 (fun _ _ h => h))
  obtain ⟨l0, l1⟩ := HCb.out V3 HG4.out
  clear g3 HG3 HOv
  go_wp2_with (go_at_call 16; refine Hid.out ?_)
  unfold Hid
  refine Calls.mono (HN1.out _) ?_
  rintro e V4 ⟨p, R, wo, wc, rfl, r4⟩
  have HG5 := hidM (HG4.out.trans r4.gr (fun _ _ h => h))
  obtain ⟨m0, m1⟩ := HCb.out V4 HG5.out
  have HR := hidM r4
  clear l0 l1 r4 HN1
  go_wp2_with (go_at_call 19; refine Hid.out ?_)
  unfold Hid
  refine Calls.mono (HN2.out _) ?_
  rintro e V5 ⟨x, rfl, g5, d5⟩
  have HD := hidM (d5.base HR.out.gr.size)
  have HR5 := hidM (HR.out.grow g5)
  have HG6 := hidM (HG5.out.trans g5 (fun _ _ h => h))
  clear m0 m1 g5 d5 HR HG5 HN2
  go_wp2_with fail
  have hK := heap_alloc_new V5 (.cells #[.slice none 0 0, .slice none 0 0, .slice none 0 0, .slice none 0 0] 33)
  have gK := gr_alloc V5 (.cells #[.slice none 0 0, .slice none 0 0, .slice none 0 0, .slice none 0 0] 33)
  obtain ⟨V6, hV6⟩ : ∃ V6, V5.alloc (.cells #[.slice none 0 0, .slice none 0 0, .slice none 0 0, .slice none 0 0] 33) = V6 := ⟨_, rfl⟩
  obtain ⟨K, hKe⟩ : ∃ K, V5.heap.size = K := ⟨_, rfl⟩
  rw [hV6] at hK gK
  rw [hKe] at hK
  have HJ0 : Hid (Jn V3 V6 p x K lm lb 0 0 0) := Jn.begin hlm hlb (HR5.out.grow gK) (HD.out.grow gK) (by have := HR5.out.gr.size; omega) hK
  have HO3 := hidM (HO.out.gr HG4.out)
  have HG3 := hidM (HG0.out.trans HG4.out (fun _ _ h => h))
  first | rw [hV6] | skip
  first | rw [hKe] | skip
  clear hK gK hV6 hKe HR5 HD HG6 HO HG4 HG0 HCb
  go_loopw [15] (fun i wr => ∃ k : Nat, k ≤ len ∧ i = .int .i64 (k : Int) ∧ Hid (Jn V3 wr p x K lm lb k (overN (l.take k)) 0)) (fun i _ => len - (intOf i).toNat)
  case atStart => exact ⟨0, Nat.zero_le _, rfl, HJ0.out⟩
  case round =>
    obtain ⟨k, hk, rfl, HJ⟩ := hrel
    clear HJ0
    have hk0 : (0 : Int) ≤ (k : Int) := by omega
    have hkb : k ≤ 2147483648 := by
      have h1 := over_take l k
      have h2 := over_len (l.take k)
      have h3 := HOn.out
      rw [List.length_take, HL.out] at h2
      omega
    by_cases c : k < len
    rotate_left
    · have cI : ¬ ((k : Int) < (len : Int)) := by omega
      have hm : overN (l.take k) ≤ 2147483648 := by have := over_take l k; have := HOn.out; omega
      have HNx := hidM (HJ.out.next hlm hlb (by omega) (by omega))
      go_wp2_with (go_at_call 24; refine Hid.out ?_)
      unfold Hid
      refine Calls.mono HNx.out ?_
      rintro e U1 ⟨rfl, j1⟩
      obtain ⟨z, h25, h26⟩ := j1.held hlm hlb (by omega)
      have H25 := hidM h25
      have H26 := hidM h26
      have HJ1 := hidM j1
      clear h25 h26 j1 HNx HJ
      go_wp2_with (go_at_call 25; refine Hid.out ?_)
      unfold Hid
      refine Calls.mono (H25.out _ (Keeps.refl _ _)) ?_
      rintro e U2 ⟨rfl, g2⟩
      have HU2 := hidM g2
      clear g2
      go_wp2_with (go_at_call 26; refine Hid.out ?_)
      unfold Hid
      refine Calls.mono (H26.out _ HU2.out) ?_
      rintro e U3 ⟨rfl, g3⟩
      have HU3 := hidM (HU2.out.trans g3 (fun _ _ h => h))
      clear g3 HU2 H25 H26
      go_wp2_with (go_at_call 15; refine Hid.out ?_)
      unfold Hid
      refine Calls.mono ((HJ1.out.grow HU3.out).apart (by omega) (by omega)) ?_
      rintro e U4 ⟨rfl, g4⟩
      have HU4 := hidM (HG3.out.trans g4 (fun _ _ h => h))
      clear g4
      go_wp2_with fail
      go_ret
      exact ⟨rfl, HU4.out⟩
    have cI : (k : Int) < (len : Int) := by omega
    have hkl : k < l.length := by rw [HL.out]; exact c
    have HTk : Hid (overN (l.take (k + 1)) = overN (l.take k) + (1 + l[k].2.length)) := by
      show _ = _
      rw [List.take_succ_eq_append_getElem hkl, overN, List.map_append, List.sum_append, ← overN]
      simp
    have hm : overN (l.take (k + 1)) < 2147483648 := by have := over_take l (k + 1); have := HOn.out; omega
    obtain ⟨b0, off, rfl, hc⟩ := HO3.out (List.length_pos_iff.1 (by omega))
    obtain ⟨qo, qc, s1, s2, t3, t4, s5⟩ := (hc k hkl).h
    rw [Nat.mul_comm 2 k] at s1 s2
    have t1 := HJ.out.gr.cell' s1 id
    have t2 := HJ.out.gr.cell' s2 id
    have t5 := s5.gr HJ.out.gr
    obtain ⟨z, hz⟩ : ∃ z, l[k].1 = z := ⟨_, rfl⟩
    obtain ⟨q, hq⟩ : ∃ q, l[k].2 = q := ⟨_, rfl⟩
    rw [hz] at t1
    rw [hq] at t2 t3 t4 t5 s2 s5 HTk
    have HS2 := hidM (And.intro s2 s5)
    clear hc hz hq hkl s1 s2 s5
    by_cases z1 : z = 1
    · subst z1
      obtain ⟨Lq, hLq⟩ : ∃ n, q.length = n := ⟨_, rfl⟩
      have hLb : Lq ≤ 2147483648 := by have := HTk.out; omega
      have h8 := lent_any (ac := qc) t5 (by omega)
      rw [hLq] at h8 t2
      have HS3 : Hid (∀ V, Gr V3 V → V.cell? ⟨b0, off + k * 2 + 1, none⟩ = some (.slice qo Lq qc) ∧ BytesAt V qo q) := fun V g => by
        have := g.cell' HS2.out.1 id
        rw [hLq] at this
        exact ⟨this, HS2.out.2.gr g⟩
      have H8 := hidM h8
      have HLq := hidM hLq
      clear h8 t3 t4 t5 HS2 hLq
      go_wp2_with (go_at_call 8; refine Hid.out ?_)
      unfold Hid
      refine Calls.mono H8.out ?_
      rintro e U1 ⟨g, rfl, hby⟩
      have hgn := hby.new g rfl
      have hgl : g < U1.heap.size := own_lt hby.own g rfl
      have gU1 : Gr V3 U1 := HJ.out.gr.trans hby.gr (fun _ _ h => h)
      have hbq : BytesAt U1 (some ⟨g, 0, none⟩) q := by have := hby.bytes.take q.length; rw [List.take_left] at this; exact this
      obtain ⟨zz, h20⟩ := HJ.out.feed2 (ca := Lq + 3) hlm hlb (by have := HTk.out; omega) hby.gr hgn hbq (by rw [HLq.out]; omega) (by omega)
      rw [HLq.out] at h20
      have H20 := hidM h20
      have HBy := hidM hby
      have HgU1 := hidM gU1
      have Hgn := hidM (And.intro hgn hgl)
      obtain ⟨e1, -⟩ := HS3.out U1 gU1
      have hL0 : (0 : Int) ≤ (Lq : Int) := by omega
      have hL3 : (Lq : Int) ≤ (Lq : Int) + 3 := by omega
      have hL3' : (Lq : Int) ≤ ((Lq + 3 : Nat) : Int) := by omega
      clear h20 hby gU1 hbq hgn hgl t2 H8
      go_wp2_with (go_at_call 20; refine Hid.out ?_)
      unfold Hid
      refine Calls.mono H20.out ?_
      rintro e U2 ⟨rfl, k2, h21⟩
      have HK2 := hidM k2
      have HgU2 : Hid (Gr V3 U2) := keep_old k2 HgU1.out
      have H21 := hidM (h21 qo qc (HS3.out U2 HgU2.out).2)
      obtain ⟨e2, -⟩ := HS3.out U2 HgU2.out
      clear k2 h21 e1 H20
      go_wp2_with (go_at_call 21; refine Hid.out ?_)
      unfold Hid
      refine Calls.mono H21.out ?_
      rintro e U3 ⟨rfl, k3, hJ3⟩
      have HK3 := hidM k3
      have HgU3 : Hid (Gr V3 U3) := keep_old k3 HgU2.out
      have HJ3 := hidM hJ3
      obtain ⟨e3, hb3⟩ := HS3.out U3 HgU3.out
      have ng : ¬ (V3.heap.size ≤ g ∧ g < wr.heap.size) := fun z => by have := Hgn.out.1; omega
      have hbg : BytesAt U3 (some ⟨g, 0, none⟩) (q ++ marks) := (HBy.out.bytes.keep HK2.out (fun X o z => by cases z; exact ng)).keep HK3.out (fun X o z => by cases z; exact ng)
      have h11 := kept_true (oc := Lq + 3) (bc := qc) hbg hb3 (by rw [HLq.out]; omega) (by rw [HLq.out]; omega)
      rw [HLq.out] at h11
      have H11 := hidM h11
      have hh3 : U3.heap[g]? = U1.heap[g]? := (HK3.out.block g (Nat.lt_of_lt_of_le Hgn.out.2 HK2.out.size) ng).trans (HK2.out.block g Hgn.out.2 ng)
      have HH3 := hidM hh3
      clear k3 hJ3 e2 H21 hb3 hbg h11 hh3 ng
      go_wp2_with (go_at_call 11; refine Hid.out ?_)
      unfold Hid
      refine Calls.mono H11.out ?_
      rintro e U4 ⟨rfl, g4⟩
      have HB4 : Hid (Keeps U3 U4 (fun y => wr.heap.size ≤ y ∧ y < U1.heap.size) ∧ ∃ Fn : Nat → Int, BRow U4 g (Lq + 3) Fn ∧ ∀ j, 0 ≤ Fn j ∧ Fn j < 256) := by
        refine ⟨g4.mono fun _ _ f => f.elim, ?_⟩
        have o := HBy.out.own
        first | rw [HLq.out] at o | skip
        obtain ⟨X, e, r⟩ := BRow.of_own o (by omega)
        cases e
        have r3 := r.kp HH3.out
        exact ⟨_, r3.kp (g4.block g r3.lt id), fun j => ⟨by omega, by have := ((q ++ marks).getD j 0).toNat_lt; omega⟩⟩
      clear g4 H11 HBy HK2 HK3 HH3 e3 HgU1 HgU2 HgU3 HS3
      obtain ⟨B0, hB0⟩ : ∃ B0, wr.heap.size = B0 := ⟨_, rfl⟩
      rw [hB0] at HB4 HJ3 Hgn
      clear hB0
      go_wp2_with fail
      go_loopw [19] (fun cc wv => ∃ j : Nat, j ≤ Lq ∧ cc = .int .i64 (j : Int) ∧ Hid (Keeps U3 wv (fun y => B0 ≤ y ∧ y < U1.heap.size) ∧ ∃ Fn : Nat → Int, BRow wv g (Lq + 3) Fn ∧ ∀ j, 0 ≤ Fn j ∧ Fn j < 256)) (fun cc _ => Lq - (intOf cc).toNat)
      case atStart => exact ⟨0, Nat.zero_le _, rfl, HB4.out⟩
      case round =>
        obtain ⟨j, hj, rfl, HW⟩ := hrel
        clear HB4
        have hj0 : (0 : Int) ≤ (j : Int) := by omega
        by_cases cj : j < Lq
        · have cjI : (j : Int) < (Lq : Int) := by omega
          have cjI3 : (j : Int) < ((Lq + 3 : Nat) : Int) := by omega
          have cjI4 : (j : Int) < (Lq : Int) + 3 := by omega
          obtain ⟨hk4, Fn, hr, hFb⟩ := HW.out
          have w0 := hr.cell (show j < Lq + 3 by omega)
          have w1 := hr.frz j
          obtain ⟨y, hy⟩ : ∃ y, Fn j = y := ⟨_, rfl⟩
          have hyb := hFb j
          rw [hy] at w0 hyb
          have HNw : Hid (∀ v : Int, 0 ≤ v → v < 256 → Keeps U3 (wr.setCell ⟨g, j, none⟩ (.int .u8 v)) (fun y => B0 ≤ y ∧ y < U1.heap.size) ∧ ∃ Fn : Nat → Int, BRow (wr.setCell ⟨g, j, none⟩ (.int .u8 v)) g (Lq + 3) Fn ∧ ∀ j, 0 ≤ Fn j ∧ Fn j < 256) := fun v v1 v2 => ⟨hk4.setCell (p := ⟨g, j, none⟩) (fun _ => Hgn.out) _, (fun i => if i = j then v else Fn i), hr.set (show j < Lq + 3 by omega) v, fun i => by
            by_cases c9 : i = j
            · simp only [if_pos c9]; exact ⟨v1, v2⟩
            · simp only [if_neg c9]; exact hFb i⟩
          obtain ⟨vv, hvv⟩ : ∃ vv, IntKind.u8.wrap (y + 1) = vv := ⟨_, rfl⟩
          have hvb : 0 ≤ vv ∧ vv < 256 := by rw [← hvv, IntKind.wrap_u8]; omega
          have HNv := hidM (HNw.out vv hvb.1 hvb.2)
          clear hk4 hr hFb hy HNw HW hyb hvb
          go_wp2_with fail
          go_roundw
          case rel => exact ⟨j + 1, by omega, by simp, by first | exact HNv.out | (rw [hvv]; exact HNv.out)⟩
          case measure => simp [intOf]; omega
        · have cjI : ¬ ((j : Int) < (Lq : Int)) := by omega
          have HJ4 := hidM (HJ3.out _ HW.out.1)
          clear HJ3 HW
          go_wp2_with fail
          go_roundw
          case rel => exact ⟨k + 1, by omega, by simp, HJ4.out.mono (by omega) (by rw [HTk.out]; have := HLq.out; omega) (by omega)⟩
          case measure => simp [intOf]; omega
    by_cases z2 : z = 2
    · subst z2
      obtain ⟨zz, h22⟩ := HJ.out.shut
      have H22 := hidM h22
      clear h22 t2 t3 t4 t5
      go_wp2_with (go_at_call 22; refine Hid.out ?_)
      unfold Hid
      refine Calls.mono H22.out ?_
      rintro e U1 ⟨rfl, h23⟩
      have H23 := hidM h23
      clear h23 H22
      go_wp2_with (go_at_call 23; refine Hid.out ?_)
      unfold Hid
      refine Calls.mono H23.out ?_
      rintro e U2 ⟨rfl, j2⟩
      have HJ2 := hidM j2
      clear j2 H23
      go_wp2_with fail
      go_roundw
      case rel => exact ⟨k + 1, by omega, by simp, HJ2.out.mono (by omega) (by rw [HTk.out]; omega) (by omega)⟩
      case measure => simp [intOf]; omega
    by_cases z3 : z = 3
    · subst z3
      have HNx := hidM (HJ.out.next hlm hlb (by omega) (by have := HTk.out; omega))
      clear t2 t3 t4 t5
      go_wp2_with (go_at_call 24; refine Hid.out ?_)
      unfold Hid
      refine Calls.mono HNx.out ?_
      rintro e U1 ⟨rfl, j1⟩
      have HJ2 := hidM j1
      clear j1 HNx
      go_wp2_with fail
      go_roundw
      case rel => exact ⟨k + 1, by omega, by simp, HJ2.out.mono (by omega) (by rw [HTk.out]; omega) (by omega)⟩
      case measure => simp [intOf]; omega
    by_cases z4 : z = 4
    · subst z4
      obtain ⟨zz, h25, h26⟩ := HJ.out.held hlm hlb (by have := HTk.out; omega)
      have H25 := hidM h25
      have H26 := hidM h26
      clear h25 h26 t2 t3 t4 t5
      go_wp2_with (go_at_call 25; refine Hid.out ?_)
      unfold Hid
      refine Calls.mono (H25.out _ (Keeps.refl _ _)) ?_
      rintro e U2 ⟨rfl, g2⟩
      have HU2 := hidM g2
      clear g2
      go_wp2_with (go_at_call 26; refine Hid.out ?_)
      unfold Hid
      refine Calls.mono (H26.out _ HU2.out) ?_
      rintro e U3 ⟨rfl, g3⟩
      have HJ2 := hidM (HJ.out.grow (HU2.out.trans g3 (fun _ _ h => h)))
      clear g3 HU2 H25 H26
      go_wp2_with fail
      go_roundw
      case rel => exact ⟨k + 1, by omega, by simp, HJ2.out.mono (by omega) (by rw [HTk.out]; omega) (by omega)⟩
      case measure => simp [intOf]; omega
    have y1 : (z == 1) = false := by simpa using z1
    have y2 : (z == 2) = false := by simpa using z2
    have y3 : (z == 3) = false := by simpa using z3
    have y4 : (z == 4) = false := by simpa using z4
    clear t2 t3 t4 t5
    go_wp2_with fail
    go_roundw
    case rel => exact ⟨k + 1, by omega, by simp, HJ.out.mono (by omega) (by rw [HTk.out]; omega) (by omega)⟩
    case measure => simp [intOf]; omega
end Go.Proofs.Ytemleibpmaclmaa.Kit

namespace Go.Proofs.Ytemleibpmaclmaa.Kit
open Go.RowKit Go.Shelf Go.Deep
set_option linter.unusedVariables false
attribute [local go_sem] run_store_func

set_option maxRecDepth 100000 in
set_option maxHeartbeats 16000000 in
theorem reads_bad {so : Option Addr} {scap len : Nat} {a b : Int} {l : List Op2} {w : World} (hl : l.length = len) (hlen : len ≤ 140737488355328) (ho : OpsAt w so l) (hab : a < 0 ∨ 65536 < a ∨ b < 0 ∨ 4194304 < b) :
    Calls Try.prog 4 #[.agg #[.int .i64 a, .int .i64 b], .slice so len scap] w fun e w' => e = .returned (.bool true) ∧ Gr w w' := by
  obtain ⟨W0, hW0⟩ : ∃ W0, W0 = w.alloc (.cells #[.int .i64 a, .int .i64 b] 40) := ⟨_, rfl⟩
  have G0 := gr_alloc w (.cells #[.int .i64 a, .int .i64 b] 40)
  have hbx := heap_alloc_new w (.cells #[.int .i64 a, .int .i64 b] 40)
  rw [← hW0] at G0 hbx
  obtain ⟨bx, hbxe⟩ : ∃ bx, bx = w.heap.size := ⟨_, rfl⟩
  rw [← hbxe] at hbx
  have HCb : Hid (∀ V, Gr W0 V → V.cell? ⟨bx, 0, none⟩ = some (.int .i64 a) ∧ V.cell? ⟨bx, 1, none⟩ = some (.int .i64 b)) := fun V g => ce2 ((g.block bx (lt_of_heap hbx) id).trans hbx)
  have HO := hidM (ho.gr G0)
  have HG0 := hidM G0
  have HL := hidM hl
  have HN0 : Hid (∀ V, Calls Try.prog 16 #[.agg #[.int .i64 0, .int .i64 0]] V fun e w' => ∃ p R wo wc, e = .returned (.tuple #[.pointer (some ⟨p, 0, none⟩), .int .i64 0]) ∧ Rd V w' p 76 [.bool false, .int .i64 ((0 : Nat) : Int)] (newF 0 0) R wo wc) := fun V => newReader_ok 0 0 V (by omega) (by omega)
  have HN1 : Hid (∀ V, Calls Try.prog 16 #[.agg #[.int .i64 a, .int .i64 b]] V fun e w' => e = .returned (.tuple #[.pointer none, .int .i64 1]) ∧ Gr V w') := fun V => newReader_bad a b V hab
  have HN2 : Hid (∀ V, Calls Try.prog 19 #[.agg #[.int .i64 a, .int .i64 b]] V fun e w' => e = .returned (.tuple #[.pointer none, .int .i64 1]) ∧ Gr V w') := fun V => docNew_bad a b V hab
  clear hab
  clear ho hl G0 hbx
  go_enter Try.func4, Try.ntmps4
  go_wp2_with (go_at_call 16; refine Hid.out ?_)
  unfold Hid
  rw [← hbxe, ← hW0]
  refine Calls.mono (HN0.out _) ?_
  rintro e V1 ⟨q0, R0, wo0, wc0, rfl, r0⟩
  have HR0 := hidM r0
  have HG1 := hidM r0.gr
  clear r0 hbxe hW0
  go_wp2_with (go_at_call 17; refine Hid.out ?_)
  unfold Hid
  refine Calls.mono (new_more HR0.out) ?_
  rintro e V2 ⟨rfl, g2⟩
  have HG2 := hidM (HG1.out.trans g2 (fun _ _ h => h))
  clear g2 HR0 HG1 HN0
  have hra_ra := heap_alloc_new V2 (.cells #[.slice none 0 0, .slice none 0 0] 24)
  obtain ⟨V2a, hV2a⟩ : ∃ Z, V2.alloc (.cells #[.slice none 0 0, .slice none 0 0] 24) = Z := ⟨_, rfl⟩
  obtain ⟨ra, hra⟩ : ∃ r, V2.heap.size = r := ⟨_, rfl⟩
  have gA_ra : Gr V2 V2a := by rw [← hV2a]; exact gr_alloc V2 _
  rw [hV2a, hra] at hra_ra
  go_wp2_with (with_reducible show wpList Try.prog _ _ (Oper.mk none (Op.store 24 (Operand.tmp 7) _) _ _ _ _ :: _) _ _; refine Hid.out ?_)
  unfold Hid
  first | rw [hV2a] | skip
  first | rw [hra] | skip
  refine wpList_store_off rfl 24 (.tmp 7) (.tmp 36) rfl ra 0 #[.slice none 0 0, .slice none 0 0] hra_ra (by rfl) (by rfl) (by simp) (by kernel_rfl) (by simp [Value.oneCell']) ?_
  obtain ⟨G1, hG1⟩ : ∃ G, G = World.setRow V2a ra ((#[.slice none 0 0, .slice none 0 0] : Array Value).toList.take 0 ++ (#[.slice none 0 0, .slice none 0 0] : Array Value).toList ++ (#[.slice none 0 0, .slice none 0 0] : Array Value).toList.drop (0 + (#[.slice none 0 0, .slice none 0 0] : Array Value).size)).toArray := ⟨_, rfl⟩
  rw [← hG1]
  have hb1 : G1.heap[ra]? = some (.cells #[.slice none 0 0, .slice none 0 0] 24 (0, 0)) := by rw [hG1]; exact setRow_heap V2a ra _ _ 24 (0, 0) hra_ra
  have k1 : Gr V2 G1 := by
    have k1 : Keeps V2a G1 (fun z => z = ra) := by rw [hG1]; exact ⟨rfl, rfl, rfl, by simp, fun kk hk hn => setRow_other V2a ra kk _ hn⟩
    exact gA_ra.trans k1 (fun j hj e => by omega)
  have HG3 := hidM (HG2.out.trans k1 (fun _ _ h => h))
  have hov := over_any (cap := scap) (by have := HL.out; omega : l.length ≤ 9223372036854775807) (HO.out.gr HG3.out)
  rw [HL.out] at hov
  have HOv := hidM hov
  clear hov hG1 k1 gA_ra hra_ra hV2a hra hb1 HG2
  by_cases co : overB l = true
  · rw [co] at HOv
    go_wp2_with (first | (go_at_call 18; (with_reducible refine HOv.out.mono ?_); rintro e V3 ⟨rfl, g3⟩; have HG4 := hidM (HG3.out.trans g3 (fun _ _ h => h)); clear g3))
    go_ret
    exact ⟨rfl, HG0.out.trans HG4.out (fun _ _ h => h)⟩
  have co' : overB l = false := by simpa using co
  rw [co'] at HOv
  have hov2 : overN l < 2147483648 := by simpa [overB] using co'
  have HOn := hidM hov2
  clear co co' hov2
  go_wp2_with (go_at_call 18; refine Hid.out ?_)
  unfold Hid
  refine Calls.mono HOv.out ?_
  rintro e V3 ⟨rfl, g3⟩
  have HG4 := hidM (HG3.out.trans g3 (fun _ _ h => h))
  obtain ⟨l0, l1⟩ := HCb.out V3 HG4.out
  clear g3 HG3 HOv
  go_wp2_with (go_at_call 16; refine Hid.out ?_)
  unfold Hid
  refine Calls.mono (HN1.out _) ?_
  rintro e V4 ⟨rfl, g5⟩
  have HG5 := hidM (HG4.out.trans g5 (fun _ _ h => h))
  obtain ⟨m0, m1⟩ := HCb.out V4 HG5.out
  clear l0 l1 g5 HN1
  go_wp2_with (go_at_call 19; refine Hid.out ?_)
  unfold Hid
  refine Calls.mono (HN2.out _) ?_
  rintro e V5 ⟨rfl, g6⟩
  have HG6 := hidM (HG0.out.trans (HG5.out.trans g6 (fun _ _ h => h)) (fun _ _ h => h))
  clear m0 m1 g6 HG5 HN2
  go_wp2_with fail
  go_ret
  exact ⟨rfl, HG6.out⟩
/-- the law FrameReads -/
theorem reads_any {so : Option Addr} {scap len : Nat} {a b : Int} {l : List Op2} {w : World} (hl : l.length = len) (hlen : len ≤ 140737488355328) (ho : OpsAt w so l) :
    Calls Try.prog 4 #[.agg #[.int .i64 a, .int .i64 b], .slice so len scap] w fun e w' => e = .returned (.bool true) ∧ Gr w w' := by
  by_cases c : a < 0 ∨ 65536 < a ∨ b < 0 ∨ 4194304 < b
  · exact reads_bad hl hlen ho c
  · obtain ⟨lm, rfl⟩ : ∃ lm : Nat, a = (lm : Int) := ⟨a.toNat, by omega⟩
    obtain ⟨lb, rfl⟩ : ∃ lb : Nat, b = (lb : Int) := ⟨b.toNat, by omega⟩
    exact reads_good hl hlen ho (by omega) (by omega)
end Go.Proofs.Ytemleibpmaclmaa.Kit
