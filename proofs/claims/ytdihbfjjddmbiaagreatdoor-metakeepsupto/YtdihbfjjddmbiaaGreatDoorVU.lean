import Derived.Test.YtdihbfjjddmbiaaGreatDoorVS
set_option maxRecDepth 100000
set_option maxHeartbeats 4000000
namespace Go.Proofs.YtdihbfjjddmbiaaGreatDoor.Kit
open Go.RowKit Go.Shelf Go.Deep
set_option linter.unusedVariables false
attribute [local go_sem] run_store_func
theorem penNumberZ {w W : World} {K : Nat} {bs : List UInt8} (h : InkAt w W K bs) (z : Int) (wd : Nat) (hz : 0 ≤ z ∧ z ≤ 1000000000000) (hw : wd = 1 ∨ wd = 2 ∨ wd = 4) (hm : bs.length + wd ≤ 65536) : Calls Tryz.prog 36 #[.agg #[.pointer (some ⟨K, 0, none⟩)], .int .i64 z, .int .i64 (wd : Int)] W fun e w' => e = .returned (.tuple #[]) ∧ InkAt w w' K (bs ++ numB z.toNat wd) ∧ KU K W w' := by
  have := penNumber_any h z.toNat wd (by omega) hw hm
  rwa [Int.toNat_of_nonneg hz.1] at this
theorem penBody_any {w W : World} {K : Nat} {bs : List UInt8} {k di rows pr : Int} {dl : Bool} {fo no ao uo : Option Addr} {cf cn ac uc : Nat} {fs : List FT} {ns : List (ByteArray × ByteArray)} {nds : List (Int × Int)} {sls : List (Int × Int × Int)} (h : InkAt w W K bs) (hlen : bs.length + (bdyB rows pr nds sls).length ≤ 65536) (hrw : 0 ≤ rows ∧ rows ≤ 100000) (hpr : 0 ≤ pr ∧ pr ≤ 255)
    (hv : NodesAt w ao nds) (hu : SlotsAt w uo sls) (hnk : ∀ n ∈ nds, nodeOk n) (hsk : ∀ s ∈ sls, slotOk s) :
    Calls Tryz.prog 39 #[.agg #[.pointer (some ⟨K, 0, none⟩)], .agg #[.int .i64 k, .slice fo fs.length cf, .slice no ns.length cn, .int .i64 di, .bool dl, .int .i64 rows, .int .i64 pr, .slice ao nds.length ac, .slice uo sls.length uc]] W fun e w' => e = .returned (.tuple #[]) ∧ InkAt w w' K (bs ++ bdyB rows pr nds sls) ∧ KU K W w' := by
  have HLen := hidM hlen
  have HNo := hidM hv.2
  have HSo := hidM hu.2
  have hln : nds.length ≤ 1000000000000 := hv.1
  have hls : sls.length ≤ 1000000000000 := hu.1
  have HNk := hidM hnk
  have HSk := hidM hsk
  have HQ0 : Hid (QF w W ((W.alloc (.cells #[.pointer (some ⟨K, 0, none⟩)] 61)).alloc (.cells #[.int .i64 k, .slice fo fs.length cf, .slice no ns.length cn, .int .i64 di, .bool dl, .int .i64 rows, .int .i64 pr, .slice ao nds.length ac, .slice uo sls.length uc] 29)) K W.heap.size (W.heap.size + 1) #[.int .i64 k, .slice fo fs.length cf, .slice no ns.length cn, .int .i64 di, .bool dl, .int .i64 rows, .int .i64 pr, .slice ao nds.length ac, .slice uo sls.length uc] 29 bs) := by
    have hne : W.heap.size ≠ K := by obtain ⟨vo, n, vc, h1, -⟩ := h.ex; have := lt_of_heap h1; exact fun e => by omega
    have := QF.first (t := 29) (h.kept (gr_alloc W (.cells #[.pointer (some ⟨K, 0, none⟩)] 61))) (KU.gr (K := K) (gr_alloc W (.cells #[.pointer (some ⟨K, 0, none⟩)] 61))) hne (heap_alloc_new W _) #[.int .i64 k, .slice fo fs.length cf, .slice no ns.length cn, .int .i64 di, .bool dl, .int .i64 rows, .int .i64 pr, .slice ao nds.length ac, .slice uo sls.length uc]
    have e2 : (W.alloc (.cells #[.pointer (some ⟨K, 0, none⟩)] 61)).heap.size = W.heap.size + 1 := by simp
    rw [e2] at this
    exact this
  clear h hlen hv hu hnk hsk
  go_enter Tryz.func39, Tryz.ntmps39
  have HC := hidM (penNumberZ HQ0.out.ink rows 4 (by omega) (.inr (.inr rfl)) (by have := HLen.out; simp [bdyB, numB_len] at this ⊢; omega))
  have z0 := HQ0.out.penc
  obtain ⟨q0, q1, q2, q3, q4, q5, q6, q7, q8⟩ := ce9 HQ0.out.box
  go_wp2_with (go_at_call 36; refine Hid.out ?_)
  unfold Hid
  refine Calls.mono HC.out ?_
  rintro e V1 ⟨rfl, hI1, hU1⟩
  have HQ1 := hidM (HQ0.out.next hI1 hU1 (by decide))
  clear hI1 hU1 HC z0 q0 q1 q2 q3 q4 q5 q6 q7 q8 HQ0
  obtain ⟨S, hS⟩ : ∃ S, S = W.heap.size := ⟨_, rfl⟩
  obtain ⟨F, hF⟩ : ∃ F, F = W.heap.size + 1 := ⟨_, rfl⟩
  rw [← hF, ← hS] at HQ1
  try rw [← hF]
  try rw [← hS]
  clear hS hF
  have HC := hidM (penNumberZ HQ1.out.ink pr 1 (by omega) (.inl rfl) (by have := HLen.out; simp [bdyB, numB_len] at this ⊢; omega))
  have z0 := HQ1.out.penc
  obtain ⟨q0, q1, q2, q3, q4, q5, q6, q7, q8⟩ := ce9 HQ1.out.box
  go_wp2_with (go_at_call 36; refine Hid.out ?_)
  unfold Hid
  refine Calls.mono HC.out ?_
  rintro e V2 ⟨rfl, hI1, hU1⟩
  have HQ2 := hidM (HQ1.out.next hI1 hU1 (by decide))
  clear hI1 hU1 HC z0 q0 q1 q2 q3 q4 q5 q6 q7 q8 HQ1
  have HC := hidM (penNumber_any HQ2.out.ink nds.length 2 (by omega) (.inr (.inl rfl)) (by have := HLen.out; simp [bdyB, numB_len] at this ⊢; omega))
  have z0 := HQ2.out.penc
  obtain ⟨q0, q1, q2, q3, q4, q5, q6, q7, q8⟩ := ce9 HQ2.out.box
  go_wp2_with (go_at_call 36; refine Hid.out ?_)
  unfold Hid
  refine Calls.mono HC.out ?_
  rintro e V3 ⟨rfl, hI1, hU1⟩
  have HQ3 := hidM (HQ2.out.next hI1 hU1 (by decide))
  clear hI1 hU1 HC z0 q0 q1 q2 q3 q4 q5 q6 q7 q8 HQ2
  have z0 := HQ3.out.penc
  obtain ⟨q0, q1, q2, q3, q4, q5, q6, q7, q8⟩ := ce9 HQ3.out.box
  go_wp2_with fail
  go_loopw [24] (fun i wr => ∃ j : Nat, j ≤ nds.length ∧ i = .int .i64 (j : Int) ∧ Hid (QF w W wr K S F #[.int .i64 k, .slice fo fs.length cf, .slice no ns.length cn, .int .i64 di, .bool dl, .int .i64 rows, .int .i64 pr, .slice ao nds.length ac, .slice uo sls.length uc] 29 (bs ++ numB rows.toNat 4 ++ numB pr.toNat 1 ++ numB nds.length 2 ++ (nds.take j).flatMap ndM))) (fun i _ => nds.length - (intOf i).toNat)
  case atStart => exact ⟨0, by omega, rfl, by rw [List.take_zero, List.flatMap_nil, List.append_nil]; exact HQ3.out⟩
  case round =>
    obtain ⟨j, hj, rfl, HR⟩ := hrel
    clear HQ3 z0 q0 q1 q2 q3 q4 q5 q6 q7 q8
    by_cases hlt : j < nds.length
    · have hltI : (j : Int) < (nds.length : Int) := by omega
      have hj0 : (0 : Int) ≤ (j : Int) := by omega
      obtain ⟨b, o, hao, hcs⟩ := HNo.out (fun e => by rw [e] at hlt; simp at hlt)
      obtain ⟨c0, c1⟩ := hcs j hlt
      have hok := HNk.out _ (List.getElem_mem hlt)
      have g0 := HR.out.ink.gr.cell' c0 id
      have g1 := HR.out.ink.gr.cell' c1 id
      have HTK : Hid (bs ++ numB rows.toNat 4 ++ numB pr.toNat 1 ++ numB nds.length 2 ++ (nds.take (j + 1)).flatMap ndM = bs ++ numB rows.toNat 4 ++ numB pr.toNat 1 ++ numB nds.length 2 ++ (nds.take j).flatMap ndM ++ ndM nds[j]) := by show _ = _; rw [flat_next ndM nds j hlt, ← List.append_assoc]
      have HLim : Hid ((bs ++ numB rows.toNat 4 ++ numB pr.toNat 1 ++ numB nds.length 2 ++ (nds.take j).flatMap ndM).length + 8 ≤ 65536) := by
        have h3 := flat_take ndM nds (j + 1)
        rw [flat_next ndM nds j hlt, List.length_append] at h3
        have h4 : (ndM nds[j]).length = 8 := by simp [ndM, numB_len]
        have := HLen.out
        simp only [bdyB, List.length_append] at this ⊢
        show _ ≤ _; omega
      have z0 := HR.out.penc
      have za := fun o => (gr_alloc wr o).cell' z0 id
      have HX := hidM (QF.first (t := 44) HR.out.ink HR.out.ku HR.out.ne HR.out.pen #[.int .i64 nds[j].1, .int .i64 nds[j].2])
      have HY : Hid (QF w W (wr.alloc (.cells #[.int .i64 nds[j].1, .int .i64 nds[j].2] 44)) K S F #[.int .i64 k, .slice fo fs.length cf, .slice no ns.length cn, .int .i64 di, .bool dl, .int .i64 rows, .int .i64 pr, .slice ao nds.length ac, .slice uo sls.length uc] 29 (bs ++ numB rows.toNat 4 ++ numB pr.toNat 1 ++ numB nds.length 2 ++ (nds.take j).flatMap ndM)) := HR.out.next (HR.out.ink.kept (gr_alloc wr _)) (KU.gr (gr_alloc wr _)) (by decide)
      have HC := hidM (penNumberZ HX.out.ink nds[j].1 4 (by unfold nodeOk at hok; omega) (.inr (.inr rfl)) (by have := HLim.out; omega))
      subst hao
      clear hcs
      go_wp2_with (go_at_call 36; refine Hid.out ?_)
      unfold Hid
      refine Calls.mono HC.out ?_
      rintro e X1 ⟨rfl, hI1, hU1⟩
      have HX1 := hidM (HX.out.next hI1 hU1 (by decide))
      have HY1 := hidM (HY.out.next hI1 hU1 (by decide))
      obtain ⟨G, hG⟩ : ∃ G, G = wr.heap.size := ⟨_, rfl⟩
      rw [← hG] at HX1 ⊢
      clear hI1 hU1 HC HX HY za z0 HR hG g0 c0 g1 c1
      have HC := hidM (penNumberZ HX1.out.ink nds[j].2 4 (by unfold nodeOk at hok; omega) (.inr (.inr rfl)) (by have := HLim.out; simp [numB_len] at this ⊢; omega))
      have z0 := HX1.out.penc
      obtain ⟨q0, q1⟩ := ce2 HX1.out.box
      go_wp2_with (go_at_call 36; refine Hid.out ?_)
      unfold Hid
      refine Calls.mono HC.out ?_
      rintro e X2 ⟨rfl, hI1, hU1⟩
      have HX2 := hidM (HX1.out.next hI1 hU1 (by decide))
      have HY2 := hidM (HY1.out.next hI1 hU1 (by decide))
      clear hI1 hU1 HC HX1 HY1 z0 q0 q1
      have HN : Hid (QF w W X2 K S F #[.int .i64 k, .slice fo fs.length cf, .slice no ns.length cn, .int .i64 di, .bool dl, .int .i64 rows, .int .i64 pr, .slice (some ⟨b, o, none⟩) nds.length ac, .slice uo sls.length uc] 29 (bs ++ numB rows.toNat 4 ++ numB pr.toNat 1 ++ numB nds.length 2 ++ (nds.take (j + 1)).flatMap ndM)) := by
        have := HY2.out
        rw [HTK.out, show ndM nds[j] = numB nds[j].1.toNat 4 ++ numB nds[j].2.toNat 4 from rfl, ← List.append_assoc]
        exact this
      clear HX2 HY2 HTK HLim hok
      go_wp2_with fail
      go_roundw
      case rel => exact ⟨j + 1, by omega, by simp, HN.out⟩
      case measure => simp [intOf]; omega
    have hltI : ¬ (j : Int) < (nds.length : Int) := by omega
    have HE : Hid (QF w W wr K S F #[.int .i64 k, .slice fo fs.length cf, .slice no ns.length cn, .int .i64 di, .bool dl, .int .i64 rows, .int .i64 pr, .slice ao nds.length ac, .slice uo sls.length uc] 29 (bs ++ numB rows.toNat 4 ++ numB pr.toNat 1 ++ numB nds.length 2 ++ nds.flatMap ndM)) := by
      have := HR.out
      rwa [List.take_of_length_le (by omega)] at this
    clear HR
    have HC := hidM (penNumber_any HE.out.ink sls.length 2 (by omega) (.inr (.inl rfl)) (by have := HLen.out; simp [bdyB, numB_len] at this ⊢; omega))
    have z0 := HE.out.penc
    obtain ⟨q0, q1, q2, q3, q4, q5, q6, q7, q8⟩ := ce9 HE.out.box
    go_wp2_with (go_at_call 36; refine Hid.out ?_)
    unfold Hid
    refine Calls.mono HC.out ?_
    rintro e V4 ⟨rfl, hI1, hU1⟩
    have HQ4 := hidM (HE.out.next hI1 hU1 (by decide))
    clear hI1 hU1 HC z0 q0 q1 q2 q3 q4 q5 q6 q7 q8 HE
    clear hlt hj hltI
    have z0 := HQ4.out.penc
    obtain ⟨q0, q1, q2, q3, q4, q5, q6, q7, q8⟩ := ce9 HQ4.out.box
    go_wp2_with fail
    go_loopw [45] (fun i wr => ∃ j : Nat, j ≤ sls.length ∧ i = .int .i64 (j : Int) ∧ Hid (QF w W wr K S F #[.int .i64 k, .slice fo fs.length cf, .slice no ns.length cn, .int .i64 di, .bool dl, .int .i64 rows, .int .i64 pr, .slice ao nds.length ac, .slice uo sls.length uc] 29 (bs ++ numB rows.toNat 4 ++ numB pr.toNat 1 ++ numB nds.length 2 ++ nds.flatMap ndM ++ numB sls.length 2 ++ (sls.take j).flatMap slM))) (fun i _ => sls.length - (intOf i).toNat)
    case atStart => exact ⟨0, by omega, rfl, by rw [List.take_zero, List.flatMap_nil, List.append_nil]; exact HQ4.out⟩
    case round =>
      obtain ⟨j, hj, rfl, HR⟩ := hrel
      clear HQ4 z0 q0 q1 q2 q3 q4 q5 q6 q7 q8
      by_cases hlt : j < sls.length
      · have hltI : (j : Int) < (sls.length : Int) := by omega
        have hj0 : (0 : Int) ≤ (j : Int) := by omega
        obtain ⟨b, o, hao, hcs⟩ := HSo.out (fun e => by rw [e] at hlt; simp at hlt)
        obtain ⟨c0, c1, c2⟩ := hcs j hlt
        have hok := HSk.out _ (List.getElem_mem hlt)
        have g0 := HR.out.ink.gr.cell' c0 id
        have g1 := HR.out.ink.gr.cell' c1 id
        have g2 := HR.out.ink.gr.cell' c2 id
        have HTK : Hid (bs ++ numB rows.toNat 4 ++ numB pr.toNat 1 ++ numB nds.length 2 ++ nds.flatMap ndM ++ numB sls.length 2 ++ (sls.take (j + 1)).flatMap slM = bs ++ numB rows.toNat 4 ++ numB pr.toNat 1 ++ numB nds.length 2 ++ nds.flatMap ndM ++ numB sls.length 2 ++ (sls.take j).flatMap slM ++ slM sls[j]) := by show _ = _; rw [flat_next slM sls j hlt, ← List.append_assoc]
        have HLim : Hid ((bs ++ numB rows.toNat 4 ++ numB pr.toNat 1 ++ numB nds.length 2 ++ nds.flatMap ndM ++ numB sls.length 2 ++ (sls.take j).flatMap slM).length + 12 ≤ 65536) := by
          have h3 := flat_take slM sls (j + 1)
          rw [flat_next slM sls j hlt, List.length_append] at h3
          have h4 : (slM sls[j]).length = 12 := by simp [slM, numB_len]
          have := HLen.out
          simp only [bdyB, List.length_append] at this ⊢
          show _ ≤ _; omega
        have z0 := HR.out.penc
        have za := fun o => (gr_alloc wr o).cell' z0 id
        have HX := hidM (QF.first (t := 46) HR.out.ink HR.out.ku HR.out.ne HR.out.pen #[.int .i64 sls[j].1, .int .i64 sls[j].2.1, .int .i64 sls[j].2.2])
        have HY : Hid (QF w W (wr.alloc (.cells #[.int .i64 sls[j].1, .int .i64 sls[j].2.1, .int .i64 sls[j].2.2] 46)) K S F #[.int .i64 k, .slice fo fs.length cf, .slice no ns.length cn, .int .i64 di, .bool dl, .int .i64 rows, .int .i64 pr, .slice ao nds.length ac, .slice uo sls.length uc] 29 (bs ++ numB rows.toNat 4 ++ numB pr.toNat 1 ++ numB nds.length 2 ++ nds.flatMap ndM ++ numB sls.length 2 ++ (sls.take j).flatMap slM)) := HR.out.next (HR.out.ink.kept (gr_alloc wr _)) (KU.gr (gr_alloc wr _)) (by decide)
        have HC := hidM (penNumberZ HX.out.ink sls[j].1 4 (by unfold slotOk at hok; omega) (.inr (.inr rfl)) (by have := HLim.out; omega))
        subst hao
        clear hcs
        go_wp2_with (go_at_call 36; refine Hid.out ?_)
        unfold Hid
        refine Calls.mono HC.out ?_
        rintro e X1 ⟨rfl, hI1, hU1⟩
        have HX1 := hidM (HX.out.next hI1 hU1 (by decide))
        have HY1 := hidM (HY.out.next hI1 hU1 (by decide))
        obtain ⟨G, hG⟩ : ∃ G, G = wr.heap.size := ⟨_, rfl⟩
        rw [← hG] at HX1 ⊢
        clear hI1 hU1 HC HX HY za z0 HR hG g0 c0 g1 c1 g2 c2
        have HC := hidM (penNumberZ HX1.out.ink sls[j].2.1 4 (by unfold slotOk at hok; omega) (.inr (.inr rfl)) (by have := HLim.out; simp [numB_len] at this ⊢; omega))
        have z0 := HX1.out.penc
        obtain ⟨q0, q1, q2⟩ := ce3 HX1.out.box
        go_wp2_with (go_at_call 36; refine Hid.out ?_)
        unfold Hid
        refine Calls.mono HC.out ?_
        rintro e X2 ⟨rfl, hI1, hU1⟩
        have HX2 := hidM (HX1.out.next hI1 hU1 (by decide))
        have HY2 := hidM (HY1.out.next hI1 hU1 (by decide))
        clear hI1 hU1 HC HX1 HY1 z0 q0 q1 q2
        have HC := hidM (penNumberZ HX2.out.ink sls[j].2.2 4 (by unfold slotOk at hok; omega) (.inr (.inr rfl)) (by have := HLim.out; simp [numB_len] at this ⊢; omega))
        have z0 := HX2.out.penc
        obtain ⟨q0, q1, q2⟩ := ce3 HX2.out.box
        go_wp2_with (go_at_call 36; refine Hid.out ?_)
        unfold Hid
        refine Calls.mono HC.out ?_
        rintro e X3 ⟨rfl, hI1, hU1⟩
        have HX3 := hidM (HX2.out.next hI1 hU1 (by decide))
        have HY3 := hidM (HY2.out.next hI1 hU1 (by decide))
        clear hI1 hU1 HC HX2 HY2 z0 q0 q1 q2
        have HN : Hid (QF w W X3 K S F #[.int .i64 k, .slice fo fs.length cf, .slice no ns.length cn, .int .i64 di, .bool dl, .int .i64 rows, .int .i64 pr, .slice ao nds.length ac, .slice (some ⟨b, o, none⟩) sls.length uc] 29 (bs ++ numB rows.toNat 4 ++ numB pr.toNat 1 ++ numB nds.length 2 ++ nds.flatMap ndM ++ numB sls.length 2 ++ (sls.take (j + 1)).flatMap slM)) := by
          have := HY3.out
          rw [HTK.out, show slM sls[j] = numB sls[j].1.toNat 4 ++ numB sls[j].2.1.toNat 4 ++ numB sls[j].2.2.toNat 4 from rfl, ← List.append_assoc, ← List.append_assoc]
          exact this
        clear HX3 HY3 HTK HLim hok
        go_wp2_with fail
        go_roundw
        case rel => exact ⟨j + 1, by omega, by simp, HN.out⟩
        case measure => simp [intOf]; omega
      have hltI : ¬ (j : Int) < (sls.length : Int) := by omega
      have HE : Hid (QF w W wr K S F #[.int .i64 k, .slice fo fs.length cf, .slice no ns.length cn, .int .i64 di, .bool dl, .int .i64 rows, .int .i64 pr, .slice ao nds.length ac, .slice uo sls.length uc] 29 (bs ++ numB rows.toNat 4 ++ numB pr.toNat 1 ++ numB nds.length 2 ++ nds.flatMap ndM ++ numB sls.length 2 ++ sls.flatMap slM)) := by
        have := HR.out
        rwa [List.take_of_length_le (by omega)] at this
      clear HR
      go_wp2_with fail
      go_end0
      exact ⟨rfl, by have := HE.out.ink; simpa [bdyB, List.append_assoc] using this, HE.out.ku⟩
theorem penHead_any {w W : World} {K : Nat} {bs fbs : List UInt8} {k di rows pr : Int} {dl : Bool} {fo no ao uo : Option Addr} {cf cn ac uc : Nat} {fs : List FT} {ns : List (ByteArray × ByteArray)} {nds : List (Int × Int)} {sls : List (Int × Int × Int)} (h : InkAt w W K bs) (hlen : bs.length + (if k = 1 then hd4 k ++ (numB fs.length 2 ++ fbs ++ numB ns.length 2 ++ ns.flatMap ntM) else if k = 2 then hd4 k ++ (numB di.toNat 2 ++ flgB dl) ++ bdyB rows pr nds sls else hd4 k ++ bdyB rows pr nds sls).length ≤ 65536) (hk : 1 ≤ k ∧ k ≤ 3) (hdi : k = 2 → 0 ≤ di ∧ di < 1000)
    (h22 : k = 1 → ∀ V bs', InkAt w V K bs' → bs'.length + (numB fs.length 2 ++ fbs ++ numB ns.length 2 ++ ns.flatMap ntM).length ≤ 65536 → Calls Tryz.prog 37 #[.agg #[.pointer (some ⟨K, 0, none⟩)], .agg #[.slice fo fs.length cf, .slice no ns.length cn]] V fun e w' => e = .returned (.tuple #[]) ∧ InkAt w w' K (bs' ++ (numB fs.length 2 ++ fbs ++ numB ns.length 2 ++ ns.flatMap ntM)) ∧ KU K V w')
    (h24 : ¬ k = 1 → ∀ V bs', InkAt w V K bs' → bs'.length + (bdyB rows pr nds sls).length ≤ 65536 → Calls Tryz.prog 39 #[.agg #[.pointer (some ⟨K, 0, none⟩)], .agg #[.int .i64 k, .slice fo fs.length cf, .slice no ns.length cn, .int .i64 di, .bool dl, .int .i64 rows, .int .i64 pr, .slice ao nds.length ac, .slice uo sls.length uc]] V fun e w' => e = .returned (.tuple #[]) ∧ InkAt w w' K (bs' ++ bdyB rows pr nds sls) ∧ KU K V w') :
    Calls Tryz.prog 21 #[.agg #[.pointer (some ⟨K, 0, none⟩)], .agg #[.int .i64 k, .slice fo fs.length cf, .slice no ns.length cn, .int .i64 di, .bool dl, .int .i64 rows, .int .i64 pr, .slice ao nds.length ac, .slice uo sls.length uc]] W fun e w' => e = .returned (.tuple #[]) ∧ InkAt w w' K (bs ++ (if k = 1 then hd4 k ++ (numB fs.length 2 ++ fbs ++ numB ns.length 2 ++ ns.flatMap ntM) else if k = 2 then hd4 k ++ (numB di.toNat 2 ++ flgB dl) ++ bdyB rows pr nds sls else hd4 k ++ bdyB rows pr nds sls)) ∧ KU K W w' := by
  have HLen : Hid (bs.length + 4 ≤ 65536) := by have : 4 ≤ (if k = 1 then hd4 k ++ (numB fs.length 2 ++ fbs ++ numB ns.length 2 ++ ns.flatMap ntM) else if k = 2 then hd4 k ++ (numB di.toNat 2 ++ flgB dl) ++ bdyB rows pr nds sls else hd4 k ++ bdyB rows pr nds sls).length := (by split <;> (try split) <;> simp [hd4] <;> omega); show _ ≤ _; omega
  have HAll := hidM hlen
  have HS1 := hidM h22
  have HS2 := hidM h24
  have HQ0 : Hid (QF w W ((W.alloc (.cells #[.pointer (some ⟨K, 0, none⟩)] 61)).alloc (.cells #[.int .i64 k, .slice fo fs.length cf, .slice no ns.length cn, .int .i64 di, .bool dl, .int .i64 rows, .int .i64 pr, .slice ao nds.length ac, .slice uo sls.length uc] 29)) K W.heap.size (W.heap.size + 1) #[.int .i64 k, .slice fo fs.length cf, .slice no ns.length cn, .int .i64 di, .bool dl, .int .i64 rows, .int .i64 pr, .slice ao nds.length ac, .slice uo sls.length uc] 29 bs) := by
    have hne : W.heap.size ≠ K := by obtain ⟨vo, n, vc, h1, -⟩ := h.ex; have := lt_of_heap h1; exact fun e => by omega
    have := QF.first (t := 29) (h.kept (gr_alloc W (.cells #[.pointer (some ⟨K, 0, none⟩)] 61))) (KU.gr (K := K) (gr_alloc W (.cells #[.pointer (some ⟨K, 0, none⟩)] 61))) hne (heap_alloc_new W _) #[.int .i64 k, .slice fo fs.length cf, .slice no ns.length cn, .int .i64 di, .bool dl, .int .i64 rows, .int .i64 pr, .slice ao nds.length ac, .slice uo sls.length uc]
    have e2 : (W.alloc (.cells #[.pointer (some ⟨K, 0, none⟩)] 61)).heap.size = W.heap.size + 1 := by simp
    rw [e2] at this
    exact this
  clear h hlen h22 h24
  obtain ⟨hbs, eHB⟩ := ex ((if k = 1 then hd4 k ++ (numB fs.length 2 ++ fbs ++ numB ns.length 2 ++ ns.flatMap ntM) else if k = 2 then hd4 k ++ (numB di.toNat 2 ++ flgB dl) ++ bdyB rows pr nds sls else hd4 k ++ bdyB rows pr nds sls))
  rw [eHB] at HAll ⊢
  have HE := hidM eHB
  clear eHB
  go_enter Tryz.func21, Tryz.ntmps21
  have HC := hidM (penNumberZ HQ0.out.ink k 1 (by omega) (.inl rfl) (by have := HLen.out; omega))
  have z0 := HQ0.out.penc
  obtain ⟨q0, q1, q2, q3, q4, q5, q6, q7, q8⟩ := ce9 HQ0.out.box
  go_wp2_with (go_at_call 36; refine Hid.out ?_)
  unfold Hid
  refine Calls.mono HC.out ?_
  rintro e V1 ⟨rfl, hI1, hU1⟩
  have HQ1 := hidM (HQ0.out.next hI1 hU1 (by decide))
  clear hI1 hU1 HC z0 q0 q1 q2 q3 q4 q5 q6 q7 q8 HQ0
  obtain ⟨S, hS⟩ : ∃ S, S = W.heap.size := ⟨_, rfl⟩
  obtain ⟨F, hF⟩ : ∃ F, F = W.heap.size + 1 := ⟨_, rfl⟩
  rw [← hF, ← hS] at HQ1
  try rw [← hF]
  try rw [← hS]
  clear hS hF
  have HC := hidM (penNumber_any HQ1.out.ink 1 1 (by omega) (.inl rfl) (by have := HLen.out; simp [numB_len] at this ⊢; omega))
  have z0 := HQ1.out.penc
  obtain ⟨q0, q1, q2, q3, q4, q5, q6, q7, q8⟩ := ce9 HQ1.out.box
  go_wp2_with (go_at_call 36; refine Hid.out ?_)
  unfold Hid
  refine Calls.mono HC.out ?_
  rintro e V2 ⟨rfl, hI1, hU1⟩
  have HQ2 := hidM (HQ1.out.next hI1 hU1 (by decide))
  clear hI1 hU1 HC z0 q0 q1 q2 q3 q4 q5 q6 q7 q8 HQ1
  have HC := hidM (penNumber_any HQ2.out.ink 0 1 (by omega) (.inl rfl) (by have := HLen.out; simp [numB_len] at this ⊢; omega))
  have z0 := HQ2.out.penc
  obtain ⟨q0, q1, q2, q3, q4, q5, q6, q7, q8⟩ := ce9 HQ2.out.box
  go_wp2_with (go_at_call 36; refine Hid.out ?_)
  unfold Hid
  refine Calls.mono HC.out ?_
  rintro e V3 ⟨rfl, hI1, hU1⟩
  have HQ3 := hidM (HQ2.out.next hI1 hU1 (by decide))
  clear hI1 hU1 HC z0 q0 q1 q2 q3 q4 q5 q6 q7 q8 HQ2
  have HC := hidM (penNumber_any HQ3.out.ink 0 1 (by omega) (.inl rfl) (by have := HLen.out; simp [numB_len] at this ⊢; omega))
  have z0 := HQ3.out.penc
  obtain ⟨q0, q1, q2, q3, q4, q5, q6, q7, q8⟩ := ce9 HQ3.out.box
  go_wp2_with (go_at_call 36; refine Hid.out ?_)
  unfold Hid
  refine Calls.mono HC.out ?_
  rintro e V4 ⟨rfl, hI1, hU1⟩
  have HQ4 := hidM (HQ3.out.next hI1 hU1 (by decide))
  clear hI1 hU1 HC z0 q0 q1 q2 q3 q4 q5 q6 q7 q8 HQ3
  have e4 : bs ++ numB k.toNat 1 ++ numB 1 1 ++ numB 0 1 ++ numB 0 1 = bs ++ hd4 k := by have e : k.toNat % 256 = k.toNat := Nat.mod_eq_of_lt (by omega); simp [numB, hd4, List.append_assoc, e]
  rw [e4] at HQ4
  clear e4 HLen
  by_cases c1 : k = 1
  · have k1 : (k == 1) = true := by simp [c1]
    have HA1 : Hid ((bs ++ hd4 k).length + (numB fs.length 2 ++ fbs ++ numB ns.length 2 ++ ns.flatMap ntM).length ≤ 65536) := by have := HAll.out; rw [← HE.out, if_pos c1] at this; simp only [List.length_append] at this ⊢; show _ ≤ _; omega
    have HC := hidM (HS1.out c1 _ _ HQ4.out.ink HA1.out)
    have z0 := HQ4.out.penc
    obtain ⟨q0, q1, q2, q3, q4, q5, q6, q7, q8⟩ := ce9 HQ4.out.box
    go_wp2_with (go_at_call 37; refine Hid.out ?_)
    unfold Hid
    refine Calls.mono HC.out ?_
    rintro e V5 ⟨rfl, hI1, hU1⟩
    have HQ5 := hidM (HQ4.out.next hI1 hU1 (by decide))
    clear hI1 hU1 HC z0 q0 q1 q2 q3 q4 q5 q6 q7 q8 HQ4
    go_wp2_with fail
    go_end0
    exact ⟨rfl, by have := HQ5.out.ink; rw [← HE.out, if_pos c1, ← List.append_assoc]; exact this, HQ5.out.ku⟩
  have k1 : (k == 1) = false := beqF c1
  by_cases c2 : k = 2
  · have k2 : (k == 2) = true := by simp [c2]
    have hd2 := hdi c2
    have HA2 : Hid (bs.length + (hd4 k ++ (numB di.toNat 2 ++ flgB dl) ++ bdyB rows pr nds sls).length ≤ 65536) := by have := HAll.out; rwa [← HE.out, if_neg c1, if_pos c2] at this
    have C2 := hidM c2
    clear c2
    have HC := hidM (penNumberZ HQ4.out.ink di 2 (by omega) (.inr (.inl rfl)) (by have := HA2.out; simp [numB_len, flgB_len] at this ⊢; omega))
    have z0 := HQ4.out.penc
    obtain ⟨q0, q1, q2, q3, q4, q5, q6, q7, q8⟩ := ce9 HQ4.out.box
    go_wp2_with (go_at_call 36; refine Hid.out ?_)
    unfold Hid
    refine Calls.mono HC.out ?_
    rintro e V5 ⟨rfl, hI1, hU1⟩
    have HQ5 := hidM (HQ4.out.next hI1 hU1 (by decide))
    clear hI1 hU1 HC z0 q0 q1 q2 q3 q4 q5 q6 q7 q8 HQ4
    have HC := hidM (penFlag_any HQ5.out.ink dl (by have := HA2.out; simp [numB_len, flgB_len] at this ⊢; omega))
    have z0 := HQ5.out.penc
    obtain ⟨q0, q1, q2, q3, q4, q5, q6, q7, q8⟩ := ce9 HQ5.out.box
    go_wp2_with (go_at_call 38; refine Hid.out ?_)
    unfold Hid
    refine Calls.mono HC.out ?_
    rintro e V6 ⟨rfl, hI1, hU1⟩
    have HQ6 := hidM (HQ5.out.next hI1 hU1 (by decide))
    clear hI1 hU1 HC z0 q0 q1 q2 q3 q4 q5 q6 q7 q8 HQ5
    have HC := hidM (HS2.out c1 _ _ HQ6.out.ink (by have := HA2.out; simp [numB_len, flgB_len] at this ⊢; omega))
    have z0 := HQ6.out.penc
    obtain ⟨q0, q1, q2, q3, q4, q5, q6, q7, q8⟩ := ce9 HQ6.out.box
    go_wp2_with (go_at_call 39; refine Hid.out ?_)
    unfold Hid
    refine Calls.mono HC.out ?_
    rintro e V7 ⟨rfl, hI1, hU1⟩
    have HQ7 := hidM (HQ6.out.next hI1 hU1 (by decide))
    clear hI1 hU1 HC z0 q0 q1 q2 q3 q4 q5 q6 q7 q8 HQ6
    go_wp2_with fail
    go_end0
    exact ⟨rfl, by have := HQ7.out.ink; rw [← HE.out, if_neg c1, if_pos C2.out]; simpa [List.append_assoc] using this, HQ7.out.ku⟩
  have k2 : (k == 2) = false := beqF c2
  have k3 : (k == 3) = true := by simp; omega
  have HA3 : Hid (bs.length + (hd4 k ++ bdyB rows pr nds sls).length ≤ 65536) := by have := HAll.out; rwa [← HE.out, if_neg c1, if_neg c2] at this
  have HC := hidM (HS2.out c1 _ _ HQ4.out.ink (by have := HA3.out; simp at this ⊢; omega))
  have z0 := HQ4.out.penc
  obtain ⟨q0, q1, q2, q3, q4, q5, q6, q7, q8⟩ := ce9 HQ4.out.box
  go_wp2_with (go_at_call 39; refine Hid.out ?_)
  unfold Hid
  refine Calls.mono HC.out ?_
  rintro e V5 ⟨rfl, hI1, hU1⟩
  have HQ5 := hidM (HQ4.out.next hI1 hU1 (by decide))
  clear hI1 hU1 HC z0 q0 q1 q2 q3 q4 q5 q6 q7 q8 HQ4
  go_wp2_with fail
  go_end0
  exact ⟨rfl, by have := HQ5.out.ink; rw [← HE.out, if_neg c1, if_neg c2]; simpa [List.append_assoc] using this, HQ5.out.ku⟩
end Go.Proofs.YtdihbfjjddmbiaaGreatDoor.Kit
