import Derived.Test.YtchhnchddledlaaDoorVR
namespace Go.Proofs.YtchhnchddledlaaDoor.Kit
open Go.RowKit Go.Shelf Go.Deep
set_option linter.unusedVariables false
attribute [local go_sem] run_store_func

/-! ### the pen's schema -/
set_option maxRecDepth 100000 in
set_option maxHeartbeats 4000000 in
theorem penSchema_any {w W : World} {K : Nat} {bs fbs : List UInt8} (fs : List FT) (ns : List (ByteArray × ByteArray)) (fo no : Option Addr) (cf cn : Nat) (h : InkAt w W K bs) (hlen : bs.length + (numB fs.length 2 ++ fbs ++ numB ns.length 2 ++ ns.flatMap ntM).length ≤ 65536) (hb : fs.length ≤ 1000000000000)
    (h31 : ∀ V bs', InkAt w V K bs' → bs'.length + fbs.length ≤ 65536 → Calls Tryd.prog 31 #[.agg #[.pointer (some ⟨K, 0, none⟩)], .slice fo fs.length cf] V fun e w' => e = .returned (.tuple #[]) ∧ InkAt w w' K (bs' ++ fbs) ∧ KU K V w') (hn : NotesAt w no ns) :
    Calls Tryd.prog 22 #[.agg #[.pointer (some ⟨K, 0, none⟩)], .agg #[.slice fo fs.length cf, .slice no ns.length cn]] W fun e w' => e = .returned (.tuple #[]) ∧ InkAt w w' K (bs ++ (numB fs.length 2 ++ fbs ++ numB ns.length 2 ++ ns.flatMap ntM)) ∧ KU K W w' := by
  have HLen := hidM hlen
  have H31 := hidM h31
  have HNo := hidM hn.2
  have hln : ns.length ≤ 1000000000000 := hn.1
  have HQ0 : Hid (QF w W ((W.alloc (.cells #[.pointer (some ⟨K, 0, none⟩)] 40)).alloc (.cells #[.slice fo fs.length cf, .slice no ns.length cn] 25)) K W.heap.size (W.heap.size + 1) #[.slice fo fs.length cf, .slice no ns.length cn] 25 bs) := by
    have hne : W.heap.size ≠ K := by obtain ⟨vo, n, vc, h1, -⟩ := h.ex; have := lt_of_heap h1; exact fun e => by omega
    have := QF.first (t := 25) (h.kept (gr_alloc W (.cells #[.pointer (some ⟨K, 0, none⟩)] 40))) (KU.gr (K := K) (gr_alloc W (.cells #[.pointer (some ⟨K, 0, none⟩)] 40))) hne (heap_alloc_new W _) #[.slice fo fs.length cf, .slice no ns.length cn]
    have e2 : (W.alloc (.cells #[.pointer (some ⟨K, 0, none⟩)] 40)).heap.size = W.heap.size + 1 := by simp
    rw [e2] at this
    exact this
  clear h hlen h31 hn
  go_enter Tryd.func22, Tryd.ntmps22
  have HC := hidM (penNumber_any HQ0.out.ink fs.length 2 (by omega) (.inr (.inl rfl)) (by have := HLen.out; simp [numB_len] at this ⊢; omega))
  have z0 := HQ0.out.penc
  obtain ⟨q0, q1⟩ := ce2 HQ0.out.box
  go_wp2_with (go_at_call 21; refine Hid.out ?_)
  unfold Hid
  refine Calls.mono HC.out ?_
  rintro e V1 ⟨rfl, hI1, hU1⟩
  have HQ1 := hidM (HQ0.out.next hI1 hU1 (by decide))
  clear hI1 hU1 HC z0 q0 q1 HQ0
  obtain ⟨S, hS⟩ : ∃ S, S = W.heap.size := ⟨_, rfl⟩
  obtain ⟨F, hF⟩ : ∃ F, F = W.heap.size + 1 := ⟨_, rfl⟩
  rw [← hF, ← hS] at HQ1
  try rw [← hF]
  try rw [← hS]
  clear hS hF
  have HC := hidM (H31.out _ _ HQ1.out.ink (by have := HLen.out; simp [numB_len] at this ⊢; omega))
  have z0 := HQ1.out.penc
  obtain ⟨q0, q1⟩ := ce2 HQ1.out.box
  go_wp2_with (go_at_call 31; refine Hid.out ?_)
  unfold Hid
  refine Calls.mono HC.out ?_
  rintro e V2 ⟨rfl, hI1, hU1⟩
  have HQ2 := hidM (HQ1.out.next hI1 hU1 (by decide))
  clear hI1 hU1 HC z0 q0 q1 HQ1
  have HC := hidM (penNumber_any HQ2.out.ink ns.length 2 (by omega) (.inr (.inl rfl)) (by have := HLen.out; simp [numB_len] at this ⊢; omega))
  have z0 := HQ2.out.penc
  obtain ⟨q0, q1⟩ := ce2 HQ2.out.box
  go_wp2_with (go_at_call 21; refine Hid.out ?_)
  unfold Hid
  refine Calls.mono HC.out ?_
  rintro e V3 ⟨rfl, hI1, hU1⟩
  have HQ3 := hidM (HQ2.out.next hI1 hU1 (by decide))
  clear hI1 hU1 HC z0 q0 q1 HQ2
  have z0 := HQ3.out.penc
  obtain ⟨q0, q1⟩ := ce2 HQ3.out.box
  go_wp2_with fail
  go_loopw [23] (fun i wr => ∃ j : Nat, j ≤ ns.length ∧ i = .int .i64 (j : Int) ∧ Hid (QF w W wr K S F #[.slice fo fs.length cf, .slice no ns.length cn] 25 (bs ++ numB fs.length 2 ++ fbs ++ numB ns.length 2 ++ (ns.take j).flatMap ntM))) (fun i _ => ns.length - (intOf i).toNat)
  case atStart => exact ⟨0, by omega, rfl, by rw [List.take_zero, List.flatMap_nil, List.append_nil]; exact HQ3.out⟩
  case round =>
    obtain ⟨j, hj, rfl, HR⟩ := hrel
    clear HQ3 z0 q0 q1
    by_cases hlt : j < ns.length
    · have hltI : (j : Int) < (ns.length : Int) := by omega
      have hj0 : (0 : Int) ≤ (j : Int) := by omega
      obtain ⟨b, o, hao, hcs⟩ := HNo.out (fun e => by rw [e] at hlt; simp at hlt)
      obtain ⟨c0, c1⟩ := hcs j hlt
      have g0 := HR.out.ink.gr.cell' c0 id
      have g1 := HR.out.ink.gr.cell' c1 id
      have HTK : Hid (bs ++ numB fs.length 2 ++ fbs ++ numB ns.length 2 ++ (ns.take (j + 1)).flatMap ntM = bs ++ numB fs.length 2 ++ fbs ++ numB ns.length 2 ++ (ns.take j).flatMap ntM ++ ntM ns[j]) := by show _ = _; rw [flat_next ntM ns j hlt, ← List.append_assoc]
      have HLim : Hid ((bs ++ numB fs.length 2 ++ fbs ++ numB ns.length 2 ++ (ns.take j).flatMap ntM).length + (ntM ns[j]).length ≤ 65536) := by
        have h3 := flat_take ntM ns (j + 1)
        rw [flat_next ntM ns j hlt, List.length_append] at h3
        have := HLen.out
        simp only [List.length_append] at this ⊢
        show _ ≤ _; omega
      have z0 := HR.out.penc
      have za := fun o => (gr_alloc wr o).cell' z0 id
      have HX := hidM (QF.first (t := 51) HR.out.ink HR.out.ku HR.out.ne HR.out.pen #[.string ns[j].1, .string ns[j].2])
      have HY : Hid (QF w W (wr.alloc (.cells #[.string ns[j].1, .string ns[j].2] 51)) K S F #[.slice fo fs.length cf, .slice no ns.length cn] 25 (bs ++ numB fs.length 2 ++ fbs ++ numB ns.length 2 ++ (ns.take j).flatMap ntM)) := HR.out.next (HR.out.ink.kept (gr_alloc wr _)) (KU.gr (gr_alloc wr _)) (by decide)
      have HC := hidM (penText_any HX.out.ink ns[j].1 2 (.inr (.inl rfl)) (by have := HLim.out; simp [ntM, txtB, numB_len] at this ⊢; omega))
      subst hao
      clear hcs
      go_wp2_with (go_at_call 32; refine Hid.out ?_)
      unfold Hid
      refine Calls.mono HC.out ?_
      rintro e V4 ⟨rfl, hI1, hU1⟩
      have HX1 := hidM (HX.out.next hI1 hU1 (by decide))
      have HY1 := hidM (HY.out.next hI1 hU1 (by decide))
      obtain ⟨G, hG⟩ : ∃ G, G = wr.heap.size := ⟨_, rfl⟩
      rw [← hG] at HX1 ⊢
      clear hI1 hU1 HC HX HY za z0 g0 g1 c0 c1 HR hG
      have HC := hidM (penText_any HX1.out.ink ns[j].2 2 (.inr (.inl rfl)) (by have := HLim.out; simp [ntM, txtB, numB_len] at this ⊢; omega))
      have z0 := HX1.out.penc
      obtain ⟨q0, q1⟩ := ce2 HX1.out.box
      go_wp2_with (go_at_call 32; refine Hid.out ?_)
      unfold Hid
      refine Calls.mono HC.out ?_
      rintro e V5 ⟨rfl, hI1, hU1⟩
      have HY2 := hidM (HY1.out.next hI1 hU1 (by decide))
      clear hI1 hU1 HC HX1 HY1 z0 q0 q1
      have HN : Hid (QF w W V5 K S F #[.slice fo fs.length cf, .slice (some ⟨b, o, none⟩) ns.length cn] 25 (bs ++ numB fs.length 2 ++ fbs ++ numB ns.length 2 ++ (ns.take (j + 1)).flatMap ntM)) := by
        have := HY2.out
        rw [HTK.out, show ntM ns[j] = txtB ns[j].1 2 ++ txtB ns[j].2 2 from rfl, ← List.append_assoc]
        exact this
      clear HY2 HTK HLim
      go_wp2_with fail
      go_roundw
      case rel => exact ⟨j + 1, by omega, by simp, HN.out⟩
      case measure => simp [intOf]; omega
    · have hltI : ¬ (j : Int) < (ns.length : Int) := by omega
      have HE : Hid (InkAt w wr K (bs ++ (numB fs.length 2 ++ fbs ++ numB ns.length 2 ++ ns.flatMap ntM)) ∧ KU K W wr) := by
        have := HR.out
        rw [List.take_of_length_le (by omega)] at this
        exact ⟨by have := this.ink; simpa [List.append_assoc] using this, this.ku⟩
      clear HR
      go_wp2_with fail
      go_end0
      exact ⟨rfl, by have := HE.out.1; simpa [List.append_assoc] using this, HE.out.2⟩
end Go.Proofs.YtchhnchddledlaaDoor.Kit
