import Derived.Test.YtdffjdlpbfcikaaDoorVT
namespace Go.Proofs.YtdffjdlpbfcikaaDoor.Kit
open Go.RowKit Go.Shelf Go.Deep
set_option linter.unusedVariables false
attribute [local go_sem] run_store_func

/-! ### the pen's head -/
set_option maxRecDepth 100000 in
set_option maxHeartbeats 4000000 in
theorem penHead_any {w W : World} {K : Nat} {bs fbs : List UInt8} {k di rows pr : Int} {dl : Bool} {fo no ao uo : Option Addr} {cf cn ac uc : Nat} {fs : List FT} {ns : List (ByteArray × ByteArray)} {nds : List (Int × Int)} {sls : List (Int × Int × Int)} (h : InkAt w W K bs) (hlen : bs.length + (if k = 1 then hd4 k ++ (numB fs.length 2 ++ fbs ++ numB ns.length 2 ++ ns.flatMap ntM) else if k = 2 then hd4 k ++ (numB di.toNat 2 ++ flgB dl) ++ bdyB rows pr nds sls else hd4 k ++ bdyB rows pr nds sls).length ≤ 65536) (hk : 1 ≤ k ∧ k ≤ 3) (hdi : k = 2 → 0 ≤ di ∧ di < 1000)
    (h22 : k = 1 → ∀ V bs', InkAt w V K bs' → bs'.length + (numB fs.length 2 ++ fbs ++ numB ns.length 2 ++ ns.flatMap ntM).length ≤ 65536 → Calls Tryd.prog 39 #[.agg #[.pointer (some ⟨K, 0, none⟩)], .agg #[.slice fo fs.length cf, .slice no ns.length cn]] V fun e w' => e = .returned (.tuple #[]) ∧ InkAt w w' K (bs' ++ (numB fs.length 2 ++ fbs ++ numB ns.length 2 ++ ns.flatMap ntM)) ∧ KU K V w')
    (h24 : ¬ k = 1 → ∀ V bs', InkAt w V K bs' → bs'.length + (bdyB rows pr nds sls).length ≤ 65536 → Calls Tryd.prog 41 #[.agg #[.pointer (some ⟨K, 0, none⟩)], .agg #[.int .i64 k, .slice fo fs.length cf, .slice no ns.length cn, .int .i64 di, .bool dl, .int .i64 rows, .int .i64 pr, .slice ao nds.length ac, .slice uo sls.length uc]] V fun e w' => e = .returned (.tuple #[]) ∧ InkAt w w' K (bs' ++ bdyB rows pr nds sls) ∧ KU K V w') :
    Calls Tryd.prog 24 #[.agg #[.pointer (some ⟨K, 0, none⟩)], .agg #[.int .i64 k, .slice fo fs.length cf, .slice no ns.length cn, .int .i64 di, .bool dl, .int .i64 rows, .int .i64 pr, .slice ao nds.length ac, .slice uo sls.length uc]] W fun e w' => e = .returned (.tuple #[]) ∧ InkAt w w' K (bs ++ (if k = 1 then hd4 k ++ (numB fs.length 2 ++ fbs ++ numB ns.length 2 ++ ns.flatMap ntM) else if k = 2 then hd4 k ++ (numB di.toNat 2 ++ flgB dl) ++ bdyB rows pr nds sls else hd4 k ++ bdyB rows pr nds sls)) ∧ KU K W w' := by
  have HLen : Hid (bs.length + 4 ≤ 65536) := by have : 4 ≤ (if k = 1 then hd4 k ++ (numB fs.length 2 ++ fbs ++ numB ns.length 2 ++ ns.flatMap ntM) else if k = 2 then hd4 k ++ (numB di.toNat 2 ++ flgB dl) ++ bdyB rows pr nds sls else hd4 k ++ bdyB rows pr nds sls).length := (by split <;> (try split) <;> simp [hd4] <;> omega); show _ ≤ _; omega
  have HAll := hidM hlen
  have HS1 := hidM h22
  have HS2 := hidM h24
  have HQ0 : Hid (QF w W ((W.alloc (.cells #[.pointer (some ⟨K, 0, none⟩)] 69)).alloc (.cells #[.int .i64 k, .slice fo fs.length cf, .slice no ns.length cn, .int .i64 di, .bool dl, .int .i64 rows, .int .i64 pr, .slice ao nds.length ac, .slice uo sls.length uc] 30)) K W.heap.size (W.heap.size + 1) #[.int .i64 k, .slice fo fs.length cf, .slice no ns.length cn, .int .i64 di, .bool dl, .int .i64 rows, .int .i64 pr, .slice ao nds.length ac, .slice uo sls.length uc] 30 bs) := by
    have hne : W.heap.size ≠ K := by obtain ⟨vo, n, vc, h1, -⟩ := h.ex; have := lt_of_heap h1; exact fun e => by omega
    have := QF.first (t := 30) (h.kept (gr_alloc W (.cells #[.pointer (some ⟨K, 0, none⟩)] 69))) (KU.gr (K := K) (gr_alloc W (.cells #[.pointer (some ⟨K, 0, none⟩)] 69))) hne (heap_alloc_new W _) #[.int .i64 k, .slice fo fs.length cf, .slice no ns.length cn, .int .i64 di, .bool dl, .int .i64 rows, .int .i64 pr, .slice ao nds.length ac, .slice uo sls.length uc]
    have e2 : (W.alloc (.cells #[.pointer (some ⟨K, 0, none⟩)] 69)).heap.size = W.heap.size + 1 := by simp
    rw [e2] at this
    exact this
  clear h hlen h22 h24
  obtain ⟨hbs, eHB⟩ : ∃ hbs, (if k = 1 then hd4 k ++ (numB fs.length 2 ++ fbs ++ numB ns.length 2 ++ ns.flatMap ntM) else if k = 2 then hd4 k ++ (numB di.toNat 2 ++ flgB dl) ++ bdyB rows pr nds sls else hd4 k ++ bdyB rows pr nds sls) = hbs := ⟨_, rfl⟩
  rw [eHB] at HAll ⊢
  have HE := hidM eHB
  clear eHB
  go_enter Tryd.func24, Tryd.ntmps24
  have HC := hidM (penNumberZ HQ0.out.ink k 1 (by omega) (.inl rfl) (by have := HLen.out; omega))
  have z0 := HQ0.out.penc
  obtain ⟨q0, q1, q2, q3, q4, q5, q6, q7, q8⟩ := ce9 HQ0.out.box
  go_wp2_with (go_at_call 38; refine Hid.out ?_)
  unfold Hid
  refine Calls.mono HC.out ?_
  rintro e V1 ⟨rfl, hI1, hU1⟩
  have HQ1 := hidM (HQ0.out.next hI1 hU1 (by decide))
  clear hI1 hU1 HC z0 q0 q1 q2 q3 q4 q5 q6 q7 q8 HQ0
  obtain ⟨S, hS⟩ : ∃ S, S = W.heap.size := ⟨_, rfl⟩
  obtain ⟨F, hF⟩ : ∃ F, F = W.heap.size + 1 := ⟨_, rfl⟩
  rw [← hF, ← hS] at HQ1
  try rw [← hF]
  try rw [← hS]
  clear hS hF
  have HC := hidM (penNumber_any HQ1.out.ink 1 1 (by omega) (.inl rfl) (by have := HLen.out; simp [numB_len] at this ⊢; omega))
  have z0 := HQ1.out.penc
  obtain ⟨q0, q1, q2, q3, q4, q5, q6, q7, q8⟩ := ce9 HQ1.out.box
  go_wp2_with (go_at_call 38; refine Hid.out ?_)
  unfold Hid
  refine Calls.mono HC.out ?_
  rintro e V2 ⟨rfl, hI1, hU1⟩
  have HQ2 := hidM (HQ1.out.next hI1 hU1 (by decide))
  clear hI1 hU1 HC z0 q0 q1 q2 q3 q4 q5 q6 q7 q8 HQ1
  have HC := hidM (penNumber_any HQ2.out.ink 0 1 (by omega) (.inl rfl) (by have := HLen.out; simp [numB_len] at this ⊢; omega))
  have z0 := HQ2.out.penc
  obtain ⟨q0, q1, q2, q3, q4, q5, q6, q7, q8⟩ := ce9 HQ2.out.box
  go_wp2_with (go_at_call 38; refine Hid.out ?_)
  unfold Hid
  refine Calls.mono HC.out ?_
  rintro e V3 ⟨rfl, hI1, hU1⟩
  have HQ3 := hidM (HQ2.out.next hI1 hU1 (by decide))
  clear hI1 hU1 HC z0 q0 q1 q2 q3 q4 q5 q6 q7 q8 HQ2
  have HC := hidM (penNumber_any HQ3.out.ink 0 1 (by omega) (.inl rfl) (by have := HLen.out; simp [numB_len] at this ⊢; omega))
  have z0 := HQ3.out.penc
  obtain ⟨q0, q1, q2, q3, q4, q5, q6, q7, q8⟩ := ce9 HQ3.out.box
  go_wp2_with (go_at_call 38; refine Hid.out ?_)
  unfold Hid
  refine Calls.mono HC.out ?_
  rintro e V4 ⟨rfl, hI1, hU1⟩
  have HQ4 := hidM (HQ3.out.next hI1 hU1 (by decide))
  clear hI1 hU1 HC z0 q0 q1 q2 q3 q4 q5 q6 q7 q8 HQ3
  have e4 : bs ++ numB k.toNat 1 ++ numB 1 1 ++ numB 0 1 ++ numB 0 1 = bs ++ hd4 k := by have e : k.toNat % 256 = k.toNat := Nat.mod_eq_of_lt (by omega); simp [numB, hd4, List.append_assoc, e]
  rw [e4] at HQ4
  clear e4 HLen
  by_cases c1 : k = 1
  · have k1 : (k == 1) = true := by simp [c1]
    have HA1 : Hid ((bs ++ hd4 k).length + (numB fs.length 2 ++ fbs ++ numB ns.length 2 ++ ns.flatMap ntM).length ≤ 65536) := by have := HAll.out; rw [← HE.out, if_pos c1] at this; simp only [List.length_append] at this ⊢; show _ ≤ _; omega
    have HC := hidM (HS1.out c1 _ _ HQ4.out.ink HA1.out)
    have z0 := HQ4.out.penc
    obtain ⟨q0, q1, q2, q3, q4, q5, q6, q7, q8⟩ := ce9 HQ4.out.box
    go_wp2_with (go_at_call 39; refine Hid.out ?_)
    unfold Hid
    refine Calls.mono HC.out ?_
    rintro e V5 ⟨rfl, hI1, hU1⟩
    have HQ5 := hidM (HQ4.out.next hI1 hU1 (by decide))
    clear hI1 hU1 HC z0 q0 q1 q2 q3 q4 q5 q6 q7 q8 HQ4
    go_wp2_with fail
    go_end0
    exact ⟨rfl, by have := HQ5.out.ink; rw [← HE.out, if_pos c1, ← List.append_assoc]; exact this, HQ5.out.ku⟩
  have k1 : (k == 1) = false := beqF c1
  by_cases c2 : k = 2
  · have k2 : (k == 2) = true := by simp [c2]
    have hd2 := hdi c2
    have HA2 : Hid (bs.length + (hd4 k ++ (numB di.toNat 2 ++ flgB dl) ++ bdyB rows pr nds sls).length ≤ 65536) := by have := HAll.out; rwa [← HE.out, if_neg c1, if_pos c2] at this
    have C2 := hidM c2
    clear c2
    have HC := hidM (penNumberZ HQ4.out.ink di 2 (by omega) (.inr (.inl rfl)) (by have := HA2.out; simp [numB_len, flgB_len] at this ⊢; omega))
    have z0 := HQ4.out.penc
    obtain ⟨q0, q1, q2, q3, q4, q5, q6, q7, q8⟩ := ce9 HQ4.out.box
    go_wp2_with (go_at_call 38; refine Hid.out ?_)
    unfold Hid
    refine Calls.mono HC.out ?_
    rintro e V5 ⟨rfl, hI1, hU1⟩
    have HQ5 := hidM (HQ4.out.next hI1 hU1 (by decide))
    clear hI1 hU1 HC z0 q0 q1 q2 q3 q4 q5 q6 q7 q8 HQ4
    have HC := hidM (penFlag_any HQ5.out.ink dl (by have := HA2.out; simp [numB_len, flgB_len] at this ⊢; omega))
    have z0 := HQ5.out.penc
    obtain ⟨q0, q1, q2, q3, q4, q5, q6, q7, q8⟩ := ce9 HQ5.out.box
    go_wp2_with (go_at_call 40; refine Hid.out ?_)
    unfold Hid
    refine Calls.mono HC.out ?_
    rintro e V6 ⟨rfl, hI1, hU1⟩
    have HQ6 := hidM (HQ5.out.next hI1 hU1 (by decide))
    clear hI1 hU1 HC z0 q0 q1 q2 q3 q4 q5 q6 q7 q8 HQ5
    have HC := hidM (HS2.out c1 _ _ HQ6.out.ink (by have := HA2.out; simp [numB_len, flgB_len] at this ⊢; omega))
    have z0 := HQ6.out.penc
    obtain ⟨q0, q1, q2, q3, q4, q5, q6, q7, q8⟩ := ce9 HQ6.out.box
    go_wp2_with (go_at_call 41; refine Hid.out ?_)
    unfold Hid
    refine Calls.mono HC.out ?_
    rintro e V7 ⟨rfl, hI1, hU1⟩
    have HQ7 := hidM (HQ6.out.next hI1 hU1 (by decide))
    clear hI1 hU1 HC z0 q0 q1 q2 q3 q4 q5 q6 q7 q8 HQ6
    go_wp2_with fail
    go_end0
    exact ⟨rfl, by have := HQ7.out.ink; rw [← HE.out, if_neg c1, if_pos C2.out]; simpa [List.append_assoc] using this, HQ7.out.ku⟩
  have k2 : (k == 2) = false := beqF c2
  have k3 : (k == 3) = true := by simp; omega
  have HA3 : Hid (bs.length + (hd4 k ++ bdyB rows pr nds sls).length ≤ 65536) := by have := HAll.out; rwa [← HE.out, if_neg c1, if_neg c2] at this
  have HC := hidM (HS2.out c1 _ _ HQ4.out.ink (by have := HA3.out; simp at this ⊢; omega))
  have z0 := HQ4.out.penc
  obtain ⟨q0, q1, q2, q3, q4, q5, q6, q7, q8⟩ := ce9 HQ4.out.box
  go_wp2_with (go_at_call 41; refine Hid.out ?_)
  unfold Hid
  refine Calls.mono HC.out ?_
  rintro e V5 ⟨rfl, hI1, hU1⟩
  have HQ5 := hidM (HQ4.out.next hI1 hU1 (by decide))
  clear hI1 hU1 HC z0 q0 q1 q2 q3 q4 q5 q6 q7 q8 HQ4
  go_wp2_with fail
  go_end0
  exact ⟨rfl, by have := HQ5.out.ink; rw [← HE.out, if_neg c1, if_neg c2]; simpa [List.append_assoc] using this, HQ5.out.ku⟩
end Go.Proofs.YtdffjdlpbfcikaaDoor.Kit
