import Derived.Test.YtemleibpmaclmaaVA
namespace Go.Proofs.Ytemleibpmaclmaa.Kit
open Go.RowKit Go.Shelf Go.Deep
set_option linter.unusedVariables false

/-! ### the law FrameWhole -/
set_option maxRecDepth 100000 in
set_option maxHeartbeats 4000000 in
theorem whole_any {ao co : Option Addr} {cap C cc len : Nat} {l : List Msg} {cuts : List Int} {z : Int} {w : World} (hl : l.length = len) (hlen : len ≤ 140737488355328) (hm : MsgsAt w ao l) (hC : cuts.length = C) (hCl : C ≤ 140737488355328) (hc : IntsAt w co cuts) (hz1 : -9223372036854775808 ≤ z) (hz2 : z ≤ 9223372036854775807) :
    Calls Try.prog 5 #[.slice ao len cap, .slice co C cc, .int .i64 z] w fun e w' => e = .returned (.bool true) ∧ Gr w w' := by
  have hFit := fit_any (cap := cap) (by omega : l.length ≤ 9223372036854775807) hm
  have hWide := mwide_any (cap := cap) (by omega : l.length ≤ 9223372036854775807) hm
  rw [hl] at hFit hWide
  by_cases hf : fitB l = true
  rotate_left
  · have hf' : fitB l = false := by simpa using hf
    rw [hf'] at hFit
    have HFit := hidM hFit
    clear hFit hWide hf hf' hm hc hC
    go_enter Try.func5, Try.ntmps5
    go_wp2_with (first | (go_at_call 27; (with_reducible refine HFit.out.mono ?_); rintro e W1 ⟨rfl, rfl⟩))
    go_ret
    exact ⟨rfl, Keeps.refl _ _⟩
  by_cases hb : broadB l = false
  rotate_left
  · have hb' : broadB l = true := by simpa using hb
    rw [hf] at hFit
    rw [hb'] at hWide
    have HFit := hidM hFit
    have HWide := hidM hWide
    clear hFit hWide hf hb hb' hm hc hC
    go_enter Try.func5, Try.ntmps5
    go_wp2_with (first | (go_at_call 27; (with_reducible refine HFit.out.mono ?_); rintro e W1 ⟨rfl, rfl⟩) | (go_at_call 28; (with_reducible refine HWide.out.mono ?_); rintro e W2 ⟨rfl, g2⟩; have HG2 := hidM g2; clear g2))
    go_ret
    exact ⟨rfl, HG2.out⟩
  rw [hf] at hFit
  rw [hb] at hWide
  have HStr : Hid (∀ V, Gr w V → Calls Try.prog 29 #[.slice ao len cap] V fun e w' => ∃ X vc, e = .returned (.tuple #[.slice (some ⟨X, 0, none⟩) (strB l).length vc, .bool true]) ∧ Byts V w' (some ⟨X, 0, none⟩) vc (strB l).length (strB l) ∧ V.heap.size ≤ X ∧ X < w'.heap.size ∧ (strB l).length ≤ vc ∧ vc ≤ 9223372036854775807) := fun V g => by
    have := stream_at (cap := cap) hf hb (hm.gr g)
    rw [hl] at this
    exact this
  obtain ⟨N, hN⟩ : ∃ N, (strB l).length = N := ⟨_, rfl⟩
  have hN1 : 24 ≤ N := by rw [← hN, str_len]; omega
  have hN2 : N ≤ 2147483700 := by rw [← hN]; exact str_le hb
  have HFit := hidM hFit
  have HWide := hidM hWide
  have HF := hidM hf
  have HBr := hidM hb
  have HM := hidM hm
  have HC := hidM hC
  have HCu := hidM hc
  have HL := hidM hl
  have HN := hidM hN
  rw [hN] at HStr
  clear hFit hWide hf hb hm hC hc hl hN
  go_enter Try.func5, Try.ntmps5
  go_wp2_with (first | (go_at_call 27; (with_reducible refine HFit.out.mono ?_); rintro e W1 ⟨rfl, rfl⟩) | (go_at_call 28; (with_reducible refine HWide.out.mono ?_); rintro e W2 ⟨rfl, g2⟩; have HG2 := hidM g2; clear g2) | (go_at_call 29; (with_reducible refine (HStr.out _ HG2.out).mono ?_); rintro e W3 ⟨X, vc, rfl, hby, hX1, hX2, hvc, hvm⟩; have HBy := hidM hby.bytes; have HG3 := hidM (HG2.out.trans hby.gr (fun _ _ h => h)); have HX := hidM hX2; clear hby hX1 hX2 HG2 HStr HFit HWide) | (go_at_call 30; refine Hid.out ?_))
  unfold Hid
  have HVc : Hid ((strB l).length ≤ vc) := by show _ ≤ _; rw [HN.out]; exact hvc
  have HGo : Hid (∀ V sh, Gr W3 V → Calls Try.prog 30 #[.slice (some ⟨X, 0, none⟩) N vc, .slice co C cc, .bool sh] V fun e w' => ∃ lo lc, e = .returned (.tuple #[.slice lo len lc, .int .i64 3, .int .i64 0]) ∧ MsgsAt w' lo l ∧ Gr V w') := fun V sh g => by
    have := gone_whole (cc := cc) (sh := sh) HF.out HBr.out HC.out (HBy.out.gr g) (Nat.lt_of_lt_of_le HX.out g.size) HVc.out hvm hCl (HCu.out.gr (HG3.out.trans g (fun _ _ h => h)))
    rw [HL.out, HN.out] at this
    exact this
  have HAl : Hid (∀ V lo lc, Gr W3 V → MsgsAt V lo l → Calls Try.prog 31 #[.slice lo len lc, .slice ao len cap, .int .i64 (len : Int)] V fun e w' => e = .returned (.bool true) ∧ Gr V w') := fun V lo lc g h =>
    alike_take HL.out (Nat.le_refl _) hlen (by rw [List.take_of_length_le (by rw [HL.out]; exact Nat.le_refl _)]; exact h) (HM.out.gr (HG3.out.trans g (fun _ _ h => h)))
  refine Calls.mono (HGo.out _ false (Keeps.refl _ _)) ?_
  rintro e V1 ⟨lo1, lc1, rfl, hm1, g1⟩
  have HM1 := hidM hm1
  have HV1 := hidM g1
  clear hm1 g1
  go_wp2_with (first | (go_at_call 31; (with_reducible refine (HAl.out _ _ _ HV1.out HM1.out).mono ?_); rintro e V2 ⟨rfl, g2⟩; have HV2 := hidM (HV1.out.trans g2 (fun _ _ h => h)); clear g2 HV1 HM1) | (go_at_call 30; refine Hid.out ?_))
  unfold Hid
  refine Calls.mono (HGo.out _ true HV2.out) ?_
  rintro e V3 ⟨lo3, lc3, rfl, hm3, g3⟩
  have HM3 := hidM hm3
  have HV3 := hidM (HV2.out.trans g3 (fun _ _ h => h))
  clear hm3 g3 HV2 HGo
  have HAl2 : Hid (Calls Try.prog 31 #[.slice lo3 len lc3, .slice ao len cap, .int .i64 (len : Int)] V3 fun e w' => e = .returned (.bool true) ∧ Gr V3 w') := HAl.out _ _ _ HV3.out HM3.out
  clear HAl
  obtain ⟨y, hy⟩ : ∃ y : Int, y = if z < 0 then -(z + 1) else z := ⟨_, rfl⟩
  have hy0 : 0 ≤ y := by rw [hy]; split <;> omega
  obtain ⟨s, hs⟩ : ∃ s : Nat, y % (N : Int) = (s : Int) := ⟨(y % (N : Int)).toNat, by have := Int.emod_nonneg y (show (N : Int) ≠ 0 by omega); omega⟩
  have hsN : s < N := by have := Int.emod_lt_of_pos y (show (0 : Int) < (N : Int) by omega); omega
  have HSl : Hid (s < (strB l).length) := by show _ < _; rw [HN.out]; exact hsN
  have hNI : (1 : Int) ≤ (N : Int) := by omega
  have hsI : (0 : Int) ≤ (s : Int) := by omega
  have hsV : (s : Int) ≤ (vc : Int) := by omega
  by_cases cz : z < 0
  · rw [if_pos cz] at hy
    subst hy
    go_wp2_with (first | (go_at_call 31; (with_reducible refine HAl2.out.mono ?_); rintro e V4 ⟨rfl, g4⟩; have HR3 := hidM (HV3.out.trans g4 (fun _ _ h => h)); clear g4 HV3 HM3 HAl2))
    have hs2 : -((z + 1).tmod (N : Int)) = (s : Int) := by rw [← Int.neg_tmod, Int.tmod_eq_emod_of_nonneg hy0]; exact hs
    rw [hs2]
    clear hs2
    go_loopw [14, 15] (fun n q wr => ∃ k A : Nat, k ≤ len ∧ n = .int .i64 (k : Int) ∧ q = .int .i64 (A : Int) ∧ A ≤ s ∧ Hid ((putsB (l.take k)).length = A) ∧ Hid (Gr W3 wr)) (fun n _ _ => len - (intOf n).toNat)
    case atStart => exact ⟨0, 0, Nat.zero_le _, rfl, rfl, Nat.zero_le _, rfl, HR3.out⟩
    case round =>
      obtain ⟨k, A, hk, rfl, rfl, hA, HP, HR4⟩ := hrel
      clear HR3
      have hk0 : (0 : Int) ≤ (k : Int) := by omega
      have hA0 : (0 : Int) ≤ (A : Int) := by omega
      by_cases c : k < len
      · have cI : (k : Int) < (len : Int) := by omega
        have hkl : k < l.length := by rw [HL.out]; exact c
        obtain ⟨b, off, rfl, hc⟩ := HM.out (List.length_pos_iff.1 (by omega))
        obtain ⟨mo, ml, mc, bo, bl, bc, c1, c2, hput⟩ := put_at HF.out hkl ((hc k hkl).gr (HG3.out.trans HR4.out (fun _ _ h => h)))
        rw [Nat.mul_comm 2 k] at c1 c2
        obtain ⟨N1, hN1⟩ : ∃ N1, (putB 49 l[k].1 l[k].2).length = N1 := ⟨_, rfl⟩
        rw [hN1] at hput
        have HPut := hidM hput
        have hNb : N1 ≤ 5000000 := by
          have h1 := put_le l[k]
          have h2 := fit_at HF.out k hkl
          omega
        have HPk : Hid ((putsB (l.take (k + 1))).length = A + N1) := by
          show _ = _
          rw [puts_take l k hkl, List.length_append, HP.out, hN1]
        have hN0 : (0 : Int) ≤ (N1 : Int) := by omega
        by_cases d : A + N1 ≤ s
        · have dI : ¬ ((s : Int) < (A : Int) + (N1 : Int)) := by omega
          clear hc hput hN1 hkl HP
          go_wp2_with (first | (go_at_call 9; (with_reducible refine HPut.out.mono ?_); rintro e W1 ⟨vo1, vc1, rfl, g1⟩; have HG1 := hidM g1; clear g1))
          go_roundw
          case rel => exact ⟨k + 1, A + N1, by omega, by simp, by simp, d, HPk.out, HR4.out.trans HG1.out (fun _ _ h => h)⟩
          case measure => simp [intOf]; omega
        have dI : (s : Int) < (A : Int) + (N1 : Int) := by omega
        have HLies : Hid (Lies l k s) := lies_of l k s (by rw [HL.out]; exact hk) (by rw [HP.out]; exact hA) (fun h => by rw [HP.out, hN1]; omega) (by have := HSl.out; omega)
        clear hc hput hN1 hkl HP HPk
        go_wp2_with (first | (go_at_call 9; (with_reducible refine HPut.out.mono ?_); rintro e W1 ⟨vo1, vc1, rfl, g1⟩; have HR5 := hidM (HR4.out.trans g1 (fun _ _ h => h)); clear g1 HR4 HPut) | (go_at_call 30; refine Hid.out ?_))
        unfold Hid
        refine Calls.mono (gone_short (cc := cc) HF.out HBr.out HLies.out HSl.out HC.out (HBy.out.gr HR5.out) (Nat.lt_of_lt_of_le HX.out HR5.out.size) HVc.out hvm hCl (HCu.out.gr (HG3.out.trans HR5.out (fun _ _ h => h)))) ?_
        rintro e W6 ⟨lo6, lc6, rfl, hm6, g6⟩
        have HM6 := hidM hm6
        have HG6 := hidM (HR5.out.trans g6 (fun _ _ h => h))
        clear hm6 g6 HR5 HLies
        go_wp2_with (go_at_call 31; refine Hid.out ?_)
        unfold Hid
        refine Calls.mono (alike_take HL.out hk hlen HM6.out (HM.out.gr (HG3.out.trans HG6.out (fun _ _ h => h)))) ?_
        rintro e W7 ⟨rfl, g7⟩
        have HG7 := hidM ((HG3.out.trans HG6.out (fun _ _ h => h)).trans g7 (fun _ _ h => h))
        clear g7 HG6 HM6
        go_wp2_with fail
        go_ret
        exact ⟨rfl, HG7.out⟩
      · have cI : ¬ ((k : Int) < (len : Int)) := by omega
        have HLies : Hid (Lies l k s) := lies_of l k s (by rw [HL.out]; exact hk) (by rw [HP.out]; exact hA) (fun h => by rw [HL.out] at h; omega) (by have := HSl.out; omega)
        clear HP
        have HR5 := HR4
        clear HR4
        go_wp2_with (go_at_call 30; refine Hid.out ?_)
        unfold Hid
        refine Calls.mono (gone_short (cc := cc) HF.out HBr.out HLies.out HSl.out HC.out (HBy.out.gr HR5.out) (Nat.lt_of_lt_of_le HX.out HR5.out.size) HVc.out hvm hCl (HCu.out.gr (HG3.out.trans HR5.out (fun _ _ h => h)))) ?_
        rintro e W6 ⟨lo6, lc6, rfl, hm6, g6⟩
        have HM6 := hidM hm6
        have HG6 := hidM (HR5.out.trans g6 (fun _ _ h => h))
        clear hm6 g6 HR5 HLies
        go_wp2_with (go_at_call 31; refine Hid.out ?_)
        unfold Hid
        refine Calls.mono (alike_take HL.out hk hlen HM6.out (HM.out.gr (HG3.out.trans HG6.out (fun _ _ h => h)))) ?_
        rintro e W7 ⟨rfl, g7⟩
        have HG7 := hidM ((HG3.out.trans HG6.out (fun _ _ h => h)).trans g7 (fun _ _ h => h))
        clear g7 HG6 HM6
        go_wp2_with fail
        go_ret
        exact ⟨rfl, HG7.out⟩
  · rw [if_neg cz] at hy
    subst hy
    go_wp2_with (first | (go_at_call 31; (with_reducible refine HAl2.out.mono ?_); rintro e V4 ⟨rfl, g4⟩; have HR3 := hidM (HV3.out.trans g4 (fun _ _ h => h)); clear g4 HV3 HM3 HAl2))
    first | rw [hs] | skip
    go_loopw [14, 15] (fun n q wr => ∃ k A : Nat, k ≤ len ∧ n = .int .i64 (k : Int) ∧ q = .int .i64 (A : Int) ∧ A ≤ s ∧ Hid ((putsB (l.take k)).length = A) ∧ Hid (Gr W3 wr)) (fun n _ _ => len - (intOf n).toNat)
    case atStart => exact ⟨0, 0, Nat.zero_le _, rfl, rfl, Nat.zero_le _, rfl, HR3.out⟩
    case round =>
      obtain ⟨k, A, hk, rfl, rfl, hA, HP, HR4⟩ := hrel
      clear HR3
      have hk0 : (0 : Int) ≤ (k : Int) := by omega
      have hA0 : (0 : Int) ≤ (A : Int) := by omega
      by_cases c : k < len
      · have cI : (k : Int) < (len : Int) := by omega
        have hkl : k < l.length := by rw [HL.out]; exact c
        obtain ⟨b, off, rfl, hc⟩ := HM.out (List.length_pos_iff.1 (by omega))
        obtain ⟨mo, ml, mc, bo, bl, bc, c1, c2, hput⟩ := put_at HF.out hkl ((hc k hkl).gr (HG3.out.trans HR4.out (fun _ _ h => h)))
        rw [Nat.mul_comm 2 k] at c1 c2
        obtain ⟨N1, hN1⟩ : ∃ N1, (putB 49 l[k].1 l[k].2).length = N1 := ⟨_, rfl⟩
        rw [hN1] at hput
        have HPut := hidM hput
        have hNb : N1 ≤ 5000000 := by
          have h1 := put_le l[k]
          have h2 := fit_at HF.out k hkl
          omega
        have HPk : Hid ((putsB (l.take (k + 1))).length = A + N1) := by
          show _ = _
          rw [puts_take l k hkl, List.length_append, HP.out, hN1]
        have hN0 : (0 : Int) ≤ (N1 : Int) := by omega
        by_cases d : A + N1 ≤ s
        · have dI : ¬ ((s : Int) < (A : Int) + (N1 : Int)) := by omega
          clear hc hput hN1 hkl HP
          go_wp2_with (first | (go_at_call 9; (with_reducible refine HPut.out.mono ?_); rintro e W1 ⟨vo1, vc1, rfl, g1⟩; have HG1 := hidM g1; clear g1))
          go_roundw
          case rel => exact ⟨k + 1, A + N1, by omega, by simp, by simp, d, HPk.out, HR4.out.trans HG1.out (fun _ _ h => h)⟩
          case measure => simp [intOf]; omega
        have dI : (s : Int) < (A : Int) + (N1 : Int) := by omega
        have HLies : Hid (Lies l k s) := lies_of l k s (by rw [HL.out]; exact hk) (by rw [HP.out]; exact hA) (fun h => by rw [HP.out, hN1]; omega) (by have := HSl.out; omega)
        clear hc hput hN1 hkl HP HPk
        go_wp2_with (first | (go_at_call 9; (with_reducible refine HPut.out.mono ?_); rintro e W1 ⟨vo1, vc1, rfl, g1⟩; have HR5 := hidM (HR4.out.trans g1 (fun _ _ h => h)); clear g1 HR4 HPut) | (go_at_call 30; refine Hid.out ?_))
        unfold Hid
        refine Calls.mono (gone_short (cc := cc) HF.out HBr.out HLies.out HSl.out HC.out (HBy.out.gr HR5.out) (Nat.lt_of_lt_of_le HX.out HR5.out.size) HVc.out hvm hCl (HCu.out.gr (HG3.out.trans HR5.out (fun _ _ h => h)))) ?_
        rintro e W6 ⟨lo6, lc6, rfl, hm6, g6⟩
        have HM6 := hidM hm6
        have HG6 := hidM (HR5.out.trans g6 (fun _ _ h => h))
        clear hm6 g6 HR5 HLies
        go_wp2_with (go_at_call 31; refine Hid.out ?_)
        unfold Hid
        refine Calls.mono (alike_take HL.out hk hlen HM6.out (HM.out.gr (HG3.out.trans HG6.out (fun _ _ h => h)))) ?_
        rintro e W7 ⟨rfl, g7⟩
        have HG7 := hidM ((HG3.out.trans HG6.out (fun _ _ h => h)).trans g7 (fun _ _ h => h))
        clear g7 HG6 HM6
        go_wp2_with fail
        go_ret
        exact ⟨rfl, HG7.out⟩
      · have cI : ¬ ((k : Int) < (len : Int)) := by omega
        have HLies : Hid (Lies l k s) := lies_of l k s (by rw [HL.out]; exact hk) (by rw [HP.out]; exact hA) (fun h => by rw [HL.out] at h; omega) (by have := HSl.out; omega)
        clear HP
        have HR5 := HR4
        clear HR4
        go_wp2_with (go_at_call 30; refine Hid.out ?_)
        unfold Hid
        refine Calls.mono (gone_short (cc := cc) HF.out HBr.out HLies.out HSl.out HC.out (HBy.out.gr HR5.out) (Nat.lt_of_lt_of_le HX.out HR5.out.size) HVc.out hvm hCl (HCu.out.gr (HG3.out.trans HR5.out (fun _ _ h => h)))) ?_
        rintro e W6 ⟨lo6, lc6, rfl, hm6, g6⟩
        have HM6 := hidM hm6
        have HG6 := hidM (HR5.out.trans g6 (fun _ _ h => h))
        clear hm6 g6 HR5 HLies
        go_wp2_with (go_at_call 31; refine Hid.out ?_)
        unfold Hid
        refine Calls.mono (alike_take HL.out hk hlen HM6.out (HM.out.gr (HG3.out.trans HG6.out (fun _ _ h => h)))) ?_
        rintro e W7 ⟨rfl, g7⟩
        have HG7 := hidM ((HG3.out.trans HG6.out (fun _ _ h => h)).trans g7 (fun _ _ h => h))
        clear g7 HG6 HM6
        go_wp2_with fail
        go_ret
        exact ⟨rfl, HG7.out⟩
end Go.Proofs.Ytemleibpmaclmaa.Kit
