import Derived.Test.YtemleibpmaclmaaVA
namespace Go.Proofs.Ytemleibpmaclmaa.Kit
open Go.RowKit Go.Shelf Go.Deep
set_option linter.unusedVariables false

/-! ### the law FrameByte -/
theorem xor8 (c d : UInt8) : bits .xor .u8 (c.toNat : Int) (d.toNat : Int) = ((c ^^^ d).toNat : Int) := by
  have h1 := c.toNat_lt
  have h2 := d.toNat_lt
  rw [Go.u8_xor_nat _ _ (by omega) (by omega), UInt8.toNat_xor]
theorem xor_ne (c d : UInt8) (h : d ≠ 0) : c ≠ c ^^^ d := fun e => by
  apply h
  have : c ^^^ (c ^^^ d) = c ^^^ c := by rw [← e]
  rw [← UInt8.xor_assoc, UInt8.xor_self, UInt8.zero_xor] at this
  exact this
/-- a byte of the stream is written -/
theorem byte_set {w W3 : World} {X vc N s : Nat} {bs : List UInt8} {v : UInt8} (hb : Byts w W3 (some ⟨X, 0, none⟩) vc N bs) (hs : s < N) (hX : w.heap.size ≤ X) :
    BytesAt (W3.setCell ⟨X, s, none⟩ (.int .u8 (v.toNat : Int))) (some ⟨X, 0, none⟩) (bs.set s v) ∧ X < (W3.setCell ⟨X, s, none⟩ (.int .u8 (v.toNat : Int))).heap.size ∧ Gr w (W3.setCell ⟨X, s, none⟩ (.int .u8 (v.toNat : Int))) ∧ W3.cell? ⟨X, s, none⟩ = some (.int .u8 ((bs.getD s 0).toNat : Int)) ∧ W3.frozen? ⟨X, s, none⟩ = false := by
  obtain ⟨X', e, hr⟩ := BRow.of_own hb.own (by omega)
  cases e
  have hl := hb.len
  refine ⟨(hr.set hs (v.toNat : Int)).bytes (by rw [List.length_set]; exact hl) (fun k hk => ?_), (hr.set hs (v.toNat : Int)).lt, keeps_set hb.gr hX, hr.cell hs, hr.frz s⟩
  by_cases e : k = s
  · subst e
    have e2 : (bs.set k v).getD k 0 = v := by simp only [List.getD_eq_getElem?_getD, List.getElem?_set, if_true]; rw [if_pos (by omega)]; rfl
    simp only [if_true, e2]
  · have e2 : (bs.set s v).getD k 0 = bs.getD k 0 := by simp only [List.getD_eq_getElem?_getD, List.getElem?_set]; rw [if_neg (fun h => e h.symm)]
    simp only [e, if_false, e2]
set_option maxRecDepth 100000 in
set_option maxHeartbeats 8000000 in
theorem byte_any {ao co : Option Addr} {cap C cc len : Nat} {l : List Msg} {cuts : List Int} {z : Int} {y : UInt8} {w : World} (hl : l.length = len) (hlen : len ≤ 140737488355328) (hm : MsgsAt w ao l) (hC : cuts.length = C) (hCl : C ≤ 140737488355328) (hc : IntsAt w co cuts) (hz1 : -9223372036854775808 ≤ z) (hz2 : z ≤ 9223372036854775807) :
    Calls Try.prog 6 #[.slice ao len cap, .slice co C cc, .int .i64 z, .int .u8 (y.toNat : Int)] w fun e w' => e = .returned (.bool true) ∧ Gr w w' := by
  have hFit := fit_any (cap := cap) (by omega : l.length ≤ 9223372036854775807) hm
  have hWide := mwide_any (cap := cap) (by omega : l.length ≤ 9223372036854775807) hm
  rw [hl] at hFit hWide
  by_cases hf : fitB l = true
  rotate_left
  · have hf' : fitB l = false := by simpa using hf
    rw [hf'] at hFit
    have HFit := hidM hFit
    clear hFit hWide hf hf' hm hc hC
    go_enter Try.func6, Try.ntmps6
    go_wp2_with (first | (go_at_call 27; (with_reducible refine HFit.out.mono ?_); rintro e W1 ⟨rfl, rfl⟩))
    go_ret
    exact ⟨rfl, Keeps.refl _ _⟩
  by_cases hb : broadB l = false
  rotate_left
  · have hb' : broadB l = true := by simpa using hb
    rw [hf] at hFit
    rw [hb'] at hWide
    have HFit := hidM hFit
    have HWide := hidM hWide
    clear hFit hWide hf hb hb' hm hc hC
    go_enter Try.func6, Try.ntmps6
    go_wp2_with (first | (go_at_call 27; (with_reducible refine HFit.out.mono ?_); rintro e W1 ⟨rfl, rfl⟩) | (go_at_call 28; (with_reducible refine HWide.out.mono ?_); rintro e W2 ⟨rfl, g2⟩; have HG2 := hidM g2; clear g2))
    go_ret
    exact ⟨rfl, HG2.out⟩
  rw [hf] at hFit
  rw [hb] at hWide
  have HStr : Hid (∀ V, Gr w V → Calls Try.prog 29 #[.slice ao len cap] V fun e w' => ∃ X vc, e = .returned (.tuple #[.slice (some ⟨X, 0, none⟩) (strB l).length vc, .bool true]) ∧ Byts V w' (some ⟨X, 0, none⟩) vc (strB l).length (strB l) ∧ V.heap.size ≤ X ∧ X < w'.heap.size ∧ (strB l).length ≤ vc ∧ vc ≤ 9223372036854775807) := fun V g => by
    have := stream_at (cap := cap) hf hb (hm.gr g)
    rw [hl] at this
    exact this
  obtain ⟨N, hN⟩ : ∃ N, (strB l).length = N := ⟨_, rfl⟩
  have hN1 : 24 ≤ N := by rw [← hN, str_len]; omega
  have hN2 : N ≤ 2147483700 := by rw [← hN]; exact str_le hb
  have HFit := hidM hFit
  have HWide := hidM hWide
  have HF := hidM hf
  have HBr := hidM hb
  have HM := hidM hm
  have HC := hidM hC
  have HCu := hidM hc
  have HL := hidM hl
  have HN := hidM hN
  rw [hN] at HStr
  clear hFit hWide hf hb hm hC hc hl hN
  obtain ⟨x, hxx⟩ : ∃ x : Int, x = if z < 0 then -(z + 1) else z := ⟨_, rfl⟩
  have hy0 : 0 ≤ x := by rw [hxx]; split <;> omega
  obtain ⟨s, hs⟩ : ∃ s : Nat, x % (N : Int) = (s : Int) := ⟨(x % (N : Int)).toNat, by have := Int.emod_nonneg x (show (N : Int) ≠ 0 by omega); omega⟩
  have hsN : s < N := by have := Int.emod_lt_of_pos x (show (0 : Int) < (N : Int) by omega); omega
  have HSl : Hid (s < (strB l).length) := by show _ < _; rw [HN.out]; exact hsN
  have hNI : (1 : Int) ≤ (N : Int) := by omega
  have hsI : (0 : Int) ≤ (s : Int) := by omega
  have hsNI : (s : Int) < (N : Int) := by omega
  obtain ⟨d, hdd⟩ : ∃ d : UInt8, d = if y = 0 then 1 else y := ⟨_, rfl⟩
  have hd0 : d ≠ 0 := by rw [hdd]; split <;> first | decide | assumption
  obtain ⟨c, hcc⟩ : ∃ c, (strB l).getD s 0 = c := ⟨_, rfl⟩
  have HNe : Hid (∀ hb : s < (strB l).length, (strB l)[s] ≠ c ^^^ d) := fun hb => by
    have : (strB l)[s] = c := by rw [← hcc, List.getD_eq_getElem?_getD, List.getElem?_eq_getElem hb]; rfl
    rw [this]
    exact xor_ne c d hd0
  have HCc := hidM hcc
  clear hcc hd0
  have hyb := y.toNat_lt
  by_cases cz : z < 0
  · by_cases cy : y = 0
    · have cyI : (y.toNat : Int) = 0 := by
        rw [cy]; rfl
      have hd : d = 1 := by rw [hdd]; exact if_pos cy
      rw [if_pos cz] at hxx
      subst hxx
      have hs2 : -((z + 1).tmod (N : Int)) = (s : Int) := by rw [← Int.neg_tmod, Int.tmod_eq_emod_of_nonneg hy0]; exact hs
      clear hdd
      go_enter Try.func6, Try.ntmps6
      go_wp2_with (first | (go_at_call 27; (with_reducible refine HFit.out.mono ?_); rintro e W1 ⟨rfl, rfl⟩) | (go_at_call 28; (with_reducible refine HWide.out.mono ?_); rintro e W2 ⟨rfl, g2⟩; have HG2 := hidM g2; clear g2) | (go_at_call 29; (with_reducible refine (HStr.out _ HG2.out).mono ?_); rintro e W3 ⟨X, vc, rfl, hby, hX1, hX2, hvc, hvm⟩; obtain ⟨q1, q2, q3, hcell, hfz⟩ := byte_set (s := s) (v := c ^^^ d) hby hsN hX1; rw [HCc.out] at hcell; have HS := hidM (And.intro q1 (And.intro q2 (HG2.out.trans q3 (fun _ _ h => h)))); have HVc : Hid ((strB l).length ≤ vc) := (by show _ ≤ _; rw [HN.out]; exact hvc); clear hby hX1 hX2 HG2 HStr HFit HWide q1 q2 q3))
      obtain ⟨E, hE⟩ : ∃ E : Int, ((c ^^^ d).toNat : Int) = E := ⟨_, rfl⟩
      rw [hE] at HS
      have hx : bits .xor .u8 (c.toNat : Int) 1 = E := by
        rw [← hE]
        rw [hd]; exact xor8 c 1
      rw [hx]
      obtain ⟨W4, hW4⟩ : ∃ V, W3.setCell ⟨X, s, none⟩ (.int .u8 E) = V := ⟨_, rfl⟩
      rw [hW4]
      rw [hW4] at HS
      have HBy := hidM HS.out.1
      have HX := hidM HS.out.2.1
      have HG3 := hidM HS.out.2.2
      have HR3 : Hid (Gr W4 W4) := Keeps.refl _ _
      have hyb0 : ((y.toNat : Int) == 0) = true := by simpa using cyI
      first | rw [hyb0] | skip
      first | rw [hs] | skip
      have hzd : decide (z < 0) = true := by simpa using cz
      first | rw [hzd] | skip
      clear hW4 hx HS hcell hfz hE hyb0 cyI hd cy hzd
      go_loopw [12, 13] (fun n q wr => ∃ k A : Nat, k ≤ len ∧ n = .int .i64 (k : Int) ∧ q = .int .i64 (A : Int) ∧ A ≤ s ∧ Hid ((putsB (l.take k)).length = A) ∧ Hid (Gr W4 wr)) (fun n _ _ => len - (intOf n).toNat)
      case atStart => exact ⟨0, 0, Nat.zero_le _, rfl, rfl, Nat.zero_le _, rfl, HR3.out⟩
      case round =>
        obtain ⟨k, A, hk, rfl, rfl, hA, HP, HR4⟩ := hrel
        clear HR3
        have hk0 : (0 : Int) ≤ (k : Int) := by omega
        have hA0 : (0 : Int) ≤ (A : Int) := by omega
        by_cases c : k < len
        · have cI : (k : Int) < (len : Int) := by omega
          have hkl : k < l.length := by rw [HL.out]; exact c
          obtain ⟨b, off, rfl, hc⟩ := HM.out (List.length_pos_iff.1 (by omega))
          obtain ⟨mo, ml, mc, bo, bl, bc, c1, c2, hput⟩ := put_at HF.out hkl ((hc k hkl).gr (HG3.out.trans HR4.out (fun _ _ h => h)))
          rw [Nat.mul_comm 2 k] at c1 c2
          obtain ⟨N1, hN1⟩ : ∃ N1, (putB 49 l[k].1 l[k].2).length = N1 := ⟨_, rfl⟩
          rw [hN1] at hput
          have HPut := hidM hput
          have hNb : N1 ≤ 5000000 := by
            have h1 := put_le l[k]
            have h2 := fit_at HF.out k hkl
            omega
          have HPk : Hid ((putsB (l.take (k + 1))).length = A + N1) := by
            show _ = _
            rw [puts_take l k hkl, List.length_append, HP.out, hN1]
          have hN0 : (0 : Int) ≤ (N1 : Int) := by omega
          by_cases d : A + N1 ≤ s
          · have dI : ¬ ((s : Int) < (A : Int) + (N1 : Int)) := by omega
            clear hc hput hN1 hkl HP
            go_wp2_with (first | (go_at_call 9; (with_reducible refine HPut.out.mono ?_); rintro e W1 ⟨vo1, vc1, rfl, g1⟩; have HG1 := hidM g1; clear g1))
            go_roundw
            case rel => exact ⟨k + 1, A + N1, by omega, by simp, by simp, d, HPk.out, HR4.out.trans HG1.out (fun _ _ h => h)⟩
            case measure => simp [intOf]; omega
          have dI : (s : Int) < (A : Int) + (N1 : Int) := by omega
          have HLies : Hid (Lies l k s) := lies_of l k s (by rw [HL.out]; exact hk) (by rw [HP.out]; exact hA) (fun h => by rw [HP.out, hN1]; omega) (by have := HSl.out; omega)
          clear hc hput hN1 hkl HP HPk
          go_wp2_with (first | (go_at_call 9; (with_reducible refine HPut.out.mono ?_); rintro e W1 ⟨vo1, vc1, rfl, g1⟩; have HR5 := hidM (HR4.out.trans g1 (fun _ _ h => h)); clear g1 HR4 HPut) | (go_at_call 30; refine Hid.out ?_))
          unfold Hid
          have hgo := gone_byte (cc := cc) HF.out HBr.out HLies.out HSl.out HNe.out HC.out (HBy.out.gr HR5.out) (Nat.lt_of_lt_of_le HX.out HR5.out.size) HVc.out hvm hCl (HCu.out.gr (HG3.out.trans HR5.out (fun _ _ h => h)))
          rw [HN.out] at hgo
          refine Calls.mono hgo ?_
          clear hgo
          rintro e W6 ⟨lo6, lc6, zz, rfl, hzz, hm6, g6⟩
          have HM6 := hidM hm6
          have HG6 := hidM (HR5.out.trans g6 (fun _ _ h => h))
          clear hm6 g6 HR5 HLies
          go_wp2_with (go_at_call 31; refine Hid.out ?_)
          unfold Hid
          refine Calls.mono (alike_take HL.out hk hlen HM6.out (HM.out.gr (HG3.out.trans HG6.out (fun _ _ h => h)))) ?_
          rintro e W7 ⟨rfl, g7⟩
          have HG7 := hidM ((HG3.out.trans HG6.out (fun _ _ h => h)).trans g7 (fun _ _ h => h))
          clear g7 HG6 HM6
          have hzt : (zz != 0) = true := by simpa using hzz
          go_wp2_with fail
          first | rw [hzt] | skip
          go_ret
          exact ⟨rfl, HG7.out⟩
        · have cI : ¬ ((k : Int) < (len : Int)) := by omega
          have HLies : Hid (Lies l k s) := lies_of l k s (by rw [HL.out]; exact hk) (by rw [HP.out]; exact hA) (fun h => by rw [HL.out] at h; omega) (by have := HSl.out; omega)
          clear HP
          have HR5 := HR4
          clear HR4
          go_wp2_with (go_at_call 30; refine Hid.out ?_)
          unfold Hid
          have hgo := gone_byte (cc := cc) HF.out HBr.out HLies.out HSl.out HNe.out HC.out (HBy.out.gr HR5.out) (Nat.lt_of_lt_of_le HX.out HR5.out.size) HVc.out hvm hCl (HCu.out.gr (HG3.out.trans HR5.out (fun _ _ h => h)))
          rw [HN.out] at hgo
          refine Calls.mono hgo ?_
          clear hgo
          rintro e W6 ⟨lo6, lc6, zz, rfl, hzz, hm6, g6⟩
          have HM6 := hidM hm6
          have HG6 := hidM (HR5.out.trans g6 (fun _ _ h => h))
          clear hm6 g6 HR5 HLies
          go_wp2_with (go_at_call 31; refine Hid.out ?_)
          unfold Hid
          refine Calls.mono (alike_take HL.out hk hlen HM6.out (HM.out.gr (HG3.out.trans HG6.out (fun _ _ h => h)))) ?_
          rintro e W7 ⟨rfl, g7⟩
          have HG7 := hidM ((HG3.out.trans HG6.out (fun _ _ h => h)).trans g7 (fun _ _ h => h))
          clear g7 HG6 HM6
          have hzt : (zz != 0) = true := by simpa using hzz
          go_wp2_with fail
          first | rw [hzt] | skip
          go_ret
          exact ⟨rfl, HG7.out⟩
    · have cyI : ¬ (y.toNat : Int) = 0 := by
        intro h; exact cy (UInt8.toNat_inj.1 (by show y.toNat = 0; omega))
      have hd : d = y := by rw [hdd]; exact if_neg cy
      rw [if_pos cz] at hxx
      subst hxx
      have hs2 : -((z + 1).tmod (N : Int)) = (s : Int) := by rw [← Int.neg_tmod, Int.tmod_eq_emod_of_nonneg hy0]; exact hs
      clear hdd
      go_enter Try.func6, Try.ntmps6
      go_wp2_with (first | (go_at_call 27; (with_reducible refine HFit.out.mono ?_); rintro e W1 ⟨rfl, rfl⟩) | (go_at_call 28; (with_reducible refine HWide.out.mono ?_); rintro e W2 ⟨rfl, g2⟩; have HG2 := hidM g2; clear g2) | (go_at_call 29; (with_reducible refine (HStr.out _ HG2.out).mono ?_); rintro e W3 ⟨X, vc, rfl, hby, hX1, hX2, hvc, hvm⟩; obtain ⟨q1, q2, q3, hcell, hfz⟩ := byte_set (s := s) (v := c ^^^ d) hby hsN hX1; rw [HCc.out] at hcell; have HS := hidM (And.intro q1 (And.intro q2 (HG2.out.trans q3 (fun _ _ h => h)))); have HVc : Hid ((strB l).length ≤ vc) := (by show _ ≤ _; rw [HN.out]; exact hvc); clear hby hX1 hX2 HG2 HStr HFit HWide q1 q2 q3))
      obtain ⟨E, hE⟩ : ∃ E : Int, ((c ^^^ d).toNat : Int) = E := ⟨_, rfl⟩
      rw [hE] at HS
      have hx : bits .xor .u8 (c.toNat : Int) (y.toNat : Int) = E := by
        rw [← hE]
        rw [hd]; exact xor8 c y
      rw [hx]
      obtain ⟨W4, hW4⟩ : ∃ V, W3.setCell ⟨X, s, none⟩ (.int .u8 E) = V := ⟨_, rfl⟩
      rw [hW4]
      rw [hW4] at HS
      have HBy := hidM HS.out.1
      have HX := hidM HS.out.2.1
      have HG3 := hidM HS.out.2.2
      have HR3 : Hid (Gr W4 W4) := Keeps.refl _ _
      have hyb0 : ((y.toNat : Int) == 0) = false := by simpa using cyI
      first | rw [hyb0] | skip
      first | rw [hs] | skip
      have hzd : decide (z < 0) = true := by simpa using cz
      first | rw [hzd] | skip
      clear hW4 hx HS hcell hfz hE hyb0 cyI hd cy hzd
      go_loopw [12, 13] (fun n q wr => ∃ k A : Nat, k ≤ len ∧ n = .int .i64 (k : Int) ∧ q = .int .i64 (A : Int) ∧ A ≤ s ∧ Hid ((putsB (l.take k)).length = A) ∧ Hid (Gr W4 wr)) (fun n _ _ => len - (intOf n).toNat)
      case atStart => exact ⟨0, 0, Nat.zero_le _, rfl, rfl, Nat.zero_le _, rfl, HR3.out⟩
      case round =>
        obtain ⟨k, A, hk, rfl, rfl, hA, HP, HR4⟩ := hrel
        clear HR3
        have hk0 : (0 : Int) ≤ (k : Int) := by omega
        have hA0 : (0 : Int) ≤ (A : Int) := by omega
        by_cases c : k < len
        · have cI : (k : Int) < (len : Int) := by omega
          have hkl : k < l.length := by rw [HL.out]; exact c
          obtain ⟨b, off, rfl, hc⟩ := HM.out (List.length_pos_iff.1 (by omega))
          obtain ⟨mo, ml, mc, bo, bl, bc, c1, c2, hput⟩ := put_at HF.out hkl ((hc k hkl).gr (HG3.out.trans HR4.out (fun _ _ h => h)))
          rw [Nat.mul_comm 2 k] at c1 c2
          obtain ⟨N1, hN1⟩ : ∃ N1, (putB 49 l[k].1 l[k].2).length = N1 := ⟨_, rfl⟩
          rw [hN1] at hput
          have HPut := hidM hput
          have hNb : N1 ≤ 5000000 := by
            have h1 := put_le l[k]
            have h2 := fit_at HF.out k hkl
            omega
          have HPk : Hid ((putsB (l.take (k + 1))).length = A + N1) := by
            show _ = _
            rw [puts_take l k hkl, List.length_append, HP.out, hN1]
          have hN0 : (0 : Int) ≤ (N1 : Int) := by omega
          by_cases d : A + N1 ≤ s
          · have dI : ¬ ((s : Int) < (A : Int) + (N1 : Int)) := by omega
            clear hc hput hN1 hkl HP
            go_wp2_with (first | (go_at_call 9; (with_reducible refine HPut.out.mono ?_); rintro e W1 ⟨vo1, vc1, rfl, g1⟩; have HG1 := hidM g1; clear g1))
            go_roundw
            case rel => exact ⟨k + 1, A + N1, by omega, by simp, by simp, d, HPk.out, HR4.out.trans HG1.out (fun _ _ h => h)⟩
            case measure => simp [intOf]; omega
          have dI : (s : Int) < (A : Int) + (N1 : Int) := by omega
          have HLies : Hid (Lies l k s) := lies_of l k s (by rw [HL.out]; exact hk) (by rw [HP.out]; exact hA) (fun h => by rw [HP.out, hN1]; omega) (by have := HSl.out; omega)
          clear hc hput hN1 hkl HP HPk
          go_wp2_with (first | (go_at_call 9; (with_reducible refine HPut.out.mono ?_); rintro e W1 ⟨vo1, vc1, rfl, g1⟩; have HR5 := hidM (HR4.out.trans g1 (fun _ _ h => h)); clear g1 HR4 HPut) | (go_at_call 30; refine Hid.out ?_))
          unfold Hid
          have hgo := gone_byte (cc := cc) HF.out HBr.out HLies.out HSl.out HNe.out HC.out (HBy.out.gr HR5.out) (Nat.lt_of_lt_of_le HX.out HR5.out.size) HVc.out hvm hCl (HCu.out.gr (HG3.out.trans HR5.out (fun _ _ h => h)))
          rw [HN.out] at hgo
          refine Calls.mono hgo ?_
          clear hgo
          rintro e W6 ⟨lo6, lc6, zz, rfl, hzz, hm6, g6⟩
          have HM6 := hidM hm6
          have HG6 := hidM (HR5.out.trans g6 (fun _ _ h => h))
          clear hm6 g6 HR5 HLies
          go_wp2_with (go_at_call 31; refine Hid.out ?_)
          unfold Hid
          refine Calls.mono (alike_take HL.out hk hlen HM6.out (HM.out.gr (HG3.out.trans HG6.out (fun _ _ h => h)))) ?_
          rintro e W7 ⟨rfl, g7⟩
          have HG7 := hidM ((HG3.out.trans HG6.out (fun _ _ h => h)).trans g7 (fun _ _ h => h))
          clear g7 HG6 HM6
          have hzt : (zz != 0) = true := by simpa using hzz
          go_wp2_with fail
          first | rw [hzt] | skip
          go_ret
          exact ⟨rfl, HG7.out⟩
        · have cI : ¬ ((k : Int) < (len : Int)) := by omega
          have HLies : Hid (Lies l k s) := lies_of l k s (by rw [HL.out]; exact hk) (by rw [HP.out]; exact hA) (fun h => by rw [HL.out] at h; omega) (by have := HSl.out; omega)
          clear HP
          have HR5 := HR4
          clear HR4
          go_wp2_with (go_at_call 30; refine Hid.out ?_)
          unfold Hid
          have hgo := gone_byte (cc := cc) HF.out HBr.out HLies.out HSl.out HNe.out HC.out (HBy.out.gr HR5.out) (Nat.lt_of_lt_of_le HX.out HR5.out.size) HVc.out hvm hCl (HCu.out.gr (HG3.out.trans HR5.out (fun _ _ h => h)))
          rw [HN.out] at hgo
          refine Calls.mono hgo ?_
          clear hgo
          rintro e W6 ⟨lo6, lc6, zz, rfl, hzz, hm6, g6⟩
          have HM6 := hidM hm6
          have HG6 := hidM (HR5.out.trans g6 (fun _ _ h => h))
          clear hm6 g6 HR5 HLies
          go_wp2_with (go_at_call 31; refine Hid.out ?_)
          unfold Hid
          refine Calls.mono (alike_take HL.out hk hlen HM6.out (HM.out.gr (HG3.out.trans HG6.out (fun _ _ h => h)))) ?_
          rintro e W7 ⟨rfl, g7⟩
          have HG7 := hidM ((HG3.out.trans HG6.out (fun _ _ h => h)).trans g7 (fun _ _ h => h))
          clear g7 HG6 HM6
          have hzt : (zz != 0) = true := by simpa using hzz
          go_wp2_with fail
          first | rw [hzt] | skip
          go_ret
          exact ⟨rfl, HG7.out⟩
  · by_cases cy : y = 0
    · have cyI : (y.toNat : Int) = 0 := by
        rw [cy]; rfl
      have hd : d = 1 := by rw [hdd]; exact if_pos cy
      rw [if_neg cz] at hxx
      subst hxx
      clear hdd
      go_enter Try.func6, Try.ntmps6
      go_wp2_with (first | (go_at_call 27; (with_reducible refine HFit.out.mono ?_); rintro e W1 ⟨rfl, rfl⟩) | (go_at_call 28; (with_reducible refine HWide.out.mono ?_); rintro e W2 ⟨rfl, g2⟩; have HG2 := hidM g2; clear g2) | (go_at_call 29; (with_reducible refine (HStr.out _ HG2.out).mono ?_); rintro e W3 ⟨X, vc, rfl, hby, hX1, hX2, hvc, hvm⟩; obtain ⟨q1, q2, q3, hcell, hfz⟩ := byte_set (s := s) (v := c ^^^ d) hby hsN hX1; rw [HCc.out] at hcell; have HS := hidM (And.intro q1 (And.intro q2 (HG2.out.trans q3 (fun _ _ h => h)))); have HVc : Hid ((strB l).length ≤ vc) := (by show _ ≤ _; rw [HN.out]; exact hvc); clear hby hX1 hX2 HG2 HStr HFit HWide q1 q2 q3))
      obtain ⟨E, hE⟩ : ∃ E : Int, ((c ^^^ d).toNat : Int) = E := ⟨_, rfl⟩
      rw [hE] at HS
      have hx : bits .xor .u8 (c.toNat : Int) 1 = E := by
        rw [← hE]
        rw [hd]; exact xor8 c 1
      rw [hx]
      obtain ⟨W4, hW4⟩ : ∃ V, W3.setCell ⟨X, s, none⟩ (.int .u8 E) = V := ⟨_, rfl⟩
      rw [hW4]
      rw [hW4] at HS
      have HBy := hidM HS.out.1
      have HX := hidM HS.out.2.1
      have HG3 := hidM HS.out.2.2
      have HR3 : Hid (Gr W4 W4) := Keeps.refl _ _
      have hyb0 : ((y.toNat : Int) == 0) = true := by simpa using cyI
      first | rw [hyb0] | skip
      first | rw [hs] | skip
      have hzd : decide (x < 0) = false := by simpa using cz
      first | rw [hzd] | skip
      clear hW4 hx HS hcell hfz hE hyb0 cyI hd cy hzd
      go_loopw [12, 13] (fun n q wr => ∃ k A : Nat, k ≤ len ∧ n = .int .i64 (k : Int) ∧ q = .int .i64 (A : Int) ∧ A ≤ s ∧ Hid ((putsB (l.take k)).length = A) ∧ Hid (Gr W4 wr)) (fun n _ _ => len - (intOf n).toNat)
      case atStart => exact ⟨0, 0, Nat.zero_le _, rfl, rfl, Nat.zero_le _, rfl, HR3.out⟩
      case round =>
        obtain ⟨k, A, hk, rfl, rfl, hA, HP, HR4⟩ := hrel
        clear HR3
        have hk0 : (0 : Int) ≤ (k : Int) := by omega
        have hA0 : (0 : Int) ≤ (A : Int) := by omega
        by_cases c : k < len
        · have cI : (k : Int) < (len : Int) := by omega
          have hkl : k < l.length := by rw [HL.out]; exact c
          obtain ⟨b, off, rfl, hc⟩ := HM.out (List.length_pos_iff.1 (by omega))
          obtain ⟨mo, ml, mc, bo, bl, bc, c1, c2, hput⟩ := put_at HF.out hkl ((hc k hkl).gr (HG3.out.trans HR4.out (fun _ _ h => h)))
          rw [Nat.mul_comm 2 k] at c1 c2
          obtain ⟨N1, hN1⟩ : ∃ N1, (putB 49 l[k].1 l[k].2).length = N1 := ⟨_, rfl⟩
          rw [hN1] at hput
          have HPut := hidM hput
          have hNb : N1 ≤ 5000000 := by
            have h1 := put_le l[k]
            have h2 := fit_at HF.out k hkl
            omega
          have HPk : Hid ((putsB (l.take (k + 1))).length = A + N1) := by
            show _ = _
            rw [puts_take l k hkl, List.length_append, HP.out, hN1]
          have hN0 : (0 : Int) ≤ (N1 : Int) := by omega
          by_cases d : A + N1 ≤ s
          · have dI : ¬ ((s : Int) < (A : Int) + (N1 : Int)) := by omega
            clear hc hput hN1 hkl HP
            go_wp2_with (first | (go_at_call 9; (with_reducible refine HPut.out.mono ?_); rintro e W1 ⟨vo1, vc1, rfl, g1⟩; have HG1 := hidM g1; clear g1))
            go_roundw
            case rel => exact ⟨k + 1, A + N1, by omega, by simp, by simp, d, HPk.out, HR4.out.trans HG1.out (fun _ _ h => h)⟩
            case measure => simp [intOf]; omega
          have dI : (s : Int) < (A : Int) + (N1 : Int) := by omega
          have HLies : Hid (Lies l k s) := lies_of l k s (by rw [HL.out]; exact hk) (by rw [HP.out]; exact hA) (fun h => by rw [HP.out, hN1]; omega) (by have := HSl.out; omega)
          clear hc hput hN1 hkl HP HPk
          go_wp2_with (first | (go_at_call 9; (with_reducible refine HPut.out.mono ?_); rintro e W1 ⟨vo1, vc1, rfl, g1⟩; have HR5 := hidM (HR4.out.trans g1 (fun _ _ h => h)); clear g1 HR4 HPut) | (go_at_call 30; refine Hid.out ?_))
          unfold Hid
          have hgo := gone_byte (cc := cc) HF.out HBr.out HLies.out HSl.out HNe.out HC.out (HBy.out.gr HR5.out) (Nat.lt_of_lt_of_le HX.out HR5.out.size) HVc.out hvm hCl (HCu.out.gr (HG3.out.trans HR5.out (fun _ _ h => h)))
          rw [HN.out] at hgo
          refine Calls.mono hgo ?_
          clear hgo
          rintro e W6 ⟨lo6, lc6, zz, rfl, hzz, hm6, g6⟩
          have HM6 := hidM hm6
          have HG6 := hidM (HR5.out.trans g6 (fun _ _ h => h))
          clear hm6 g6 HR5 HLies
          go_wp2_with (go_at_call 31; refine Hid.out ?_)
          unfold Hid
          refine Calls.mono (alike_take HL.out hk hlen HM6.out (HM.out.gr (HG3.out.trans HG6.out (fun _ _ h => h)))) ?_
          rintro e W7 ⟨rfl, g7⟩
          have HG7 := hidM ((HG3.out.trans HG6.out (fun _ _ h => h)).trans g7 (fun _ _ h => h))
          clear g7 HG6 HM6
          have hzt : (zz != 0) = true := by simpa using hzz
          go_wp2_with fail
          first | rw [hzt] | skip
          go_ret
          exact ⟨rfl, HG7.out⟩
        · have cI : ¬ ((k : Int) < (len : Int)) := by omega
          have HLies : Hid (Lies l k s) := lies_of l k s (by rw [HL.out]; exact hk) (by rw [HP.out]; exact hA) (fun h => by rw [HL.out] at h; omega) (by have := HSl.out; omega)
          clear HP
          have HR5 := HR4
          clear HR4
          go_wp2_with (go_at_call 30; refine Hid.out ?_)
          unfold Hid
          have hgo := gone_byte (cc := cc) HF.out HBr.out HLies.out HSl.out HNe.out HC.out (HBy.out.gr HR5.out) (Nat.lt_of_lt_of_le HX.out HR5.out.size) HVc.out hvm hCl (HCu.out.gr (HG3.out.trans HR5.out (fun _ _ h => h)))
          rw [HN.out] at hgo
          refine Calls.mono hgo ?_
          clear hgo
          rintro e W6 ⟨lo6, lc6, zz, rfl, hzz, hm6, g6⟩
          have HM6 := hidM hm6
          have HG6 := hidM (HR5.out.trans g6 (fun _ _ h => h))
          clear hm6 g6 HR5 HLies
          go_wp2_with (go_at_call 31; refine Hid.out ?_)
          unfold Hid
          refine Calls.mono (alike_take HL.out hk hlen HM6.out (HM.out.gr (HG3.out.trans HG6.out (fun _ _ h => h)))) ?_
          rintro e W7 ⟨rfl, g7⟩
          have HG7 := hidM ((HG3.out.trans HG6.out (fun _ _ h => h)).trans g7 (fun _ _ h => h))
          clear g7 HG6 HM6
          have hzt : (zz != 0) = true := by simpa using hzz
          go_wp2_with fail
          first | rw [hzt] | skip
          go_ret
          exact ⟨rfl, HG7.out⟩
    · have cyI : ¬ (y.toNat : Int) = 0 := by
        intro h; exact cy (UInt8.toNat_inj.1 (by show y.toNat = 0; omega))
      have hd : d = y := by rw [hdd]; exact if_neg cy
      rw [if_neg cz] at hxx
      subst hxx
      clear hdd
      go_enter Try.func6, Try.ntmps6
      go_wp2_with (first | (go_at_call 27; (with_reducible refine HFit.out.mono ?_); rintro e W1 ⟨rfl, rfl⟩) | (go_at_call 28; (with_reducible refine HWide.out.mono ?_); rintro e W2 ⟨rfl, g2⟩; have HG2 := hidM g2; clear g2) | (go_at_call 29; (with_reducible refine (HStr.out _ HG2.out).mono ?_); rintro e W3 ⟨X, vc, rfl, hby, hX1, hX2, hvc, hvm⟩; obtain ⟨q1, q2, q3, hcell, hfz⟩ := byte_set (s := s) (v := c ^^^ d) hby hsN hX1; rw [HCc.out] at hcell; have HS := hidM (And.intro q1 (And.intro q2 (HG2.out.trans q3 (fun _ _ h => h)))); have HVc : Hid ((strB l).length ≤ vc) := (by show _ ≤ _; rw [HN.out]; exact hvc); clear hby hX1 hX2 HG2 HStr HFit HWide q1 q2 q3))
      obtain ⟨E, hE⟩ : ∃ E : Int, ((c ^^^ d).toNat : Int) = E := ⟨_, rfl⟩
      rw [hE] at HS
      have hx : bits .xor .u8 (c.toNat : Int) (y.toNat : Int) = E := by
        rw [← hE]
        rw [hd]; exact xor8 c y
      rw [hx]
      obtain ⟨W4, hW4⟩ : ∃ V, W3.setCell ⟨X, s, none⟩ (.int .u8 E) = V := ⟨_, rfl⟩
      rw [hW4]
      rw [hW4] at HS
      have HBy := hidM HS.out.1
      have HX := hidM HS.out.2.1
      have HG3 := hidM HS.out.2.2
      have HR3 : Hid (Gr W4 W4) := Keeps.refl _ _
      have hyb0 : ((y.toNat : Int) == 0) = false := by simpa using cyI
      first | rw [hyb0] | skip
      first | rw [hs] | skip
      have hzd : decide (x < 0) = false := by simpa using cz
      first | rw [hzd] | skip
      clear hW4 hx HS hcell hfz hE hyb0 cyI hd cy hzd
      go_loopw [12, 13] (fun n q wr => ∃ k A : Nat, k ≤ len ∧ n = .int .i64 (k : Int) ∧ q = .int .i64 (A : Int) ∧ A ≤ s ∧ Hid ((putsB (l.take k)).length = A) ∧ Hid (Gr W4 wr)) (fun n _ _ => len - (intOf n).toNat)
      case atStart => exact ⟨0, 0, Nat.zero_le _, rfl, rfl, Nat.zero_le _, rfl, HR3.out⟩
      case round =>
        obtain ⟨k, A, hk, rfl, rfl, hA, HP, HR4⟩ := hrel
        clear HR3
        have hk0 : (0 : Int) ≤ (k : Int) := by omega
        have hA0 : (0 : Int) ≤ (A : Int) := by omega
        by_cases c : k < len
        · have cI : (k : Int) < (len : Int) := by omega
          have hkl : k < l.length := by rw [HL.out]; exact c
          obtain ⟨b, off, rfl, hc⟩ := HM.out (List.length_pos_iff.1 (by omega))
          obtain ⟨mo, ml, mc, bo, bl, bc, c1, c2, hput⟩ := put_at HF.out hkl ((hc k hkl).gr (HG3.out.trans HR4.out (fun _ _ h => h)))
          rw [Nat.mul_comm 2 k] at c1 c2
          obtain ⟨N1, hN1⟩ : ∃ N1, (putB 49 l[k].1 l[k].2).length = N1 := ⟨_, rfl⟩
          rw [hN1] at hput
          have HPut := hidM hput
          have hNb : N1 ≤ 5000000 := by
            have h1 := put_le l[k]
            have h2 := fit_at HF.out k hkl
            omega
          have HPk : Hid ((putsB (l.take (k + 1))).length = A + N1) := by
            show _ = _
            rw [puts_take l k hkl, List.length_append, HP.out, hN1]
          have hN0 : (0 : Int) ≤ (N1 : Int) := by omega
          by_cases d : A + N1 ≤ s
          · have dI : ¬ ((s : Int) < (A : Int) + (N1 : Int)) := by omega
            clear hc hput hN1 hkl HP
            go_wp2_with (first | (go_at_call 9; (with_reducible refine HPut.out.mono ?_); rintro e W1 ⟨vo1, vc1, rfl, g1⟩; have HG1 := hidM g1; clear g1))
            go_roundw
            case rel => exact ⟨k + 1, A + N1, by omega, by simp, by simp, d, HPk.out, HR4.out.trans HG1.out (fun _ _ h => h)⟩
            case measure => simp [intOf]; omega
          have dI : (s : Int) < (A : Int) + (N1 : Int) := by omega
          have HLies : Hid (Lies l k s) := lies_of l k s (by rw [HL.out]; exact hk) (by rw [HP.out]; exact hA) (fun h => by rw [HP.out, hN1]; omega) (by have := HSl.out; omega)
          clear hc hput hN1 hkl HP HPk
          go_wp2_with (first | (go_at_call 9; (with_reducible refine HPut.out.mono ?_); rintro e W1 ⟨vo1, vc1, rfl, g1⟩; have HR5 := hidM (HR4.out.trans g1 (fun _ _ h => h)); clear g1 HR4 HPut) | (go_at_call 30; refine Hid.out ?_))
          unfold Hid
          have hgo := gone_byte (cc := cc) HF.out HBr.out HLies.out HSl.out HNe.out HC.out (HBy.out.gr HR5.out) (Nat.lt_of_lt_of_le HX.out HR5.out.size) HVc.out hvm hCl (HCu.out.gr (HG3.out.trans HR5.out (fun _ _ h => h)))
          rw [HN.out] at hgo
          refine Calls.mono hgo ?_
          clear hgo
          rintro e W6 ⟨lo6, lc6, zz, rfl, hzz, hm6, g6⟩
          have HM6 := hidM hm6
          have HG6 := hidM (HR5.out.trans g6 (fun _ _ h => h))
          clear hm6 g6 HR5 HLies
          go_wp2_with (go_at_call 31; refine Hid.out ?_)
          unfold Hid
          refine Calls.mono (alike_take HL.out hk hlen HM6.out (HM.out.gr (HG3.out.trans HG6.out (fun _ _ h => h)))) ?_
          rintro e W7 ⟨rfl, g7⟩
          have HG7 := hidM ((HG3.out.trans HG6.out (fun _ _ h => h)).trans g7 (fun _ _ h => h))
          clear g7 HG6 HM6
          have hzt : (zz != 0) = true := by simpa using hzz
          go_wp2_with fail
          first | rw [hzt] | skip
          go_ret
          exact ⟨rfl, HG7.out⟩
        · have cI : ¬ ((k : Int) < (len : Int)) := by omega
          have HLies : Hid (Lies l k s) := lies_of l k s (by rw [HL.out]; exact hk) (by rw [HP.out]; exact hA) (fun h => by rw [HL.out] at h; omega) (by have := HSl.out; omega)
          clear HP
          have HR5 := HR4
          clear HR4
          go_wp2_with (go_at_call 30; refine Hid.out ?_)
          unfold Hid
          have hgo := gone_byte (cc := cc) HF.out HBr.out HLies.out HSl.out HNe.out HC.out (HBy.out.gr HR5.out) (Nat.lt_of_lt_of_le HX.out HR5.out.size) HVc.out hvm hCl (HCu.out.gr (HG3.out.trans HR5.out (fun _ _ h => h)))
          rw [HN.out] at hgo
          refine Calls.mono hgo ?_
          clear hgo
          rintro e W6 ⟨lo6, lc6, zz, rfl, hzz, hm6, g6⟩
          have HM6 := hidM hm6
          have HG6 := hidM (HR5.out.trans g6 (fun _ _ h => h))
          clear hm6 g6 HR5 HLies
          go_wp2_with (go_at_call 31; refine Hid.out ?_)
          unfold Hid
          refine Calls.mono (alike_take HL.out hk hlen HM6.out (HM.out.gr (HG3.out.trans HG6.out (fun _ _ h => h)))) ?_
          rintro e W7 ⟨rfl, g7⟩
          have HG7 := hidM ((HG3.out.trans HG6.out (fun _ _ h => h)).trans g7 (fun _ _ h => h))
          clear g7 HG6 HM6
          have hzt : (zz != 0) = true := by simpa using hzz
          go_wp2_with fail
          first | rw [hzt] | skip
          go_ret
          exact ⟨rfl, HG7.out⟩
end Go.Proofs.Ytemleibpmaclmaa.Kit
