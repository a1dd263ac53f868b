import Derived.Test.YtemleibpmaclmaaTG
namespace Go.Proofs.Ytemleibpmaclmaa.Kit
open Go.RowKit Go.Shelf Go.Deep
set_option linter.unusedVariables false

/-! ### the stream of messages -/
def putsB (l : List Msg) : List UInt8 := (l.map fun x => putB 49 x.1 x.2).flatten
def strB (l : List Msg) : List UInt8 := putsB l ++ putB 48 [] []
theorem put_le (x : Msg) : (putB 49 x.1 x.2).length ≤ 64 + x.1.length + x.2.length := by
  rw [putB_len]
  have := up8_ge x.1.length
  have := up8_ge x.2.length
  omega
theorem puts_le : ∀ l : List Msg, (putsB l).length ≤ wideN l
  | [] => Nat.le_refl _
  | x :: l => by
    have h := puts_le l
    have := put_le x
    simp only [putsB, wideN, List.map_cons, List.flatten_cons, List.length_append, List.sum_cons] at h ⊢
    omega
theorem puts_take (l : List Msg) (k : Nat) (hk : k < l.length) : putsB (l.take (k + 1)) = putsB (l.take k) ++ putB 49 l[k].1 l[k].2 := by
  rw [List.take_succ_eq_append_getElem hk]
  unfold putsB
  rw [List.map_append, List.flatten_append]
  simp only [List.map_cons, List.map_nil, List.flatten_cons, List.flatten_nil, List.append_nil]
theorem fit_at {l : List Msg} (h : fitB l = true) (k : Nat) (hk : k < l.length) : l[k].1.length ≤ 65536 ∧ l[k].2.length ≤ 4194304 := by
  unfold fitB at h
  rw [List.all_eq_true] at h
  have := h l[k] (List.getElem_mem hk)
  simpa using this
set_option maxRecDepth 100000 in
set_option maxHeartbeats 4000000 in
theorem stream_any {ao : Option Addr} {cap : Nat} {l : List Msg} {w : World} (hfit : fitB l = true) (hwide : broadB l = false) (hm : MsgsAt w ao l) :
    Calls Try.prog 29 #[.slice ao l.length cap] w fun e w' => ∃ vo vc n, e = .returned (.tuple #[.slice vo n vc, .bool true]) ∧ Byts w w' vo vc n (strB l) := by
  obtain ⟨len, hl⟩ : ∃ n, l.length = n := ⟨_, rfl⟩
  have hwn : wideN l < 2147483648 := by simpa [broadB] using hwide
  have hb0 : ∀ k, (putsB (l.take k)).length < 2147483648 := fun k => by
    have := puts_le (l.take k)
    have := wide_take l k
    omega
  have hlen : len ≤ 2147483648 := by
    have : ∀ l : List Msg, l.length ≤ wideN l := fun l => by
      induction l with
      | nil => exact Nat.le_refl _
      | cons x l ih => simp only [wideN, List.map_cons, List.sum_cons, List.length_cons] at ih ⊢; omega
    have := this l
    omega
  have HB0 := hidM hb0
  have HL := hidM hl
  have HF := hidM hfit
  have HM := hidM hm
  rw [hl]
  have HCl : Hid (∀ V, Calls Try.prog 12 #[] V fun e w' => ∃ vo vc, e = .returned (.slice vo 24 vc) ∧ Byts V w' vo vc 24 (putB 48 [] [])) := fun V => close_any V
  clear hb0 hl hfit hm hwide hwn
  go_enter Try.func29, Try.ntmps29
  go_wp2_with fail
  go_loopw [4, 5] (fun o i wr => ∃ (k n : Nat) (vo : Option Addr) (vc : Nat), k ≤ len ∧ i = .int .i64 (k : Int) ∧ o = .slice vo n vc ∧ n ≤ 2147483648 ∧ Hid (Byts w wr vo vc n (putsB (l.take k)))) (fun _ i _ => len - (intOf i).toNat)
  case atStart => exact ⟨0, 0, none, 0, Nat.zero_le _, rfl, rfl, by omega, Byts.nil _ _ (Keeps.refl _ _)⟩
  case round =>
    obtain ⟨k, n, vo, vc, hk, rfl, rfl, hn, HR⟩ := hrel
    by_cases c : k < len
    · have cI : (k : Int) < (len : Int) := by omega
      have hk0 : (0 : Int) ≤ (k : Int) := by omega
      have hkl : k < l.length := by rw [HL.out]; exact c
      obtain ⟨b, off, rfl, hc⟩ := HM.out (List.length_pos_iff.1 (by omega))
      obtain ⟨mo, mc, bo, bc, c1, c2, -, m1, m2, -, m3, m4⟩ := ((hc k hkl).gr HR.out.gr).h
      obtain ⟨f1, f2⟩ := fit_at HF.out k hkl
      rw [Nat.mul_comm 2 k] at c1 c2
      obtain ⟨P, hP⟩ : ∃ P, putB 49 l[k].1 l[k].2 = P := ⟨_, rfl⟩
      obtain ⟨N, hN⟩ : ∃ N, P.length = N := ⟨_, rfl⟩
      have hNb : N ≤ 5000000 := by
        have := put_le l[k]
        rw [hP, hN] at this
        omega
      have HP9 : Hid (Calls Try.prog 9 #[.agg #[.slice mo l[k].1.length mc, .slice bo l[k].2.length bc]] wr fun e w' => ∃ vo vc, e = .returned (.tuple #[.slice vo N vc, .int .i64 0]) ∧ Byts wr w' vo vc N P) := by
        refine (put_any m2 m4 (by omega) (by omega)).mono ?_
        rintro e w' ⟨vo, vc, n, rfl, hb⟩
        have e1 : putE l[k].1 l[k].2 = 0 := if_pos ⟨f1, f2⟩
        have e2 : putR l[k].1 l[k].2 = P := (if_pos ⟨f1, f2⟩).trans hP
        rw [e2] at hb
        have e3 : n = N := by rw [← hN]; exact hb.len.symm
        subst e3
        exact ⟨vo, vc, by rw [e1], hb⟩
      have HPk : Hid (putsB (l.take (k + 1)) = putsB (l.take k) ++ P) := by show _ = _; rw [puts_take l k hkl, hP]
      have HNl : Hid (P.length = N) := hN
      clear hc m1 m2 m3 m4 f1 f2 hP hN
      generalize l[k].1.length = x at *
      generalize l[k].2.length = y at *
      clear hkl
      go_wp2_with (first | (go_at_call 9; (with_reducible refine HP9.out.mono ?_); rintro e W1 ⟨vo1, vc1, rfl, hb1⟩; have HB1 := hidM hb1; clear hb1) | (at_builtin; refine Hid.out ?_))
      unfold Hid
      have hsrc := src_all (ca := vc1) HB1.out.bytes
      rw [HNl.out] at hsrc
      have hR1 := HR.out.gr' HB1.out.gr
      refine wpList_append_any _ rfl (.tmp 25) (.tmp 26) 22 22 rfl 5 (.int .u8 0) 1 Try.underlying22 info5 rfl (.slice vo n vc) n _ rfl hR1.own _ N (bv P) rfl hsrc (by omega) (by omega) ?_
      intro v' W2 hown hgrow hblk
      obtain ⟨vo2, vc2, rfl⟩ := own_form1 hown
      have hA := hR1.app (us := P) rfl hown hgrow hblk
      have hB2 := hA.b
      rw [← HPk.out] at hB2
      have hnn : n + N ≤ 2147483648 := by
        have h1 := hB2.len
        have h2 := HB0.out (k + 1)
        omega
      have HB2 := hidM hB2
      clear hown hgrow hblk hA hR1 hsrc hB2 HB1 HR HPk HNl HP9
      go_wp2_with fail
      go_roundw
      case rel => exact ⟨k + 1, n + N, vo2, vc2, by omega, by simp, rfl, hnn, HB2.out⟩
      case measure => simp [intOf]; omega
    · have cI : ¬ (k : Int) < (len : Int) := by omega
      have hkl : k = len := by omega
      have HS : Hid (strB l = putsB (l.take k) ++ putB 48 [] []) := by
        show _ = _
        rw [hkl, List.take_of_length_le (by rw [HL.out]; omega)]
        rfl
      clear hkl
      go_wp2_with (first | (go_at_call 12; (with_reducible refine (HCl.out _).mono ?_); rintro e W1 ⟨vo1, vc1, rfl, hb1⟩; have HB1 := hidM hb1; clear hb1) | (at_builtin; refine Hid.out ?_))
      unfold Hid
      have hsrc : Src Try.prog 1 22 (.slice vo1 24 vc1) 24 (bv (putB 48 [] [])) W1 := src_all (ca := vc1) HB1.out.bytes
      have hR1 := HR.out.gr' HB1.out.gr
      refine wpList_append_any _ rfl (.tmp 29) (.tmp 30) 22 22 rfl 5 (.int .u8 0) 1 Try.underlying22 info5 rfl (.slice vo n vc) n _ rfl hR1.own _ 24 (bv (putB 48 [] [])) rfl hsrc (by omega) (by omega) ?_
      intro v' W2 hown hgrow hblk
      obtain ⟨vo2, vc2, rfl⟩ := own_form1 hown
      have hA := hR1.app (us := putB 48 [] []) rfl hown hgrow hblk
      have hB2 := hA.b
      rw [← HS.out] at hB2
      have HB2 := hidM hB2
      clear hown hgrow hblk hA hR1 hsrc hB2 HB1 HR HS
      go_wp2_with fail
      go_ret2
      exact ⟨vo2, vc2, n + 24, rfl, HB2.out⟩
end Go.Proofs.Ytemleibpmaclmaa.Kit
