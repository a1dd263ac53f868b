import Derived.Test.YtchhnchddledlaaDoorVA
namespace Go.Proofs.YtchhnchddledlaaDoor.Kit
open Go.RowKit Go.Shelf Go.Deep
set_option linter.unusedVariables false
attribute [local go_sem] run_store_func

/-! ### the document's appends -/
theorem pow_div (x k : Nat) : x / 256 ^ k / 256 = x / 256 ^ (k + 1) := by rw [Nat.div_div_eq_div_mul, Nat.pow_succ]
set_option maxRecDepth 100000 in
set_option maxHeartbeats 2000000 in
theorem numberR_any {w W : World} {vo : Option Addr} {vc n : Nat} {bs : List UInt8} (hb : Byts w W vo vc n bs) (hn : n ≤ 1000000) (x wd : Nat) (hx : x ≤ 1000000000000) (hw : wd ≤ 8) :
    Calls Tryd.prog 13 #[.slice vo n vc, .int .i64 (x : Int), .int .i64 (wd : Int)] W fun e w' => ∃ vo' vc', e = .returned (.slice vo' (n + wd) vc') ∧ Ap w W w' vo vc n vo' vc' (n + wd) (bs ++ numB x wd) := by
  have HB := hidM hb
  clear hb
  go_enter Tryd.func13, Tryd.ntmps13
  go_wp2
  go_loopw [0, 1, 7] (fun v y i wr => ∃ (k m : Nat) (vo' : Option Addr) (vc' : Nat), k ≤ wd ∧ m ≤ x ∧ i = .int .i64 (k : Int) ∧ v = .slice vo' (n + k) vc' ∧ y = .int .i64 (m : Int) ∧ Hid (m = x / 256 ^ k ∧ Ap w W wr vo vc n vo' vc' (n + k) (bs ++ numB x k))) (fun _ _ i _ => wd - (intOf i).toNat)
  case atStart => exact ⟨0, x, vo, vc, by omega, by omega, rfl, rfl, rfl, by simp, by simpa [numB] using Ap.refl HB.out⟩
  case round =>
    obtain ⟨k, m, vo', vc', hk, hm, rfl, rfl, rfl, HR⟩ := hrel
    by_cases hlt : k < wd
    · have hltI : (k : Int) < (wd : Int) := by omega
      obtain ⟨r, hr⟩ : ∃ r, r = m % 256 := ⟨_, rfl⟩
      obtain ⟨q, hq⟩ : ∃ q, q = m / 256 := ⟨_, rfl⟩
      have h1 : (m : Int).tmod 256 = (r : Int) := by rw [Int.tmod_eq_emod_of_nonneg (by omega)]; omega
      have h2 : (m : Int).tdiv 256 = (q : Int) := by rw [Int.tdiv_eq_ediv_of_nonneg (by omega)]; omega
      have h3 : IntKind.u8.wrap (r : Int) = (r : Int) := by rw [IntKind.wrap_u8]; omega
      have H4 : Hid (wrap64 (q : Int) = (q : Int)) := by show _ = _; unfold wrap64; omega
      have HNx : Hid (q = x / 256 ^ (k + 1) ∧ [Value.int .u8 (r : Int)] = bv [UInt8.ofNat (x / 256 ^ k % 256)]) := by
        refine ⟨by rw [hq, HR.out.1, pow_div], ?_⟩
        rw [← HR.out.1, ← hr]
        have : (UInt8.ofNat r).toNat = r := by simp; omega
        simp [bv]
        omega
      have hq' : q ≤ x := by rw [hq]; exact Nat.le_trans (Nat.div_le_self _ _) hm
      clear hr hq
      go_wp2_with (at_builtin; refine Hid.out ?_)
      unfold Hid
      have hB1 := HR.out.2.b.gr' (gr_alloc wr (.cells #[.int .u8 (r : Int)] 5))
      refine wpList_append_any _ rfl (.tmp 13) (.tmp 17) 30 30 rfl 5 (.int .u8 0) 1 Tryd.underlying30 info5 rfl _ (n + k) (bv (bs ++ numB x k)) rfl hB1.own _ 1 [.int .u8 (r : Int)] rfl (src_u8 wr [.int .u8 (r : Int)] 1 rfl (by simp)) (by omega) (by omega) ?_
      intro v' w1 hown hgrow hblk
      obtain ⟨vo2, vc2, rfl⟩ := own_form1 hown
      have HN : Hid (q = x / 256 ^ (k + 1) ∧ Ap w W w1 vo vc n vo2 vc2 (n + (k + 1)) (bs ++ numB x (k + 1))) := by
        refine ⟨HNx.out.1, ?_⟩
        have := HR.out.2.trans ((hB1.app HNx.out.2 hown hgrow hblk).pre (gr_alloc wr _))
        rw [numB, ← List.append_assoc]
        exact this
      clear hown hgrow hblk hB1 HNx HR
      go_wp2_with fail
      go_roundw
      case rel => exact ⟨k + 1, q, vo2, vc2, by omega, by omega, by simp, rfl, rfl, HN.out⟩
      case measure => simp [intOf]; omega
    · have hltI : ¬ (k : Int) < (wd : Int) := by omega
      obtain rfl : k = wd := by omega
      go_wp2_with fail
      go_ret
      exact ⟨vo', vc', rfl, HR.out.2⟩
set_option maxRecDepth 100000 in
set_option maxHeartbeats 2000000 in
theorem flagR_any {w W : World} {vo : Option Addr} {vc n : Nat} {bs : List UInt8} (hb : Byts w W vo vc n bs) (hn : n ≤ 1000000) (b : Bool) :
    Calls Tryd.prog 16 #[.slice vo n vc, .bool b] W fun e w' => ∃ vo' vc', e = .returned (.slice vo' (n + 1) vc') ∧ Ap w W w' vo vc n vo' vc' (n + 1) (bs ++ flgB b) := by
  have HB := hidM hb
  clear hb
  go_enter Tryd.func16, Tryd.ntmps16
  cases b with
  | true =>
    go_wp2_with (at_builtin; refine Hid.out ?_)
    unfold Hid
    have hB1 := HB.out.gr' (gr_alloc W (.cells #[.int .u8 1] 5))
    refine wpList_append_any _ rfl (.tmp 6) (.tmp 7) 30 30 rfl 5 (.int .u8 0) 1 Tryd.underlying30 info5 rfl _ n (bv bs) rfl hB1.own _ 1 [.int .u8 1] rfl (src_u8 W [.int .u8 1] 1 rfl (by simp)) (by omega) (by omega) ?_
    intro v' w1 hown hgrow hblk
    obtain ⟨vo2, vc2, rfl⟩ := own_form1 hown
    have HN : Hid (Ap w W w1 vo vc n vo2 vc2 (n + 1) (bs ++ flgB true)) := (hB1.app (us := [1]) rfl hown hgrow hblk).pre (gr_alloc W _)
    clear hown hgrow hblk hB1
    go_wp2_with fail
    go_ret
    exact ⟨vo2, vc2, rfl, HN.out⟩
  | false =>
    go_wp2_with (at_builtin; refine Hid.out ?_)
    unfold Hid
    have hB1 := HB.out.gr' (gr_alloc W (.cells #[.int .u8 0] 5))
    refine wpList_append_any _ rfl (.tmp 9) (.tmp 10) 30 30 rfl 5 (.int .u8 0) 1 Tryd.underlying30 info5 rfl _ n (bv bs) rfl hB1.own _ 1 [.int .u8 0] rfl (src_u8 W [.int .u8 0] 1 rfl (by simp)) (by omega) (by omega) ?_
    intro v' w1 hown hgrow hblk
    obtain ⟨vo2, vc2, rfl⟩ := own_form1 hown
    have HN : Hid (Ap w W w1 vo vc n vo2 vc2 (n + 1) (bs ++ flgB false)) := (hB1.app (us := [0]) rfl hown hgrow hblk).pre (gr_alloc W _)
    clear hown hgrow hblk hB1
    go_wp2_with fail
    go_ret
    exact ⟨vo2, vc2, rfl, HN.out⟩
set_option maxRecDepth 100000 in
set_option maxHeartbeats 2000000 in
theorem textR_any {w W : World} {vo : Option Addr} {vc n : Nat} {bs : List UInt8} (hb : Byts w W vo vc n bs) (hn : n ≤ 1000000) (s : ByteArray) (wd : Nat) (hs : s.size ≤ 1000000) (hw : wd ≤ 8) :
    Calls Tryd.prog 15 #[.slice vo n vc, .string s, .int .i64 (wd : Int)] W fun e w' => ∃ vo' vc', e = .returned (.slice vo' (n + wd + s.size) vc') ∧ Ap w W w' vo vc n vo' vc' (n + wd + s.size) (bs ++ txtB s wd) := by
  have H13 := hidM (numberR_any hb hn s.size wd (by omega) hw)
  clear hb
  go_enter Tryd.func15, Tryd.ntmps15
  go_wp2_with (go_at_call 13; refine Hid.out ?_)
  unfold Hid
  refine Calls.mono H13.out ?_
  rintro e W1 ⟨vo1, vc1, rfl, hb1⟩
  have HB1 := hidM hb1
  clear hb1
  go_wp2_with (at_builtin; refine Hid.out ?_)
  unfold Hid
  refine wpList_append_any _ rfl (.tmp 12) (.tmp 13) 30 9 rfl 5 (.int .u8 0) 1 Tryd.underlying30 info5 rfl _ (n + wd) (bv (bs ++ numB s.size wd)) rfl HB1.out.b.own _ s.size (byteCells s) rfl (Src.ofString _ Tryd.underlying9 s) (by omega) (by omega) ?_
  intro v' w1 hown hgrow hblk
  obtain ⟨vo2, vc2, rfl⟩ := own_form1 hown
  have HN : Hid (Ap w W w1 vo vc n vo2 vc2 (n + wd + s.size) (bs ++ txtB s wd)) := by
    have := HB1.out.trans (HB1.out.b.app (us := s.data.toList) rfl hown hgrow hblk)
    rw [List.append_assoc] at this
    exact this
  clear hown hgrow hblk HB1
  go_wp2_with fail
  go_ret
  exact ⟨vo2, vc2, rfl, HN.out⟩
theorem numberR_at {w W : World} {vo : Option Addr} {vc n : Nat} {bs : List UInt8} (hb : Byts w W vo vc n bs) (hn : n ≤ 1000000) (z wi : Int) (wd : Nat) (h0 : 0 ≤ z) (hz : z ≤ 1000000000000) (hi : wi = (wd : Int)) (hw : wd ≤ 8) :
    Calls Tryd.prog 13 #[.slice vo n vc, .int .i64 z, .int .i64 wi] W fun e w' => ∃ vo' vc', e = .returned (.slice vo' (n + wd) vc') ∧ Ap w W w' vo vc n vo' vc' (n + wd) (bs ++ numB z.toNat wd) := by
  have h := numberR_any hb hn z.toNat wd (by omega) hw
  rw [Int.toNat_of_nonneg h0, ← hi] at h
  exact h
theorem textR_at {w W : World} {vo : Option Addr} {vc n : Nat} {bs : List UInt8} (hb : Byts w W vo vc n bs) (hn : n ≤ 1000000) (s : ByteArray) (wi : Int) (wd : Nat) (hs : s.size ≤ 1000000) (hi : wi = (wd : Int)) (hw : wd ≤ 8) :
    Calls Tryd.prog 15 #[.slice vo n vc, .string s, .int .i64 wi] W fun e w' => ∃ vo' vc', e = .returned (.slice vo' (n + wd + s.size) vc') ∧ Ap w W w' vo vc n vo' vc' (n + wd + s.size) (bs ++ txtB s wd) := by
  have h := textR_any hb hn s wd hs hw
  rw [← hi] at h
  exact h
end Go.Proofs.YtchhnchddledlaaDoor.Kit
