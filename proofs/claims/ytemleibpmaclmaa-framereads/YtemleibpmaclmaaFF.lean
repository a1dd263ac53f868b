import Derived.Test.YtemleibpmaclmaaFE
namespace Go.Proofs.Ytemleibpmaclmaa.Kit
open Go.RowKit Go.Shelf Go.Deep
set_option linter.unusedVariables false
attribute [local go_sem] run_store_func

set_option maxRecDepth 100000 in
set_option maxHeartbeats 2000000 in
theorem put_any {mo bo : Option Addr} {mc bc : Nat} {m b : List UInt8} {w : World} (hm : BytesAt w mo m) (hb : BytesAt w bo b) (hml : m.length ≤ 140737488355328) (hbl : b.length ≤ 140737488355328) :
    Calls Try.prog 9 #[.agg #[.slice mo m.length mc, .slice bo b.length bc]] w fun e w' => ∃ vo vc n, e = .returned (.tuple #[.slice vo n vc, .int .i64 (putE m b)]) ∧ Byts w w' vo vc n (putR m b) := by
  obtain ⟨M, hM⟩ : ∃ M, M = m.length := ⟨_, rfl⟩
  obtain ⟨N, hN⟩ : ∃ N, N = b.length := ⟨_, rfl⟩
  have HM := hidM hM
  have HN := hidM hN
  have G0 := hidM (gr_alloc w (.cells #[.slice mo M mc, .slice bo N bc] 24))
  have hbx := heap_alloc_new w (.cells #[.slice mo M mc, .slice bo N bc] 24)
  obtain ⟨p0, p1⟩ := ce2 hbx
  rw [← hM] at hml
  rw [← hN] at hbl
  have HBm := hidM hm
  have HBb := hidM hb
  rw [← hM, ← hN]
  clear hm hb hM hN hbx
  by_cases c : M ≤ 65536 ∧ N ≤ 4194304
  rotate_left
  · have HE : Hid (putE m b = 4 ∧ putR m b = []) := by unfold putE putR; rw [← HM.out, ← HN.out, if_neg c, if_neg c]; exact ⟨rfl, rfl⟩
    have HZ := hidM (Byts.nil w _ G0.out)
    by_cases c1 : M ≤ 65536
    · have c1I : ¬ (65536 < (M : Int)) := by omega
      have c2I : 4194304 < (N : Int) := by omega
      go_enter Try.func9, Try.ntmps9
      go_wp2_with fail
      refine bodyPost_ret (v := .tuple #[.slice none 0 0, .int .i64 4]) ?_ rfl ⟨none, 0, 0, by rw [HE.out.1], by rw [HE.out.2]; exact HZ.out⟩
      simp [results, Try.f9, go_sem]
    · have c1I : 65536 < (M : Int) := by omega
      go_enter Try.func9, Try.ntmps9
      go_wp2_with fail
      refine bodyPost_ret (v := .tuple #[.slice none 0 0, .int .i64 4]) ?_ rfl ⟨none, 0, 0, by rw [HE.out.1], by rw [HE.out.2]; exact HZ.out⟩
      simp [results, Try.f9, go_sem]
  obtain ⟨c1, c2⟩ := c
  have c1I : ¬ (65536 < (M : Int)) := by omega
  have c2I : ¬ (4194304 < (N : Int)) := by omega
  have HLa : Hid (∀ V, Gr w V → Calls Try.prog 35 #[.string ⟨#[67, 79, 76, 49]⟩, .agg #[.slice mo M mc, .slice bo N bc]] V fun e w' => ∃ vo vc, e = .returned (.slice vo (putB 49 m b).length vc) ∧ Byts V w' vo vc (putB 49 m b).length (putB 49 m b)) := fun V g => by
    have := lay_any (mc := mc) (bc := bc) 49 (HBm.out.gr g) (HBb.out.gr g) (by rw [← HM.out]; exact c1) (by rw [← HN.out]; exact c2)
    rw [← HM.out, ← HN.out] at this
    exact this
  have HE : Hid (putE m b = 0 ∧ putR m b = putB 49 m b) := by unfold putE putR; rw [← HM.out, ← HN.out, if_pos ⟨c1, c2⟩, if_pos ⟨c1, c2⟩]; exact ⟨rfl, rfl⟩
  obtain ⟨K, hK⟩ : ∃ K, K = (putB 49 m b).length := ⟨_, rfl⟩
  rw [← hK] at HLa
  clear hK
  go_enter Try.func9, Try.ntmps9
  go_wp2_with (go_at_call 35; refine Hid.out ?_)
  unfold Hid
  refine Calls.mono (HLa.out _ G0.out) ?_
  rintro e W1 ⟨vo, vc, rfl, hb1⟩
  have HB1 := hidM (hb1.base G0.out)
  clear hb1
  go_wp2_with fail
  refine bodyPost_ret (v := .tuple #[.slice vo K vc, .int .i64 0]) ?_ rfl ⟨vo, vc, K, by rw [HE.out.1], by rw [HE.out.2]; exact HB1.out⟩
  simp [results, Try.f9, go_sem]
theorem close_any (w : World) : Calls Try.prog 12 #[] w fun e w' => ∃ vo vc, e = .returned (.slice vo 24 vc) ∧ Byts w w' vo vc 24 (putB 48 [] []) := by
  have hL := hidM (lay_any (mo := none) (bo := none) (mc := 0) (bc := 0) (m := []) (b := []) (w := w) 48 (fun h => absurd rfl h) (fun h => absurd rfl h) (by decide) (by decide))
  have e24 : (putB 48 [] []).length = 24 := by rw [putB_len]; rfl
  rw [e24] at hL
  clear e24
  go_enter Try.func12, Try.ntmps12
  go_wp2_with (go_at_call 35; refine Hid.out ?_)
  unfold Hid
  refine Calls.mono hL.out ?_
  rintro e W1 ⟨vo, vc, rfl, hb1⟩
  have HB1 := hidM hb1
  clear hb1 hL
  go_wp2_with fail
  go_ret
  exact ⟨vo, vc, rfl, HB1.out⟩

/-! ### the law's helpers -/
set_option maxRecDepth 100000 in
set_option maxHeartbeats 2000000 in
theorem same_true {ao bo : Option Addr} {ac bc : Nat} {l : List UInt8} {w : World} (ha : BytesAt w ao l) (hb : BytesAt w bo l) (hl : l.length ≤ 140737488355328) :
    Calls Try.prog 10 #[.slice ao l.length ac, .slice bo l.length bc] w fun e w' => e = .returned (.bool true) ∧ Gr w w' := by
  obtain ⟨L, hL⟩ : ∃ L, L = l.length := ⟨_, rfl⟩
  have HL := hidM hL
  have HA := hidM ha
  have HB := hidM hb
  rw [← hL] at hl ⊢
  clear ha hb hL
  go_enter Try.func10, Try.ntmps10
  go_wp2_with fail
  go_loopw [5] (fun q wr => ∃ k : Nat, k ≤ L ∧ q = .int .i64 (k : Int) ∧ Hid (Gr w wr)) (fun q _ => L - (intOf q).toNat)
  case atStart => exact ⟨0, by omega, rfl, Keeps.refl _ _⟩
  case round =>
    obtain ⟨k, hk, rfl, HG⟩ := hrel
    by_cases c : k < L
    · have cI : (k : Int) < (L : Int) := by omega
      have hk0 : (0 : Int) ≤ (k : Int) := by omega
      have hkb : k < l.length := by rw [← HL.out]; exact c
      obtain ⟨b1, o1, rfl, h1⟩ := (HA.out.gr HG.out).at (ne_nil hkb)
      obtain ⟨b2, o2, rfl, h2⟩ := (HB.out.gr HG.out).at (ne_nil hkb)
      have t1 := h1 k hkb
      have t2 := h2 k hkb
      obtain ⟨z, hz⟩ : ∃ z : Int, z = ((l.getD k 0).toNat : Int) := ⟨_, rfl⟩
      rw [← hz] at t1 t2
      clear h1 h2 hz hkb HA HB
      go_wp2_with fail
      go_region
      go_wp2_with fail
      go_roundw
      case rel => exact ⟨k + 1, by omega, by simp, HG.out.trans ((Keeps.refl _ _).drew) (fun _ _ h => h)⟩
      case measure => simp [intOf]; omega
    · have cI : ¬ (k : Int) < (L : Int) := by omega
      go_wp2_with fail
      go_ret
      exact ⟨rfl, HG.out⟩
end Go.Proofs.Ytemleibpmaclmaa.Kit
