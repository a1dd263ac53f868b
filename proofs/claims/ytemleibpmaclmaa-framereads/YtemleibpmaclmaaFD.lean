import Derived.Test.YtemleibpmaclmaaFC
namespace Go.Proofs.Ytemleibpmaclmaa.Kit
open Go.RowKit Go.Shelf Go.Deep
set_option linter.unusedVariables false
attribute [local go_sem] run_store_func

theorem Ap.cells {w W W' : World} {vo : Option Addr} {vc n : Nat} {bs : List UInt8} {vo' : Option Addr} {vc' n' : Nat} {bs' : List UInt8} (h : Ap w W W' vo vc n vo' vc' n' bs') (hb : Byts w W vo vc n bs) {p : Addr} {v : Value} (hc : W.cell? p = some v) (hp : p.block < w.heap.size) : W'.cell? p = some v :=
  h.kp.cell' hc (fun e => by have := hb.new _ e; omega)
theorem Byts.base {w W V : World} {vo : Option Addr} {vc n : Nat} {bs : List UInt8} (g : Gr w W) (h : Byts W V vo vc n bs) : Byts w V vo vc n bs :=
  ⟨h.own, g.trans h.gr (fun _ _ h => h), fun x hx => Nat.le_trans g.size (h.new x hx)⟩
def putE (m b : List UInt8) : Int := if m.length ≤ 65536 ∧ b.length ≤ 4194304 then 0 else 4
def putR (m b : List UInt8) : List UInt8 := if m.length ≤ 65536 ∧ b.length ≤ 4194304 then putB 49 m b else []
set_option maxRecDepth 100000 in
set_option maxHeartbeats 2000000 in
theorem putD_any {mo bo : Option Addr} {mc bc : Nat} {m b : List UInt8} {w : World} (hm : BytesAt w mo m) (hb : BytesAt w bo b) (hml : m.length ≤ 140737488355328) (hbl : b.length ≤ 140737488355328) :
    Calls Try.prog 7 #[.agg #[.slice mo m.length mc, .slice bo b.length bc]] w fun e w' => ∃ vo vc n, e = .returned (.tuple #[.slice vo n vc, .int .i64 (putE m b)]) ∧ Byts w w' vo vc n (putR m b) := by
  obtain ⟨M, hM⟩ : ∃ M, M = m.length := ⟨_, rfl⟩
  obtain ⟨N, hN⟩ : ∃ N, N = b.length := ⟨_, rfl⟩
  have HM := hidM hM
  have HN := hidM hN
  have G0 := hidM (gr_alloc w (.cells #[.slice mo M mc, .slice bo N bc] 24))
  have hbx := heap_alloc_new w (.cells #[.slice mo M mc, .slice bo N bc] 24)
  obtain ⟨p0, p1⟩ := ce2 hbx
  rw [← hM] at hml
  rw [← hN] at hbl
  have HBm := hidM hm
  have HBb := hidM hb
  rw [← hM, ← hN]
  clear hm hb hM hN hbx
  by_cases c : M ≤ 65536 ∧ N ≤ 4194304
  rotate_left
  · have HE : Hid (putE m b = 4 ∧ putR m b = []) := by unfold putE putR; rw [← HM.out, ← HN.out, if_neg c, if_neg c]; exact ⟨rfl, rfl⟩
    have HZ := hidM (Byts.nil w _ G0.out)
    by_cases c1 : M ≤ 65536
    · have c1I : ¬ (65536 < (M : Int)) := by omega
      have c2I : 4194304 < (N : Int) := by omega
      go_enter Try.func7, Try.ntmps7
      go_wp2_with fail
      refine bodyPost_ret (v := .tuple #[.slice none 0 0, .int .i64 4]) ?_ rfl ⟨none, 0, 0, by rw [HE.out.1], by rw [HE.out.2]; exact HZ.out⟩
      simp [results, Try.f7, go_sem]
    · have c1I : 65536 < (M : Int) := by omega
      go_enter Try.func7, Try.ntmps7
      go_wp2_with fail
      refine bodyPost_ret (v := .tuple #[.slice none 0 0, .int .i64 4]) ?_ rfl ⟨none, 0, 0, by rw [HE.out.1], by rw [HE.out.2]; exact HZ.out⟩
      simp [results, Try.f7, go_sem]
  obtain ⟨c1, c2⟩ := c
  have c1I : ¬ (65536 < (M : Int)) := by omega
  have c2I : ¬ (4194304 < (N : Int)) := by omega
  have HS1 : Hid (∀ V, Gr w V → Calls Try.prog 33 #[.int .u32 2166136261, .slice mo M mc] V fun e w' => e = .returned (.int .u32 ((sumU sum0 m).toNat : Int)) ∧ V = w') := fun V g => by
    have := sumD_any (ca := mc) sum0 (HBm.out.gr g) (by rw [← HM.out]; omega)
    rw [← HM.out] at this
    exact this
  have HS2 : Hid (∀ V, Gr w V → Calls Try.prog 33 #[.int .u32 ((sumU sum0 m).toNat : Int), .slice bo N bc] V fun e w' => e = .returned (.int .u32 ((sumU (sumU sum0 m) b).toNat : Int)) ∧ V = w') := fun V g => by
    have := sumD_any (ca := bc) (sumU sum0 m) (HBb.out.gr g) (by rw [← HN.out]; omega)
    rw [← HN.out] at this
    exact this
  have HS3 : Hid (∀ V, Calls Try.prog 32 #[.int .u8 49, .int .i64 (M : Int), .int .i64 (N : Int), .int .u32 ((sumU (sumU sum0 m) b).toNat : Int)] V fun e w' => ∃ vo vc, e = .returned (.slice vo 24 vc) ∧ Byts V w' vo vc 24 (headB 49 M N (sumU (sumU sum0 m) b))) := fun V => head_any 49 M N _ V (by omega) (by omega)
  have HU1 : Hid (∀ V, Calls Try.prog 34 #[.int .i64 (M : Int)] V fun e w' => e = .returned (.int .i64 (up8 M : Int)) ∧ V = w') := fun V => up_any M V (by omega)
  have HU2 : Hid (∀ V, Calls Try.prog 34 #[.int .i64 (N : Int)] V fun e w' => e = .returned (.int .i64 (up8 N : Int)) ∧ V = w') := fun V => up_any N V (by omega)
  obtain ⟨z1, hz1⟩ : ∃ z1 : Nat, z1 = up8 M - M := ⟨_, rfl⟩
  obtain ⟨z2, hz2⟩ : ∃ z2 : Nat, z2 = up8 N - N := ⟨_, rfl⟩
  have hu1 := up8_ge M
  have hu2 := up8_ge N
  have HZ1 := hidM hz1
  have HZ2 := hidM hz2
  obtain ⟨u1, hu1'⟩ : ∃ u1 : Int, u1 = (up8 M : Int) := ⟨_, rfl⟩
  obtain ⟨u2, hu2'⟩ : ∃ u2 : Int, u2 = (up8 N : Int) := ⟨_, rfl⟩
  have e1 : u1 - (M : Int) = (z1 : Int) := by omega
  have e2 : u2 - (N : Int) = (z2 : Int) := by omega
  have b1 : 0 ≤ u1 ∧ u1 ≤ 65600 ∧ z1 ≤ 7 := by omega
  have b2 : 0 ≤ u2 ∧ u2 ≤ 4194400 ∧ z2 ≤ 7 := by omega
  have w1 : Hid (IntKind.i64.wrap (z1 : Int) = (z1 : Int)) := by show _ = _; rw [IntKind.wrap_i64]; omega
  have w2 : Hid (IntKind.i64.wrap (z2 : Int) = (z2 : Int)) := by show _ = _; rw [IntKind.wrap_i64]; omega
  rw [← hu1'] at HU1
  rw [← hu2'] at HU2
  clear hu1' hu2' hz1 hz2 hu1 hu2
  obtain ⟨q1, hq1⟩ : ∃ q1 : Int, q1 = ((sumU sum0 m).toNat : Int) := ⟨_, rfl⟩
  obtain ⟨q2, hq2⟩ : ∃ q2 : Int, q2 = ((sumU (sumU sum0 m) b).toNat : Int) := ⟨_, rfl⟩
  rw [← hq1] at HS1 HS2
  rw [← hq2] at HS2 HS3
  clear hq1 hq2
  go_enter Try.func7, Try.ntmps7
  go_wp2_with fail
  obtain ⟨W0, hW0⟩ : ∃ W0, W0 = w.alloc (.cells #[.slice mo M mc, .slice bo N bc] 24) := ⟨_, rfl⟩
  rw [← hW0] at G0 p0 p1 ⊢
  obtain ⟨B, hB⟩ : ∃ B, B = w.heap.size := ⟨_, rfl⟩
  rw [← hB] at p0 p1 ⊢
  have HC : Hid (∀ V, Gr W0 V → V.cell? ⟨B, 0, none⟩ = some (.slice mo M mc) ∧ V.cell? ⟨B, 1, none⟩ = some (.slice bo N bc)) := fun V g => ⟨g.cell' p0 id, g.cell' p1 id⟩
  clear hW0 hB
  have HBw : Hid (B < W0.heap.size) := block_lt_of_cell p0
  have HIN : Hid (Hid (Gr W0 W0.drew) ∧ W0.drew.cell? ⟨B, 0, none⟩ = some (.slice mo M mc) ∧ W0.drew.cell? ⟨B, 1, none⟩ = some (.slice bo N bc)) := ⟨(Keeps.refl W0 _).drew, HC.out _ ((Keeps.refl W0 _).drew)⟩
  have HGF : Hid (∀ V, (Hid (Gr W0 V) ∧ V.cell? ⟨B, 0, none⟩ = some (.slice mo M mc) ∧ V.cell? ⟨B, 1, none⟩ = some (.slice bo N bc)) → Gr w V) := fun V h => G0.out.trans h.1.out (fun _ _ h => h)
  have HGW : Hid (∀ V, (Hid (Gr W0 V) ∧ V.cell? ⟨B, 0, none⟩ = some (.slice mo M mc) ∧ V.cell? ⟨B, 1, none⟩ = some (.slice bo N bc)) → Gr W0 V) := fun V h => h.1.out
  have HKP : Hid (∀ V V', (Hid (Gr W0 V) ∧ V.cell? ⟨B, 0, none⟩ = some (.slice mo M mc) ∧ V.cell? ⟨B, 1, none⟩ = some (.slice bo N bc)) → Gr V V' → (Hid (Gr W0 V') ∧ V'.cell? ⟨B, 0, none⟩ = some (.slice mo M mc) ∧ V'.cell? ⟨B, 1, none⟩ = some (.slice bo N bc))) := fun V V' h g => ⟨h.1.out.trans g (fun _ _ h => h), g.cell' h.2.1 id, g.cell' h.2.2 id⟩
  go_region_held3 (fun w' => Hid (Gr W0 w') ∧ w'.cell? ⟨B, 0, none⟩ = some (.slice mo M mc) ∧ w'.cell? ⟨B, 1, none⟩ = some (.slice bo N bc)) (first | with_reducible exact HIN.out | with_reducible assumption | with_reducible exact HKP.out _ _ (by assumption) gh.out) (first | (go_at_call 33; with_reducible refine (HS1.out _ (HGF.out _ (by assumption))).mono ?_; rintro e w' ⟨rfl, rfl⟩) | (go_at_call 33; with_reducible refine (HS2.out _ (HGF.out _ (by assumption))).mono ?_; rintro e w' ⟨rfl, rfl⟩) | (go_at_call 32; have gW := HGW.out _ (by assumption); with_reducible refine (HS3.out _).mono ?_; rintro e W1 ⟨vo, vc, rfl, hb⟩; have HB1 := hidM (hb.base gW); have gh := hidM hb.gr; clear hb))
  rename_i hS1
  obtain ⟨-, r0, r1⟩ := hS1
  clear HS1 HS2 HS3 HIN HGF HGW HKP gh gW p0 p1
  have hsrc := src_all (ca := mc) (HBm.out.gr (G0.out.trans HB1.out.gr (fun _ _ h => h)))
  rw [← HM.out] at hsrc
  have HSr := hidM hsrc
  clear hsrc
  go_wp2_with (at_builtin; refine Hid.out ?_)
  unfold Hid
  refine wpList_append_any _ rfl (.tmp 28) (.tmp 30) 22 22 rfl 5 (.int .u8 0) 1 Try.underlying22 info5 rfl _ 24 _ rfl HB1.out.own _ M (bv m) rfl HSr.out (by omega) (by omega) ?_
  intro v' W2 hown hgrow hblk
  obtain ⟨vo2, vc2, rfl⟩ := own_form1 hown
  have hA := HB1.out.app (us := m) rfl hown hgrow hblk
  have HB2 := hidM hA.b
  have t0 := hA.cells HB1.out r0 HBw.out
  have t1 := hA.cells HB1.out r1 HBw.out
  clear hown hgrow hblk hA r0 r1 HB1 HSr
  go_wp2_with fail
  have HIN : Hid (W2.drew.cell? ⟨B, 0, none⟩ = some (.slice mo M mc) ∧ W2.drew.cell? ⟨B, 1, none⟩ = some (.slice bo N bc)) := ⟨t0, t1⟩
  have HO := hidM (HB2.out.gr' ((Keeps.refl W2 _).drew))
  go_region_held3 (fun w' => w'.cell? ⟨B, 0, none⟩ = some (.slice mo M mc) ∧ w'.cell? ⟨B, 1, none⟩ = some (.slice bo N bc)) (first | with_reducible exact HIN.out | with_reducible assumption | with_reducible exact HK2.out) (first | (go_at_call 34; with_reducible refine (HU1.out _).mono ?_; rintro e w' ⟨rfl, rfl⟩) | (refine step_append_zeros rfl (.tmp 32) (.tmp 40) rfl _ (24 + M) _ rfl HO.out.own z1 (congrArg (Value.int .i64) w1.out) (by omega) ?_; intro v' W3 hown hgrow hblk; obtain ⟨vo3, vc3, rfl⟩ := own_form1 hown; have hA := HO.out.app (us := zs z1) rfl hown hgrow hblk; have HB3 := hidM hA.b; have HK2 : Hid (W3.cell? ⟨B, 0, none⟩ = some (.slice mo M mc) ∧ W3.cell? ⟨B, 1, none⟩ = some (.slice bo N bc)) := ⟨hA.cells HO.out t0 HBw.out, hA.cells HO.out t1 HBw.out⟩; clear hown hgrow hblk hA))
  rename_i hS3
  clear HIN HO HK2 t0 t1 HB2
  obtain ⟨t0, t1⟩ := hS3
  have hsrc := src_all (ca := bc) (HBb.out.gr (G0.out.trans HB3.out.gr (fun _ _ h => h)))
  rw [← HN.out] at hsrc
  have HSr := hidM hsrc
  clear hsrc
  go_wp2_with (at_builtin; refine Hid.out ?_)
  unfold Hid
  refine wpList_append_any _ rfl (.tmp 42) (.tmp 44) 22 22 rfl 5 (.int .u8 0) 1 Try.underlying22 info5 rfl _ (24 + M + z1) _ rfl HB3.out.own _ N (bv b) rfl HSr.out (by omega) (by omega) ?_
  intro v' W4 hown hgrow hblk
  obtain ⟨vo4, vc4, rfl⟩ := own_form1 hown
  have hA := HB3.out.app (us := b) rfl hown hgrow hblk
  have HB4 := hidM hA.b
  have r0 := hA.cells HB3.out t0 HBw.out
  have r1 := hA.cells HB3.out t1 HBw.out
  clear hown hgrow hblk hA t0 t1 HB3 HSr
  go_wp2_with fail
  have HIN : Hid (W4.drew.cell? ⟨B, 0, none⟩ = some (.slice mo M mc) ∧ W4.drew.cell? ⟨B, 1, none⟩ = some (.slice bo N bc)) := ⟨r0, r1⟩
  have HO := hidM (HB4.out.gr' ((Keeps.refl W4 _).drew))
  go_region_held3 (fun w' => w'.cell? ⟨B, 0, none⟩ = some (.slice mo M mc) ∧ w'.cell? ⟨B, 1, none⟩ = some (.slice bo N bc)) (first | with_reducible exact HIN.out | with_reducible assumption | with_reducible exact HK2.out) (first | (go_at_call 34; with_reducible refine (HU2.out _).mono ?_; rintro e w' ⟨rfl, rfl⟩) | (refine step_append_zeros rfl (.tmp 46) (.tmp 54) rfl _ (24 + M + z1 + N) _ rfl HO.out.own z2 (congrArg (Value.int .i64) w2.out) (by omega) ?_; intro v' W5 hown hgrow hblk; obtain ⟨vo5, vc5, rfl⟩ := own_form1 hown; have hA := HO.out.app (us := zs z2) rfl hown hgrow hblk; have HB5 := hidM hA.b; have HK2 : Hid (W5.cell? ⟨B, 0, none⟩ = some (.slice mo M mc) ∧ W5.cell? ⟨B, 1, none⟩ = some (.slice bo N bc)) := ⟨hA.cells HO.out r0 HBw.out, hA.cells HO.out r1 HBw.out⟩; clear hown hgrow hblk hA))
  have HE : Hid (putE m b = 0 ∧ putR m b = headB 49 M N (sumU (sumU sum0 m) b) ++ m ++ zs z1 ++ b ++ zs z2) := by
    have c : m.length ≤ 65536 ∧ b.length ≤ 4194304 := by rw [← HM.out, ← HN.out]; exact ⟨c1, c2⟩
    unfold putE putR putB
    rw [if_pos c, if_pos c, HZ1.out, HZ2.out, HM.out, HN.out]
    exact ⟨rfl, rfl⟩
  go_wp2_with fail
  refine bodyPost_ret (v := .tuple #[.slice vo5 (24 + M + z1 + N + z2) vc5, .int .i64 0]) ?_ rfl ⟨vo5, vc5, _, by rw [HE.out.1], by rw [HE.out.2]; exact HB5.out.base G0.out⟩
  simp [results, Try.f7, go_sem]
end Go.Proofs.Ytemleibpmaclmaa.Kit
