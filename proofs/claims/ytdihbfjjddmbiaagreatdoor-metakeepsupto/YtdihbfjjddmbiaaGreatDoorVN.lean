import Derived.Test.YtdihbfjjddmbiaaGreatDoorRX
import Derived.Test.YtdihbfjjddmbiaaGreatDoorVL
import Derived.Laws.CopyOwn
set_option maxRecDepth 100000
set_option maxHeartbeats 4000000
namespace Go.Proofs.YtdihbfjjddmbiaaGreatDoor.Kit
open Go.RowKit Go.Shelf Go.Deep
set_option linter.unusedVariables false
attribute [local go_sem] run_store_func
theorem inkNumber_any {w W : World} {K : Nat} {bs : List UInt8} (h : InkAt w W K bs) (x wd : Nat) (hx : x ≤ 1000000000000) (hw : wd = 1 ∨ wd = 2 ∨ wd = 4) (hm : bs.length + wd ≤ 65536) : Calls Tryz.prog 56 #[.pointer (some ⟨K, 0, none⟩), .int .u64 (x : Int), .int .i64 (wd : Int)] W fun e w' => e = .returned (.int .i64 0) ∧ InkAt w w' K (bs ++ numB x wd) ∧ KU K W w' := by
  have H40 := hidM (isWidth_any wd hw)
  have H41 := hidM (takes_any h wd hm)
  have HI := hidM h
  have hwd : wd ≤ 4 := by omega
  have HM := hidM hm
  clear h hw hm
  go_enter Tryz.func56, Tryz.ntmps56
  go_wp2_with (go_at_call 71; refine Hid.out ?_)
  unfold Hid
  refine Calls.mono (H40.out _) ?_
  rintro e W0 ⟨rfl, rfl⟩
  go_wp2_with (go_at_call 72; refine Hid.out ?_)
  unfold Hid
  refine Calls.mono H41.out ?_
  rintro e W1 ⟨rfl, hg1⟩
  have HI1 := hidM (HI.out.kept hg1)
  have HU1 := hidM (KU.gr (K := K) hg1)
  clear hg1 H41 H40
  go_wp2_with fail
  go_loopw [16] (fun p wr => ∃ k : Nat, k ≤ wd ∧ p = .int .i64 (k : Int) ∧ Hid (InkAt w wr K (bs ++ numB x k) ∧ KU K W wr)) (fun p _ => wd - (intOf p).toNat)
  case atStart => exact ⟨0, by omega, rfl, by simpa [numB] using HI1.out, HU1.out⟩
  case round =>
    obtain ⟨k, hk, rfl, HR⟩ := hrel
    by_cases hlt : k < wd
    · have hltI : (k : Int) < (wd : Int) := by omega
      obtain ⟨vo, n, vc, h1, h2, h3⟩ := HR.out.1.ex
      have hl : (bs ++ numB x k).length = n := by have := h2.1; simpa [bv] using this
      have hnb : n ≤ 65536 := by rw [← hl, List.length_append, numB_len]; have := HM.out; omega
      have HB : Hid (Byts w wr vo vc n (bs ++ numB x k)) := ⟨h2, HR.out.1.gr, h3⟩
      have HK := hidM h1
      obtain ⟨r, hr⟩ : ∃ r, r = x / 256 ^ k % 256 := ⟨_, rfl⟩
      have HRb : Hid ([Value.int .u8 (r : Int)] = bv [UInt8.ofNat (x / 256 ^ k % 256)]) := by
        show _ = _
        rw [← hr]
        have : (UInt8.ofNat r).toNat = r := by simp; omega
        simp [bv]
        omega
      have HNum : Hid (bs ++ numB x (k + 1) = bs ++ numB x k ++ [UInt8.ofNat (x / 256 ^ k % 256)]) := by show _ = _; rw [numB, List.append_assoc]
      have HIN : Hid (Hid (Gr w wr.drew ∧ KU K W wr.drew)) := ⟨HR.out.1.gr.tr gr_drew, HR.out.2.trans (KU.gr gr_drew)⟩
      have HSk : Hid (∀ A C : World, Hid (Gr w A ∧ KU K W A) → Gr A C → Hid (Gr w C ∧ KU K W C)) := fun A C h k => ⟨h.out.1.tr k, h.out.2.trans (KU.gr k)⟩
      have HRel : Hid (∀ Wf, InkAt w Wf K (bs ++ numB x (k + 1)) → KU K W Wf → Hid (InkAt w Wf K (bs ++ numB x (k + 1)) ∧ KU K W Wf)) := fun Wf a b => ⟨a, b⟩
      have u0 := (ce2 h1).1
      clear h1 h2 h3 hl
      have hk4 : k = 0 ∨ k = 1 ∨ k = 2 ∨ k = 3 := by omega
      rcases hk4 with rfl | rfl | rfl | rfl
      · have hc : IntKind.u8.wrap (x : Int) = (r : Int) := by rw [IntKind.wrap_u8]; rw [hr]; simp; try omega
        have hwv : IntKind.i64.wrap 0 = 0 := by rw [IntKind.wrap_i64]; omega
        clear hr
        go_wp2_with fail
        refine wp_region_held_drew (S := fun w' => Hid (Gr w w' ∧ KU K W w')) (by kernel_rfl) (HIN.out) (fun hHeld => ?_)
        refine tk 0 ?_
        refine tk 1 ?_
        refine tk 2 ?_
        refine tk 3 ?_
        refine tk 5 ?_
        refine tk 6 ?_
        refine tk 7 ?_
        refine tk 8 ?_
        refine tk 9 ?_
        refine wpAnyH_ready (rs := [4, 10]) (by kernel_rfl) (by simp) ?_
        refine AllReadyH.cons (o := { dst := some 23, op := Op.load 30 (Operand.tmp 22), type := 30, pos := "ink.go:23", after := #[{ on := 3, ground := Ground.data }], guard := none }) rfl (fun Kc hK => ?_) (AllReadyH.cons (o := { dst := some 29, op := Op.buildSlice 30 1 #[(0, Operand.tmp 28)], type := 30, pos := "ink.go:23", after := #[{ on := 9, ground := Ground.data }], guard := none }) rfl (fun Kc hK => ?_) AllReadyH.nil)
        · go_simp
          refine hK.out _ _ hHeld (fun hHeld => ?_)
          clear hK
          (try simp only [Act.put]); (try simp only [List.setIfInBounds_toArray]); (try simp only [List.set_cons_succ]); (try simp only [List.set_cons_zero])
          refine rd1 10 fun Kc hK => ?_
          go_simp
          refine hK.out _ _ (HSk.out _ _ hHeld (gr_alloc wr.drew _)) (fun hHeld => ?_)
          clear hK
          (try simp only [Act.put]); (try simp only [List.setIfInBounds_toArray]); (try simp only [List.set_cons_succ]); (try simp only [List.set_cons_zero])
          refine rd1 11 fun Kc hK => ?_
          have hB1 := HB.out.gr' (gr_drew.tr (gr_alloc wr.drew (.cells #[.int .u8 (r : Int)] 5)))
          refine step_append_any _ rfl (.tmp 23) (.tmp 29) 30 30 rfl 5 (.int .u8 0) 1 Tryz.underlying30 info5 rfl (.slice vo n vc) n (bv (bs ++ numB x 0)) rfl hB1.own _ 1 [.int .u8 (r : Int)] rfl (src_u8 wr.drew [.int .u8 (r : Int)] 1 rfl (by simp)) (by omega) (by omega) ?_
          intro v' w1 hown hgrow hblk
          obtain ⟨vo2, vc2, rfl⟩ := own_form1 hown
          have hp0 := (hB1.app HRb.out hown hgrow hblk).pre (gr_drew.tr (gr_alloc wr.drew (.cells #[.int .u8 (r : Int)] 5)))
          rw [← HNum.out] at hp0
          obtain ⟨k1, k2, k3⟩ := HR.out.1.next (us := [UInt8.ofNat (x / 256 ^ 0 % 256)]) HK.out (by have h := hp0; rw [HNum.out] at h; exact h)
          rw [← HNum.out] at k2
          have HF := hidM (And.intro k1 (And.intro k2 (HR.out.2.trans k3)))
          have HS1 : Hid (Gr w w1 ∧ KU K W w1) := ⟨hp0.b.gr, HR.out.2.trans (KU.row (HB.out.own) hp0.kp)⟩
          refine hK.out _ _ HS1 (fun hHeld => ?_)
          clear hK hown hgrow hblk hp0 k1 k2 k3 HS1 hB1
          (try simp only [Act.put]); (try simp only [List.setIfInBounds_toArray]); (try simp only [List.set_cons_succ]); (try simp only [List.set_cons_zero])
          refine tk 12 ?_
          refine tk 13 ?_
          refine rd1 14 fun Kc hK => ?_
          have z0 := (ce2 HF.out.1).1
          have z1 := frz HF.out.1 0
          go_simp
          refine hK.out _ _ ⟨HF.out.2.1.gr, HF.out.2.2⟩ (fun hHeld => ?_)
          clear hK
          (try simp only [Act.put]); (try simp only [List.setIfInBounds_toArray]); (try simp only [List.set_cons_succ]); (try simp only [List.set_cons_zero])
          refine wpAnyH_done (by kernel_rfl) ?_ _
          clear hHeld z0 z1
          go_wp2_with fail
          go_roundw
          case rel => exact ⟨0 + 1, by omega, by simp, HF.out.2.1, HF.out.2.2⟩
          case measure => simp [intOf]; omega
        go_simp
        refine hK.out _ _ (HSk.out _ _ hHeld (gr_alloc wr.drew _)) (fun hHeld => ?_)
        clear hK
        (try simp only [Act.put]); (try simp only [List.setIfInBounds_toArray]); (try simp only [List.set_cons_succ]); (try simp only [List.set_cons_zero])
        have u2 : (wr.alloc (.cells #[.int .u8 (r : Int)] 5)).cell? ⟨K, 0, none⟩ = some (.slice vo n vc) := (gr_alloc wr _).cell' u0 id
        refine rd1 4 fun Kc hK => ?_
        go_simp
        refine hK.out _ _ hHeld (fun hHeld => ?_)
        clear hK
        (try simp only [Act.put]); (try simp only [List.setIfInBounds_toArray]); (try simp only [List.set_cons_succ]); (try simp only [List.set_cons_zero])
        refine rd1 11 fun Kc hK => ?_
        have hB1 := HB.out.gr' (gr_drew.tr (gr_alloc wr.drew (.cells #[.int .u8 (r : Int)] 5)))
        refine step_append_any _ rfl (.tmp 23) (.tmp 29) 30 30 rfl 5 (.int .u8 0) 1 Tryz.underlying30 info5 rfl (.slice vo n vc) n (bv (bs ++ numB x 0)) rfl hB1.own _ 1 [.int .u8 (r : Int)] rfl (src_u8 wr.drew [.int .u8 (r : Int)] 1 rfl (by simp)) (by omega) (by omega) ?_
        intro v' w1 hown hgrow hblk
        obtain ⟨vo2, vc2, rfl⟩ := own_form1 hown
        have hp0 := (hB1.app HRb.out hown hgrow hblk).pre (gr_drew.tr (gr_alloc wr.drew (.cells #[.int .u8 (r : Int)] 5)))
        rw [← HNum.out] at hp0
        obtain ⟨k1, k2, k3⟩ := HR.out.1.next (us := [UInt8.ofNat (x / 256 ^ 0 % 256)]) HK.out (by have h := hp0; rw [HNum.out] at h; exact h)
        rw [← HNum.out] at k2
        have HF := hidM (And.intro k1 (And.intro k2 (HR.out.2.trans k3)))
        have HS1 : Hid (Gr w w1 ∧ KU K W w1) := ⟨hp0.b.gr, HR.out.2.trans (KU.row (HB.out.own) hp0.kp)⟩
        refine hK.out _ _ HS1 (fun hHeld => ?_)
        clear hK hown hgrow hblk hp0 k1 k2 k3 HS1 hB1
        (try simp only [Act.put]); (try simp only [List.setIfInBounds_toArray]); (try simp only [List.set_cons_succ]); (try simp only [List.set_cons_zero])
        refine tk 12 ?_
        refine tk 13 ?_
        refine rd1 14 fun Kc hK => ?_
        have z0 := (ce2 HF.out.1).1
        have z1 := frz HF.out.1 0
        go_simp
        refine hK.out _ _ ⟨HF.out.2.1.gr, HF.out.2.2⟩ (fun hHeld => ?_)
        clear hK
        (try simp only [Act.put]); (try simp only [List.setIfInBounds_toArray]); (try simp only [List.set_cons_succ]); (try simp only [List.set_cons_zero])
        refine wpAnyH_done (by kernel_rfl) ?_ _
        clear hHeld z0 z1
        go_wp2_with fail
        go_roundw
        case rel => exact ⟨0 + 1, by omega, by simp, HF.out.2.1, HF.out.2.2⟩
        case measure => simp [intOf]; omega
      · have hc : IntKind.u8.wrap ((x : Int) / 256) = (r : Int) := by rw [IntKind.wrap_u8]; rw [hr]; simp; try omega
        have hwv : IntKind.i64.wrap 8 = 8 := by rw [IntKind.wrap_i64]; omega
        clear hr
        go_wp2_with fail
        refine wp_region_held_drew (S := fun w' => Hid (Gr w w' ∧ KU K W w')) (by kernel_rfl) (HIN.out) (fun hHeld => ?_)
        refine tk 0 ?_
        refine tk 1 ?_
        refine tk 2 ?_
        refine tk 3 ?_
        refine tk 5 ?_
        refine tk 6 ?_
        refine tk 7 ?_
        refine tk 8 ?_
        refine tk 9 ?_
        refine wpAnyH_ready (rs := [4, 10]) (by kernel_rfl) (by simp) ?_
        refine AllReadyH.cons (o := { dst := some 23, op := Op.load 30 (Operand.tmp 22), type := 30, pos := "ink.go:23", after := #[{ on := 3, ground := Ground.data }], guard := none }) rfl (fun Kc hK => ?_) (AllReadyH.cons (o := { dst := some 29, op := Op.buildSlice 30 1 #[(0, Operand.tmp 28)], type := 30, pos := "ink.go:23", after := #[{ on := 9, ground := Ground.data }], guard := none }) rfl (fun Kc hK => ?_) AllReadyH.nil)
        · go_simp
          refine hK.out _ _ hHeld (fun hHeld => ?_)
          clear hK
          (try simp only [Act.put]); (try simp only [List.setIfInBounds_toArray]); (try simp only [List.set_cons_succ]); (try simp only [List.set_cons_zero])
          refine rd1 10 fun Kc hK => ?_
          go_simp
          refine hK.out _ _ (HSk.out _ _ hHeld (gr_alloc wr.drew _)) (fun hHeld => ?_)
          clear hK
          (try simp only [Act.put]); (try simp only [List.setIfInBounds_toArray]); (try simp only [List.set_cons_succ]); (try simp only [List.set_cons_zero])
          refine rd1 11 fun Kc hK => ?_
          have hB1 := HB.out.gr' (gr_drew.tr (gr_alloc wr.drew (.cells #[.int .u8 (r : Int)] 5)))
          refine step_append_any _ rfl (.tmp 23) (.tmp 29) 30 30 rfl 5 (.int .u8 0) 1 Tryz.underlying30 info5 rfl (.slice vo n vc) n (bv (bs ++ numB x 1)) rfl hB1.own _ 1 [.int .u8 (r : Int)] rfl (src_u8 wr.drew [.int .u8 (r : Int)] 1 rfl (by simp)) (by omega) (by omega) ?_
          intro v' w1 hown hgrow hblk
          obtain ⟨vo2, vc2, rfl⟩ := own_form1 hown
          have hp0 := (hB1.app HRb.out hown hgrow hblk).pre (gr_drew.tr (gr_alloc wr.drew (.cells #[.int .u8 (r : Int)] 5)))
          rw [← HNum.out] at hp0
          obtain ⟨k1, k2, k3⟩ := HR.out.1.next (us := [UInt8.ofNat (x / 256 ^ 1 % 256)]) HK.out (by have h := hp0; rw [HNum.out] at h; exact h)
          rw [← HNum.out] at k2
          have HF := hidM (And.intro k1 (And.intro k2 (HR.out.2.trans k3)))
          have HS1 : Hid (Gr w w1 ∧ KU K W w1) := ⟨hp0.b.gr, HR.out.2.trans (KU.row (HB.out.own) hp0.kp)⟩
          refine hK.out _ _ HS1 (fun hHeld => ?_)
          clear hK hown hgrow hblk hp0 k1 k2 k3 HS1 hB1
          (try simp only [Act.put]); (try simp only [List.setIfInBounds_toArray]); (try simp only [List.set_cons_succ]); (try simp only [List.set_cons_zero])
          refine tk 12 ?_
          refine tk 13 ?_
          refine rd1 14 fun Kc hK => ?_
          have z0 := (ce2 HF.out.1).1
          have z1 := frz HF.out.1 0
          go_simp
          refine hK.out _ _ ⟨HF.out.2.1.gr, HF.out.2.2⟩ (fun hHeld => ?_)
          clear hK
          (try simp only [Act.put]); (try simp only [List.setIfInBounds_toArray]); (try simp only [List.set_cons_succ]); (try simp only [List.set_cons_zero])
          refine wpAnyH_done (by kernel_rfl) ?_ _
          clear hHeld z0 z1
          go_wp2_with fail
          go_roundw
          case rel => exact ⟨1 + 1, by omega, by simp, HF.out.2.1, HF.out.2.2⟩
          case measure => simp [intOf]; omega
        go_simp
        refine hK.out _ _ (HSk.out _ _ hHeld (gr_alloc wr.drew _)) (fun hHeld => ?_)
        clear hK
        (try simp only [Act.put]); (try simp only [List.setIfInBounds_toArray]); (try simp only [List.set_cons_succ]); (try simp only [List.set_cons_zero])
        have u2 : (wr.alloc (.cells #[.int .u8 (r : Int)] 5)).cell? ⟨K, 0, none⟩ = some (.slice vo n vc) := (gr_alloc wr _).cell' u0 id
        refine rd1 4 fun Kc hK => ?_
        go_simp
        refine hK.out _ _ hHeld (fun hHeld => ?_)
        clear hK
        (try simp only [Act.put]); (try simp only [List.setIfInBounds_toArray]); (try simp only [List.set_cons_succ]); (try simp only [List.set_cons_zero])
        refine rd1 11 fun Kc hK => ?_
        have hB1 := HB.out.gr' (gr_drew.tr (gr_alloc wr.drew (.cells #[.int .u8 (r : Int)] 5)))
        refine step_append_any _ rfl (.tmp 23) (.tmp 29) 30 30 rfl 5 (.int .u8 0) 1 Tryz.underlying30 info5 rfl (.slice vo n vc) n (bv (bs ++ numB x 1)) rfl hB1.own _ 1 [.int .u8 (r : Int)] rfl (src_u8 wr.drew [.int .u8 (r : Int)] 1 rfl (by simp)) (by omega) (by omega) ?_
        intro v' w1 hown hgrow hblk
        obtain ⟨vo2, vc2, rfl⟩ := own_form1 hown
        have hp0 := (hB1.app HRb.out hown hgrow hblk).pre (gr_drew.tr (gr_alloc wr.drew (.cells #[.int .u8 (r : Int)] 5)))
        rw [← HNum.out] at hp0
        obtain ⟨k1, k2, k3⟩ := HR.out.1.next (us := [UInt8.ofNat (x / 256 ^ 1 % 256)]) HK.out (by have h := hp0; rw [HNum.out] at h; exact h)
        rw [← HNum.out] at k2
        have HF := hidM (And.intro k1 (And.intro k2 (HR.out.2.trans k3)))
        have HS1 : Hid (Gr w w1 ∧ KU K W w1) := ⟨hp0.b.gr, HR.out.2.trans (KU.row (HB.out.own) hp0.kp)⟩
        refine hK.out _ _ HS1 (fun hHeld => ?_)
        clear hK hown hgrow hblk hp0 k1 k2 k3 HS1 hB1
        (try simp only [Act.put]); (try simp only [List.setIfInBounds_toArray]); (try simp only [List.set_cons_succ]); (try simp only [List.set_cons_zero])
        refine tk 12 ?_
        refine tk 13 ?_
        refine rd1 14 fun Kc hK => ?_
        have z0 := (ce2 HF.out.1).1
        have z1 := frz HF.out.1 0
        go_simp
        refine hK.out _ _ ⟨HF.out.2.1.gr, HF.out.2.2⟩ (fun hHeld => ?_)
        clear hK
        (try simp only [Act.put]); (try simp only [List.setIfInBounds_toArray]); (try simp only [List.set_cons_succ]); (try simp only [List.set_cons_zero])
        refine wpAnyH_done (by kernel_rfl) ?_ _
        clear hHeld z0 z1
        go_wp2_with fail
        go_roundw
        case rel => exact ⟨1 + 1, by omega, by simp, HF.out.2.1, HF.out.2.2⟩
        case measure => simp [intOf]; omega
      · have hc : IntKind.u8.wrap ((x : Int) / 65536) = (r : Int) := by rw [IntKind.wrap_u8]; rw [hr]; simp; try omega
        have hwv : IntKind.i64.wrap 16 = 16 := by rw [IntKind.wrap_i64]; omega
        clear hr
        go_wp2_with fail
        refine wp_region_held_drew (S := fun w' => Hid (Gr w w' ∧ KU K W w')) (by kernel_rfl) (HIN.out) (fun hHeld => ?_)
        refine tk 0 ?_
        refine tk 1 ?_
        refine tk 2 ?_
        refine tk 3 ?_
        refine tk 5 ?_
        refine tk 6 ?_
        refine tk 7 ?_
        refine tk 8 ?_
        refine tk 9 ?_
        refine wpAnyH_ready (rs := [4, 10]) (by kernel_rfl) (by simp) ?_
        refine AllReadyH.cons (o := { dst := some 23, op := Op.load 30 (Operand.tmp 22), type := 30, pos := "ink.go:23", after := #[{ on := 3, ground := Ground.data }], guard := none }) rfl (fun Kc hK => ?_) (AllReadyH.cons (o := { dst := some 29, op := Op.buildSlice 30 1 #[(0, Operand.tmp 28)], type := 30, pos := "ink.go:23", after := #[{ on := 9, ground := Ground.data }], guard := none }) rfl (fun Kc hK => ?_) AllReadyH.nil)
        · go_simp
          refine hK.out _ _ hHeld (fun hHeld => ?_)
          clear hK
          (try simp only [Act.put]); (try simp only [List.setIfInBounds_toArray]); (try simp only [List.set_cons_succ]); (try simp only [List.set_cons_zero])
          refine rd1 10 fun Kc hK => ?_
          go_simp
          refine hK.out _ _ (HSk.out _ _ hHeld (gr_alloc wr.drew _)) (fun hHeld => ?_)
          clear hK
          (try simp only [Act.put]); (try simp only [List.setIfInBounds_toArray]); (try simp only [List.set_cons_succ]); (try simp only [List.set_cons_zero])
          refine rd1 11 fun Kc hK => ?_
          have hB1 := HB.out.gr' (gr_drew.tr (gr_alloc wr.drew (.cells #[.int .u8 (r : Int)] 5)))
          refine step_append_any _ rfl (.tmp 23) (.tmp 29) 30 30 rfl 5 (.int .u8 0) 1 Tryz.underlying30 info5 rfl (.slice vo n vc) n (bv (bs ++ numB x 2)) rfl hB1.own _ 1 [.int .u8 (r : Int)] rfl (src_u8 wr.drew [.int .u8 (r : Int)] 1 rfl (by simp)) (by omega) (by omega) ?_
          intro v' w1 hown hgrow hblk
          obtain ⟨vo2, vc2, rfl⟩ := own_form1 hown
          have hp0 := (hB1.app HRb.out hown hgrow hblk).pre (gr_drew.tr (gr_alloc wr.drew (.cells #[.int .u8 (r : Int)] 5)))
          rw [← HNum.out] at hp0
          obtain ⟨k1, k2, k3⟩ := HR.out.1.next (us := [UInt8.ofNat (x / 256 ^ 2 % 256)]) HK.out (by have h := hp0; rw [HNum.out] at h; exact h)
          rw [← HNum.out] at k2
          have HF := hidM (And.intro k1 (And.intro k2 (HR.out.2.trans k3)))
          have HS1 : Hid (Gr w w1 ∧ KU K W w1) := ⟨hp0.b.gr, HR.out.2.trans (KU.row (HB.out.own) hp0.kp)⟩
          refine hK.out _ _ HS1 (fun hHeld => ?_)
          clear hK hown hgrow hblk hp0 k1 k2 k3 HS1 hB1
          (try simp only [Act.put]); (try simp only [List.setIfInBounds_toArray]); (try simp only [List.set_cons_succ]); (try simp only [List.set_cons_zero])
          refine tk 12 ?_
          refine tk 13 ?_
          refine rd1 14 fun Kc hK => ?_
          have z0 := (ce2 HF.out.1).1
          have z1 := frz HF.out.1 0
          go_simp
          refine hK.out _ _ ⟨HF.out.2.1.gr, HF.out.2.2⟩ (fun hHeld => ?_)
          clear hK
          (try simp only [Act.put]); (try simp only [List.setIfInBounds_toArray]); (try simp only [List.set_cons_succ]); (try simp only [List.set_cons_zero])
          refine wpAnyH_done (by kernel_rfl) ?_ _
          clear hHeld z0 z1
          go_wp2_with fail
          go_roundw
          case rel => exact ⟨2 + 1, by omega, by simp, HF.out.2.1, HF.out.2.2⟩
          case measure => simp [intOf]; omega
        go_simp
        refine hK.out _ _ (HSk.out _ _ hHeld (gr_alloc wr.drew _)) (fun hHeld => ?_)
        clear hK
        (try simp only [Act.put]); (try simp only [List.setIfInBounds_toArray]); (try simp only [List.set_cons_succ]); (try simp only [List.set_cons_zero])
        have u2 : (wr.alloc (.cells #[.int .u8 (r : Int)] 5)).cell? ⟨K, 0, none⟩ = some (.slice vo n vc) := (gr_alloc wr _).cell' u0 id
        refine rd1 4 fun Kc hK => ?_
        go_simp
        refine hK.out _ _ hHeld (fun hHeld => ?_)
        clear hK
        (try simp only [Act.put]); (try simp only [List.setIfInBounds_toArray]); (try simp only [List.set_cons_succ]); (try simp only [List.set_cons_zero])
        refine rd1 11 fun Kc hK => ?_
        have hB1 := HB.out.gr' (gr_drew.tr (gr_alloc wr.drew (.cells #[.int .u8 (r : Int)] 5)))
        refine step_append_any _ rfl (.tmp 23) (.tmp 29) 30 30 rfl 5 (.int .u8 0) 1 Tryz.underlying30 info5 rfl (.slice vo n vc) n (bv (bs ++ numB x 2)) rfl hB1.own _ 1 [.int .u8 (r : Int)] rfl (src_u8 wr.drew [.int .u8 (r : Int)] 1 rfl (by simp)) (by omega) (by omega) ?_
        intro v' w1 hown hgrow hblk
        obtain ⟨vo2, vc2, rfl⟩ := own_form1 hown
        have hp0 := (hB1.app HRb.out hown hgrow hblk).pre (gr_drew.tr (gr_alloc wr.drew (.cells #[.int .u8 (r : Int)] 5)))
        rw [← HNum.out] at hp0
        obtain ⟨k1, k2, k3⟩ := HR.out.1.next (us := [UInt8.ofNat (x / 256 ^ 2 % 256)]) HK.out (by have h := hp0; rw [HNum.out] at h; exact h)
        rw [← HNum.out] at k2
        have HF := hidM (And.intro k1 (And.intro k2 (HR.out.2.trans k3)))
        have HS1 : Hid (Gr w w1 ∧ KU K W w1) := ⟨hp0.b.gr, HR.out.2.trans (KU.row (HB.out.own) hp0.kp)⟩
        refine hK.out _ _ HS1 (fun hHeld => ?_)
        clear hK hown hgrow hblk hp0 k1 k2 k3 HS1 hB1
        (try simp only [Act.put]); (try simp only [List.setIfInBounds_toArray]); (try simp only [List.set_cons_succ]); (try simp only [List.set_cons_zero])
        refine tk 12 ?_
        refine tk 13 ?_
        refine rd1 14 fun Kc hK => ?_
        have z0 := (ce2 HF.out.1).1
        have z1 := frz HF.out.1 0
        go_simp
        refine hK.out _ _ ⟨HF.out.2.1.gr, HF.out.2.2⟩ (fun hHeld => ?_)
        clear hK
        (try simp only [Act.put]); (try simp only [List.setIfInBounds_toArray]); (try simp only [List.set_cons_succ]); (try simp only [List.set_cons_zero])
        refine wpAnyH_done (by kernel_rfl) ?_ _
        clear hHeld z0 z1
        go_wp2_with fail
        go_roundw
        case rel => exact ⟨2 + 1, by omega, by simp, HF.out.2.1, HF.out.2.2⟩
        case measure => simp [intOf]; omega
      have hc : IntKind.u8.wrap ((x : Int) / 16777216) = (r : Int) := by rw [IntKind.wrap_u8]; rw [hr]; simp; try omega
      have hwv : IntKind.i64.wrap 24 = 24 := by rw [IntKind.wrap_i64]; omega
      clear hr
      go_wp2_with fail
      refine wp_region_held_drew (S := fun w' => Hid (Gr w w' ∧ KU K W w')) (by kernel_rfl) (HIN.out) (fun hHeld => ?_)
      refine tk 0 ?_
      refine tk 1 ?_
      refine tk 2 ?_
      refine tk 3 ?_
      refine tk 5 ?_
      refine tk 6 ?_
      refine tk 7 ?_
      refine tk 8 ?_
      refine tk 9 ?_
      refine wpAnyH_ready (rs := [4, 10]) (by kernel_rfl) (by simp) ?_
      refine AllReadyH.cons (o := { dst := some 23, op := Op.load 30 (Operand.tmp 22), type := 30, pos := "ink.go:23", after := #[{ on := 3, ground := Ground.data }], guard := none }) rfl (fun Kc hK => ?_) (AllReadyH.cons (o := { dst := some 29, op := Op.buildSlice 30 1 #[(0, Operand.tmp 28)], type := 30, pos := "ink.go:23", after := #[{ on := 9, ground := Ground.data }], guard := none }) rfl (fun Kc hK => ?_) AllReadyH.nil)
      · go_simp
        refine hK.out _ _ hHeld (fun hHeld => ?_)
        clear hK
        (try simp only [Act.put]); (try simp only [List.setIfInBounds_toArray]); (try simp only [List.set_cons_succ]); (try simp only [List.set_cons_zero])
        refine rd1 10 fun Kc hK => ?_
        go_simp
        refine hK.out _ _ (HSk.out _ _ hHeld (gr_alloc wr.drew _)) (fun hHeld => ?_)
        clear hK
        (try simp only [Act.put]); (try simp only [List.setIfInBounds_toArray]); (try simp only [List.set_cons_succ]); (try simp only [List.set_cons_zero])
        refine rd1 11 fun Kc hK => ?_
        have hB1 := HB.out.gr' (gr_drew.tr (gr_alloc wr.drew (.cells #[.int .u8 (r : Int)] 5)))
        refine step_append_any _ rfl (.tmp 23) (.tmp 29) 30 30 rfl 5 (.int .u8 0) 1 Tryz.underlying30 info5 rfl (.slice vo n vc) n (bv (bs ++ numB x 3)) rfl hB1.own _ 1 [.int .u8 (r : Int)] rfl (src_u8 wr.drew [.int .u8 (r : Int)] 1 rfl (by simp)) (by omega) (by omega) ?_
        intro v' w1 hown hgrow hblk
        obtain ⟨vo2, vc2, rfl⟩ := own_form1 hown
        have hp0 := (hB1.app HRb.out hown hgrow hblk).pre (gr_drew.tr (gr_alloc wr.drew (.cells #[.int .u8 (r : Int)] 5)))
        rw [← HNum.out] at hp0
        obtain ⟨k1, k2, k3⟩ := HR.out.1.next (us := [UInt8.ofNat (x / 256 ^ 3 % 256)]) HK.out (by have h := hp0; rw [HNum.out] at h; exact h)
        rw [← HNum.out] at k2
        have HF := hidM (And.intro k1 (And.intro k2 (HR.out.2.trans k3)))
        have HS1 : Hid (Gr w w1 ∧ KU K W w1) := ⟨hp0.b.gr, HR.out.2.trans (KU.row (HB.out.own) hp0.kp)⟩
        refine hK.out _ _ HS1 (fun hHeld => ?_)
        clear hK hown hgrow hblk hp0 k1 k2 k3 HS1 hB1
        (try simp only [Act.put]); (try simp only [List.setIfInBounds_toArray]); (try simp only [List.set_cons_succ]); (try simp only [List.set_cons_zero])
        refine tk 12 ?_
        refine tk 13 ?_
        refine rd1 14 fun Kc hK => ?_
        have z0 := (ce2 HF.out.1).1
        have z1 := frz HF.out.1 0
        go_simp
        refine hK.out _ _ ⟨HF.out.2.1.gr, HF.out.2.2⟩ (fun hHeld => ?_)
        clear hK
        (try simp only [Act.put]); (try simp only [List.setIfInBounds_toArray]); (try simp only [List.set_cons_succ]); (try simp only [List.set_cons_zero])
        refine wpAnyH_done (by kernel_rfl) ?_ _
        clear hHeld z0 z1
        go_wp2_with fail
        go_roundw
        case rel => exact ⟨3 + 1, by omega, by simp, HF.out.2.1, HF.out.2.2⟩
        case measure => simp [intOf]; omega
      go_simp
      refine hK.out _ _ (HSk.out _ _ hHeld (gr_alloc wr.drew _)) (fun hHeld => ?_)
      clear hK
      (try simp only [Act.put]); (try simp only [List.setIfInBounds_toArray]); (try simp only [List.set_cons_succ]); (try simp only [List.set_cons_zero])
      have u2 : (wr.alloc (.cells #[.int .u8 (r : Int)] 5)).cell? ⟨K, 0, none⟩ = some (.slice vo n vc) := (gr_alloc wr _).cell' u0 id
      refine rd1 4 fun Kc hK => ?_
      go_simp
      refine hK.out _ _ hHeld (fun hHeld => ?_)
      clear hK
      (try simp only [Act.put]); (try simp only [List.setIfInBounds_toArray]); (try simp only [List.set_cons_succ]); (try simp only [List.set_cons_zero])
      refine rd1 11 fun Kc hK => ?_
      have hB1 := HB.out.gr' (gr_drew.tr (gr_alloc wr.drew (.cells #[.int .u8 (r : Int)] 5)))
      refine step_append_any _ rfl (.tmp 23) (.tmp 29) 30 30 rfl 5 (.int .u8 0) 1 Tryz.underlying30 info5 rfl (.slice vo n vc) n (bv (bs ++ numB x 3)) rfl hB1.own _ 1 [.int .u8 (r : Int)] rfl (src_u8 wr.drew [.int .u8 (r : Int)] 1 rfl (by simp)) (by omega) (by omega) ?_
      intro v' w1 hown hgrow hblk
      obtain ⟨vo2, vc2, rfl⟩ := own_form1 hown
      have hp0 := (hB1.app HRb.out hown hgrow hblk).pre (gr_drew.tr (gr_alloc wr.drew (.cells #[.int .u8 (r : Int)] 5)))
      rw [← HNum.out] at hp0
      obtain ⟨k1, k2, k3⟩ := HR.out.1.next (us := [UInt8.ofNat (x / 256 ^ 3 % 256)]) HK.out (by have h := hp0; rw [HNum.out] at h; exact h)
      rw [← HNum.out] at k2
      have HF := hidM (And.intro k1 (And.intro k2 (HR.out.2.trans k3)))
      have HS1 : Hid (Gr w w1 ∧ KU K W w1) := ⟨hp0.b.gr, HR.out.2.trans (KU.row (HB.out.own) hp0.kp)⟩
      refine hK.out _ _ HS1 (fun hHeld => ?_)
      clear hK hown hgrow hblk hp0 k1 k2 k3 HS1 hB1
      (try simp only [Act.put]); (try simp only [List.setIfInBounds_toArray]); (try simp only [List.set_cons_succ]); (try simp only [List.set_cons_zero])
      refine tk 12 ?_
      refine tk 13 ?_
      refine rd1 14 fun Kc hK => ?_
      have z0 := (ce2 HF.out.1).1
      have z1 := frz HF.out.1 0
      go_simp
      refine hK.out _ _ ⟨HF.out.2.1.gr, HF.out.2.2⟩ (fun hHeld => ?_)
      clear hK
      (try simp only [Act.put]); (try simp only [List.setIfInBounds_toArray]); (try simp only [List.set_cons_succ]); (try simp only [List.set_cons_zero])
      refine wpAnyH_done (by kernel_rfl) ?_ _
      clear hHeld z0 z1
      go_wp2_with fail
      go_roundw
      case rel => exact ⟨3 + 1, by omega, by simp, HF.out.2.1, HF.out.2.2⟩
      case measure => simp [intOf]; omega
    have hltI : ¬ (k : Int) < (wd : Int) := by omega
    obtain rfl : k = wd := by omega
    go_wp2_with fail
    go_ret
    exact ⟨rfl, HR.out⟩
end Go.Proofs.YtdihbfjjddmbiaaGreatDoor.Kit
namespace Go.Proofs.YtdihbfjjddmbiaaGreatDoor.Kit
open Go.RowKit Go.Shelf Go.Deep
set_option linter.unusedVariables false
theorem penNumber_any {w W : World} {K : Nat} {bs : List UInt8} (h : InkAt w W K bs) (x wd : Nat) (hx : x ≤ 1000000000000) (hw : wd = 1 ∨ wd = 2 ∨ wd = 4) (hm : bs.length + wd ≤ 65536) : Calls Tryz.prog 36 #[.agg #[.pointer (some ⟨K, 0, none⟩)], .int .i64 (x : Int), .int .i64 (wd : Int)] W fun e w' => e = .returned (.tuple #[]) ∧ InkAt w w' K (bs ++ numB x wd) ∧ KU K W w' := by
  have HI := hidM (h.kept (gr_alloc W (.cells #[.pointer (some ⟨K, 0, none⟩)] 61)))
  have H30 := hidM (inkNumber_any HI.out x wd hx hw hm)
  have HU := hidM (KU.gr (K := K) (gr_alloc W (.cells #[.pointer (some ⟨K, 0, none⟩)] 61)))
  have hwr : IntKind.u64.wrap (x : Int) = (x : Int) := by rw [IntKind.wrap_u64]; omega
  clear h
  go_enter Tryz.func36, Tryz.ntmps36
  go_wp2_with (go_at_call 56; refine Hid.out ?_)
  unfold Hid
  refine Calls.mono H30.out ?_
  rintro e W1 ⟨rfl, hI1, hU1⟩
  have HF := hidM (And.intro hI1 (HU.out.trans hU1))
  clear hI1 hU1 HU H30 HI
  go_wp2_with fail
  go_end0
  exact ⟨rfl, HF.out⟩
theorem penFlag_any {w W : World} {K : Nat} {bs : List UInt8} (h : InkAt w W K bs) (b : Bool) (hm : bs.length + 1 ≤ 65536) : Calls Tryz.prog 38 #[.agg #[.pointer (some ⟨K, 0, none⟩)], .bool b] W fun e w' => e = .returned (.tuple #[]) ∧ InkAt w w' K (bs ++ flgB b) ∧ KU K W w' := by
  have HI := hidM (h.kept (gr_alloc W (.cells #[.pointer (some ⟨K, 0, none⟩)] 61)))
  have HU := hidM (KU.gr (K := K) (gr_alloc W (.cells #[.pointer (some ⟨K, 0, none⟩)] 61)))
  clear h
  cases b
  · have H21 := hidM (penNumber_any HI.out 0 1 (by omega) (.inl rfl) hm)
    go_enter Tryz.func38, Tryz.ntmps38
    go_wp2_with (go_at_call 36; refine Hid.out ?_)
    unfold Hid
    refine Calls.mono H21.out ?_
    rintro e W1 ⟨rfl, hI1, hU1⟩
    have HF := hidM (And.intro hI1 (HU.out.trans hU1))
    clear hI1 hU1 HU H21 HI
    go_wp2_with fail
    go_end0
    exact ⟨rfl, HF.out⟩
  have H21 := hidM (penNumber_any HI.out 1 1 (by omega) (.inl rfl) hm)
  go_enter Tryz.func38, Tryz.ntmps38
  go_wp2_with (go_at_call 36; refine Hid.out ?_)
  unfold Hid
  refine Calls.mono H21.out ?_
  rintro e W1 ⟨rfl, hI1, hU1⟩
  have HF := hidM (And.intro hI1 (HU.out.trans hU1))
  clear hI1 hU1 HU H21 HI
  go_wp2_with fail
  go_end0
  exact ⟨rfl, HF.out⟩
theorem penText_any {w W : World} {K : Nat} {bs : List UInt8} (h : InkAt w W K bs) (s : ByteArray) (wd : Nat) (hw : wd = 1 ∨ wd = 2 ∨ wd = 4) (hm : bs.length + (wd + s.size) ≤ 65536) : Calls Tryz.prog 58 #[.agg #[.pointer (some ⟨K, 0, none⟩)], .string s, .int .i64 (wd : Int)] W fun e w' => e = .returned (.tuple #[]) ∧ InkAt w w' K (bs ++ txtB s wd) ∧ KU K W w' := by
  have HI := hidM (h.kept (gr_alloc W (.cells #[.pointer (some ⟨K, 0, none⟩)] 61)))
  have HU := hidM (KU.gr (K := K) (gr_alloc W (.cells #[.pointer (some ⟨K, 0, none⟩)] 61)))
  have HL : Hid (W.heap.size ≠ K) := by obtain ⟨vo, n, vc, h1, -⟩ := h.ex; have := lt_of_heap h1; exact fun e => by omega
  have HP := hidM (heap_alloc_new W (.cells #[.pointer (some ⟨K, 0, none⟩)] 61))
  clear h
  have H21 := hidM (penNumber_any HI.out s.size wd (by omega) hw (by omega))
  go_enter Tryz.func58, Tryz.ntmps58
  go_wp2_with (go_at_call 36; refine Hid.out ?_)
  unfold Hid
  refine Calls.mono H21.out ?_
  rintro e W1 ⟨rfl, hI1, hU1⟩
  have hP1 := hU1.2 _ _ _ HP.out (by decide) HL.out
  have z0 : W1.cell? ⟨W.heap.size, 0, none⟩ = some (.pointer (some ⟨K, 0, none⟩)) := by simp [World.cell?, hP1]
  have H43 := hidM (inkText_any hI1 s (by simp [numB_len]; omega))
  have HU1 := hidM (HU.out.trans hU1)
  clear hI1 hU1 HU H21 HI hP1 HP HL
  go_wp2_with (go_at_call 74; refine Hid.out ?_)
  unfold Hid
  refine Calls.mono H43.out ?_
  rintro e W2 ⟨rfl, hI2, hU2⟩
  have HF := hidM (And.intro hI2 (HU1.out.trans hU2))
  clear hI2 hU2 HU1 H43 z0
  go_wp2_with fail
  go_end0
  exact ⟨rfl, by have := HF.out.1; simpa [txtB, List.append_assoc] using this, HF.out.2⟩
end Go.Proofs.YtdihbfjjddmbiaaGreatDoor.Kit
