import Derived.Test.YtdffjdlpbfcikaaDoorVL
namespace Go.Proofs.YtdffjdlpbfcikaaDoor.Kit
open Go.RowKit Go.Shelf Go.Deep
set_option linter.unusedVariables false
attribute [local go_sem] run_store_func

set_option maxRecDepth 100000 in
set_option maxHeartbeats 8000000 in
theorem inkNumber_any {w W : World} {K : Nat} {bs : List UInt8} (h : InkAt w W K bs) (x wd : Nat) (hx : x ≤ 1000000000000) (hw : wd = 1 ∨ wd = 2 ∨ wd = 4) (hm : bs.length + wd ≤ 65536) : Calls Tryd.prog 56 #[.pointer (some ⟨K, 0, none⟩), .int .u64 (x : Int), .int .i64 (wd : Int)] W fun e w' => e = .returned (.int .i64 0) ∧ InkAt w w' K (bs ++ numB x wd) ∧ KU K W w' := by
  have H40 := hidM (isWidth_any wd hw)
  have H41 := hidM (takes_any h wd hm)
  have HI := hidM h
  have hwd : wd ≤ 4 := by omega
  have HM := hidM hm
  clear h hw hm
  go_enter Tryd.func56, Tryd.ntmps56
  go_wp2_with (go_at_call 70; refine Hid.out ?_)
  unfold Hid
  refine Calls.mono (H40.out _) ?_
  rintro e W0 ⟨rfl, rfl⟩
  go_wp2_with (go_at_call 71; refine Hid.out ?_)
  unfold Hid
  refine Calls.mono H41.out ?_
  rintro e W1 ⟨rfl, hg1⟩
  have HI1 := hidM (HI.out.kept hg1)
  have HU1 := hidM (KU.gr (K := K) hg1)
  clear hg1 H41 H40
  go_wp2_with fail
  go_loopw [16] (fun p wr => ∃ k : Nat, k ≤ wd ∧ p = .int .i64 (k : Int) ∧ Hid (InkAt w wr K (bs ++ numB x k) ∧ KU K W wr)) (fun p _ => wd - (intOf p).toNat)
  case atStart => exact ⟨0, by omega, rfl, by simpa [numB] using HI1.out, HU1.out⟩
  case round =>
    obtain ⟨k, hk, rfl, HR⟩ := hrel
    by_cases hlt : k < wd
    · have hltI : (k : Int) < (wd : Int) := by omega
      obtain ⟨vo, n, vc, h1, h2, h3⟩ := HR.out.1.ex
      have hl : (bs ++ numB x k).length = n := by have := h2.1; simpa [bv] using this
      have hnb : n ≤ 65536 := by rw [← hl, List.length_append, numB_len]; have := HM.out; omega
      have HB : Hid (Byts w wr vo vc n (bs ++ numB x k)) := ⟨h2, HR.out.1.gr, h3⟩
      have HK := hidM h1
      obtain ⟨r, hr⟩ : ∃ r, r = x / 256 ^ k % 256 := ⟨_, rfl⟩
      have HRb : Hid ([Value.int .u8 (r : Int)] = bv [UInt8.ofNat (x / 256 ^ k % 256)]) := by
        show _ = _
        rw [← hr]
        have : (UInt8.ofNat r).toNat = r := by simp; omega
        simp [bv]
        omega
      have HNum : Hid (bs ++ numB x (k + 1) = bs ++ numB x k ++ [UInt8.ofNat (x / 256 ^ k % 256)]) := by show _ = _; rw [numB, List.append_assoc]
      have HIN : Hid (Hid (Gr w wr.drew ∧ KU K W wr.drew)) := ⟨HR.out.1.gr.trans gr_drew (fun _ _ h => h), HR.out.2.trans (KU.gr gr_drew)⟩
      have HSk : Hid (∀ A C : World, Hid (Gr w A ∧ KU K W A) → Gr A C → Hid (Gr w C ∧ KU K W C)) := fun A C h k => ⟨h.out.1.trans k (fun _ _ h => h), h.out.2.trans (KU.gr k)⟩
      have HRel : Hid (∀ Wf, InkAt w Wf K (bs ++ numB x (k + 1)) → KU K W Wf → Hid (InkAt w Wf K (bs ++ numB x (k + 1)) ∧ KU K W Wf)) := fun Wf a b => ⟨a, b⟩
      have u0 := (ce2 h1).1
      clear h1 h2 h3 hl
      have hk4 : k = 0 ∨ k = 1 ∨ k = 2 ∨ k = 3 := by omega
      rcases hk4 with rfl | rfl | rfl | rfl
      · have hc : IntKind.u8.wrap (x : Int) = (r : Int) := by rw [IntKind.wrap_u8]; rw [hr]; simp; try omega
        have hwv : IntKind.i64.wrap 0 = 0 := by rw [IntKind.wrap_i64]; omega
        clear hr
        go_wp2_with fail
        refine wp_region_held_drew (S := fun w' => Hid (Gr w w' ∧ KU K W w')) (by kernel_rfl) (HIN.out) (fun hHeld => ?_)
        refine wpAnyH_take (i := 0) (oi := { dst := some 19, op := Op.move (Operand.tmp 0), type := 66, pos := "ink.go:23", after := #[], guard := none }) (v := ?v0m01) rfl (by kernel_rfl) (by kernel_rfl) (by kernel_rfl) (fun _ _ _ h => h) (Or.inl ⟨by rfl, ?y0m01⟩) (by assumption) ?r0m01
        case y0m01 => (intro w hSw; go_simp; (try with_reducible rfl))
        (try simp only [Act.put]); (try simp only [List.setIfInBounds_toArray]); (try simp only [List.set_cons_succ]); (try simp only [List.set_cons_zero])
        refine wpAnyH_take (i := 1) (oi := { dst := some 20, op := Op.move (Operand.tmp 0), type := 66, pos := "ink.go:23", after := #[], guard := none }) (v := ?v1m02) rfl (by kernel_rfl) (by kernel_rfl) (by kernel_rfl) (fun _ _ _ h => h) (Or.inl ⟨by rfl, ?y1m02⟩) (by assumption) ?r1m02
        case y1m02 => (intro w hSw; go_simp; (try with_reducible rfl))
        (try simp only [Act.put]); (try simp only [List.setIfInBounds_toArray]); (try simp only [List.set_cons_succ]); (try simp only [List.set_cons_zero])
        refine wpAnyH_take (i := 2) (oi := { dst := some 21, op := Op.nilCheck (Operand.tmp 20), type := 0, pos := "ink.go:23", after := #[{ on := 1, ground := Ground.data }], guard := none }) (v := ?v2m03) rfl (by kernel_rfl) (by kernel_rfl) (by kernel_rfl) (fun _ _ _ h => h) (Or.inl ⟨by rfl, ?y2m03⟩) (by assumption) ?r2m03
        case y2m03 => (intro w hSw; go_simp; (try with_reducible rfl))
        (try simp only [Act.put]); (try simp only [List.setIfInBounds_toArray]); (try simp only [List.set_cons_succ]); (try simp only [List.set_cons_zero])
        refine wpAnyH_take (i := 3) (oi := { dst := some 22, op := Op.fieldAddr 88 (Operand.tmp 21) 0, type := 0, pos := "ink.go:23", after := #[{ on := 2, ground := Ground.data }], guard := none }) (v := ?v3m04) rfl (by kernel_rfl) (by kernel_rfl) (by kernel_rfl) (fun _ _ _ h => h) (Or.inl ⟨by rfl, ?y3m04⟩) (by assumption) ?r3m04
        case y3m04 => (intro w hSw; go_simp; (try with_reducible rfl))
        (try simp only [Act.put]); (try simp only [List.setIfInBounds_toArray]); (try simp only [List.set_cons_succ]); (try simp only [List.set_cons_zero])
        refine wpAnyH_take (i := 5) (oi := { dst := some 24, op := Op.move (Operand.tmp 1), type := 107, pos := "ink.go:23", after := #[], guard := none }) (v := ?v5m05) rfl (by kernel_rfl) (by kernel_rfl) (by kernel_rfl) (fun _ _ _ h => h) (Or.inl ⟨by rfl, ?y5m05⟩) (by assumption) ?r5m05
        case y5m05 => (intro w hSw; go_simp; (try with_reducible rfl))
        (try simp only [Act.put]); (try simp only [List.setIfInBounds_toArray]); (try simp only [List.set_cons_succ]); (try simp only [List.set_cons_zero])
        refine wpAnyH_take (i := 6) (oi := { dst := some 25, op := Op.move (Operand.tmp 7), type := 3, pos := "ink.go:23", after := #[], guard := none }) (v := ?v6m06) rfl (by kernel_rfl) (by kernel_rfl) (by kernel_rfl) (fun _ _ _ h => h) (Or.inl ⟨by rfl, ?y6m06⟩) (by assumption) ?r6m06
        case y6m06 => (intro w hSw; go_simp; (try with_reducible rfl))
        (try simp only [Act.put]); (try simp only [List.setIfInBounds_toArray]); (try simp only [List.set_cons_succ]); (try simp only [List.set_cons_zero])
        refine wpAnyH_take (i := 7) (oi := { dst := some 26, op := Op.binOp BinOp.mul 3 (Operand.const (Value.int IntKind.i64 8)) (Operand.tmp 25) 3, type := 3, pos := "ink.go:23", after := #[{ on := 6, ground := Ground.data }], guard := none }) (v := ?v7m07) rfl (by kernel_rfl) (by kernel_rfl) (by kernel_rfl) (fun _ _ _ h => h) (Or.inl ⟨by rfl, ?y7m07⟩) (by assumption) ?r7m07
        case y7m07 => (intro w hSw; go_simp; (try with_reducible rfl))
        (try simp only [Act.put]); (try simp only [List.setIfInBounds_toArray]); (try simp only [List.set_cons_succ]); (try simp only [List.set_cons_zero])
        refine wpAnyH_take (i := 8) (oi := { dst := some 27, op := Op.binOp BinOp.shr 107 (Operand.tmp 24) (Operand.tmp 26) 3, type := 107, pos := "ink.go:23", after := #[{ on := 5, ground := Ground.data }, { on := 7, ground := Ground.data }], guard := none }) (v := ?v8m08) rfl (by kernel_rfl) (by kernel_rfl) (by kernel_rfl) (fun _ _ _ h => h) (Or.inl ⟨by rfl, ?y8m08⟩) (by assumption) ?r8m08
        case y8m08 => (intro w hSw; go_simp; (try with_reducible rfl))
        (try simp only [Act.put]); (try simp only [List.setIfInBounds_toArray]); (try simp only [List.set_cons_succ]); (try simp only [List.set_cons_zero])
        refine wpAnyH_take (i := 9) (oi := { dst := some 28, op := Op.convert 107 5 (Operand.tmp 27), type := 5, pos := "ink.go:23", after := #[{ on := 8, ground := Ground.data }], guard := none }) (v := ?v9m09) rfl (by kernel_rfl) (by kernel_rfl) (by kernel_rfl) (fun _ _ _ h => h) (Or.inl ⟨by rfl, ?y9m09⟩) (by assumption) ?r9m09
        case y9m09 => (intro w hSw; go_simp; (try with_reducible rfl))
        (try simp only [Act.put]); (try simp only [List.setIfInBounds_toArray]); (try simp only [List.set_cons_succ]); (try simp only [List.set_cons_zero])
        refine wpAnyH_ready (rs := [4, 10]) (by kernel_rfl) (by simp) ?_
        refine AllReadyH.cons (o := { dst := some 23, op := Op.load 22 (Operand.tmp 22), type := 22, pos := "ink.go:23", after := #[{ on := 3, ground := Ground.data }], guard := none }) rfl (fun Kc hK => ?_) (AllReadyH.cons (o := { dst := some 29, op := Op.buildSlice 22 1 #[(0, Operand.tmp 28)], type := 22, pos := "ink.go:23", after := #[{ on := 9, ground := Ground.data }], guard := none }) rfl (fun Kc hK => ?_) AllReadyH.nil)
        · go_simp
          refine hK.out _ _ hHeld (fun hHeld => ?_)
          clear hK
          (try simp only [Act.put]); (try simp only [List.setIfInBounds_toArray]); (try simp only [List.set_cons_succ]); (try simp only [List.set_cons_zero])
          refine wpAnyH_ready (rs := [10]) (by kernel_rfl) (by simp) ?_
          refine AllReadyH.cons (o := { dst := some 29, op := Op.buildSlice 22 1 #[(0, Operand.tmp 28)], type := 22, pos := "ink.go:23", after := #[{ on := 9, ground := Ground.data }], guard := none }) rfl (fun Kc hK => ?_) AllReadyH.nil
          go_simp
          refine hK.out _ _ (HSk.out _ _ hHeld (gr_alloc wr.drew _)) (fun hHeld => ?_)
          clear hK
          (try simp only [Act.put]); (try simp only [List.setIfInBounds_toArray]); (try simp only [List.set_cons_succ]); (try simp only [List.set_cons_zero])
          refine wpAnyH_ready (rs := [11]) (by kernel_rfl) (by simp) ?_
          refine AllReadyH.cons (o := { dst := some 30, op := Op.call { callee := Callee.builtin Builtin.append, args := #[Operand.tmp 23, Operand.tmp 29], argTypes := #[22, 22] }, type := 22, pos := "ink.go:23", after := #[{ on := 4, ground := Ground.data }, { on := 10, ground := Ground.data }], guard := none }) rfl (fun Kc hK => ?_) AllReadyH.nil
          have hB1 := HB.out.gr' (gr_drew.trans (gr_alloc wr.drew (.cells #[.int .u8 (r : Int)] 5)) (fun _ _ h => h))
          refine step_append_any _ rfl (.tmp 23) (.tmp 29) 22 22 rfl 5 (.int .u8 0) 1 Tryd.underlying22 info5 rfl (.slice vo n vc) n (bv (bs ++ numB x 0)) rfl hB1.own _ 1 [.int .u8 (r : Int)] rfl (src_u8 wr.drew [.int .u8 (r : Int)] 1 rfl (by simp)) (by omega) (by omega) ?_
          intro v' w1 hown hgrow hblk
          obtain ⟨vo2, vc2, rfl⟩ := own_form1 hown
          have hp0 := (hB1.app HRb.out hown hgrow hblk).pre (gr_drew.trans (gr_alloc wr.drew (.cells #[.int .u8 (r : Int)] 5)) (fun _ _ h => h))
          rw [← HNum.out] at hp0
          obtain ⟨k1, k2, k3⟩ := HR.out.1.next (us := [UInt8.ofNat (x / 256 ^ 0 % 256)]) HK.out (by have h := hp0; rw [HNum.out] at h; exact h)
          rw [← HNum.out] at k2
          have HF := hidM (And.intro k1 (And.intro k2 (HR.out.2.trans k3)))
          have HS1 : Hid (Gr w w1 ∧ KU K W w1) := ⟨hp0.b.gr, HR.out.2.trans (KU.row (HB.out.own) hp0.kp)⟩
          refine hK.out _ _ HS1 (fun hHeld => ?_)
          clear hK hown hgrow hblk hp0 k1 k2 k3 HS1 hB1
          (try simp only [Act.put]); (try simp only [List.setIfInBounds_toArray]); (try simp only [List.set_cons_succ]); (try simp only [List.set_cons_zero])
          refine wpAnyH_take (i := 12) (oi := { dst := some 31, op := Op.nilCheck (Operand.tmp 19), type := 0, pos := "ink.go:23", after := #[{ on := 0, ground := Ground.data }, { on := 0, ground := Ground.phase }, { on := 1, ground := Ground.phase }, { on := 2, ground := Ground.phase }, { on := 3, ground := Ground.phase }, { on := 4, ground := Ground.phase }, { on := 5, ground := Ground.phase }, { on := 6, ground := Ground.phase }, { on := 7, ground := Ground.phase }, { on := 8, ground := Ground.phase }, { on := 9, ground := Ground.phase }, { on := 10, ground := Ground.phase }, { on := 11, ground := Ground.phase }], guard := none }) (v := ?v12o01) rfl (by kernel_rfl) (by kernel_rfl) (by kernel_rfl) (fun _ _ _ h => h) (Or.inl ⟨by rfl, ?y12o01⟩) (by assumption) ?r12o01
          case y12o01 => (intro w hSw; go_simp; (try with_reducible rfl))
          (try simp only [Act.put]); (try simp only [List.setIfInBounds_toArray]); (try simp only [List.set_cons_succ]); (try simp only [List.set_cons_zero])
          refine wpAnyH_take (i := 13) (oi := { dst := some 32, op := Op.fieldAddr 88 (Operand.tmp 31) 0, type := 0, pos := "ink.go:23", after := #[{ on := 12, ground := Ground.data }, { on := 0, ground := Ground.phase }, { on := 1, ground := Ground.phase }, { on := 2, ground := Ground.phase }, { on := 3, ground := Ground.phase }, { on := 4, ground := Ground.phase }, { on := 5, ground := Ground.phase }, { on := 6, ground := Ground.phase }, { on := 7, ground := Ground.phase }, { on := 8, ground := Ground.phase }, { on := 9, ground := Ground.phase }, { on := 10, ground := Ground.phase }, { on := 11, ground := Ground.phase }], guard := none }) (v := ?v13o02) rfl (by kernel_rfl) (by kernel_rfl) (by kernel_rfl) (fun _ _ _ h => h) (Or.inl ⟨by rfl, ?y13o02⟩) (by assumption) ?r13o02
          case y13o02 => (intro w hSw; go_simp; (try with_reducible rfl))
          (try simp only [Act.put]); (try simp only [List.setIfInBounds_toArray]); (try simp only [List.set_cons_succ]); (try simp only [List.set_cons_zero])
          refine wpAnyH_ready (rs := [14]) (by kernel_rfl) (by simp) ?_
          refine AllReadyH.cons (o := { dst := none, op := Op.store 22 (Operand.tmp 32) (Operand.tmp 30), type := 0, pos := "ink.go:23", after := #[{ on := 13, ground := Ground.data }, { on := 11, ground := Ground.data }, { on := 11, ground := Ground.chain }, { on := 0, ground := Ground.phase }, { on := 1, ground := Ground.phase }, { on := 2, ground := Ground.phase }, { on := 3, ground := Ground.phase }, { on := 4, ground := Ground.phase }, { on := 5, ground := Ground.phase }, { on := 6, ground := Ground.phase }, { on := 7, ground := Ground.phase }, { on := 8, ground := Ground.phase }, { on := 9, ground := Ground.phase }, { on := 10, ground := Ground.phase }, { on := 11, ground := Ground.phase }], guard := none }) rfl (fun Kc hK => ?_) AllReadyH.nil
          have z0 := (ce2 HF.out.1).1
          have z1 := frz HF.out.1 0
          go_simp
          refine hK.out _ _ ⟨HF.out.2.1.gr, HF.out.2.2⟩ (fun hHeld => ?_)
          clear hK
          (try simp only [Act.put]); (try simp only [List.setIfInBounds_toArray]); (try simp only [List.set_cons_succ]); (try simp only [List.set_cons_zero])
          refine wpAnyH_done (by kernel_rfl) ?_ _
          clear hHeld z0 z1
          go_wp2_with fail
          go_roundw
          case rel => exact ⟨0 + 1, by omega, by simp, HF.out.2.1, HF.out.2.2⟩
          case measure => simp [intOf]; omega
        · go_simp
          refine hK.out _ _ (HSk.out _ _ hHeld (gr_alloc wr.drew _)) (fun hHeld => ?_)
          clear hK
          (try simp only [Act.put]); (try simp only [List.setIfInBounds_toArray]); (try simp only [List.set_cons_succ]); (try simp only [List.set_cons_zero])
          have u2 : (wr.alloc (.cells #[.int .u8 (r : Int)] 5)).cell? ⟨K, 0, none⟩ = some (.slice vo n vc) := (gr_alloc wr _).cell' u0 id
          refine wpAnyH_ready (rs := [4]) (by kernel_rfl) (by simp) ?_
          refine AllReadyH.cons (o := { dst := some 23, op := Op.load 22 (Operand.tmp 22), type := 22, pos := "ink.go:23", after := #[{ on := 3, ground := Ground.data }], guard := none }) rfl (fun Kc hK => ?_) AllReadyH.nil
          go_simp
          refine hK.out _ _ hHeld (fun hHeld => ?_)
          clear hK
          (try simp only [Act.put]); (try simp only [List.setIfInBounds_toArray]); (try simp only [List.set_cons_succ]); (try simp only [List.set_cons_zero])
          refine wpAnyH_ready (rs := [11]) (by kernel_rfl) (by simp) ?_
          refine AllReadyH.cons (o := { dst := some 30, op := Op.call { callee := Callee.builtin Builtin.append, args := #[Operand.tmp 23, Operand.tmp 29], argTypes := #[22, 22] }, type := 22, pos := "ink.go:23", after := #[{ on := 4, ground := Ground.data }, { on := 10, ground := Ground.data }], guard := none }) rfl (fun Kc hK => ?_) AllReadyH.nil
          have hB1 := HB.out.gr' (gr_drew.trans (gr_alloc wr.drew (.cells #[.int .u8 (r : Int)] 5)) (fun _ _ h => h))
          refine step_append_any _ rfl (.tmp 23) (.tmp 29) 22 22 rfl 5 (.int .u8 0) 1 Tryd.underlying22 info5 rfl (.slice vo n vc) n (bv (bs ++ numB x 0)) rfl hB1.own _ 1 [.int .u8 (r : Int)] rfl (src_u8 wr.drew [.int .u8 (r : Int)] 1 rfl (by simp)) (by omega) (by omega) ?_
          intro v' w1 hown hgrow hblk
          obtain ⟨vo2, vc2, rfl⟩ := own_form1 hown
          have hp0 := (hB1.app HRb.out hown hgrow hblk).pre (gr_drew.trans (gr_alloc wr.drew (.cells #[.int .u8 (r : Int)] 5)) (fun _ _ h => h))
          rw [← HNum.out] at hp0
          obtain ⟨k1, k2, k3⟩ := HR.out.1.next (us := [UInt8.ofNat (x / 256 ^ 0 % 256)]) HK.out (by have h := hp0; rw [HNum.out] at h; exact h)
          rw [← HNum.out] at k2
          have HF := hidM (And.intro k1 (And.intro k2 (HR.out.2.trans k3)))
          have HS1 : Hid (Gr w w1 ∧ KU K W w1) := ⟨hp0.b.gr, HR.out.2.trans (KU.row (HB.out.own) hp0.kp)⟩
          refine hK.out _ _ HS1 (fun hHeld => ?_)
          clear hK hown hgrow hblk hp0 k1 k2 k3 HS1 hB1
          (try simp only [Act.put]); (try simp only [List.setIfInBounds_toArray]); (try simp only [List.set_cons_succ]); (try simp only [List.set_cons_zero])
          refine wpAnyH_take (i := 12) (oi := { dst := some 31, op := Op.nilCheck (Operand.tmp 19), type := 0, pos := "ink.go:23", after := #[{ on := 0, ground := Ground.data }, { on := 0, ground := Ground.phase }, { on := 1, ground := Ground.phase }, { on := 2, ground := Ground.phase }, { on := 3, ground := Ground.phase }, { on := 4, ground := Ground.phase }, { on := 5, ground := Ground.phase }, { on := 6, ground := Ground.phase }, { on := 7, ground := Ground.phase }, { on := 8, ground := Ground.phase }, { on := 9, ground := Ground.phase }, { on := 10, ground := Ground.phase }, { on := 11, ground := Ground.phase }], guard := none }) (v := ?v12q01) rfl (by kernel_rfl) (by kernel_rfl) (by kernel_rfl) (fun _ _ _ h => h) (Or.inl ⟨by rfl, ?y12q01⟩) (by assumption) ?r12q01
          case y12q01 => (intro w hSw; go_simp; (try with_reducible rfl))
          (try simp only [Act.put]); (try simp only [List.setIfInBounds_toArray]); (try simp only [List.set_cons_succ]); (try simp only [List.set_cons_zero])
          refine wpAnyH_take (i := 13) (oi := { dst := some 32, op := Op.fieldAddr 88 (Operand.tmp 31) 0, type := 0, pos := "ink.go:23", after := #[{ on := 12, ground := Ground.data }, { on := 0, ground := Ground.phase }, { on := 1, ground := Ground.phase }, { on := 2, ground := Ground.phase }, { on := 3, ground := Ground.phase }, { on := 4, ground := Ground.phase }, { on := 5, ground := Ground.phase }, { on := 6, ground := Ground.phase }, { on := 7, ground := Ground.phase }, { on := 8, ground := Ground.phase }, { on := 9, ground := Ground.phase }, { on := 10, ground := Ground.phase }, { on := 11, ground := Ground.phase }], guard := none }) (v := ?v13q02) rfl (by kernel_rfl) (by kernel_rfl) (by kernel_rfl) (fun _ _ _ h => h) (Or.inl ⟨by rfl, ?y13q02⟩) (by assumption) ?r13q02
          case y13q02 => (intro w hSw; go_simp; (try with_reducible rfl))
          (try simp only [Act.put]); (try simp only [List.setIfInBounds_toArray]); (try simp only [List.set_cons_succ]); (try simp only [List.set_cons_zero])
          refine wpAnyH_ready (rs := [14]) (by kernel_rfl) (by simp) ?_
          refine AllReadyH.cons (o := { dst := none, op := Op.store 22 (Operand.tmp 32) (Operand.tmp 30), type := 0, pos := "ink.go:23", after := #[{ on := 13, ground := Ground.data }, { on := 11, ground := Ground.data }, { on := 11, ground := Ground.chain }, { on := 0, ground := Ground.phase }, { on := 1, ground := Ground.phase }, { on := 2, ground := Ground.phase }, { on := 3, ground := Ground.phase }, { on := 4, ground := Ground.phase }, { on := 5, ground := Ground.phase }, { on := 6, ground := Ground.phase }, { on := 7, ground := Ground.phase }, { on := 8, ground := Ground.phase }, { on := 9, ground := Ground.phase }, { on := 10, ground := Ground.phase }, { on := 11, ground := Ground.phase }], guard := none }) rfl (fun Kc hK => ?_) AllReadyH.nil
          have z0 := (ce2 HF.out.1).1
          have z1 := frz HF.out.1 0
          go_simp
          refine hK.out _ _ ⟨HF.out.2.1.gr, HF.out.2.2⟩ (fun hHeld => ?_)
          clear hK
          (try simp only [Act.put]); (try simp only [List.setIfInBounds_toArray]); (try simp only [List.set_cons_succ]); (try simp only [List.set_cons_zero])
          refine wpAnyH_done (by kernel_rfl) ?_ _
          clear hHeld z0 z1
          go_wp2_with fail
          go_roundw
          case rel => exact ⟨0 + 1, by omega, by simp, HF.out.2.1, HF.out.2.2⟩
          case measure => simp [intOf]; omega
      · have hc : IntKind.u8.wrap ((x : Int) / 256) = (r : Int) := by rw [IntKind.wrap_u8]; rw [hr]; simp; try omega
        have hwv : IntKind.i64.wrap 8 = 8 := by rw [IntKind.wrap_i64]; omega
        clear hr
        go_wp2_with fail
        refine wp_region_held_drew (S := fun w' => Hid (Gr w w' ∧ KU K W w')) (by kernel_rfl) (HIN.out) (fun hHeld => ?_)
        refine wpAnyH_take (i := 0) (oi := { dst := some 19, op := Op.move (Operand.tmp 0), type := 66, pos := "ink.go:23", after := #[], guard := none }) (v := ?v0m11) rfl (by kernel_rfl) (by kernel_rfl) (by kernel_rfl) (fun _ _ _ h => h) (Or.inl ⟨by rfl, ?y0m11⟩) (by assumption) ?r0m11
        case y0m11 => (intro w hSw; go_simp; (try with_reducible rfl))
        (try simp only [Act.put]); (try simp only [List.setIfInBounds_toArray]); (try simp only [List.set_cons_succ]); (try simp only [List.set_cons_zero])
        refine wpAnyH_take (i := 1) (oi := { dst := some 20, op := Op.move (Operand.tmp 0), type := 66, pos := "ink.go:23", after := #[], guard := none }) (v := ?v1m12) rfl (by kernel_rfl) (by kernel_rfl) (by kernel_rfl) (fun _ _ _ h => h) (Or.inl ⟨by rfl, ?y1m12⟩) (by assumption) ?r1m12
        case y1m12 => (intro w hSw; go_simp; (try with_reducible rfl))
        (try simp only [Act.put]); (try simp only [List.setIfInBounds_toArray]); (try simp only [List.set_cons_succ]); (try simp only [List.set_cons_zero])
        refine wpAnyH_take (i := 2) (oi := { dst := some 21, op := Op.nilCheck (Operand.tmp 20), type := 0, pos := "ink.go:23", after := #[{ on := 1, ground := Ground.data }], guard := none }) (v := ?v2m13) rfl (by kernel_rfl) (by kernel_rfl) (by kernel_rfl) (fun _ _ _ h => h) (Or.inl ⟨by rfl, ?y2m13⟩) (by assumption) ?r2m13
        case y2m13 => (intro w hSw; go_simp; (try with_reducible rfl))
        (try simp only [Act.put]); (try simp only [List.setIfInBounds_toArray]); (try simp only [List.set_cons_succ]); (try simp only [List.set_cons_zero])
        refine wpAnyH_take (i := 3) (oi := { dst := some 22, op := Op.fieldAddr 88 (Operand.tmp 21) 0, type := 0, pos := "ink.go:23", after := #[{ on := 2, ground := Ground.data }], guard := none }) (v := ?v3m14) rfl (by kernel_rfl) (by kernel_rfl) (by kernel_rfl) (fun _ _ _ h => h) (Or.inl ⟨by rfl, ?y3m14⟩) (by assumption) ?r3m14
        case y3m14 => (intro w hSw; go_simp; (try with_reducible rfl))
        (try simp only [Act.put]); (try simp only [List.setIfInBounds_toArray]); (try simp only [List.set_cons_succ]); (try simp only [List.set_cons_zero])
        refine wpAnyH_take (i := 5) (oi := { dst := some 24, op := Op.move (Operand.tmp 1), type := 107, pos := "ink.go:23", after := #[], guard := none }) (v := ?v5m15) rfl (by kernel_rfl) (by kernel_rfl) (by kernel_rfl) (fun _ _ _ h => h) (Or.inl ⟨by rfl, ?y5m15⟩) (by assumption) ?r5m15
        case y5m15 => (intro w hSw; go_simp; (try with_reducible rfl))
        (try simp only [Act.put]); (try simp only [List.setIfInBounds_toArray]); (try simp only [List.set_cons_succ]); (try simp only [List.set_cons_zero])
        refine wpAnyH_take (i := 6) (oi := { dst := some 25, op := Op.move (Operand.tmp 7), type := 3, pos := "ink.go:23", after := #[], guard := none }) (v := ?v6m16) rfl (by kernel_rfl) (by kernel_rfl) (by kernel_rfl) (fun _ _ _ h => h) (Or.inl ⟨by rfl, ?y6m16⟩) (by assumption) ?r6m16
        case y6m16 => (intro w hSw; go_simp; (try with_reducible rfl))
        (try simp only [Act.put]); (try simp only [List.setIfInBounds_toArray]); (try simp only [List.set_cons_succ]); (try simp only [List.set_cons_zero])
        refine wpAnyH_take (i := 7) (oi := { dst := some 26, op := Op.binOp BinOp.mul 3 (Operand.const (Value.int IntKind.i64 8)) (Operand.tmp 25) 3, type := 3, pos := "ink.go:23", after := #[{ on := 6, ground := Ground.data }], guard := none }) (v := ?v7m17) rfl (by kernel_rfl) (by kernel_rfl) (by kernel_rfl) (fun _ _ _ h => h) (Or.inl ⟨by rfl, ?y7m17⟩) (by assumption) ?r7m17
        case y7m17 => (intro w hSw; go_simp; (try with_reducible rfl))
        (try simp only [Act.put]); (try simp only [List.setIfInBounds_toArray]); (try simp only [List.set_cons_succ]); (try simp only [List.set_cons_zero])
        refine wpAnyH_take (i := 8) (oi := { dst := some 27, op := Op.binOp BinOp.shr 107 (Operand.tmp 24) (Operand.tmp 26) 3, type := 107, pos := "ink.go:23", after := #[{ on := 5, ground := Ground.data }, { on := 7, ground := Ground.data }], guard := none }) (v := ?v8m18) rfl (by kernel_rfl) (by kernel_rfl) (by kernel_rfl) (fun _ _ _ h => h) (Or.inl ⟨by rfl, ?y8m18⟩) (by assumption) ?r8m18
        case y8m18 => (intro w hSw; go_simp; (try with_reducible rfl))
        (try simp only [Act.put]); (try simp only [List.setIfInBounds_toArray]); (try simp only [List.set_cons_succ]); (try simp only [List.set_cons_zero])
        refine wpAnyH_take (i := 9) (oi := { dst := some 28, op := Op.convert 107 5 (Operand.tmp 27), type := 5, pos := "ink.go:23", after := #[{ on := 8, ground := Ground.data }], guard := none }) (v := ?v9m19) rfl (by kernel_rfl) (by kernel_rfl) (by kernel_rfl) (fun _ _ _ h => h) (Or.inl ⟨by rfl, ?y9m19⟩) (by assumption) ?r9m19
        case y9m19 => (intro w hSw; go_simp; (try with_reducible rfl))
        (try simp only [Act.put]); (try simp only [List.setIfInBounds_toArray]); (try simp only [List.set_cons_succ]); (try simp only [List.set_cons_zero])
        refine wpAnyH_ready (rs := [4, 10]) (by kernel_rfl) (by simp) ?_
        refine AllReadyH.cons (o := { dst := some 23, op := Op.load 22 (Operand.tmp 22), type := 22, pos := "ink.go:23", after := #[{ on := 3, ground := Ground.data }], guard := none }) rfl (fun Kc hK => ?_) (AllReadyH.cons (o := { dst := some 29, op := Op.buildSlice 22 1 #[(0, Operand.tmp 28)], type := 22, pos := "ink.go:23", after := #[{ on := 9, ground := Ground.data }], guard := none }) rfl (fun Kc hK => ?_) AllReadyH.nil)
        · go_simp
          refine hK.out _ _ hHeld (fun hHeld => ?_)
          clear hK
          (try simp only [Act.put]); (try simp only [List.setIfInBounds_toArray]); (try simp only [List.set_cons_succ]); (try simp only [List.set_cons_zero])
          refine wpAnyH_ready (rs := [10]) (by kernel_rfl) (by simp) ?_
          refine AllReadyH.cons (o := { dst := some 29, op := Op.buildSlice 22 1 #[(0, Operand.tmp 28)], type := 22, pos := "ink.go:23", after := #[{ on := 9, ground := Ground.data }], guard := none }) rfl (fun Kc hK => ?_) AllReadyH.nil
          go_simp
          refine hK.out _ _ (HSk.out _ _ hHeld (gr_alloc wr.drew _)) (fun hHeld => ?_)
          clear hK
          (try simp only [Act.put]); (try simp only [List.setIfInBounds_toArray]); (try simp only [List.set_cons_succ]); (try simp only [List.set_cons_zero])
          refine wpAnyH_ready (rs := [11]) (by kernel_rfl) (by simp) ?_
          refine AllReadyH.cons (o := { dst := some 30, op := Op.call { callee := Callee.builtin Builtin.append, args := #[Operand.tmp 23, Operand.tmp 29], argTypes := #[22, 22] }, type := 22, pos := "ink.go:23", after := #[{ on := 4, ground := Ground.data }, { on := 10, ground := Ground.data }], guard := none }) rfl (fun Kc hK => ?_) AllReadyH.nil
          have hB1 := HB.out.gr' (gr_drew.trans (gr_alloc wr.drew (.cells #[.int .u8 (r : Int)] 5)) (fun _ _ h => h))
          refine step_append_any _ rfl (.tmp 23) (.tmp 29) 22 22 rfl 5 (.int .u8 0) 1 Tryd.underlying22 info5 rfl (.slice vo n vc) n (bv (bs ++ numB x 1)) rfl hB1.own _ 1 [.int .u8 (r : Int)] rfl (src_u8 wr.drew [.int .u8 (r : Int)] 1 rfl (by simp)) (by omega) (by omega) ?_
          intro v' w1 hown hgrow hblk
          obtain ⟨vo2, vc2, rfl⟩ := own_form1 hown
          have hp0 := (hB1.app HRb.out hown hgrow hblk).pre (gr_drew.trans (gr_alloc wr.drew (.cells #[.int .u8 (r : Int)] 5)) (fun _ _ h => h))
          rw [← HNum.out] at hp0
          obtain ⟨k1, k2, k3⟩ := HR.out.1.next (us := [UInt8.ofNat (x / 256 ^ 1 % 256)]) HK.out (by have h := hp0; rw [HNum.out] at h; exact h)
          rw [← HNum.out] at k2
          have HF := hidM (And.intro k1 (And.intro k2 (HR.out.2.trans k3)))
          have HS1 : Hid (Gr w w1 ∧ KU K W w1) := ⟨hp0.b.gr, HR.out.2.trans (KU.row (HB.out.own) hp0.kp)⟩
          refine hK.out _ _ HS1 (fun hHeld => ?_)
          clear hK hown hgrow hblk hp0 k1 k2 k3 HS1 hB1
          (try simp only [Act.put]); (try simp only [List.setIfInBounds_toArray]); (try simp only [List.set_cons_succ]); (try simp only [List.set_cons_zero])
          refine wpAnyH_take (i := 12) (oi := { dst := some 31, op := Op.nilCheck (Operand.tmp 19), type := 0, pos := "ink.go:23", after := #[{ on := 0, ground := Ground.data }, { on := 0, ground := Ground.phase }, { on := 1, ground := Ground.phase }, { on := 2, ground := Ground.phase }, { on := 3, ground := Ground.phase }, { on := 4, ground := Ground.phase }, { on := 5, ground := Ground.phase }, { on := 6, ground := Ground.phase }, { on := 7, ground := Ground.phase }, { on := 8, ground := Ground.phase }, { on := 9, ground := Ground.phase }, { on := 10, ground := Ground.phase }, { on := 11, ground := Ground.phase }], guard := none }) (v := ?v12o11) rfl (by kernel_rfl) (by kernel_rfl) (by kernel_rfl) (fun _ _ _ h => h) (Or.inl ⟨by rfl, ?y12o11⟩) (by assumption) ?r12o11
          case y12o11 => (intro w hSw; go_simp; (try with_reducible rfl))
          (try simp only [Act.put]); (try simp only [List.setIfInBounds_toArray]); (try simp only [List.set_cons_succ]); (try simp only [List.set_cons_zero])
          refine wpAnyH_take (i := 13) (oi := { dst := some 32, op := Op.fieldAddr 88 (Operand.tmp 31) 0, type := 0, pos := "ink.go:23", after := #[{ on := 12, ground := Ground.data }, { on := 0, ground := Ground.phase }, { on := 1, ground := Ground.phase }, { on := 2, ground := Ground.phase }, { on := 3, ground := Ground.phase }, { on := 4, ground := Ground.phase }, { on := 5, ground := Ground.phase }, { on := 6, ground := Ground.phase }, { on := 7, ground := Ground.phase }, { on := 8, ground := Ground.phase }, { on := 9, ground := Ground.phase }, { on := 10, ground := Ground.phase }, { on := 11, ground := Ground.phase }], guard := none }) (v := ?v13o12) rfl (by kernel_rfl) (by kernel_rfl) (by kernel_rfl) (fun _ _ _ h => h) (Or.inl ⟨by rfl, ?y13o12⟩) (by assumption) ?r13o12
          case y13o12 => (intro w hSw; go_simp; (try with_reducible rfl))
          (try simp only [Act.put]); (try simp only [List.setIfInBounds_toArray]); (try simp only [List.set_cons_succ]); (try simp only [List.set_cons_zero])
          refine wpAnyH_ready (rs := [14]) (by kernel_rfl) (by simp) ?_
          refine AllReadyH.cons (o := { dst := none, op := Op.store 22 (Operand.tmp 32) (Operand.tmp 30), type := 0, pos := "ink.go:23", after := #[{ on := 13, ground := Ground.data }, { on := 11, ground := Ground.data }, { on := 11, ground := Ground.chain }, { on := 0, ground := Ground.phase }, { on := 1, ground := Ground.phase }, { on := 2, ground := Ground.phase }, { on := 3, ground := Ground.phase }, { on := 4, ground := Ground.phase }, { on := 5, ground := Ground.phase }, { on := 6, ground := Ground.phase }, { on := 7, ground := Ground.phase }, { on := 8, ground := Ground.phase }, { on := 9, ground := Ground.phase }, { on := 10, ground := Ground.phase }, { on := 11, ground := Ground.phase }], guard := none }) rfl (fun Kc hK => ?_) AllReadyH.nil
          have z0 := (ce2 HF.out.1).1
          have z1 := frz HF.out.1 0
          go_simp
          refine hK.out _ _ ⟨HF.out.2.1.gr, HF.out.2.2⟩ (fun hHeld => ?_)
          clear hK
          (try simp only [Act.put]); (try simp only [List.setIfInBounds_toArray]); (try simp only [List.set_cons_succ]); (try simp only [List.set_cons_zero])
          refine wpAnyH_done (by kernel_rfl) ?_ _
          clear hHeld z0 z1
          go_wp2_with fail
          go_roundw
          case rel => exact ⟨1 + 1, by omega, by simp, HF.out.2.1, HF.out.2.2⟩
          case measure => simp [intOf]; omega
        · go_simp
          refine hK.out _ _ (HSk.out _ _ hHeld (gr_alloc wr.drew _)) (fun hHeld => ?_)
          clear hK
          (try simp only [Act.put]); (try simp only [List.setIfInBounds_toArray]); (try simp only [List.set_cons_succ]); (try simp only [List.set_cons_zero])
          have u2 : (wr.alloc (.cells #[.int .u8 (r : Int)] 5)).cell? ⟨K, 0, none⟩ = some (.slice vo n vc) := (gr_alloc wr _).cell' u0 id
          refine wpAnyH_ready (rs := [4]) (by kernel_rfl) (by simp) ?_
          refine AllReadyH.cons (o := { dst := some 23, op := Op.load 22 (Operand.tmp 22), type := 22, pos := "ink.go:23", after := #[{ on := 3, ground := Ground.data }], guard := none }) rfl (fun Kc hK => ?_) AllReadyH.nil
          go_simp
          refine hK.out _ _ hHeld (fun hHeld => ?_)
          clear hK
          (try simp only [Act.put]); (try simp only [List.setIfInBounds_toArray]); (try simp only [List.set_cons_succ]); (try simp only [List.set_cons_zero])
          refine wpAnyH_ready (rs := [11]) (by kernel_rfl) (by simp) ?_
          refine AllReadyH.cons (o := { dst := some 30, op := Op.call { callee := Callee.builtin Builtin.append, args := #[Operand.tmp 23, Operand.tmp 29], argTypes := #[22, 22] }, type := 22, pos := "ink.go:23", after := #[{ on := 4, ground := Ground.data }, { on := 10, ground := Ground.data }], guard := none }) rfl (fun Kc hK => ?_) AllReadyH.nil
          have hB1 := HB.out.gr' (gr_drew.trans (gr_alloc wr.drew (.cells #[.int .u8 (r : Int)] 5)) (fun _ _ h => h))
          refine step_append_any _ rfl (.tmp 23) (.tmp 29) 22 22 rfl 5 (.int .u8 0) 1 Tryd.underlying22 info5 rfl (.slice vo n vc) n (bv (bs ++ numB x 1)) rfl hB1.own _ 1 [.int .u8 (r : Int)] rfl (src_u8 wr.drew [.int .u8 (r : Int)] 1 rfl (by simp)) (by omega) (by omega) ?_
          intro v' w1 hown hgrow hblk
          obtain ⟨vo2, vc2, rfl⟩ := own_form1 hown
          have hp0 := (hB1.app HRb.out hown hgrow hblk).pre (gr_drew.trans (gr_alloc wr.drew (.cells #[.int .u8 (r : Int)] 5)) (fun _ _ h => h))
          rw [← HNum.out] at hp0
          obtain ⟨k1, k2, k3⟩ := HR.out.1.next (us := [UInt8.ofNat (x / 256 ^ 1 % 256)]) HK.out (by have h := hp0; rw [HNum.out] at h; exact h)
          rw [← HNum.out] at k2
          have HF := hidM (And.intro k1 (And.intro k2 (HR.out.2.trans k3)))
          have HS1 : Hid (Gr w w1 ∧ KU K W w1) := ⟨hp0.b.gr, HR.out.2.trans (KU.row (HB.out.own) hp0.kp)⟩
          refine hK.out _ _ HS1 (fun hHeld => ?_)
          clear hK hown hgrow hblk hp0 k1 k2 k3 HS1 hB1
          (try simp only [Act.put]); (try simp only [List.setIfInBounds_toArray]); (try simp only [List.set_cons_succ]); (try simp only [List.set_cons_zero])
          refine wpAnyH_take (i := 12) (oi := { dst := some 31, op := Op.nilCheck (Operand.tmp 19), type := 0, pos := "ink.go:23", after := #[{ on := 0, ground := Ground.data }, { on := 0, ground := Ground.phase }, { on := 1, ground := Ground.phase }, { on := 2, ground := Ground.phase }, { on := 3, ground := Ground.phase }, { on := 4, ground := Ground.phase }, { on := 5, ground := Ground.phase }, { on := 6, ground := Ground.phase }, { on := 7, ground := Ground.phase }, { on := 8, ground := Ground.phase }, { on := 9, ground := Ground.phase }, { on := 10, ground := Ground.phase }, { on := 11, ground := Ground.phase }], guard := none }) (v := ?v12q11) rfl (by kernel_rfl) (by kernel_rfl) (by kernel_rfl) (fun _ _ _ h => h) (Or.inl ⟨by rfl, ?y12q11⟩) (by assumption) ?r12q11
          case y12q11 => (intro w hSw; go_simp; (try with_reducible rfl))
          (try simp only [Act.put]); (try simp only [List.setIfInBounds_toArray]); (try simp only [List.set_cons_succ]); (try simp only [List.set_cons_zero])
          refine wpAnyH_take (i := 13) (oi := { dst := some 32, op := Op.fieldAddr 88 (Operand.tmp 31) 0, type := 0, pos := "ink.go:23", after := #[{ on := 12, ground := Ground.data }, { on := 0, ground := Ground.phase }, { on := 1, ground := Ground.phase }, { on := 2, ground := Ground.phase }, { on := 3, ground := Ground.phase }, { on := 4, ground := Ground.phase }, { on := 5, ground := Ground.phase }, { on := 6, ground := Ground.phase }, { on := 7, ground := Ground.phase }, { on := 8, ground := Ground.phase }, { on := 9, ground := Ground.phase }, { on := 10, ground := Ground.phase }, { on := 11, ground := Ground.phase }], guard := none }) (v := ?v13q12) rfl (by kernel_rfl) (by kernel_rfl) (by kernel_rfl) (fun _ _ _ h => h) (Or.inl ⟨by rfl, ?y13q12⟩) (by assumption) ?r13q12
          case y13q12 => (intro w hSw; go_simp; (try with_reducible rfl))
          (try simp only [Act.put]); (try simp only [List.setIfInBounds_toArray]); (try simp only [List.set_cons_succ]); (try simp only [List.set_cons_zero])
          refine wpAnyH_ready (rs := [14]) (by kernel_rfl) (by simp) ?_
          refine AllReadyH.cons (o := { dst := none, op := Op.store 22 (Operand.tmp 32) (Operand.tmp 30), type := 0, pos := "ink.go:23", after := #[{ on := 13, ground := Ground.data }, { on := 11, ground := Ground.data }, { on := 11, ground := Ground.chain }, { on := 0, ground := Ground.phase }, { on := 1, ground := Ground.phase }, { on := 2, ground := Ground.phase }, { on := 3, ground := Ground.phase }, { on := 4, ground := Ground.phase }, { on := 5, ground := Ground.phase }, { on := 6, ground := Ground.phase }, { on := 7, ground := Ground.phase }, { on := 8, ground := Ground.phase }, { on := 9, ground := Ground.phase }, { on := 10, ground := Ground.phase }, { on := 11, ground := Ground.phase }], guard := none }) rfl (fun Kc hK => ?_) AllReadyH.nil
          have z0 := (ce2 HF.out.1).1
          have z1 := frz HF.out.1 0
          go_simp
          refine hK.out _ _ ⟨HF.out.2.1.gr, HF.out.2.2⟩ (fun hHeld => ?_)
          clear hK
          (try simp only [Act.put]); (try simp only [List.setIfInBounds_toArray]); (try simp only [List.set_cons_succ]); (try simp only [List.set_cons_zero])
          refine wpAnyH_done (by kernel_rfl) ?_ _
          clear hHeld z0 z1
          go_wp2_with fail
          go_roundw
          case rel => exact ⟨1 + 1, by omega, by simp, HF.out.2.1, HF.out.2.2⟩
          case measure => simp [intOf]; omega
      · have hc : IntKind.u8.wrap ((x : Int) / 65536) = (r : Int) := by rw [IntKind.wrap_u8]; rw [hr]; simp; try omega
        have hwv : IntKind.i64.wrap 16 = 16 := by rw [IntKind.wrap_i64]; omega
        clear hr
        go_wp2_with fail
        refine wp_region_held_drew (S := fun w' => Hid (Gr w w' ∧ KU K W w')) (by kernel_rfl) (HIN.out) (fun hHeld => ?_)
        refine wpAnyH_take (i := 0) (oi := { dst := some 19, op := Op.move (Operand.tmp 0), type := 66, pos := "ink.go:23", after := #[], guard := none }) (v := ?v0m21) rfl (by kernel_rfl) (by kernel_rfl) (by kernel_rfl) (fun _ _ _ h => h) (Or.inl ⟨by rfl, ?y0m21⟩) (by assumption) ?r0m21
        case y0m21 => (intro w hSw; go_simp; (try with_reducible rfl))
        (try simp only [Act.put]); (try simp only [List.setIfInBounds_toArray]); (try simp only [List.set_cons_succ]); (try simp only [List.set_cons_zero])
        refine wpAnyH_take (i := 1) (oi := { dst := some 20, op := Op.move (Operand.tmp 0), type := 66, pos := "ink.go:23", after := #[], guard := none }) (v := ?v1m22) rfl (by kernel_rfl) (by kernel_rfl) (by kernel_rfl) (fun _ _ _ h => h) (Or.inl ⟨by rfl, ?y1m22⟩) (by assumption) ?r1m22
        case y1m22 => (intro w hSw; go_simp; (try with_reducible rfl))
        (try simp only [Act.put]); (try simp only [List.setIfInBounds_toArray]); (try simp only [List.set_cons_succ]); (try simp only [List.set_cons_zero])
        refine wpAnyH_take (i := 2) (oi := { dst := some 21, op := Op.nilCheck (Operand.tmp 20), type := 0, pos := "ink.go:23", after := #[{ on := 1, ground := Ground.data }], guard := none }) (v := ?v2m23) rfl (by kernel_rfl) (by kernel_rfl) (by kernel_rfl) (fun _ _ _ h => h) (Or.inl ⟨by rfl, ?y2m23⟩) (by assumption) ?r2m23
        case y2m23 => (intro w hSw; go_simp; (try with_reducible rfl))
        (try simp only [Act.put]); (try simp only [List.setIfInBounds_toArray]); (try simp only [List.set_cons_succ]); (try simp only [List.set_cons_zero])
        refine wpAnyH_take (i := 3) (oi := { dst := some 22, op := Op.fieldAddr 88 (Operand.tmp 21) 0, type := 0, pos := "ink.go:23", after := #[{ on := 2, ground := Ground.data }], guard := none }) (v := ?v3m24) rfl (by kernel_rfl) (by kernel_rfl) (by kernel_rfl) (fun _ _ _ h => h) (Or.inl ⟨by rfl, ?y3m24⟩) (by assumption) ?r3m24
        case y3m24 => (intro w hSw; go_simp; (try with_reducible rfl))
        (try simp only [Act.put]); (try simp only [List.setIfInBounds_toArray]); (try simp only [List.set_cons_succ]); (try simp only [List.set_cons_zero])
        refine wpAnyH_take (i := 5) (oi := { dst := some 24, op := Op.move (Operand.tmp 1), type := 107, pos := "ink.go:23", after := #[], guard := none }) (v := ?v5m25) rfl (by kernel_rfl) (by kernel_rfl) (by kernel_rfl) (fun _ _ _ h => h) (Or.inl ⟨by rfl, ?y5m25⟩) (by assumption) ?r5m25
        case y5m25 => (intro w hSw; go_simp; (try with_reducible rfl))
        (try simp only [Act.put]); (try simp only [List.setIfInBounds_toArray]); (try simp only [List.set_cons_succ]); (try simp only [List.set_cons_zero])
        refine wpAnyH_take (i := 6) (oi := { dst := some 25, op := Op.move (Operand.tmp 7), type := 3, pos := "ink.go:23", after := #[], guard := none }) (v := ?v6m26) rfl (by kernel_rfl) (by kernel_rfl) (by kernel_rfl) (fun _ _ _ h => h) (Or.inl ⟨by rfl, ?y6m26⟩) (by assumption) ?r6m26
        case y6m26 => (intro w hSw; go_simp; (try with_reducible rfl))
        (try simp only [Act.put]); (try simp only [List.setIfInBounds_toArray]); (try simp only [List.set_cons_succ]); (try simp only [List.set_cons_zero])
        refine wpAnyH_take (i := 7) (oi := { dst := some 26, op := Op.binOp BinOp.mul 3 (Operand.const (Value.int IntKind.i64 8)) (Operand.tmp 25) 3, type := 3, pos := "ink.go:23", after := #[{ on := 6, ground := Ground.data }], guard := none }) (v := ?v7m27) rfl (by kernel_rfl) (by kernel_rfl) (by kernel_rfl) (fun _ _ _ h => h) (Or.inl ⟨by rfl, ?y7m27⟩) (by assumption) ?r7m27
        case y7m27 => (intro w hSw; go_simp; (try with_reducible rfl))
        (try simp only [Act.put]); (try simp only [List.setIfInBounds_toArray]); (try simp only [List.set_cons_succ]); (try simp only [List.set_cons_zero])
        refine wpAnyH_take (i := 8) (oi := { dst := some 27, op := Op.binOp BinOp.shr 107 (Operand.tmp 24) (Operand.tmp 26) 3, type := 107, pos := "ink.go:23", after := #[{ on := 5, ground := Ground.data }, { on := 7, ground := Ground.data }], guard := none }) (v := ?v8m28) rfl (by kernel_rfl) (by kernel_rfl) (by kernel_rfl) (fun _ _ _ h => h) (Or.inl ⟨by rfl, ?y8m28⟩) (by assumption) ?r8m28
        case y8m28 => (intro w hSw; go_simp; (try with_reducible rfl))
        (try simp only [Act.put]); (try simp only [List.setIfInBounds_toArray]); (try simp only [List.set_cons_succ]); (try simp only [List.set_cons_zero])
        refine wpAnyH_take (i := 9) (oi := { dst := some 28, op := Op.convert 107 5 (Operand.tmp 27), type := 5, pos := "ink.go:23", after := #[{ on := 8, ground := Ground.data }], guard := none }) (v := ?v9m29) rfl (by kernel_rfl) (by kernel_rfl) (by kernel_rfl) (fun _ _ _ h => h) (Or.inl ⟨by rfl, ?y9m29⟩) (by assumption) ?r9m29
        case y9m29 => (intro w hSw; go_simp; (try with_reducible rfl))
        (try simp only [Act.put]); (try simp only [List.setIfInBounds_toArray]); (try simp only [List.set_cons_succ]); (try simp only [List.set_cons_zero])
        refine wpAnyH_ready (rs := [4, 10]) (by kernel_rfl) (by simp) ?_
        refine AllReadyH.cons (o := { dst := some 23, op := Op.load 22 (Operand.tmp 22), type := 22, pos := "ink.go:23", after := #[{ on := 3, ground := Ground.data }], guard := none }) rfl (fun Kc hK => ?_) (AllReadyH.cons (o := { dst := some 29, op := Op.buildSlice 22 1 #[(0, Operand.tmp 28)], type := 22, pos := "ink.go:23", after := #[{ on := 9, ground := Ground.data }], guard := none }) rfl (fun Kc hK => ?_) AllReadyH.nil)
        · go_simp
          refine hK.out _ _ hHeld (fun hHeld => ?_)
          clear hK
          (try simp only [Act.put]); (try simp only [List.setIfInBounds_toArray]); (try simp only [List.set_cons_succ]); (try simp only [List.set_cons_zero])
          refine wpAnyH_ready (rs := [10]) (by kernel_rfl) (by simp) ?_
          refine AllReadyH.cons (o := { dst := some 29, op := Op.buildSlice 22 1 #[(0, Operand.tmp 28)], type := 22, pos := "ink.go:23", after := #[{ on := 9, ground := Ground.data }], guard := none }) rfl (fun Kc hK => ?_) AllReadyH.nil
          go_simp
          refine hK.out _ _ (HSk.out _ _ hHeld (gr_alloc wr.drew _)) (fun hHeld => ?_)
          clear hK
          (try simp only [Act.put]); (try simp only [List.setIfInBounds_toArray]); (try simp only [List.set_cons_succ]); (try simp only [List.set_cons_zero])
          refine wpAnyH_ready (rs := [11]) (by kernel_rfl) (by simp) ?_
          refine AllReadyH.cons (o := { dst := some 30, op := Op.call { callee := Callee.builtin Builtin.append, args := #[Operand.tmp 23, Operand.tmp 29], argTypes := #[22, 22] }, type := 22, pos := "ink.go:23", after := #[{ on := 4, ground := Ground.data }, { on := 10, ground := Ground.data }], guard := none }) rfl (fun Kc hK => ?_) AllReadyH.nil
          have hB1 := HB.out.gr' (gr_drew.trans (gr_alloc wr.drew (.cells #[.int .u8 (r : Int)] 5)) (fun _ _ h => h))
          refine step_append_any _ rfl (.tmp 23) (.tmp 29) 22 22 rfl 5 (.int .u8 0) 1 Tryd.underlying22 info5 rfl (.slice vo n vc) n (bv (bs ++ numB x 2)) rfl hB1.own _ 1 [.int .u8 (r : Int)] rfl (src_u8 wr.drew [.int .u8 (r : Int)] 1 rfl (by simp)) (by omega) (by omega) ?_
          intro v' w1 hown hgrow hblk
          obtain ⟨vo2, vc2, rfl⟩ := own_form1 hown
          have hp0 := (hB1.app HRb.out hown hgrow hblk).pre (gr_drew.trans (gr_alloc wr.drew (.cells #[.int .u8 (r : Int)] 5)) (fun _ _ h => h))
          rw [← HNum.out] at hp0
          obtain ⟨k1, k2, k3⟩ := HR.out.1.next (us := [UInt8.ofNat (x / 256 ^ 2 % 256)]) HK.out (by have h := hp0; rw [HNum.out] at h; exact h)
          rw [← HNum.out] at k2
          have HF := hidM (And.intro k1 (And.intro k2 (HR.out.2.trans k3)))
          have HS1 : Hid (Gr w w1 ∧ KU K W w1) := ⟨hp0.b.gr, HR.out.2.trans (KU.row (HB.out.own) hp0.kp)⟩
          refine hK.out _ _ HS1 (fun hHeld => ?_)
          clear hK hown hgrow hblk hp0 k1 k2 k3 HS1 hB1
          (try simp only [Act.put]); (try simp only [List.setIfInBounds_toArray]); (try simp only [List.set_cons_succ]); (try simp only [List.set_cons_zero])
          refine wpAnyH_take (i := 12) (oi := { dst := some 31, op := Op.nilCheck (Operand.tmp 19), type := 0, pos := "ink.go:23", after := #[{ on := 0, ground := Ground.data }, { on := 0, ground := Ground.phase }, { on := 1, ground := Ground.phase }, { on := 2, ground := Ground.phase }, { on := 3, ground := Ground.phase }, { on := 4, ground := Ground.phase }, { on := 5, ground := Ground.phase }, { on := 6, ground := Ground.phase }, { on := 7, ground := Ground.phase }, { on := 8, ground := Ground.phase }, { on := 9, ground := Ground.phase }, { on := 10, ground := Ground.phase }, { on := 11, ground := Ground.phase }], guard := none }) (v := ?v12o21) rfl (by kernel_rfl) (by kernel_rfl) (by kernel_rfl) (fun _ _ _ h => h) (Or.inl ⟨by rfl, ?y12o21⟩) (by assumption) ?r12o21
          case y12o21 => (intro w hSw; go_simp; (try with_reducible rfl))
          (try simp only [Act.put]); (try simp only [List.setIfInBounds_toArray]); (try simp only [List.set_cons_succ]); (try simp only [List.set_cons_zero])
          refine wpAnyH_take (i := 13) (oi := { dst := some 32, op := Op.fieldAddr 88 (Operand.tmp 31) 0, type := 0, pos := "ink.go:23", after := #[{ on := 12, ground := Ground.data }, { on := 0, ground := Ground.phase }, { on := 1, ground := Ground.phase }, { on := 2, ground := Ground.phase }, { on := 3, ground := Ground.phase }, { on := 4, ground := Ground.phase }, { on := 5, ground := Ground.phase }, { on := 6, ground := Ground.phase }, { on := 7, ground := Ground.phase }, { on := 8, ground := Ground.phase }, { on := 9, ground := Ground.phase }, { on := 10, ground := Ground.phase }, { on := 11, ground := Ground.phase }], guard := none }) (v := ?v13o22) rfl (by kernel_rfl) (by kernel_rfl) (by kernel_rfl) (fun _ _ _ h => h) (Or.inl ⟨by rfl, ?y13o22⟩) (by assumption) ?r13o22
          case y13o22 => (intro w hSw; go_simp; (try with_reducible rfl))
          (try simp only [Act.put]); (try simp only [List.setIfInBounds_toArray]); (try simp only [List.set_cons_succ]); (try simp only [List.set_cons_zero])
          refine wpAnyH_ready (rs := [14]) (by kernel_rfl) (by simp) ?_
          refine AllReadyH.cons (o := { dst := none, op := Op.store 22 (Operand.tmp 32) (Operand.tmp 30), type := 0, pos := "ink.go:23", after := #[{ on := 13, ground := Ground.data }, { on := 11, ground := Ground.data }, { on := 11, ground := Ground.chain }, { on := 0, ground := Ground.phase }, { on := 1, ground := Ground.phase }, { on := 2, ground := Ground.phase }, { on := 3, ground := Ground.phase }, { on := 4, ground := Ground.phase }, { on := 5, ground := Ground.phase }, { on := 6, ground := Ground.phase }, { on := 7, ground := Ground.phase }, { on := 8, ground := Ground.phase }, { on := 9, ground := Ground.phase }, { on := 10, ground := Ground.phase }, { on := 11, ground := Ground.phase }], guard := none }) rfl (fun Kc hK => ?_) AllReadyH.nil
          have z0 := (ce2 HF.out.1).1
          have z1 := frz HF.out.1 0
          go_simp
          refine hK.out _ _ ⟨HF.out.2.1.gr, HF.out.2.2⟩ (fun hHeld => ?_)
          clear hK
          (try simp only [Act.put]); (try simp only [List.setIfInBounds_toArray]); (try simp only [List.set_cons_succ]); (try simp only [List.set_cons_zero])
          refine wpAnyH_done (by kernel_rfl) ?_ _
          clear hHeld z0 z1
          go_wp2_with fail
          go_roundw
          case rel => exact ⟨2 + 1, by omega, by simp, HF.out.2.1, HF.out.2.2⟩
          case measure => simp [intOf]; omega
        · go_simp
          refine hK.out _ _ (HSk.out _ _ hHeld (gr_alloc wr.drew _)) (fun hHeld => ?_)
          clear hK
          (try simp only [Act.put]); (try simp only [List.setIfInBounds_toArray]); (try simp only [List.set_cons_succ]); (try simp only [List.set_cons_zero])
          have u2 : (wr.alloc (.cells #[.int .u8 (r : Int)] 5)).cell? ⟨K, 0, none⟩ = some (.slice vo n vc) := (gr_alloc wr _).cell' u0 id
          refine wpAnyH_ready (rs := [4]) (by kernel_rfl) (by simp) ?_
          refine AllReadyH.cons (o := { dst := some 23, op := Op.load 22 (Operand.tmp 22), type := 22, pos := "ink.go:23", after := #[{ on := 3, ground := Ground.data }], guard := none }) rfl (fun Kc hK => ?_) AllReadyH.nil
          go_simp
          refine hK.out _ _ hHeld (fun hHeld => ?_)
          clear hK
          (try simp only [Act.put]); (try simp only [List.setIfInBounds_toArray]); (try simp only [List.set_cons_succ]); (try simp only [List.set_cons_zero])
          refine wpAnyH_ready (rs := [11]) (by kernel_rfl) (by simp) ?_
          refine AllReadyH.cons (o := { dst := some 30, op := Op.call { callee := Callee.builtin Builtin.append, args := #[Operand.tmp 23, Operand.tmp 29], argTypes := #[22, 22] }, type := 22, pos := "ink.go:23", after := #[{ on := 4, ground := Ground.data }, { on := 10, ground := Ground.data }], guard := none }) rfl (fun Kc hK => ?_) AllReadyH.nil
          have hB1 := HB.out.gr' (gr_drew.trans (gr_alloc wr.drew (.cells #[.int .u8 (r : Int)] 5)) (fun _ _ h => h))
          refine step_append_any _ rfl (.tmp 23) (.tmp 29) 22 22 rfl 5 (.int .u8 0) 1 Tryd.underlying22 info5 rfl (.slice vo n vc) n (bv (bs ++ numB x 2)) rfl hB1.own _ 1 [.int .u8 (r : Int)] rfl (src_u8 wr.drew [.int .u8 (r : Int)] 1 rfl (by simp)) (by omega) (by omega) ?_
          intro v' w1 hown hgrow hblk
          obtain ⟨vo2, vc2, rfl⟩ := own_form1 hown
          have hp0 := (hB1.app HRb.out hown hgrow hblk).pre (gr_drew.trans (gr_alloc wr.drew (.cells #[.int .u8 (r : Int)] 5)) (fun _ _ h => h))
          rw [← HNum.out] at hp0
          obtain ⟨k1, k2, k3⟩ := HR.out.1.next (us := [UInt8.ofNat (x / 256 ^ 2 % 256)]) HK.out (by have h := hp0; rw [HNum.out] at h; exact h)
          rw [← HNum.out] at k2
          have HF := hidM (And.intro k1 (And.intro k2 (HR.out.2.trans k3)))
          have HS1 : Hid (Gr w w1 ∧ KU K W w1) := ⟨hp0.b.gr, HR.out.2.trans (KU.row (HB.out.own) hp0.kp)⟩
          refine hK.out _ _ HS1 (fun hHeld => ?_)
          clear hK hown hgrow hblk hp0 k1 k2 k3 HS1 hB1
          (try simp only [Act.put]); (try simp only [List.setIfInBounds_toArray]); (try simp only [List.set_cons_succ]); (try simp only [List.set_cons_zero])
          refine wpAnyH_take (i := 12) (oi := { dst := some 31, op := Op.nilCheck (Operand.tmp 19), type := 0, pos := "ink.go:23", after := #[{ on := 0, ground := Ground.data }, { on := 0, ground := Ground.phase }, { on := 1, ground := Ground.phase }, { on := 2, ground := Ground.phase }, { on := 3, ground := Ground.phase }, { on := 4, ground := Ground.phase }, { on := 5, ground := Ground.phase }, { on := 6, ground := Ground.phase }, { on := 7, ground := Ground.phase }, { on := 8, ground := Ground.phase }, { on := 9, ground := Ground.phase }, { on := 10, ground := Ground.phase }, { on := 11, ground := Ground.phase }], guard := none }) (v := ?v12q21) rfl (by kernel_rfl) (by kernel_rfl) (by kernel_rfl) (fun _ _ _ h => h) (Or.inl ⟨by rfl, ?y12q21⟩) (by assumption) ?r12q21
          case y12q21 => (intro w hSw; go_simp; (try with_reducible rfl))
          (try simp only [Act.put]); (try simp only [List.setIfInBounds_toArray]); (try simp only [List.set_cons_succ]); (try simp only [List.set_cons_zero])
          refine wpAnyH_take (i := 13) (oi := { dst := some 32, op := Op.fieldAddr 88 (Operand.tmp 31) 0, type := 0, pos := "ink.go:23", after := #[{ on := 12, ground := Ground.data }, { on := 0, ground := Ground.phase }, { on := 1, ground := Ground.phase }, { on := 2, ground := Ground.phase }, { on := 3, ground := Ground.phase }, { on := 4, ground := Ground.phase }, { on := 5, ground := Ground.phase }, { on := 6, ground := Ground.phase }, { on := 7, ground := Ground.phase }, { on := 8, ground := Ground.phase }, { on := 9, ground := Ground.phase }, { on := 10, ground := Ground.phase }, { on := 11, ground := Ground.phase }], guard := none }) (v := ?v13q22) rfl (by kernel_rfl) (by kernel_rfl) (by kernel_rfl) (fun _ _ _ h => h) (Or.inl ⟨by rfl, ?y13q22⟩) (by assumption) ?r13q22
          case y13q22 => (intro w hSw; go_simp; (try with_reducible rfl))
          (try simp only [Act.put]); (try simp only [List.setIfInBounds_toArray]); (try simp only [List.set_cons_succ]); (try simp only [List.set_cons_zero])
          refine wpAnyH_ready (rs := [14]) (by kernel_rfl) (by simp) ?_
          refine AllReadyH.cons (o := { dst := none, op := Op.store 22 (Operand.tmp 32) (Operand.tmp 30), type := 0, pos := "ink.go:23", after := #[{ on := 13, ground := Ground.data }, { on := 11, ground := Ground.data }, { on := 11, ground := Ground.chain }, { on := 0, ground := Ground.phase }, { on := 1, ground := Ground.phase }, { on := 2, ground := Ground.phase }, { on := 3, ground := Ground.phase }, { on := 4, ground := Ground.phase }, { on := 5, ground := Ground.phase }, { on := 6, ground := Ground.phase }, { on := 7, ground := Ground.phase }, { on := 8, ground := Ground.phase }, { on := 9, ground := Ground.phase }, { on := 10, ground := Ground.phase }, { on := 11, ground := Ground.phase }], guard := none }) rfl (fun Kc hK => ?_) AllReadyH.nil
          have z0 := (ce2 HF.out.1).1
          have z1 := frz HF.out.1 0
          go_simp
          refine hK.out _ _ ⟨HF.out.2.1.gr, HF.out.2.2⟩ (fun hHeld => ?_)
          clear hK
          (try simp only [Act.put]); (try simp only [List.setIfInBounds_toArray]); (try simp only [List.set_cons_succ]); (try simp only [List.set_cons_zero])
          refine wpAnyH_done (by kernel_rfl) ?_ _
          clear hHeld z0 z1
          go_wp2_with fail
          go_roundw
          case rel => exact ⟨2 + 1, by omega, by simp, HF.out.2.1, HF.out.2.2⟩
          case measure => simp [intOf]; omega
      · have hc : IntKind.u8.wrap ((x : Int) / 16777216) = (r : Int) := by rw [IntKind.wrap_u8]; rw [hr]; simp; try omega
        have hwv : IntKind.i64.wrap 24 = 24 := by rw [IntKind.wrap_i64]; omega
        clear hr
        go_wp2_with fail
        refine wp_region_held_drew (S := fun w' => Hid (Gr w w' ∧ KU K W w')) (by kernel_rfl) (HIN.out) (fun hHeld => ?_)
        refine wpAnyH_take (i := 0) (oi := { dst := some 19, op := Op.move (Operand.tmp 0), type := 66, pos := "ink.go:23", after := #[], guard := none }) (v := ?v0m31) rfl (by kernel_rfl) (by kernel_rfl) (by kernel_rfl) (fun _ _ _ h => h) (Or.inl ⟨by rfl, ?y0m31⟩) (by assumption) ?r0m31
        case y0m31 => (intro w hSw; go_simp; (try with_reducible rfl))
        (try simp only [Act.put]); (try simp only [List.setIfInBounds_toArray]); (try simp only [List.set_cons_succ]); (try simp only [List.set_cons_zero])
        refine wpAnyH_take (i := 1) (oi := { dst := some 20, op := Op.move (Operand.tmp 0), type := 66, pos := "ink.go:23", after := #[], guard := none }) (v := ?v1m32) rfl (by kernel_rfl) (by kernel_rfl) (by kernel_rfl) (fun _ _ _ h => h) (Or.inl ⟨by rfl, ?y1m32⟩) (by assumption) ?r1m32
        case y1m32 => (intro w hSw; go_simp; (try with_reducible rfl))
        (try simp only [Act.put]); (try simp only [List.setIfInBounds_toArray]); (try simp only [List.set_cons_succ]); (try simp only [List.set_cons_zero])
        refine wpAnyH_take (i := 2) (oi := { dst := some 21, op := Op.nilCheck (Operand.tmp 20), type := 0, pos := "ink.go:23", after := #[{ on := 1, ground := Ground.data }], guard := none }) (v := ?v2m33) rfl (by kernel_rfl) (by kernel_rfl) (by kernel_rfl) (fun _ _ _ h => h) (Or.inl ⟨by rfl, ?y2m33⟩) (by assumption) ?r2m33
        case y2m33 => (intro w hSw; go_simp; (try with_reducible rfl))
        (try simp only [Act.put]); (try simp only [List.setIfInBounds_toArray]); (try simp only [List.set_cons_succ]); (try simp only [List.set_cons_zero])
        refine wpAnyH_take (i := 3) (oi := { dst := some 22, op := Op.fieldAddr 88 (Operand.tmp 21) 0, type := 0, pos := "ink.go:23", after := #[{ on := 2, ground := Ground.data }], guard := none }) (v := ?v3m34) rfl (by kernel_rfl) (by kernel_rfl) (by kernel_rfl) (fun _ _ _ h => h) (Or.inl ⟨by rfl, ?y3m34⟩) (by assumption) ?r3m34
        case y3m34 => (intro w hSw; go_simp; (try with_reducible rfl))
        (try simp only [Act.put]); (try simp only [List.setIfInBounds_toArray]); (try simp only [List.set_cons_succ]); (try simp only [List.set_cons_zero])
        refine wpAnyH_take (i := 5) (oi := { dst := some 24, op := Op.move (Operand.tmp 1), type := 107, pos := "ink.go:23", after := #[], guard := none }) (v := ?v5m35) rfl (by kernel_rfl) (by kernel_rfl) (by kernel_rfl) (fun _ _ _ h => h) (Or.inl ⟨by rfl, ?y5m35⟩) (by assumption) ?r5m35
        case y5m35 => (intro w hSw; go_simp; (try with_reducible rfl))
        (try simp only [Act.put]); (try simp only [List.setIfInBounds_toArray]); (try simp only [List.set_cons_succ]); (try simp only [List.set_cons_zero])
        refine wpAnyH_take (i := 6) (oi := { dst := some 25, op := Op.move (Operand.tmp 7), type := 3, pos := "ink.go:23", after := #[], guard := none }) (v := ?v6m36) rfl (by kernel_rfl) (by kernel_rfl) (by kernel_rfl) (fun _ _ _ h => h) (Or.inl ⟨by rfl, ?y6m36⟩) (by assumption) ?r6m36
        case y6m36 => (intro w hSw; go_simp; (try with_reducible rfl))
        (try simp only [Act.put]); (try simp only [List.setIfInBounds_toArray]); (try simp only [List.set_cons_succ]); (try simp only [List.set_cons_zero])
        refine wpAnyH_take (i := 7) (oi := { dst := some 26, op := Op.binOp BinOp.mul 3 (Operand.const (Value.int IntKind.i64 8)) (Operand.tmp 25) 3, type := 3, pos := "ink.go:23", after := #[{ on := 6, ground := Ground.data }], guard := none }) (v := ?v7m37) rfl (by kernel_rfl) (by kernel_rfl) (by kernel_rfl) (fun _ _ _ h => h) (Or.inl ⟨by rfl, ?y7m37⟩) (by assumption) ?r7m37
        case y7m37 => (intro w hSw; go_simp; (try with_reducible rfl))
        (try simp only [Act.put]); (try simp only [List.setIfInBounds_toArray]); (try simp only [List.set_cons_succ]); (try simp only [List.set_cons_zero])
        refine wpAnyH_take (i := 8) (oi := { dst := some 27, op := Op.binOp BinOp.shr 107 (Operand.tmp 24) (Operand.tmp 26) 3, type := 107, pos := "ink.go:23", after := #[{ on := 5, ground := Ground.data }, { on := 7, ground := Ground.data }], guard := none }) (v := ?v8m38) rfl (by kernel_rfl) (by kernel_rfl) (by kernel_rfl) (fun _ _ _ h => h) (Or.inl ⟨by rfl, ?y8m38⟩) (by assumption) ?r8m38
        case y8m38 => (intro w hSw; go_simp; (try with_reducible rfl))
        (try simp only [Act.put]); (try simp only [List.setIfInBounds_toArray]); (try simp only [List.set_cons_succ]); (try simp only [List.set_cons_zero])
        refine wpAnyH_take (i := 9) (oi := { dst := some 28, op := Op.convert 107 5 (Operand.tmp 27), type := 5, pos := "ink.go:23", after := #[{ on := 8, ground := Ground.data }], guard := none }) (v := ?v9m39) rfl (by kernel_rfl) (by kernel_rfl) (by kernel_rfl) (fun _ _ _ h => h) (Or.inl ⟨by rfl, ?y9m39⟩) (by assumption) ?r9m39
        case y9m39 => (intro w hSw; go_simp; (try with_reducible rfl))
        (try simp only [Act.put]); (try simp only [List.setIfInBounds_toArray]); (try simp only [List.set_cons_succ]); (try simp only [List.set_cons_zero])
        refine wpAnyH_ready (rs := [4, 10]) (by kernel_rfl) (by simp) ?_
        refine AllReadyH.cons (o := { dst := some 23, op := Op.load 22 (Operand.tmp 22), type := 22, pos := "ink.go:23", after := #[{ on := 3, ground := Ground.data }], guard := none }) rfl (fun Kc hK => ?_) (AllReadyH.cons (o := { dst := some 29, op := Op.buildSlice 22 1 #[(0, Operand.tmp 28)], type := 22, pos := "ink.go:23", after := #[{ on := 9, ground := Ground.data }], guard := none }) rfl (fun Kc hK => ?_) AllReadyH.nil)
        · go_simp
          refine hK.out _ _ hHeld (fun hHeld => ?_)
          clear hK
          (try simp only [Act.put]); (try simp only [List.setIfInBounds_toArray]); (try simp only [List.set_cons_succ]); (try simp only [List.set_cons_zero])
          refine wpAnyH_ready (rs := [10]) (by kernel_rfl) (by simp) ?_
          refine AllReadyH.cons (o := { dst := some 29, op := Op.buildSlice 22 1 #[(0, Operand.tmp 28)], type := 22, pos := "ink.go:23", after := #[{ on := 9, ground := Ground.data }], guard := none }) rfl (fun Kc hK => ?_) AllReadyH.nil
          go_simp
          refine hK.out _ _ (HSk.out _ _ hHeld (gr_alloc wr.drew _)) (fun hHeld => ?_)
          clear hK
          (try simp only [Act.put]); (try simp only [List.setIfInBounds_toArray]); (try simp only [List.set_cons_succ]); (try simp only [List.set_cons_zero])
          refine wpAnyH_ready (rs := [11]) (by kernel_rfl) (by simp) ?_
          refine AllReadyH.cons (o := { dst := some 30, op := Op.call { callee := Callee.builtin Builtin.append, args := #[Operand.tmp 23, Operand.tmp 29], argTypes := #[22, 22] }, type := 22, pos := "ink.go:23", after := #[{ on := 4, ground := Ground.data }, { on := 10, ground := Ground.data }], guard := none }) rfl (fun Kc hK => ?_) AllReadyH.nil
          have hB1 := HB.out.gr' (gr_drew.trans (gr_alloc wr.drew (.cells #[.int .u8 (r : Int)] 5)) (fun _ _ h => h))
          refine step_append_any _ rfl (.tmp 23) (.tmp 29) 22 22 rfl 5 (.int .u8 0) 1 Tryd.underlying22 info5 rfl (.slice vo n vc) n (bv (bs ++ numB x 3)) rfl hB1.own _ 1 [.int .u8 (r : Int)] rfl (src_u8 wr.drew [.int .u8 (r : Int)] 1 rfl (by simp)) (by omega) (by omega) ?_
          intro v' w1 hown hgrow hblk
          obtain ⟨vo2, vc2, rfl⟩ := own_form1 hown
          have hp0 := (hB1.app HRb.out hown hgrow hblk).pre (gr_drew.trans (gr_alloc wr.drew (.cells #[.int .u8 (r : Int)] 5)) (fun _ _ h => h))
          rw [← HNum.out] at hp0
          obtain ⟨k1, k2, k3⟩ := HR.out.1.next (us := [UInt8.ofNat (x / 256 ^ 3 % 256)]) HK.out (by have h := hp0; rw [HNum.out] at h; exact h)
          rw [← HNum.out] at k2
          have HF := hidM (And.intro k1 (And.intro k2 (HR.out.2.trans k3)))
          have HS1 : Hid (Gr w w1 ∧ KU K W w1) := ⟨hp0.b.gr, HR.out.2.trans (KU.row (HB.out.own) hp0.kp)⟩
          refine hK.out _ _ HS1 (fun hHeld => ?_)
          clear hK hown hgrow hblk hp0 k1 k2 k3 HS1 hB1
          (try simp only [Act.put]); (try simp only [List.setIfInBounds_toArray]); (try simp only [List.set_cons_succ]); (try simp only [List.set_cons_zero])
          refine wpAnyH_take (i := 12) (oi := { dst := some 31, op := Op.nilCheck (Operand.tmp 19), type := 0, pos := "ink.go:23", after := #[{ on := 0, ground := Ground.data }, { on := 0, ground := Ground.phase }, { on := 1, ground := Ground.phase }, { on := 2, ground := Ground.phase }, { on := 3, ground := Ground.phase }, { on := 4, ground := Ground.phase }, { on := 5, ground := Ground.phase }, { on := 6, ground := Ground.phase }, { on := 7, ground := Ground.phase }, { on := 8, ground := Ground.phase }, { on := 9, ground := Ground.phase }, { on := 10, ground := Ground.phase }, { on := 11, ground := Ground.phase }], guard := none }) (v := ?v12o31) rfl (by kernel_rfl) (by kernel_rfl) (by kernel_rfl) (fun _ _ _ h => h) (Or.inl ⟨by rfl, ?y12o31⟩) (by assumption) ?r12o31
          case y12o31 => (intro w hSw; go_simp; (try with_reducible rfl))
          (try simp only [Act.put]); (try simp only [List.setIfInBounds_toArray]); (try simp only [List.set_cons_succ]); (try simp only [List.set_cons_zero])
          refine wpAnyH_take (i := 13) (oi := { dst := some 32, op := Op.fieldAddr 88 (Operand.tmp 31) 0, type := 0, pos := "ink.go:23", after := #[{ on := 12, ground := Ground.data }, { on := 0, ground := Ground.phase }, { on := 1, ground := Ground.phase }, { on := 2, ground := Ground.phase }, { on := 3, ground := Ground.phase }, { on := 4, ground := Ground.phase }, { on := 5, ground := Ground.phase }, { on := 6, ground := Ground.phase }, { on := 7, ground := Ground.phase }, { on := 8, ground := Ground.phase }, { on := 9, ground := Ground.phase }, { on := 10, ground := Ground.phase }, { on := 11, ground := Ground.phase }], guard := none }) (v := ?v13o32) rfl (by kernel_rfl) (by kernel_rfl) (by kernel_rfl) (fun _ _ _ h => h) (Or.inl ⟨by rfl, ?y13o32⟩) (by assumption) ?r13o32
          case y13o32 => (intro w hSw; go_simp; (try with_reducible rfl))
          (try simp only [Act.put]); (try simp only [List.setIfInBounds_toArray]); (try simp only [List.set_cons_succ]); (try simp only [List.set_cons_zero])
          refine wpAnyH_ready (rs := [14]) (by kernel_rfl) (by simp) ?_
          refine AllReadyH.cons (o := { dst := none, op := Op.store 22 (Operand.tmp 32) (Operand.tmp 30), type := 0, pos := "ink.go:23", after := #[{ on := 13, ground := Ground.data }, { on := 11, ground := Ground.data }, { on := 11, ground := Ground.chain }, { on := 0, ground := Ground.phase }, { on := 1, ground := Ground.phase }, { on := 2, ground := Ground.phase }, { on := 3, ground := Ground.phase }, { on := 4, ground := Ground.phase }, { on := 5, ground := Ground.phase }, { on := 6, ground := Ground.phase }, { on := 7, ground := Ground.phase }, { on := 8, ground := Ground.phase }, { on := 9, ground := Ground.phase }, { on := 10, ground := Ground.phase }, { on := 11, ground := Ground.phase }], guard := none }) rfl (fun Kc hK => ?_) AllReadyH.nil
          have z0 := (ce2 HF.out.1).1
          have z1 := frz HF.out.1 0
          go_simp
          refine hK.out _ _ ⟨HF.out.2.1.gr, HF.out.2.2⟩ (fun hHeld => ?_)
          clear hK
          (try simp only [Act.put]); (try simp only [List.setIfInBounds_toArray]); (try simp only [List.set_cons_succ]); (try simp only [List.set_cons_zero])
          refine wpAnyH_done (by kernel_rfl) ?_ _
          clear hHeld z0 z1
          go_wp2_with fail
          go_roundw
          case rel => exact ⟨3 + 1, by omega, by simp, HF.out.2.1, HF.out.2.2⟩
          case measure => simp [intOf]; omega
        · go_simp
          refine hK.out _ _ (HSk.out _ _ hHeld (gr_alloc wr.drew _)) (fun hHeld => ?_)
          clear hK
          (try simp only [Act.put]); (try simp only [List.setIfInBounds_toArray]); (try simp only [List.set_cons_succ]); (try simp only [List.set_cons_zero])
          have u2 : (wr.alloc (.cells #[.int .u8 (r : Int)] 5)).cell? ⟨K, 0, none⟩ = some (.slice vo n vc) := (gr_alloc wr _).cell' u0 id
          refine wpAnyH_ready (rs := [4]) (by kernel_rfl) (by simp) ?_
          refine AllReadyH.cons (o := { dst := some 23, op := Op.load 22 (Operand.tmp 22), type := 22, pos := "ink.go:23", after := #[{ on := 3, ground := Ground.data }], guard := none }) rfl (fun Kc hK => ?_) AllReadyH.nil
          go_simp
          refine hK.out _ _ hHeld (fun hHeld => ?_)
          clear hK
          (try simp only [Act.put]); (try simp only [List.setIfInBounds_toArray]); (try simp only [List.set_cons_succ]); (try simp only [List.set_cons_zero])
          refine wpAnyH_ready (rs := [11]) (by kernel_rfl) (by simp) ?_
          refine AllReadyH.cons (o := { dst := some 30, op := Op.call { callee := Callee.builtin Builtin.append, args := #[Operand.tmp 23, Operand.tmp 29], argTypes := #[22, 22] }, type := 22, pos := "ink.go:23", after := #[{ on := 4, ground := Ground.data }, { on := 10, ground := Ground.data }], guard := none }) rfl (fun Kc hK => ?_) AllReadyH.nil
          have hB1 := HB.out.gr' (gr_drew.trans (gr_alloc wr.drew (.cells #[.int .u8 (r : Int)] 5)) (fun _ _ h => h))
          refine step_append_any _ rfl (.tmp 23) (.tmp 29) 22 22 rfl 5 (.int .u8 0) 1 Tryd.underlying22 info5 rfl (.slice vo n vc) n (bv (bs ++ numB x 3)) rfl hB1.own _ 1 [.int .u8 (r : Int)] rfl (src_u8 wr.drew [.int .u8 (r : Int)] 1 rfl (by simp)) (by omega) (by omega) ?_
          intro v' w1 hown hgrow hblk
          obtain ⟨vo2, vc2, rfl⟩ := own_form1 hown
          have hp0 := (hB1.app HRb.out hown hgrow hblk).pre (gr_drew.trans (gr_alloc wr.drew (.cells #[.int .u8 (r : Int)] 5)) (fun _ _ h => h))
          rw [← HNum.out] at hp0
          obtain ⟨k1, k2, k3⟩ := HR.out.1.next (us := [UInt8.ofNat (x / 256 ^ 3 % 256)]) HK.out (by have h := hp0; rw [HNum.out] at h; exact h)
          rw [← HNum.out] at k2
          have HF := hidM (And.intro k1 (And.intro k2 (HR.out.2.trans k3)))
          have HS1 : Hid (Gr w w1 ∧ KU K W w1) := ⟨hp0.b.gr, HR.out.2.trans (KU.row (HB.out.own) hp0.kp)⟩
          refine hK.out _ _ HS1 (fun hHeld => ?_)
          clear hK hown hgrow hblk hp0 k1 k2 k3 HS1 hB1
          (try simp only [Act.put]); (try simp only [List.setIfInBounds_toArray]); (try simp only [List.set_cons_succ]); (try simp only [List.set_cons_zero])
          refine wpAnyH_take (i := 12) (oi := { dst := some 31, op := Op.nilCheck (Operand.tmp 19), type := 0, pos := "ink.go:23", after := #[{ on := 0, ground := Ground.data }, { on := 0, ground := Ground.phase }, { on := 1, ground := Ground.phase }, { on := 2, ground := Ground.phase }, { on := 3, ground := Ground.phase }, { on := 4, ground := Ground.phase }, { on := 5, ground := Ground.phase }, { on := 6, ground := Ground.phase }, { on := 7, ground := Ground.phase }, { on := 8, ground := Ground.phase }, { on := 9, ground := Ground.phase }, { on := 10, ground := Ground.phase }, { on := 11, ground := Ground.phase }], guard := none }) (v := ?v12q31) rfl (by kernel_rfl) (by kernel_rfl) (by kernel_rfl) (fun _ _ _ h => h) (Or.inl ⟨by rfl, ?y12q31⟩) (by assumption) ?r12q31
          case y12q31 => (intro w hSw; go_simp; (try with_reducible rfl))
          (try simp only [Act.put]); (try simp only [List.setIfInBounds_toArray]); (try simp only [List.set_cons_succ]); (try simp only [List.set_cons_zero])
          refine wpAnyH_take (i := 13) (oi := { dst := some 32, op := Op.fieldAddr 88 (Operand.tmp 31) 0, type := 0, pos := "ink.go:23", after := #[{ on := 12, ground := Ground.data }, { on := 0, ground := Ground.phase }, { on := 1, ground := Ground.phase }, { on := 2, ground := Ground.phase }, { on := 3, ground := Ground.phase }, { on := 4, ground := Ground.phase }, { on := 5, ground := Ground.phase }, { on := 6, ground := Ground.phase }, { on := 7, ground := Ground.phase }, { on := 8, ground := Ground.phase }, { on := 9, ground := Ground.phase }, { on := 10, ground := Ground.phase }, { on := 11, ground := Ground.phase }], guard := none }) (v := ?v13q32) rfl (by kernel_rfl) (by kernel_rfl) (by kernel_rfl) (fun _ _ _ h => h) (Or.inl ⟨by rfl, ?y13q32⟩) (by assumption) ?r13q32
          case y13q32 => (intro w hSw; go_simp; (try with_reducible rfl))
          (try simp only [Act.put]); (try simp only [List.setIfInBounds_toArray]); (try simp only [List.set_cons_succ]); (try simp only [List.set_cons_zero])
          refine wpAnyH_ready (rs := [14]) (by kernel_rfl) (by simp) ?_
          refine AllReadyH.cons (o := { dst := none, op := Op.store 22 (Operand.tmp 32) (Operand.tmp 30), type := 0, pos := "ink.go:23", after := #[{ on := 13, ground := Ground.data }, { on := 11, ground := Ground.data }, { on := 11, ground := Ground.chain }, { on := 0, ground := Ground.phase }, { on := 1, ground := Ground.phase }, { on := 2, ground := Ground.phase }, { on := 3, ground := Ground.phase }, { on := 4, ground := Ground.phase }, { on := 5, ground := Ground.phase }, { on := 6, ground := Ground.phase }, { on := 7, ground := Ground.phase }, { on := 8, ground := Ground.phase }, { on := 9, ground := Ground.phase }, { on := 10, ground := Ground.phase }, { on := 11, ground := Ground.phase }], guard := none }) rfl (fun Kc hK => ?_) AllReadyH.nil
          have z0 := (ce2 HF.out.1).1
          have z1 := frz HF.out.1 0
          go_simp
          refine hK.out _ _ ⟨HF.out.2.1.gr, HF.out.2.2⟩ (fun hHeld => ?_)
          clear hK
          (try simp only [Act.put]); (try simp only [List.setIfInBounds_toArray]); (try simp only [List.set_cons_succ]); (try simp only [List.set_cons_zero])
          refine wpAnyH_done (by kernel_rfl) ?_ _
          clear hHeld z0 z1
          go_wp2_with fail
          go_roundw
          case rel => exact ⟨3 + 1, by omega, by simp, HF.out.2.1, HF.out.2.2⟩
          case measure => simp [intOf]; omega
    · have hltI : ¬ (k : Int) < (wd : Int) := by omega
      obtain rfl : k = wd := by omega
      go_wp2_with fail
      go_ret
      exact ⟨rfl, HR.out⟩
end Go.Proofs.YtdffjdlpbfcikaaDoor.Kit
