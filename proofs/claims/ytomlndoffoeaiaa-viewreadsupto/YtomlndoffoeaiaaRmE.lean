import Derived.Test.YtomlndoffoeaiaaRmD
import Derived.Test.YtomlndoffoeaiaaReadsQ
namespace Go.Proofs.Ytomlndoffoeaiaa.Kit
open Go.RowKit Go.Deep
set_option linter.unusedVariables false

theorem byteRow_has {W : World} {A N : Nat} {l : List Int} (h : W.heap[A]? = some (.cells (byteRow l) 5 (0, 0))) (hl : l.length = N) : BytesAt W (some ⟨A, 0, none⟩) N l := fun _ => ⟨A, 0, rfl, fun k hk => by
  rw [cell_of_row W A (0 + k) _ _ _ h]
  simp [byteRow, List.getElem?_eq_getElem (show k < l.length by omega)]⟩
set_option maxRecDepth 100000 in
set_option maxHeartbeats 4000000 in
theorem raw_inv (c : Cn) (g : Gh) (k : Nat) (ao ao' : Option Addr) (n cap off cap' who : Nat) (w : World) (h : Inv c w g) (o : Ok c g k) (hk : k ≤ 100000000) (hs : SnOk c ⟨ao, n, cap, off, ao', cap', who⟩) :
    Calls Try.prog 45 #[.pointer (some ⟨c.m, 0, none⟩), seenV ao n cap off (qOf c who) ao' n cap' off who] w fun e w' => e = .returned (.bool true) ∧ ∃ g', Go c NoF w g w' g' ∧ Ok c g' (k + 1) := by
  have HS := hidM hs
  have HO := hidM o
  have HI := hidM h
  have hw : who ≤ 2 := hs.who
  have hno : off + n ≤ c.N := hs.v.le
  have hN : c.N ≤ 1048576 := o.N
  obtain ⟨q, hq⟩ : ∃ q, q = qOf c who := ⟨_, rfl⟩
  have HQ := hidM hq
  rw [← hq]
  clear h o hs hq
  unfold seenV
  go_enter Try.func45, Try.ntmps45
  go_wp2_with fail
  go_at_call 62
  obtain ⟨W0, hW0⟩ : ∃ W0, W0 = w.alloc (.cells #[.slice ao n cap, .int .i64 off, .pointer (q.map fun b => ⟨b, 0, none⟩), .slice ao' n cap', .int .i64 off, .int .i64 who] 93) := ⟨_, rfl⟩
  obtain ⟨B, hB⟩ : ∃ B, B = w.heap.size := ⟨_, rfl⟩
  rw [← hW0, ← hB]
  have HG0 : Hid (Go c NoF w g W0 g) := by rw [hW0]; exact HI.out.rest0 ((Keeps.refl _ _).alloc _)
  have HB0 : Hid (W0.heap[B]? = some (.cells #[.slice ao n cap, .int .i64 off, .pointer (q.map fun b => ⟨b, 0, none⟩), .slice ao' n cap', .int .i64 off, .int .i64 who] 93 (0, 0)) ∧ ∀ i, ¬ ft c g i B) := by rw [hW0, hB]; exact ⟨heap_alloc_new w _, HI.out.out (Nat.le_refl _)⟩
  clear hW0 hB
  refine Calls.mono (raw_all ao n cap off q (gqOf g who) (wOf g who) W0 HS.out.v.form (by rw [HQ.out]; exact HG0.out.inv.looks hw) ⟨by omega, by omega⟩ (by have := (HO.out.wat hw).1; omega)) ?_
  rintro e w1 ⟨rfl, hd⟩
  rw [HQ.out] at hd
  obtain ⟨gq1, hg1⟩ := Inv.wat hw HG0.out.inv hd
  obtain ⟨g1, hgg1⟩ : ∃ g1, g1 = setW g who gq1 (tellR (qOf c who) (wOf g who) off (off + n)) := ⟨_, rfl⟩
  rw [← hgg1] at hg1
  have HGG1 := hidM hgg1
  have HG1 := hidM (HG0.out.trans hg1 (fun _ f => f.elim))
  have HB1 := hidM (hg1.box HB0.out.1 HB0.out.2)
  clear hd hg1 hgg1 HG0 HB0
  obtain ⟨s0, s1, s2, s3, s4, s5⟩ := boxCells6 HB1.out.1
  go_wp2_with fail
  go_at_call 42
  have ht := reads_td c g1 (.slice ao n cap) (.int .i64 off) (.pointer (q.map fun b => ⟨b, 0, none⟩)) (.slice ao' n cap') off who 0 n w1 hw (by omega) (HG1.out.inv.cm .room) (HG1.out.inv.cm .t1) (HG1.out.inv.cm .t2) (by rw [HGG1.out, (setW_rest g who gq1 _).1]; have := HO.out.b1; omega) (by rw [HGG1.out, (setW_rest g who gq1 _).2.1]; have := HO.out.b2; omega)
  have hz : ((0 : Nat) : Int) = 0 := rfl
  rw [hz, Int.add_zero] at ht
  refine Calls.mono ht ?_
  clear ht hz
  rintro e w2 ⟨rfl, ht2⟩
  obtain ⟨u2, hg2⟩ := Inv.td hw HG1.out.inv ht2
  have HOk2 : Hid (Ok c (setT g1 who u2 (tellR (qOf c who) (tOf g1 who) off (off + n))) (k + 1)) := by rw [HGG1.out, tOf_setW]; exact HO.out.told hw
  have HDk := hidM (show (setT g1 who u2 (tellR (qOf c who) (tOf g1 who) off (off + n))).D9.length + 1 ≤ k + 1 from by rw [(setT_rest _ _ _ _).1, HGG1.out, (setW_rest _ _ _ _).2.2.1]; have := HO.out.b9; omega)
  generalize setT g1 who u2 (tellR (qOf c who) (tOf g1 who) off (off + n)) = g2 at HOk2 HDk hg2
  have HB2 := hidM (hg2.box HB1.out.1 HB1.out.2)
  have HG2 := hidM (HG1.out.trans hg2 (fun _ f => f.elim))
  clear ht2 hg2 HG1 HB1 HGG1 s0 s1 s2 s3 s4 s5 HO
  obtain ⟨D, hD⟩ : ∃ D, D = g2.D9.length := ⟨_, rfl⟩
  have hDk : D ≤ k := by rw [hD]; have := HDk.out; omega
  have HD := hidM hD
  obtain ⟨v9, hv9⟩ : ∃ v, v = g2.v9 := ⟨_, rfl⟩
  have HV9 := hidM hv9
  have c9 : w2.cell? ⟨c.m, 9, none⟩ = some v9 := by rw [hv9]; exact HG2.out.inv.cell rfl
  have HOw : Hid (w2.ownsRow 0 22 1 v9 D (g2.D9.map rwV)) := by rw [hv9, hD]; exact HG2.out.inv.cm .r9
  obtain ⟨V3, hV3⟩ : ∃ V3, w2.alloc (.cells #[.slice ao n n] 22) = V3 := ⟨_, rfl⟩
  have hk3 : Keeps w2 V3 (fun _ => False) := by rw [← hV3]; exact (Keeps.refl _ _).alloc _
  have HK3 := hidM hk3
  have HSr : Hid (Src Try.prog 1 81 (.slice (some ⟨w2.heap.size, 0, none⟩) 1 1) 1 [.slice ao n n] V3) := by rw [← hV3]; exact src1 81 22 Try.underlying81 _ rfl
  have HGr : Hid (∀ (w7 : World) (uo : Option Addr) (uc : Nat), w7.ownsRow 0 22 1 (.slice uo (D + 1) uc) (D + 1) (g2.D9.map rwV ++ [.slice ao n n]) → V3.grownBy w7 v9.ownBlock → ((Value.slice uo (D + 1) uc).ownBlock = v9.ownBlock ∨ ∀ g', (Value.slice uo (D + 1) uc).ownBlock = some g' → V3.heap.size ≤ g') → w7.cell? ⟨c.m, 9, none⟩ = some v9 ∧ w7.frozen? ⟨c.m, 9, none⟩ = false ∧ RowDone w2 (w7.setCell ⟨c.m, 9, none⟩ (.slice uo (D + 1) uc)) c.m 9 22 1 (csOf c g2) v9 (D + 1) (g2.D9.map rwV ++ [.slice ao n n])) := fun w7 uo uc a1 a2 a3 => RowDone.grown (off := 9) (by decide) HK3.out HG2.out.inv.room (by rw [HV9.out]; rfl) (fun g' e e2 => absurd (e2 ▸ e) (ownN_ne (by decide) HG2.out.inv.room HOw.out)) a1 a2 a3
  have HOw3 := hidM (ownN_kept HOw.out HK3.out fun _ _ => id)
  clear hD hv9 hk3
  go_wp2_with (with_reducible show wpList Try.prog _ _ (Oper.mk (some 25) _ _ _ _ _ :: _) _ _; refine wpList_append_any (P := Try.prog) _ rfl (.tmp 22) (.tmp 24) 81 81 rfl 22 (.slice none 0 0) 24 Try.underlying81 info22 rfl v9 D (g2.D9.map rwV) rfl HOw3.out (.slice (some ⟨w2.heap.size, 0, none⟩) 1 1) 1 [.slice ao n n] rfl HSr.out (by omega) (by omega) ?_; intro v' w7 ha1 ha2 ha3; obtain ⟨uo, uc, rfl⟩ := ownN_form ha1; obtain ⟨p1, p2, hrd⟩ := HGr.out w7 uo uc ha1 ha2 ha3; replace hrd := hidM hrd; clear ha1 ha2 ha3)
  have hrd' := hrd.out
  generalize w7.setCell ⟨c.m, 9, none⟩ (.slice uo (D + 1) uc) = W3 at hrd' ⊢
  rw [HV9.out, HD.out] at hrd'
  obtain ⟨u9, hg3⟩ := HG2.out.inv.raw9 (s := ⟨ao, n, cap, off, ao', cap', who⟩) hrd'
  obtain ⟨g3, hgg3⟩ : ∃ g3, g3 = ({ g2 with v9 := u9, D9 := g2.D9 ++ [⟨ao, n, cap, off, ao', cap', who⟩] } : Gh) := ⟨_, rfl⟩
  rw [← hgg3] at hg3
  have HGG3 := hidM hgg3
  have HB3 := hidM (hg3.box HB2.out.1 HB2.out.2)
  have HG3 := hidM (HG2.out.trans hg3 (fun _ f => f.elim))
  clear HGr HOw3 hrd hrd' hg3 hgg3 HG2 HB2 HOw HSr HK3 hV3 c9 p1 p2
  obtain ⟨v10, hv10⟩ : ∃ v, v = g3.v10 := ⟨_, rfl⟩
  have HV10 := hidM hv10
  have c10 : W3.cell? ⟨c.m, 10, none⟩ = some v10 := by rw [hv10]; exact HG3.out.inv.cell rfl
  have hD10 : g3.D10.length = D := by rw [HGG3.out, HD.out]; show g2.D10.length = _; rw [HOk2.out.d]
  have HOw : Hid (W3.ownsRow 0 91 2 v10 D (g3.D10.flatMap rfC)) := by rw [hv10, ← hD10]; exact HG3.out.inv.cm .r10
  obtain ⟨V4, hV4⟩ : ∃ V4, W3.alloc (.cells #[.slice ao' n cap', .int .i64 off] 91) = V4 := ⟨_, rfl⟩
  have hk4 : Keeps W3 V4.drew (fun _ => False) := by rw [← hV4]; exact ((Keeps.refl _ _).alloc _).drew
  have HK4 := hidM hk4
  have HSr : Hid (Src Try.prog 2 82 (.slice (some ⟨W3.heap.size, 0, none⟩) 1 1) 1 [.slice ao' n cap', .int .i64 off] V4.drew) := by rw [← hV4]; exact src2d 82 91 Try.underlying82 _ _ rfl rfl
  have c10' : V4.cell? ⟨c.m, 10, none⟩ = some v10 := hk4.cell' c10 id
  obtain ⟨-, -, -, s3, s4, -⟩ := boxCells6 HB3.out.1
  have HBm : Hid (B ≠ c.m) := fun e => HB3.out.2 .room e
  have HBo : Hid (v10.ownBlock ≠ some B) := fun e => HB3.out.2 .r10 (show g3.v10.ownBlock = some B by rw [← HV10.out]; exact e)
  have HH : Hid (W3.cell? ⟨B, 3, none⟩ = some (.slice ao' n cap') ∧ W3.cell? ⟨B, 4, none⟩ = some (.int .i64 off)) := ⟨s3, s4⟩
  have HH4 : Hid (V4.drew.cell? ⟨B, 3, none⟩ = some (.slice ao' n cap') ∧ V4.drew.cell? ⟨B, 4, none⟩ = some (.int .i64 off)) := ⟨hk4.cell' s3 id, hk4.cell' s4 id⟩
  clear hv10 hk4 s3 s4
  refine wp_region_held_drew (S := fun w' => w'.cell? ⟨B, 3, none⟩ = some (.slice ao' n cap') ∧ w'.cell? ⟨B, 4, none⟩ = some (.int .i64 off)) (by kernel_rfl) HH.out (fun hHeld => ?_)
  refine wpAnyH_take (i := 0) (oi := { dst := some 28, op := Go.Op.move (Go.Operand.tmp 0), type := 24, pos := "law.go:236", after := #[], guard := none }) (v := ?v0a1) rfl (by kernel_rfl) (by kernel_rfl) (by kernel_rfl) (fun _ _ _ h => h) (Or.inl ⟨by rfl, ?y0a1⟩) (by assumption) ?r0a1
  case y0a1 => (intro w hSw; obtain ⟨s3, s4⟩ := hSw; go_simp; (try with_reducible rfl))
  (try simp only [Act.put]); (try simp only [List.setIfInBounds_toArray]); (try simp only [List.set_cons_succ]); (try simp only [List.set_cons_zero])
  refine wpAnyH_take (i := 1) (oi := { dst := some 29, op := Go.Op.move (Go.Operand.tmp 0), type := 24, pos := "law.go:236", after := #[], guard := none }) (v := ?v1a2) rfl (by kernel_rfl) (by kernel_rfl) (by kernel_rfl) (fun _ _ _ h => h) (Or.inl ⟨by rfl, ?y1a2⟩) (by assumption) ?r1a2
  case y1a2 => (intro w hSw; obtain ⟨s3, s4⟩ := hSw; go_simp; (try with_reducible rfl))
  (try simp only [Act.put]); (try simp only [List.setIfInBounds_toArray]); (try simp only [List.set_cons_succ]); (try simp only [List.set_cons_zero])
  refine wpAnyH_take (i := 2) (oi := { dst := some 30, op := Go.Op.nilCheck (Go.Operand.tmp 29), type := 0, pos := "law.go:236", after := #[{ on := 1, ground := Go.Ground.data }], guard := none }) (v := ?v2a3) rfl (by kernel_rfl) (by kernel_rfl) (by kernel_rfl) (fun _ _ _ h => h) (Or.inl ⟨by rfl, ?y2a3⟩) (by assumption) ?r2a3
  case y2a3 => (intro w hSw; obtain ⟨s3, s4⟩ := hSw; go_simp; (try with_reducible rfl))
  (try simp only [Act.put]); (try simp only [List.setIfInBounds_toArray]); (try simp only [List.set_cons_succ]); (try simp only [List.set_cons_zero])
  refine wpAnyH_take (i := 3) (oi := { dst := some 31, op := Go.Op.fieldAddr 87 (Go.Operand.tmp 30) 6, type := 0, pos := "law.go:236", after := #[{ on := 2, ground := Go.Ground.data }], guard := none }) (v := ?v3a4) rfl (by kernel_rfl) (by kernel_rfl) (by kernel_rfl) (fun _ _ _ h => h) (Or.inl ⟨by rfl, ?y3a4⟩) (by assumption) ?r3a4
  case y3a4 => (intro w hSw; obtain ⟨s3, s4⟩ := hSw; go_simp; (try with_reducible rfl))
  (try simp only [Act.put]); (try simp only [List.setIfInBounds_toArray]); (try simp only [List.set_cons_succ]); (try simp only [List.set_cons_zero])
  refine wpAnyH_take (i := 5) (oi := { dst := some 33, op := Go.Op.fieldAddr 93 (Go.Operand.tmp 3) 1, type := 0, pos := "law.go:236", after := #[], guard := none }) (v := ?v5a5) rfl (by kernel_rfl) (by kernel_rfl) (by kernel_rfl) (fun _ _ _ h => h) (Or.inl ⟨by rfl, ?y5a5⟩) (by assumption) ?r5a5
  case y5a5 => (intro w hSw; obtain ⟨s3, s4⟩ := hSw; go_simp; (try with_reducible rfl))
  (try simp only [Act.put]); (try simp only [List.setIfInBounds_toArray]); (try simp only [List.set_cons_succ]); (try simp only [List.set_cons_zero])
  refine wpAnyH_take (i := 6) (oi := { dst := some 34, op := Go.Op.load 91 (Go.Operand.tmp 33), type := 91, pos := "law.go:236", after := #[{ on := 5, ground := Go.Ground.data }], guard := none }) (v := ?v6a6) rfl (by kernel_rfl) (by kernel_rfl) (by kernel_rfl) (fun _ _ _ h => h) (Or.inl ⟨by rfl, ?y6a6⟩) (by assumption) ?r6a6
  case y6a6 => (intro w hSw; obtain ⟨s3, s4⟩ := hSw; go_simp; (try with_reducible rfl))
  (try simp only [Act.put]); (try simp only [List.setIfInBounds_toArray]); (try simp only [List.set_cons_succ]); (try simp only [List.set_cons_zero])
  refine wpAnyH_ready (rs := [4, 7]) (by kernel_rfl) (by simp) ?_
  refine AllReadyH.cons (o := { dst := some 32, op := Go.Op.load 82 (Go.Operand.tmp 31), type := 82, pos := "law.go:236", after := #[{ on := 3, ground := Go.Ground.data }], guard := none }) rfl (fun Kc hK => ?_) (AllReadyH.cons (o := { dst := some 35, op := Go.Op.buildSlice 82 1 #[(0, Go.Operand.tmp 34)], type := 82, pos := "law.go:236", after := #[{ on := 6, ground := Go.Ground.data }], guard := none }) rfl (fun Kc hK => ?_) AllReadyH.nil)
  · go_simp
    refine hK.out _ _ HH.out (fun hHeld => ?_)
    clear hK Kc
    (try simp only [Act.put]); (try simp only [List.setIfInBounds_toArray]); (try simp only [List.set_cons_succ]); (try simp only [List.set_cons_zero])
    refine wpAnyH_ready (rs := [7]) (by kernel_rfl) (by simp) ?_
    refine AllReadyH.cons (o := { dst := some 35, op := Go.Op.buildSlice 82 1 #[(0, Go.Operand.tmp 34)], type := 82, pos := "law.go:236", after := #[{ on := 6, ground := Go.Ground.data }], guard := none }) rfl (fun Kc hK => ?_) AllReadyH.nil
    go_simp
    refine hK.out _ _ HH4.out (fun hHeld => ?_)
    clear hK Kc
    (try simp only [Act.put]); (try simp only [List.setIfInBounds_toArray]); (try simp only [List.set_cons_succ]); (try simp only [List.set_cons_zero])
    refine wpAnyH_ready (rs := [8]) (by kernel_rfl) (by simp) ?_
    refine AllReadyH.cons (o := { dst := some 36, op := Go.Op.call { callee := Go.Callee.builtin Go.Builtin.append, args := #[Go.Operand.tmp 32, Go.Operand.tmp 35], argTypes := #[82, 82] }, type := 82, pos := "law.go:236", after := #[{ on := 4, ground := Go.Ground.data }, { on := 7, ground := Go.Ground.data }], guard := none }) rfl (fun Kc hK => ?_) AllReadyH.nil
    refine step_append_anyN (P := Try.prog) _ rfl (.tmp 32) (.tmp 35) 82 82 rfl 91 (.agg #[.slice none 0 0, .int .i64 0]) 2 32 Try.underlying82 info91 rfl v10 D (g3.D10.flatMap rfC) rfl (ownN_kept HOw.out HK4.out fun _ _ => id) (.slice (some ⟨W3.heap.size, 0, none⟩) 1 1) 1 [.slice ao' n cap', .int .i64 off] rfl HSr.out (by omega) (by omega) ?_
    intro v' w7 ha1 ha2 ha3
    obtain ⟨uo, uc, rfl⟩ := ownN_form ha1
    obtain ⟨p1, p2, hrd⟩ := RowDone.grown (off := 10) (by decide) HK4.out HG3.out.inv.room (by rw [HV10.out]; rfl) (fun g' e e2 => absurd (e2 ▸ e) (ownN_ne (by decide) HG3.out.inv.room HOw.out)) ha1 ha2 ha3
    have HRD := hidM hrd
    have HH7 : Hid (w7.cell? ⟨B, 3, none⟩ = some (.slice ao' n cap') ∧ w7.cell? ⟨B, 4, none⟩ = some (.int .i64 off)) := ⟨(Keeps.ofGrown ha2).cell' HH4.out.1 HBo.out, (Keeps.ofGrown ha2).cell' HH4.out.2 HBo.out⟩
    have HH8 : Hid (∀ x, (w7.setCell ⟨c.m, 10, none⟩ x).cell? ⟨B, 3, none⟩ = some (.slice ao' n cap') ∧ (w7.setCell ⟨c.m, 10, none⟩ x).cell? ⟨B, 4, none⟩ = some (.int .i64 off)) := fun x => ⟨(cell_setCell_far w7 (fun e => HBm.out e.symm) x 10 3).trans HH7.out.1, (cell_setCell_far w7 (fun e => HBm.out e.symm) x 10 4).trans HH7.out.2⟩
    clear ha1 ha2 ha3 hrd
    refine hK.out _ _ HH7.out (fun hHeld => ?_)
    clear hK Kc
    (try simp only [Act.put]); (try simp only [List.setIfInBounds_toArray]); (try simp only [List.set_cons_succ]); (try simp only [List.set_cons_zero])
    refine wpAnyH_take (i := 9) (oi := { dst := some 37, op := Go.Op.nilCheck (Go.Operand.tmp 28), type := 0, pos := "law.go:236", after := #[{ on := 0, ground := Go.Ground.data }, { on := 0, ground := Go.Ground.phase }, { on := 1, ground := Go.Ground.phase }, { on := 2, ground := Go.Ground.phase }, { on := 3, ground := Go.Ground.phase }, { on := 4, ground := Go.Ground.phase }, { on := 5, ground := Go.Ground.phase }, { on := 6, ground := Go.Ground.phase }, { on := 7, ground := Go.Ground.phase }, { on := 8, ground := Go.Ground.phase }], guard := none }) (v := ?v9c1) rfl (by kernel_rfl) (by kernel_rfl) (by kernel_rfl) (fun _ _ _ h => h) (Or.inl ⟨by rfl, ?y9c1⟩) (by assumption) ?r9c1
    case y9c1 => (intro w hSw; obtain ⟨s3, s4⟩ := hSw; go_simp; (try with_reducible rfl))
    (try simp only [Act.put]); (try simp only [List.setIfInBounds_toArray]); (try simp only [List.set_cons_succ]); (try simp only [List.set_cons_zero])
    refine wpAnyH_take (i := 10) (oi := { dst := some 38, op := Go.Op.fieldAddr 87 (Go.Operand.tmp 37) 6, type := 0, pos := "law.go:236", after := #[{ on := 9, ground := Go.Ground.data }, { on := 0, ground := Go.Ground.phase }, { on := 1, ground := Go.Ground.phase }, { on := 2, ground := Go.Ground.phase }, { on := 3, ground := Go.Ground.phase }, { on := 4, ground := Go.Ground.phase }, { on := 5, ground := Go.Ground.phase }, { on := 6, ground := Go.Ground.phase }, { on := 7, ground := Go.Ground.phase }, { on := 8, ground := Go.Ground.phase }], guard := none }) (v := ?v10c2) rfl (by kernel_rfl) (by kernel_rfl) (by kernel_rfl) (fun _ _ _ h => h) (Or.inl ⟨by rfl, ?y10c2⟩) (by assumption) ?r10c2
    case y10c2 => (intro w hSw; obtain ⟨s3, s4⟩ := hSw; go_simp; (try with_reducible rfl))
    (try simp only [Act.put]); (try simp only [List.setIfInBounds_toArray]); (try simp only [List.set_cons_succ]); (try simp only [List.set_cons_zero])
    refine wpAnyH_ready (rs := [11]) (by kernel_rfl) (by simp) ?_
    refine AllReadyH.cons (o := { dst := none, op := Go.Op.store 82 (Go.Operand.tmp 38) (Go.Operand.tmp 36), type := 0, pos := "law.go:236", after := #[{ on := 10, ground := Go.Ground.data }, { on := 8, ground := Go.Ground.data }, { on := 8, ground := Go.Ground.chain }, { on := 0, ground := Go.Ground.phase }, { on := 1, ground := Go.Ground.phase }, { on := 2, ground := Go.Ground.phase }, { on := 3, ground := Go.Ground.phase }, { on := 4, ground := Go.Ground.phase }, { on := 5, ground := Go.Ground.phase }, { on := 6, ground := Go.Ground.phase }, { on := 7, ground := Go.Ground.phase }, { on := 8, ground := Go.Ground.phase }], guard := none }) rfl (fun Kc hK => ?_) AllReadyH.nil
    go_simp
    refine hK.out _ _ (HH8.out _) (fun hHeld => ?_)
    clear hK Kc
    (try simp only [Act.put]); (try simp only [List.setIfInBounds_toArray]); (try simp only [List.set_cons_succ]); (try simp only [List.set_cons_zero])
    refine wpAnyH_done (by kernel_rfl) ?_ _
    have hrd' := HRD.out
    generalize w7.setCell ⟨c.m, 10, none⟩ (.slice uo (D + 1) uc) = W4 at hrd' ⊢
    rw [HV10.out, ← hD10] at hrd'
    obtain ⟨u10, hg4⟩ := HG3.out.inv.of10 (s := ⟨ao, n, cap, off, ao', cap', who⟩) hrd'
    have HOk4 : Hid (Ok c { g3 with v10 := u10, D10 := g3.D10 ++ [⟨ao, n, cap, off, ao', cap', who⟩] } (k + 1)) := by rw [HGG3.out]; exact HOk2.out.raw HS.out HDk.out
    generalize ({ g3 with v10 := u10, D10 := g3.D10 ++ [⟨ao, n, cap, off, ao', cap', who⟩] } : Gh) = g4 at hg4 HOk4
    have HG4 := hidM (HG3.out.trans hg4 (fun _ f => f.elim))
    clear hHeld hrd' hg4 HH7 HH8 HRD p1 p2 HH HH4 HOw HSr HK4 hV4 c10 c10'
    obtain ⟨NA, hNA⟩ : ∃ NA, NA = c.N + 9 := ⟨_, rfl⟩
    have HNA := hidM hNA
    have hNAb : NA ≤ 2000000 := by omega
    have c0 : W4.cell? ⟨c.m, 0, none⟩ = some (.slice (some ⟨c.A, 0, none⟩) NA NA) := by rw [hNA]; exact HG4.out.inv.cell rfl
    have c0a : ∀ x, (W4.alloc x).cell? ⟨c.m, 0, none⟩ = some (.slice (some ⟨c.A, 0, none⟩) NA NA) := fun x => ((Keeps.refl W4 (fun _ => False)).alloc x).cell' c0 id
    have HAl : Hid (W4.heap[c.A]? = some (.cells (byteRow g4.L) 5 (0, 0))) := HG4.out.inv.cm .all
    have HLl : Hid (g4.L.length = NA) := by rw [hNA]; exact HOk4.out.len
    have hmk := make_bytes NA (by omega)
    have HFl : Hid (BytesAt W4 ao n ((g4.L.drop off).take n)) := HS.out.v.has W4 g4.L HAl.out (by have := HLl.out; omega)
    have HOne : Hid (∀ u ∈ g4.L.map (Value.int .u8), u.oneCell' = true) := fun u hu => by obtain ⟨x, _, rfl⟩ := List.mem_map.1 hu; rfl
    clear hNA
    go_wp2_with (with_reducible show wpList Try.prog _ _ (Oper.mk (some 50) _ _ _ _ _ :: _) _ _; refine wpList_copy_all rfl (.tmp 45) (.tmp 49) 22 rfl 5 1 Try.underlying22 size5 NA NA W4.heap.size (madeCells #[.int .u8 0] NA) 5 5 _ (g4.L.map (Value.int .u8)) rfl rfl ?hg ?hcur ?hown HOne.out W4.heap.size W4 ?hb (Nat.le_refl _) ?_)
    case hg => exact heap_alloc_new W4 _
    case hcur => exact (size_madeCells _ _).trans (Nat.mul_one _).symm
    case hown => exact (own_ofRow (n := NA) (s := 1) (L := g4.L.map (Value.int .u8)) HAl.out (by simp [HLl.out]) (by omega)).alloc _
    case hb => exact (Below.refl _ _).alloc (Nat.le_refl _) _
    intro w5 HG5 hB5
    have HK5 : Hid (Keeps W4 w5 (fun _ => False)) := (Keeps.ofBelow hB5).mono fun b hb h => by omega
    clear c0 c0a hmk hB5
    obtain ⟨b9, hb9⟩ : ∃ b, b = W4.heap.size := ⟨_, rfl⟩
    rw [← hb9] at HG5 ⊢
    clear hb9
    have HF5 : Hid (Fl w5 w5 (.slice ao n n) n) := ⟨Keeps.refl _ _, .inl ⟨ao, _, rfl, HFl.out.kept HK5.out fun _ _ _ _ => id⟩⟩
    go_wp2_with fail
    go_loopw [5, 7] (fun v p wr => ∃ j : Nat, j ≤ 3 ∧ p = .int .i64 (j : Int) ∧ Hid (Fl w5 wr v (n + j))) (fun _ p _ => 3 - (intOf p).toNat)
    case atStart => exact ⟨0, by omega, rfl, HF5.out⟩
    case round =>
      obtain ⟨j, hj, rfl, HX⟩ := hrel
      obtain ⟨lo, lc, hlo⟩ := HX.out.form
      subst hlo
      by_cases hj3 : j < 3
      · have hjI : (j : Int) < 3 := by omega
        obtain ⟨Va, hVa⟩ : ∃ Va, wr.alloc (.cells #[.int .u8 99] 5) = Va := ⟨_, rfl⟩
        have HFa : Hid (Fl w5 Va (.slice lo (n + j) lc) (n + j)) := HX.out.to (by rw [← hVa]; exact (Keeps.refl _ _).alloc _)
        have HSa : Hid (Src Try.prog 1 22 (.slice (some ⟨wr.heap.size, 0, none⟩) 1 1) 1 [.int .u8 99] Va) := by rw [← hVa]; exact src1 22 5 Try.underlying22 _ rfl
        go_wp2_with (with_reducible show wpList Try.prog _ _ (Oper.mk (some 57) _ _ _ _ _ :: _) _ _; refine wpList_append_fl rfl (.tmp 55) (.tmp 56) rfl w5 (.slice lo (n + j) lc) (n + j) rfl HFa.out (.slice (some ⟨wr.heap.size, 0, none⟩) 1 1) (.int .u8 99) rfl HSa.out (by omega) ?_; intro v' w7 ha1; replace ha1 := hidM ha1)
        exact ⟨⟨j + 1, by omega, by simp, ha1.out⟩, by simp [intOf]; omega⟩
      · have hj3' : j = 3 := by omega
        subst hj3'
        have HK6 : Hid (Keeps W4 wr (fun _ => False)) := HK5.out.trans HX.out.1 fun _ _ e => e
        have HG6 := hidM (HG4.out.trans (HG4.out.inv.rest0 HK6.out) (fun _ f => f.elim))
        have c0 : wr.cell? ⟨c.m, 0, none⟩ = some (.slice (some ⟨c.A, 0, none⟩) NA NA) := by rw [HNA.out]; exact HG6.out.inv.cell rfl
        have HB1 : Hid (BytesAt wr (some ⟨c.A, 0, none⟩) NA g4.L) := byteRow_has (HG6.out.inv.cm .all) HLl.out
        have HB2 : Hid (BytesAt wr (some ⟨b9, 0, none⟩) NA g4.L) := byteRow_has (HX.out.1.row HG5.out id) HLl.out
        clear hj hj3
        go_wp2_with fail
        go_at_call 47
        refine Calls.mono (same_all _ _ NA _ _ g4.L _ (by omega) HB1.out HB2.out) ?_
        rintro e w8 ⟨rfl, dq, hX⟩
        have HG8 : Hid (Go c NoF w g w8 g4) := HG6.out.trans (HG6.out.inv.rest0 (by rw [hX]; exact (Keeps.refl _ _).drewN dq)) (fun _ f => f.elim)
        clear hX
        go_wp2_with fail
        go_ret
        exact ⟨rfl, g4, HG8.out, HOk4.out⟩
  · go_simp
    refine hK.out _ _ HH4.out (fun hHeld => ?_)
    clear hK Kc
    (try simp only [Act.put]); (try simp only [List.setIfInBounds_toArray]); (try simp only [List.set_cons_succ]); (try simp only [List.set_cons_zero])
    refine wpAnyH_ready (rs := [4]) (by kernel_rfl) (by simp) ?_
    refine AllReadyH.cons (o := { dst := some 32, op := Go.Op.load 82 (Go.Operand.tmp 31), type := 82, pos := "law.go:236", after := #[{ on := 3, ground := Go.Ground.data }], guard := none }) rfl (fun Kc hK => ?_) AllReadyH.nil
    go_simp
    refine hK.out _ _ HH4.out (fun hHeld => ?_)
    clear hK Kc
    (try simp only [Act.put]); (try simp only [List.setIfInBounds_toArray]); (try simp only [List.set_cons_succ]); (try simp only [List.set_cons_zero])
    refine wpAnyH_ready (rs := [8]) (by kernel_rfl) (by simp) ?_
    refine AllReadyH.cons (o := { dst := some 36, op := Go.Op.call { callee := Go.Callee.builtin Go.Builtin.append, args := #[Go.Operand.tmp 32, Go.Operand.tmp 35], argTypes := #[82, 82] }, type := 82, pos := "law.go:236", after := #[{ on := 4, ground := Go.Ground.data }, { on := 7, ground := Go.Ground.data }], guard := none }) rfl (fun Kc hK => ?_) AllReadyH.nil
    refine step_append_anyN (P := Try.prog) _ rfl (.tmp 32) (.tmp 35) 82 82 rfl 91 (.agg #[.slice none 0 0, .int .i64 0]) 2 32 Try.underlying82 info91 rfl v10 D (g3.D10.flatMap rfC) rfl (ownN_kept HOw.out HK4.out fun _ _ => id) (.slice (some ⟨W3.heap.size, 0, none⟩) 1 1) 1 [.slice ao' n cap', .int .i64 off] rfl HSr.out (by omega) (by omega) ?_
    intro v' w7 ha1 ha2 ha3
    obtain ⟨uo, uc, rfl⟩ := ownN_form ha1
    obtain ⟨p1, p2, hrd⟩ := RowDone.grown (off := 10) (by decide) HK4.out HG3.out.inv.room (by rw [HV10.out]; rfl) (fun g' e e2 => absurd (e2 ▸ e) (ownN_ne (by decide) HG3.out.inv.room HOw.out)) ha1 ha2 ha3
    have HRD := hidM hrd
    have HH7 : Hid (w7.cell? ⟨B, 3, none⟩ = some (.slice ao' n cap') ∧ w7.cell? ⟨B, 4, none⟩ = some (.int .i64 off)) := ⟨(Keeps.ofGrown ha2).cell' HH4.out.1 HBo.out, (Keeps.ofGrown ha2).cell' HH4.out.2 HBo.out⟩
    have HH8 : Hid (∀ x, (w7.setCell ⟨c.m, 10, none⟩ x).cell? ⟨B, 3, none⟩ = some (.slice ao' n cap') ∧ (w7.setCell ⟨c.m, 10, none⟩ x).cell? ⟨B, 4, none⟩ = some (.int .i64 off)) := fun x => ⟨(cell_setCell_far w7 (fun e => HBm.out e.symm) x 10 3).trans HH7.out.1, (cell_setCell_far w7 (fun e => HBm.out e.symm) x 10 4).trans HH7.out.2⟩
    clear ha1 ha2 ha3 hrd
    refine hK.out _ _ HH7.out (fun hHeld => ?_)
    clear hK Kc
    (try simp only [Act.put]); (try simp only [List.setIfInBounds_toArray]); (try simp only [List.set_cons_succ]); (try simp only [List.set_cons_zero])
    refine wpAnyH_take (i := 9) (oi := { dst := some 37, op := Go.Op.nilCheck (Go.Operand.tmp 28), type := 0, pos := "law.go:236", after := #[{ on := 0, ground := Go.Ground.data }, { on := 0, ground := Go.Ground.phase }, { on := 1, ground := Go.Ground.phase }, { on := 2, ground := Go.Ground.phase }, { on := 3, ground := Go.Ground.phase }, { on := 4, ground := Go.Ground.phase }, { on := 5, ground := Go.Ground.phase }, { on := 6, ground := Go.Ground.phase }, { on := 7, ground := Go.Ground.phase }, { on := 8, ground := Go.Ground.phase }], guard := none }) (v := ?v9e1) rfl (by kernel_rfl) (by kernel_rfl) (by kernel_rfl) (fun _ _ _ h => h) (Or.inl ⟨by rfl, ?y9e1⟩) (by assumption) ?r9e1
    case y9e1 => (intro w hSw; obtain ⟨s3, s4⟩ := hSw; go_simp; (try with_reducible rfl))
    (try simp only [Act.put]); (try simp only [List.setIfInBounds_toArray]); (try simp only [List.set_cons_succ]); (try simp only [List.set_cons_zero])
    refine wpAnyH_take (i := 10) (oi := { dst := some 38, op := Go.Op.fieldAddr 87 (Go.Operand.tmp 37) 6, type := 0, pos := "law.go:236", after := #[{ on := 9, ground := Go.Ground.data }, { on := 0, ground := Go.Ground.phase }, { on := 1, ground := Go.Ground.phase }, { on := 2, ground := Go.Ground.phase }, { on := 3, ground := Go.Ground.phase }, { on := 4, ground := Go.Ground.phase }, { on := 5, ground := Go.Ground.phase }, { on := 6, ground := Go.Ground.phase }, { on := 7, ground := Go.Ground.phase }, { on := 8, ground := Go.Ground.phase }], guard := none }) (v := ?v10e2) rfl (by kernel_rfl) (by kernel_rfl) (by kernel_rfl) (fun _ _ _ h => h) (Or.inl ⟨by rfl, ?y10e2⟩) (by assumption) ?r10e2
    case y10e2 => (intro w hSw; obtain ⟨s3, s4⟩ := hSw; go_simp; (try with_reducible rfl))
    (try simp only [Act.put]); (try simp only [List.setIfInBounds_toArray]); (try simp only [List.set_cons_succ]); (try simp only [List.set_cons_zero])
    refine wpAnyH_ready (rs := [11]) (by kernel_rfl) (by simp) ?_
    refine AllReadyH.cons (o := { dst := none, op := Go.Op.store 82 (Go.Operand.tmp 38) (Go.Operand.tmp 36), type := 0, pos := "law.go:236", after := #[{ on := 10, ground := Go.Ground.data }, { on := 8, ground := Go.Ground.data }, { on := 8, ground := Go.Ground.chain }, { on := 0, ground := Go.Ground.phase }, { on := 1, ground := Go.Ground.phase }, { on := 2, ground := Go.Ground.phase }, { on := 3, ground := Go.Ground.phase }, { on := 4, ground := Go.Ground.phase }, { on := 5, ground := Go.Ground.phase }, { on := 6, ground := Go.Ground.phase }, { on := 7, ground := Go.Ground.phase }, { on := 8, ground := Go.Ground.phase }], guard := none }) rfl (fun Kc hK => ?_) AllReadyH.nil
    go_simp
    refine hK.out _ _ (HH8.out _) (fun hHeld => ?_)
    clear hK Kc
    (try simp only [Act.put]); (try simp only [List.setIfInBounds_toArray]); (try simp only [List.set_cons_succ]); (try simp only [List.set_cons_zero])
    refine wpAnyH_done (by kernel_rfl) ?_ _
    have hrd' := HRD.out
    generalize w7.setCell ⟨c.m, 10, none⟩ (.slice uo (D + 1) uc) = W4 at hrd' ⊢
    rw [HV10.out, ← hD10] at hrd'
    obtain ⟨u10, hg4⟩ := HG3.out.inv.of10 (s := ⟨ao, n, cap, off, ao', cap', who⟩) hrd'
    have HOk4 : Hid (Ok c { g3 with v10 := u10, D10 := g3.D10 ++ [⟨ao, n, cap, off, ao', cap', who⟩] } (k + 1)) := by rw [HGG3.out]; exact HOk2.out.raw HS.out HDk.out
    generalize ({ g3 with v10 := u10, D10 := g3.D10 ++ [⟨ao, n, cap, off, ao', cap', who⟩] } : Gh) = g4 at hg4 HOk4
    have HG4 := hidM (HG3.out.trans hg4 (fun _ f => f.elim))
    clear hHeld hrd' hg4 HH7 HH8 HRD p1 p2 HH HH4 HOw HSr HK4 hV4 c10 c10'
    obtain ⟨NA, hNA⟩ : ∃ NA, NA = c.N + 9 := ⟨_, rfl⟩
    have HNA := hidM hNA
    have hNAb : NA ≤ 2000000 := by omega
    have c0 : W4.cell? ⟨c.m, 0, none⟩ = some (.slice (some ⟨c.A, 0, none⟩) NA NA) := by rw [hNA]; exact HG4.out.inv.cell rfl
    have c0a : ∀ x, (W4.alloc x).cell? ⟨c.m, 0, none⟩ = some (.slice (some ⟨c.A, 0, none⟩) NA NA) := fun x => ((Keeps.refl W4 (fun _ => False)).alloc x).cell' c0 id
    have HAl : Hid (W4.heap[c.A]? = some (.cells (byteRow g4.L) 5 (0, 0))) := HG4.out.inv.cm .all
    have HLl : Hid (g4.L.length = NA) := by rw [hNA]; exact HOk4.out.len
    have hmk := make_bytes NA (by omega)
    have HFl : Hid (BytesAt W4 ao n ((g4.L.drop off).take n)) := HS.out.v.has W4 g4.L HAl.out (by have := HLl.out; omega)
    have HOne : Hid (∀ u ∈ g4.L.map (Value.int .u8), u.oneCell' = true) := fun u hu => by obtain ⟨x, _, rfl⟩ := List.mem_map.1 hu; rfl
    clear hNA
    go_wp2_with (with_reducible show wpList Try.prog _ _ (Oper.mk (some 50) _ _ _ _ _ :: _) _ _; refine wpList_copy_all rfl (.tmp 45) (.tmp 49) 22 rfl 5 1 Try.underlying22 size5 NA NA W4.heap.size (madeCells #[.int .u8 0] NA) 5 5 _ (g4.L.map (Value.int .u8)) rfl rfl ?hg ?hcur ?hown HOne.out W4.heap.size W4 ?hb (Nat.le_refl _) ?_)
    case hg => exact heap_alloc_new W4 _
    case hcur => exact (size_madeCells _ _).trans (Nat.mul_one _).symm
    case hown => exact (own_ofRow (n := NA) (s := 1) (L := g4.L.map (Value.int .u8)) HAl.out (by simp [HLl.out]) (by omega)).alloc _
    case hb => exact (Below.refl _ _).alloc (Nat.le_refl _) _
    intro w5 HG5 hB5
    have HK5 : Hid (Keeps W4 w5 (fun _ => False)) := (Keeps.ofBelow hB5).mono fun b hb h => by omega
    clear c0 c0a hmk hB5
    obtain ⟨b9, hb9⟩ : ∃ b, b = W4.heap.size := ⟨_, rfl⟩
    rw [← hb9] at HG5 ⊢
    clear hb9
    have HF5 : Hid (Fl w5 w5 (.slice ao n n) n) := ⟨Keeps.refl _ _, .inl ⟨ao, _, rfl, HFl.out.kept HK5.out fun _ _ _ _ => id⟩⟩
    go_wp2_with fail
    go_loopw [5, 7] (fun v p wr => ∃ j : Nat, j ≤ 3 ∧ p = .int .i64 (j : Int) ∧ Hid (Fl w5 wr v (n + j))) (fun _ p _ => 3 - (intOf p).toNat)
    case atStart => exact ⟨0, by omega, rfl, HF5.out⟩
    case round =>
      obtain ⟨j, hj, rfl, HX⟩ := hrel
      obtain ⟨lo, lc, hlo⟩ := HX.out.form
      subst hlo
      by_cases hj3 : j < 3
      · have hjI : (j : Int) < 3 := by omega
        obtain ⟨Va, hVa⟩ : ∃ Va, wr.alloc (.cells #[.int .u8 99] 5) = Va := ⟨_, rfl⟩
        have HFa : Hid (Fl w5 Va (.slice lo (n + j) lc) (n + j)) := HX.out.to (by rw [← hVa]; exact (Keeps.refl _ _).alloc _)
        have HSa : Hid (Src Try.prog 1 22 (.slice (some ⟨wr.heap.size, 0, none⟩) 1 1) 1 [.int .u8 99] Va) := by rw [← hVa]; exact src1 22 5 Try.underlying22 _ rfl
        go_wp2_with (with_reducible show wpList Try.prog _ _ (Oper.mk (some 57) _ _ _ _ _ :: _) _ _; refine wpList_append_fl rfl (.tmp 55) (.tmp 56) rfl w5 (.slice lo (n + j) lc) (n + j) rfl HFa.out (.slice (some ⟨wr.heap.size, 0, none⟩) 1 1) (.int .u8 99) rfl HSa.out (by omega) ?_; intro v' w7 ha1; replace ha1 := hidM ha1)
        exact ⟨⟨j + 1, by omega, by simp, ha1.out⟩, by simp [intOf]; omega⟩
      · have hj3' : j = 3 := by omega
        subst hj3'
        have HK6 : Hid (Keeps W4 wr (fun _ => False)) := HK5.out.trans HX.out.1 fun _ _ e => e
        have HG6 := hidM (HG4.out.trans (HG4.out.inv.rest0 HK6.out) (fun _ f => f.elim))
        have c0 : wr.cell? ⟨c.m, 0, none⟩ = some (.slice (some ⟨c.A, 0, none⟩) NA NA) := by rw [HNA.out]; exact HG6.out.inv.cell rfl
        have HB1 : Hid (BytesAt wr (some ⟨c.A, 0, none⟩) NA g4.L) := byteRow_has (HG6.out.inv.cm .all) HLl.out
        have HB2 : Hid (BytesAt wr (some ⟨b9, 0, none⟩) NA g4.L) := byteRow_has (HX.out.1.row HG5.out id) HLl.out
        clear hj hj3
        go_wp2_with fail
        go_at_call 47
        refine Calls.mono (same_all _ _ NA _ _ g4.L _ (by omega) HB1.out HB2.out) ?_
        rintro e w8 ⟨rfl, dq, hX⟩
        have HG8 : Hid (Go c NoF w g w8 g4) := HG6.out.trans (HG6.out.inv.rest0 (by rw [hX]; exact (Keeps.refl _ _).drewN dq)) (fun _ f => f.elim)
        clear hX
        go_wp2_with fail
        go_ret
        exact ⟨rfl, g4, HG8.out, HOk4.out⟩
end Go.Proofs.Ytomlndoffoeaiaa.Kit
